/-
  Contract of the program's ViewMerge. No condition but lengths below 2^40.
-/
import Derived.Test.YtppdfgifnmfioaaDoorVwL
import Derived.Test.YtppdfgifnmfioaaDoorVwM
namespace Go.Proofs.YtppdfgifnmfioaaDoor
open Go.RowKit
set_option linter.unusedVariables false
set_option linter.unusedSimpArgs false

theorem mgF_Mv {zs ys : List Int} (hz : Mv zs) (hy : Mv ys) {j : Nat} (h : ∀ i, i < j → hasB zs (ys.getD i 0) = false) (hj : j ≤ ys.length) : Mv (mgF zs (ys.take j)) := by
  obtain ⟨h1, h2, -⟩ := mgF_take hz hy h hj
  exact ⟨h1, fun z hm => ((h2 z).1 hm).elim (hz.2 z) (fun h => hy.2 z (List.mem_of_mem_take h))⟩

theorem mgF_next {zs ys : List Int} {j : Nat} {y : Int} (hj : j < ys.length) (he : ys.getD j 0 = y) : ins (mgF zs (ys.take j)) y = mgF zs (ys.take (j + 1)) := by
  have hy : ys[j] = y := by simpa [List.getD_eq_getElem?_getD, List.getElem?_eq_getElem hj] using he
  rw [List.take_succ_eq_append_getElem hj, hy, mgF_snoc]

set_option maxRecDepth 100000 in
set_option maxHeartbeats 16000000 in
theorem ViewMerge_impl {m c m2 c2 : Nat} {A A2 : Option Addr} {zs ys : List Int} {a1 a2 : Addr} (n k : Int) (w : World) (hr : RdI w w.heap.size A m zs) (hc : m ≤ c ∧ c ≤ 9223372036854775807) (hs : RdI w w.heap.size A2 m2 ys) (hm : m < 2097152) (hm2 : m2 < 2097152) (s1 : Sn w 0 a1) (s2 : Sn w 1 a2) :
    Calls Tryd.prog 29 #[vwV n (.slice A m c), vwV k (.slice A2 m2 c2)] w (VPost (mergeR n zs k ys) w) := by
  obtain rfl := hr.len
  obtain rfl := hs.len
  obtain ⟨W, hW⟩ : ∃ W, (((w.alloc (.cells #[.int .i64 n, .slice A zs.length c] 25)).alloc (.cells #[.int .i64 k, .slice A2 ys.length c2] 25)).alloc (.cells vz 25)) = W := ⟨_, rfl⟩
  have hT := hid (show TwoM w W n (.slice A zs.length c) k (.slice A2 ys.length c2) by rw [← hW]; exact TwoM.new w _ _ _ _)
  have hr' := hid (show RdI W W.heap.size A zs.length zs from (Reads.below hr hT.out.b).more hT.out.b.size)
  have hs' := hid (show RdI W W.heap.size A2 ys.length ys from (Reads.below hs hT.out.b).more hT.out.b.size)
  have sA := hid (s1.below hT.out.b)
  have sB := hid (s2.below hT.out.b)
  replace hW := hid hW
  clear hr hs s1 s2
  obtain ⟨d0, d1, -, -⟩ := hT.out.a.two
  cases hv : vwB n zs with
  | false =>
    have hv' := hid hv
    go_enter Tryd.func29, Tryd.ntmps29
    go_upto_region 1 with (fail)
    rw [hW.out]
    go_wp2_with fail
    refine (ViewValid_impl n _ hr'.out (by omega) hv'.out).mono ?_
    rintro e w1 ⟨rfl, hb⟩
    have hT1 := hid (hT.out.step hb)
    clear d0 d1 hb hv
    have hno := hid (mergeR_no (n := n) (zs := zs) (k := k) (ys := ys) (.inl hv'.out))
    obtain ⟨z0, z1, z2, z3⟩ := hT1.out.z.two
    obtain ⟨f1, f2⟩ := hT1.out.fill (.int .i64 0) (.slice none 0 0)
    replace f2 := hid f2
    obtain ⟨y0, y1, -, -⟩ := f1.two
    clear f1 hT1
    go_wp2
    refine bodyPost_ret (v := .tuple #[vwV 0 (.slice none 0 0), .bool false]) (by simp [results, Tryd.results29, go_sem, y0, y1]) rfl ?_
    rw [hno.out]
    exact ⟨none, 0, rfl, World.ownsRow_nil _ _ _ _, f2.out⟩
  | true =>
    have hv' := hid hv
    clear hv
    cases hk : vwB k ys with
    | false =>
      have hk' := hid hk
      clear hk
      go_enter Tryd.func29, Tryd.ntmps29
      go_upto_region 1 with (fail)
      rw [hW.out]
      go_wp2_with fail
      refine (ViewValid_impl n _ hr'.out (by omega) hv'.out).mono ?_
      rintro e w1 ⟨rfl, hb⟩
      have hT1 := hid (hT.out.step hb)
      have hs1 := hid ((Reads.below hs'.out hb).more hb.size)
      clear d0 d1 hb
      obtain ⟨d0, d1, -, -⟩ := hT1.out.c.two
      go_wp2_with fail
      refine (ViewValid_impl k _ hs1.out (by omega) hk'.out).mono ?_
      rintro e w2 ⟨rfl, hb⟩
      have hT2 := hid (hT1.out.step hb)
      clear d0 d1 hb
      have hno := hid (mergeR_no (n := n) (zs := zs) (k := k) (ys := ys) (.inr (.inl hk'.out)))
      obtain ⟨z0, z1, z2, z3⟩ := hT2.out.z.two
      obtain ⟨f1, f2⟩ := hT2.out.fill (.int .i64 0) (.slice none 0 0)
      replace f2 := hid f2
      obtain ⟨y0, y1, -, -⟩ := f1.two
      clear f1 hT2
      go_wp2
      refine bodyPost_ret (v := .tuple #[vwV 0 (.slice none 0 0), .bool false]) (by simp [results, Tryd.results29, go_sem, y0, y1]) rfl ?_
      rw [hno.out]
      exact ⟨none, 0, rfl, World.ownsRow_nil _ _ _ _, f2.out⟩
    | true =>
      obtain ⟨⟨n0, n9⟩, hzp, hmz⟩ := vwB_true.1 hv'.out
      obtain ⟨⟨k0, k9⟩, hyp, hmy⟩ := vwB_true.1 hk
      have hk' := hid hk
      have hz8 := hmz.len
      have hy8 := hmy.len
      replace hmy := hid hmy
      replace hmz := hid hmz
      clear hk
      go_enter Tryd.func29, Tryd.ntmps29
      go_upto_region 1 with (fail)
      rw [hW.out]
      go_wp2_with fail
      refine (ViewValid_impl n _ hr'.out (by omega) hv'.out).mono ?_
      rintro e w1 ⟨rfl, hb⟩
      have hT1 := hid (hT.out.step hb)
      have hr1 := hid ((Reads.below hr'.out hb).more hb.size)
      have hs1 := hid ((Reads.below hs'.out hb).more hb.size)
      have sA1 := hid (Sn.below sA.out hb)
      have sB1 := hid (Sn.below sB.out hb)
      clear d0 d1 hb
      obtain ⟨d0, d1, -, -⟩ := hT1.out.c.two
      go_wp2_with fail
      refine (ViewValid_impl k _ hs1.out (by omega) hk'.out).mono ?_
      rintro e w2 ⟨rfl, hb⟩
      have hT2 := hid (hT1.out.step hb)
      have hr2 := hid (show RdI w2 w2.heap.size A zs.length zs from (Reads.below hr1.out hb).more hb.size)
      have hs2 := hid (show RdI w2 w2.heap.size A2 ys.length ys from (Reads.below hs1.out hb).more hb.size)
      have sA2 := hid (Sn.below sA1.out hb)
      have sB2 := hid (Sn.below sB1.out hb)
      have hlt2 : w.heap.size + 1 + 1 < w2.heap.size := hT2.out.lt
      clear d0 d1 hb hT1 hr1 hs1 sA1 sB1
      obtain ⟨d0, d1, -, -⟩ := hT2.out.a.two
      obtain ⟨c0, c1, -, -⟩ := hT2.out.c.two
      go_wp2
      go_loopw [6, 27] (fun o i wr => ∃ (j : Nat) (Ao : Option Addr) (co : Nat) (L : List Int), j ≤ ys.length ∧ i = .int .i64 j ∧ o = .slice Ao L.length co ∧ (L.length ≤ co ∧ co ≤ 9223372036854775807) ∧ Hid (RdI wr wr.heap.size Ao L.length L) ∧ Hid (L = mgF zs (ys.take j)) ∧ Hid (0 < j → OwI wr w2.heap.size (.slice Ao L.length co) L) ∧ Hid (Below w2.heap.size w2 wr) ∧ Hid (∀ i, i < j → hasB zs (ys.getD i 0) = false)) (fun _ i _ => ys.length - (intOf i).toNat)
      case atStart => exact ⟨0, A, c, zs, Nat.zero_le _, rfl, rfl, hc, hr2, hid (by simp [mgF]), hid (fun h => absurd h (Nat.lt_irrefl 0)), hid (Below.refl _ _), hid (fun j h => by omega)⟩
      case round =>
        clear d0 d1 c0 c1
        obtain ⟨j, Ao, co, L, hj, rfl, rfl, hco, hL, hLe, hO, hB, hno⟩ := hrel
        have hTr := hid (hT2.out.stepB hB.out hlt2)
        have ry := hid (show RdI wr wr.heap.size A2 ys.length ys from (Reads.below hs2.out hB.out).more hB.out.size)
        have gA := hid (Sn.below sA2.out hB.out)
        have gB := hid (Sn.below sB2.out hB.out)
        have hMv := hid (show Mv L by rw [hLe.out]; exact mgF_Mv hmz.out hmy.out hno.out hj)
        have hLl := hid (show L.length = zs.length + j by rw [hLe.out]; exact (mgF_take hmz.out hmy.out hno.out hj).2.2)
        have hL8 : L.length ≤ 8 := hMv.out.len
        have hLp : 0 < L.length := by rw [hLl.out]; omega
        have hszr : w2.heap.size ≤ wr.heap.size := hB.out.size
        replace hco := hid hco
        by_cases hlt : j < ys.length
        · obtain ⟨ae, y, rfl, hy, hcy⟩ := ry.out.at' hlt
          have hji : (j : Int) < (ys.length : Int) := by omega
          have hj0 : (0 : Int) ≤ (j : Int) := by omega
          have hh := mgF_has hmz.out hmy.out hno.out hlt hy
          rw [← hLe.out] at hh
          cases hhy : hasB zs y with
          | true =>
            rw [hhy] at hh
            have hh := hid hh
            have hcom := hid (com_hit hlt hy hhy)
            clear hhy hy hO
            go_wp2_with fail
            refine (membersWith_yes y _ hL.out (by omega) hMv.out gA.out hh.out).mono ?_
            rintro e w3 ⟨rfl, hb⟩
            have hT3 := hid (hTr.out.step hb)
            have g3 : w3.cell? ⟨0, 0, none⟩ = some (snV a1) := Sn.below gA.out hb
            clear hb hcy
            have hno := hid (mergeR_no (n := n) (zs := zs) (k := k) (ys := ys) (.inr (.inr hcom.out)))
            obtain ⟨z0, z1, z2, z3⟩ := hT3.out.z.two
            obtain ⟨f1, f2⟩ := hT3.out.fill (.int .i64 0) (.slice none 0 0)
            replace f2 := hid f2
            obtain ⟨y0, y1, -, -⟩ := f1.two
            clear f1 hT3
            go_wp2_with (go_at_call 38; (with_reducible refine (is_same a1 _).mono ?_); rintro e w9 ⟨rfl, rfl⟩)
            refine bodyPost_ret (v := .tuple #[vwV 0 (.slice none 0 0), .bool false]) (by simp [results, Tryd.results29, go_sem, y0, y1]) rfl ?_
            rw [hno.out]
            exact ⟨none, 0, rfl, World.ownsRow_nil _ _ _ _, f2.out⟩
          | false =>
            rw [hhy] at hh
            have hh := hid hh
            have hno2 := hid (fun i (hi : i < j + 1) => (show hasB zs (ys.getD i 0) = false by
              by_cases e : i = j
              · subst e; rw [hy]; exact hhy
              · exact hno.out i (by omega)))
            have hnx := hid (show ins L y = mgF zs (ys.take (j + 1)) by rw [hLe.out]; exact mgF_next hlt hy)
            clear hhy hy hO
            go_wp2_with fail
            refine (membersWith_no y _ hL.out hco.out hLp hMv.out hh.out).mono ?_
            rintro e w3 ⟨A3, c3, rfl, hO3, hb⟩
            obtain ⟨L3, hL3⟩ : ∃ L3, ins L y = L3 := ⟨_, rfl⟩
            rw [hL3] at hO3 hnx
            try rw [hL3]
            have hcp0 := OwI.capV hO3
            have hcp := hid (show L3.length ≤ c3 ∧ c3 ≤ 9223372036854775807 from ⟨hcp0.2.1, hcp0.2.2⟩)
            clear hcp0
            have hR3 := hid hO3.rdY
            have hO3 := hid (OwI.more hO3 hszr)
            have hB3 := hid (hB.out.trans (hb.mono hszr))
            have g3 : w3.cell? ⟨0, 0, none⟩ = some (snV a1) := Sn.below gA.out hb
            clear hb hcy hL3
            go_wp2_with (go_at_call 38; (with_reducible refine (is_nil a1 _).mono ?_); rintro e w9 ⟨rfl, rfl⟩)
            go_roundw
            case rel => exact ⟨j + 1, A3, c3, L3, by omega, by go_num, rfl, hcp.out, hR3, hnx, hid (fun _ => hO3.out), hB3, hno2⟩
            case measure => simp [intOf]; omega
        · have hji : ¬ (j : Int) < (ys.length : Int) := by omega
          obtain rfl : j = ys.length := by omega
          have hcom := hid (com_miss hno.out)
          have hyes := hid (mergeR_yes hv'.out hk'.out hcom.out)
          have hmg := hid (show L = mg zs ys by rw [hLe.out, List.take_length]; exact mg_eq hmz.out hmy.out hno.out)
          have hOw := hid (hO.out hyp)
          obtain ⟨on, oz, ok, hV⟩ : ∃ on oz ok, vwR (max n k + 1) L = ((on, oz), ok) := ⟨_, _, _, rfl⟩
          replace hV := hid hV
          have hmx : IntKind.i64.wrap (max n k + 1) = max n k + 1 := IntWalk.i64_in _ (by omega)
          obtain ⟨d0, d1, -, -⟩ := hTr.out.a.two
          obtain ⟨c0, c1, -, -⟩ := hTr.out.c.two
          clear hO
          go_wp2_with fail
          refine (viewOf_er hV.out wr hL.out hOw.out (by omega) gB.out).mono ?_
          rintro e w3 ⟨A5, c5, rfl, hO5, hb⟩
          obtain ⟨u, hu⟩ : ∃ u, w3.alloc (.cells #[.int .i64 on, .slice A5 oz.length c5] 25) = u := ⟨_, rfl⟩
          have hbu : Below wr.heap.size wr u := by rw [← hu]; exact hb.alloc hb.size _
          have hT5 := hid (hTr.out.step hbu)
          have hC5 := hid (show Cs u w3.heap.size 25 #[.int .i64 on, .slice A5 oz.length c5] by rw [← hu]; exact Cs.new _ _ _)
          have hO5 := hid (show OwI u w2.heap.size (.slice A5 oz.length c5) oz by rw [← hu]; exact hO5.alloc_ _)
          have q3 : u.cell? ⟨1, 0, none⟩ = some (snV a2) := Sn.below gB.out hbu
          replace hu := hid hu
          clear hb hbu d0 d1 c0 c1
          cases ok with
          | true =>
            obtain ⟨z0, z1, z2, z3⟩ := hT5.out.z.two
            obtain ⟨e0, e1, -, -⟩ := hC5.out.two
            obtain ⟨f1, f2⟩ := hT5.out.fill (.int .i64 on) (.slice A5 oz.length c5)
            replace f2 := hid f2
            have hO9 := hid ((hO5.out.fillV hT5.out.z (.int .i64 on) (.slice A5 oz.length c5)).more (show w.heap.size ≤ w2.heap.size by omega))
            have y0 := f1.cell 0
            have y1 := f1.cell 1
            have x0 := (hT5.out.z.set 0 (.int .i64 on)).cell 0
            clear f1 hT5 hO5
            go_upto_region 13 with (fail)
            rw [hu.out]
            first | rw [show erV (!true) a2 = .nilIface from rfl] | rw [show erV false a2 = .nilIface from rfl] | skip
            go_region_with (go_at_call 38; refine (is_nil a2 _).mono ?_; rintro e w9 ⟨rfl, rfl⟩)
            all_goals go_wp2
            all_goals
              refine bodyPost_ret (v := .tuple #[vwV on (.slice A5 oz.length c5), .bool true]) (by simp [results, Tryd.results29, go_sem, y0, y1, x0]) rfl ?_
              rw [hyes.out, ← hmg.out, hV.out]
              exact ⟨A5, c5, rfl, hO9.out, f2.out.drew⟩
          | false =>
            obtain ⟨z0, z1, z2, z3⟩ := hT5.out.z.two
            obtain ⟨e0, e1, -, -⟩ := hC5.out.two
            obtain ⟨f1, f2⟩ := hT5.out.fill (.int .i64 on) (.slice A5 oz.length c5)
            replace f2 := hid f2
            have hO9 := hid ((hO5.out.fillV hT5.out.z (.int .i64 on) (.slice A5 oz.length c5)).more (show w.heap.size ≤ w2.heap.size by omega))
            have y0 := f1.cell 0
            have y1 := f1.cell 1
            have x0 := (hT5.out.z.set 0 (.int .i64 on)).cell 0
            clear f1 hT5 hO5
            go_upto_region 13 with (fail)
            rw [hu.out]
            first | rw [show erV (!false) a2 = snV a2 from rfl] | rw [show erV true a2 = snV a2 from rfl] | skip
            go_region_with (go_at_call 38; refine (is_same a2 _).mono ?_; rintro e w9 ⟨rfl, rfl⟩)
            all_goals go_wp2
            all_goals
              refine bodyPost_ret (v := .tuple #[vwV on (.slice A5 oz.length c5), .bool false]) (by simp [results, Tryd.results29, go_sem, y0, y1, x0]) rfl ?_
              rw [hyes.out, ← hmg.out, hV.out]
              exact ⟨A5, c5, rfl, hO9.out, f2.out.drew⟩
end Go.Proofs.YtppdfgifnmfioaaDoor
