/-
  Contracts of the program's ViewJoin and ViewLeave. No condition but lengths below 2^40.
-/
import Derived.Test.YtppdfgifnmfioaaDoorVwE
namespace Go.Proofs.YtppdfgifnmfioaaDoor
open Go.RowKit
set_option linter.unusedVariables false
set_option linter.unusedSimpArgs false

set_option maxHeartbeats 8000000 in
theorem ViewJoin_impl {m c : Nat} {A : Option Addr} {zs : List Int} {a1 a2 : Addr} (n x : Int) (w : World) (hr : RdI w w.heap.size A m zs) (hc : m ≤ c ∧ c ≤ 9223372036854775807) (hm : m < 2097152) (s1 : Sn w 0 a1) (s2 : Sn w 1 a2) :
    Calls Tryd.prog 14 #[vwV n (.slice A m c), .int .i64 x] w (VPost (joinR n zs x) w) := by
  obtain ⟨W, hW⟩ : ∃ W, (w.alloc (.cells #[.int .i64 n, .slice A m c] 25)).alloc (.cells vz 25) = W := ⟨_, rfl⟩
  have hT := hid (show TwoV w W n (.slice A m c) by rw [← hW]; exact TwoV.new w _ _)
  have hr' := hid (show RdI W W.heap.size A m zs from (Reads.below hr hT.out.b).more hT.out.b.size)
  have hsA := hid (s1.below hT.out.b)
  have hsB := hid (s2.below hT.out.b)
  have g1lt := s1.lt
  have g2lt := s2.lt
  have hl := hid hr.len
  have hm40 : m < 1099511627776 := by omega
  replace hW := hid hW
  clear hr s1 s2
  obtain ⟨d0, d1, -, -⟩ := hT.out.a.two
  cases hv : vwB n zs with
  | false =>
    have hno := hid (joinR_no (m := x) (.inl hv))
    have hv' := hid hv
    clear hv
    go_enter Tryd.func14, Tryd.ntmps14
    go_upto_region 1 with (fail)
    rw [hW.out]
    go_wp2_with fail
    refine (ViewValid_impl n _ hr'.out hm40 hv'.out).mono ?_
    rintro e w1 ⟨rfl, hb⟩
    have hT1 := hid (hT.out.step hb)
    obtain ⟨z0, z1, z2, z3⟩ := hT1.out.z.two
    obtain ⟨f1, f2⟩ := hT1.out.fill (.int .i64 0) (.slice none 0 0)
    replace f2 := hid f2
    obtain ⟨y0, y1, -, -⟩ := f1.two
    clear d0 d1 f1 hT1 hb
    go_wp2
    refine bodyPost_ret (v := .tuple #[vwV 0 (.slice none 0 0), .bool false]) (by simp [results, Tryd.results14, go_sem, y0, y1]) rfl ?_
    rw [hno.out]
    exact ⟨none, 0, rfl, World.ownsRow_nil _ _ _ _, f2.out⟩
  | true =>
    have hv' := hid hv
    obtain ⟨⟨n0, n9⟩, hpos, hmv⟩ := vwB_true.1 hv
    replace hmv := hid hmv
    have hpos := hid (show 0 < m by rw [← hl.out]; exact hpos)
    cases hh : hasB zs x with
    | true =>
      have hno := hid (joinR_no (n := n) (m := x) (.inr hh))
      have hh' := hid hh
      clear hv hh
      go_enter Tryd.func14, Tryd.ntmps14
      go_upto_region 1 with (fail)
      rw [hW.out]
      go_wp2_with fail
      refine (ViewValid_impl n _ hr'.out hm40 hv'.out).mono ?_
      rintro e w1 ⟨rfl, hb⟩
      have hT1 := hid (hT.out.step hb)
      have hr1 := hid ((Reads.below hr'.out hb).more hb.size)
      have hs1 := hid (hsA.out.below hb)
      clear d0 d1 hb
      obtain ⟨d0, d1, -, -⟩ := hT1.out.a.two
      go_wp2_with fail
      refine (membersWith_yes x _ hr1.out hm40 hmv.out hs1.out hh'.out).mono ?_
      rintro e w2 ⟨rfl, hb⟩
      have hT2 := hid (hT1.out.step hb)
      have g2 : w2.cell? ⟨0, 0, none⟩ = some (snV a1) := hs1.out.below hb
      clear d0 d1 hb
      obtain ⟨z0, z1, z2, z3⟩ := hT2.out.z.two
      obtain ⟨f1, f2⟩ := hT2.out.fill (.int .i64 0) (.slice none 0 0)
      replace f2 := hid f2
      obtain ⟨y0, y1, -, -⟩ := f1.two
      clear f1 hT2 hT1
      go_wp2_with (go_at_call 38; (with_reducible refine (is_same a1 _).mono ?_); rintro e w3 ⟨rfl, rfl⟩)
      refine bodyPost_ret (v := .tuple #[vwV 0 (.slice none 0 0), .bool false]) (by simp [results, Tryd.results14, go_sem, y0, y1]) rfl ?_
      rw [hno.out]
      exact ⟨none, 0, rfl, World.ownsRow_nil _ _ _ _, f2.out⟩
    | false =>
      have hyes := hid (joinR_yes hv hh)
      have hh' := hid hh
      have h8 := hmv.out.len
      have hw1 : IntKind.i64.wrap (n + 1) = n + 1 := IntWalk.i64_in _ (by omega)
      have hil : (ins zs x).length < 1099511627776 := by rw [ins_len]; omega
      clear hv hh
      have main : ∀ (r : Bool), vwB (n + 1) (ins zs x) = r → Calls Tryd.prog 14 #[vwV n (.slice A m c), .int .i64 x] w (VPost (joinR n zs x) w) := by
        intro r hR
        have hres : Hid (vwR (n + 1) (ins zs x) = if r then ((n + 1, ins zs x), true) else vr0) := hid (by rw [vwR, hR])
        obtain ⟨Z, hZ⟩ : ∃ Z, ins zs x = Z := ⟨_, rfl⟩
        have hR' := hid (show vwB (n + 1) Z = r by rw [← hZ]; exact hR)
        have hil' : Z.length < 1099511627776 := by rw [← hZ]; exact hil
        replace hZ := hid hZ
        clear hR
        go_enter Tryd.func14, Tryd.ntmps14
        go_upto_region 1 with (fail)
        rw [hW.out]
        go_wp2_with fail
        refine (ViewValid_impl n _ hr'.out hm40 hv'.out).mono ?_
        rintro e w1 ⟨rfl, hb⟩
        have hT1 := hid (hT.out.step hb)
        have hr1 := hid ((Reads.below hr'.out hb).more hb.size)
        have hs1 := hid (hsA.out.below hb)
        have ht1 := hid (hsB.out.below hb)
        clear d0 d1 hb
        obtain ⟨d0, d1, -, -⟩ := hT1.out.a.two
        go_wp2_with fail
        refine (membersWith_no x _ hr1.out hc hpos.out hmv.out hh'.out).mono ?_
        rw [hZ.out]
        rintro e w2 ⟨A2, c2, rfl, hO2, hb⟩
        have hT2 := hid (hT1.out.step hb)
        have g2 : w2.cell? ⟨0, 0, none⟩ = some (snV a1) := hs1.out.below hb
        have ht2 := hid (ht1.out.below hb)
        have hO2' := hid (hO2.more hT1.out.b.size)
        obtain ⟨-, hrd2⟩ : True ∧ RdI w2 w2.heap.size A2 Z.length Z := ⟨trivial, by obtain ⟨A', c', e, h⟩ := hO2.form; injection e with e1 _ _; subst e1; exact h⟩
        replace hrd2 := hid hrd2
        clear d0 d1 hb hO2 hT1 hs1 ht1 hr1
        obtain ⟨d0, d1, -, -⟩ := hT2.out.a.two
        go_wp2_with (go_at_call 38; (with_reducible refine (is_nil a1 _).mono ?_); rintro e w3 ⟨rfl, rfl⟩)
        cases r with
        | true =>
          refine (viewOf_yes (n + 1) _ hrd2.out hil' hR'.out).mono ?_
          rintro e w3 ⟨rfl, hb⟩
          obtain ⟨u, hu⟩ : ∃ u, w3.alloc (.cells #[.int .i64 (n + 1), .slice A2 Z.length c2] 25) = u := ⟨_, rfl⟩
          have hbu : Below w2.heap.size w2 u := by rw [← hu]; exact hb.alloc hb.size _
          have hTu := hid (hT2.out.step hbu)
          have hCu := hid (show Cs u w3.heap.size 25 #[.int .i64 (n + 1), .slice A2 Z.length c2] by rw [← hu]; exact Cs.new _ _ _)
          have hOu := hid (own_of_block hO2'.out fun g hg => hbu.block g (hO2'.out.lt g hg).2)
          have q3 : u.cell? ⟨1, 0, none⟩ = some (snV a2) := ht2.out.below hbu
          obtain ⟨z0, z1, z2, z3⟩ := hTu.out.z.two
          obtain ⟨e0, e1, -, -⟩ := hCu.out.two
          obtain ⟨f1, f2⟩ := hTu.out.fill (.int .i64 (n + 1)) (.slice A2 Z.length c2)
          replace f2 := hid f2
          have hO9 := hid (hOu.out.fillV hTu.out.z (.int .i64 (n + 1)) (.slice A2 Z.length c2))
          have y0 := f1.cell 0
          have y1 := f1.cell 1
          have x0 := (hTu.out.z.set 0 (.int .i64 (n + 1))).cell 0
          replace hu := hid hu
          clear hb hbu d0 d1 hT2 f1
          go_upto_region 7 with (fail)
          rw [hu.out]
          go_region_with (go_at_call 38; refine (is_nil a2 _).mono ?_; rintro e w4 ⟨rfl, rfl⟩)
          all_goals go_wp2
          all_goals
            refine bodyPost_ret (v := .tuple #[vwV (n + 1) (.slice A2 Z.length c2), .bool true]) (by simp [results, Tryd.results14, go_sem, y0, y1, x0]) rfl ?_
            rw [hyes.out, hres.out, hZ.out]
            exact ⟨A2, c2, rfl, hO9.out, f2.out.drew⟩
        | false =>
          refine (viewOf_no (n + 1) _ hrd2.out hil' ht2.out hR'.out).mono ?_
          rintro e w3 ⟨rfl, hb⟩
          obtain ⟨u, hu⟩ : ∃ u, w3.alloc (.cells vz 25) = u := ⟨_, rfl⟩
          have hbu : Below w2.heap.size w2 u := by rw [← hu]; exact hb.alloc hb.size _
          have hTu := hid (hT2.out.step hbu)
          have hCu := hid (show Cs u w3.heap.size 25 vz by rw [← hu]; exact Cs.new _ _ _)
          have q3 : u.cell? ⟨1, 0, none⟩ = some (snV a2) := ht2.out.below hbu
          obtain ⟨z0, z1, z2, z3⟩ := hTu.out.z.two
          obtain ⟨e0, e1, -, -⟩ := hCu.out.two
          obtain ⟨f1, f2⟩ := hTu.out.fill (.int .i64 0) (.slice none 0 0)
          replace f2 := hid f2
          have y0 := f1.cell 0
          have y1 := f1.cell 1
          have x0 := (hTu.out.z.set 0 (.int .i64 0)).cell 0
          replace hu := hid hu
          clear hb hbu d0 d1 hT2 f1
          go_upto_region 7 with (fail)
          rw [hu.out]
          go_region_with (go_at_call 38; refine (is_same a2 _).mono ?_; rintro e w4 ⟨rfl, rfl⟩)
          all_goals go_wp2
          all_goals
            refine bodyPost_ret (v := .tuple #[vwV 0 (.slice none 0 0), .bool false]) (by simp [results, Tryd.results14, go_sem, y0, y1, x0]) rfl ?_
            rw [hyes.out, hres.out]
            exact ⟨none, 0, rfl, World.ownsRow_nil _ _ _ _, f2.out.drew⟩
      exact main _ rfl

set_option maxHeartbeats 8000000 in
theorem ViewLeave_impl {m c : Nat} {A : Option Addr} {zs : List Int} {a1 a2 : Addr} (n x : Int) (w : World) (hr : RdI w w.heap.size A m zs) (hc : m ≤ c ∧ c ≤ 9223372036854775807) (hm : m < 2097152) (s1 : Sn w 2 a1) (s2 : Sn w 1 a2) :
    Calls Tryd.prog 20 #[vwV n (.slice A m c), .int .i64 x] w (VPost (leaveR n zs x) w) := by
  obtain ⟨W, hW⟩ : ∃ W, (w.alloc (.cells #[.int .i64 n, .slice A m c] 25)).alloc (.cells vz 25) = W := ⟨_, rfl⟩
  have hT := hid (show TwoV w W n (.slice A m c) by rw [← hW]; exact TwoV.new w _ _)
  have hr' := hid (show RdI W W.heap.size A m zs from (Reads.below hr hT.out.b).more hT.out.b.size)
  have hsA := hid (s1.below hT.out.b)
  have hsB := hid (s2.below hT.out.b)
  have g1lt := s1.lt
  have g2lt := s2.lt
  have hl := hid hr.len
  have hm40 : m < 1099511627776 := by omega
  replace hW := hid hW
  clear hr s1 s2
  obtain ⟨d0, d1, -, -⟩ := hT.out.a.two
  cases hv : vwB n zs with
  | false =>
    have hno := hid (leaveR_no (m := x) (.inl hv))
    have hv' := hid hv
    clear hv
    go_enter Tryd.func20, Tryd.ntmps20
    go_upto_region 1 with (fail)
    rw [hW.out]
    go_wp2_with fail
    refine (ViewValid_impl n _ hr'.out hm40 hv'.out).mono ?_
    rintro e w1 ⟨rfl, hb⟩
    have hT1 := hid (hT.out.step hb)
    obtain ⟨z0, z1, z2, z3⟩ := hT1.out.z.two
    obtain ⟨f1, f2⟩ := hT1.out.fill (.int .i64 0) (.slice none 0 0)
    replace f2 := hid f2
    obtain ⟨y0, y1, -, -⟩ := f1.two
    clear d0 d1 f1 hT1 hb
    go_wp2
    refine bodyPost_ret (v := .tuple #[vwV 0 (.slice none 0 0), .bool false]) (by simp [results, Tryd.results20, go_sem, y0, y1]) rfl ?_
    rw [hno.out]
    exact ⟨none, 0, rfl, World.ownsRow_nil _ _ _ _, f2.out⟩
  | true =>
    have hv' := hid hv
    obtain ⟨⟨n0, n9⟩, hpos, hmv⟩ := vwB_true.1 hv
    replace hmv := hid hmv
    have hpos := hid (show 0 < m by rw [← hl.out]; exact hpos)
    cases hh : hasB zs x with
    | false =>
      have hno := hid (leaveR_no (n := n) (m := x) (.inr hh))
      have hh' := hid hh
      clear hv hh
      go_enter Tryd.func20, Tryd.ntmps20
      go_upto_region 1 with (fail)
      rw [hW.out]
      go_wp2_with fail
      refine (ViewValid_impl n _ hr'.out hm40 hv'.out).mono ?_
      rintro e w1 ⟨rfl, hb⟩
      have hT1 := hid (hT.out.step hb)
      have hr1 := hid ((Reads.below hr'.out hb).more hb.size)
      have hs1 := hid (hsA.out.below hb)
      clear d0 d1 hb
      obtain ⟨d0, d1, -, -⟩ := hT1.out.a.two
      go_wp2_with fail
      refine (membersWithout_no x _ hr1.out hm40 hmv.out.1 hs1.out hh'.out).mono ?_
      rintro e w2 ⟨rfl, hb⟩
      have hT2 := hid (hT1.out.step hb)
      have g2 : w2.cell? ⟨2, 0, none⟩ = some (snV a1) := hs1.out.below hb
      clear d0 d1 hb
      obtain ⟨z0, z1, z2, z3⟩ := hT2.out.z.two
      obtain ⟨f1, f2⟩ := hT2.out.fill (.int .i64 0) (.slice none 0 0)
      replace f2 := hid f2
      obtain ⟨y0, y1, -, -⟩ := f1.two
      clear f1 hT2 hT1
      go_wp2_with (go_at_call 38; (with_reducible refine (is_same a1 _).mono ?_); rintro e w3 ⟨rfl, rfl⟩)
      refine bodyPost_ret (v := .tuple #[vwV 0 (.slice none 0 0), .bool false]) (by simp [results, Tryd.results20, go_sem, y0, y1]) rfl ?_
      rw [hno.out]
      exact ⟨none, 0, rfl, World.ownsRow_nil _ _ _ _, f2.out⟩
    | true =>
      have hyes := hid (leaveR_yes hv hh)
      have hh' := hid hh
      have h8 := hmv.out.len
      have hw1 : IntKind.i64.wrap (n + 1) = n + 1 := IntWalk.i64_in _ (by omega)
      have hil : (del zs x).length < 1099511627776 := by have := del_len (hasB_iff.1 hh); omega
      clear hv hh
      have main : ∀ (r : Bool), vwB (n + 1) (del zs x) = r → Calls Tryd.prog 20 #[vwV n (.slice A m c), .int .i64 x] w (VPost (leaveR n zs x) w) := by
        intro r hR
        have hres : Hid (vwR (n + 1) (del zs x) = if r then ((n + 1, del zs x), true) else vr0) := hid (by rw [vwR, hR])
        obtain ⟨Z, hZ⟩ : ∃ Z, del zs x = Z := ⟨_, rfl⟩
        have hR' := hid (show vwB (n + 1) Z = r by rw [← hZ]; exact hR)
        have hil' : Z.length < 1099511627776 := by rw [← hZ]; exact hil
        replace hZ := hid hZ
        clear hR
        go_enter Tryd.func20, Tryd.ntmps20
        go_upto_region 1 with (fail)
        rw [hW.out]
        go_wp2_with fail
        refine (ViewValid_impl n _ hr'.out hm40 hv'.out).mono ?_
        rintro e w1 ⟨rfl, hb⟩
        have hT1 := hid (hT.out.step hb)
        have hr1 := hid ((Reads.below hr'.out hb).more hb.size)
        have hs1 := hid (hsA.out.below hb)
        have ht1 := hid (hsB.out.below hb)
        clear d0 d1 hb
        obtain ⟨d0, d1, -, -⟩ := hT1.out.a.two
        go_wp2_with fail
        refine (membersWithout_yes x _ hr1.out hc hm hmv.out.1 hh'.out).mono ?_
        rw [hZ.out]
        rintro e w2 ⟨A2, c2, rfl, hO2, hb⟩
        have hT2 := hid (hT1.out.step hb)
        have g2 : w2.cell? ⟨2, 0, none⟩ = some (snV a1) := hs1.out.below hb
        have ht2 := hid (ht1.out.below hb)
        have hO2' := hid (hO2.more hT1.out.b.size)
        obtain ⟨-, hrd2⟩ : True ∧ RdI w2 w2.heap.size A2 Z.length Z := ⟨trivial, by obtain ⟨A', c', e, h⟩ := hO2.form; injection e with e1 _ _; subst e1; exact h⟩
        replace hrd2 := hid hrd2
        clear d0 d1 hb hO2 hT1 hs1 ht1 hr1
        obtain ⟨d0, d1, -, -⟩ := hT2.out.a.two
        go_wp2_with (go_at_call 38; (with_reducible refine (is_nil a1 _).mono ?_); rintro e w3 ⟨rfl, rfl⟩)
        cases r with
        | true =>
          refine (viewOf_yes (n + 1) _ hrd2.out hil' hR'.out).mono ?_
          rintro e w3 ⟨rfl, hb⟩
          obtain ⟨u, hu⟩ : ∃ u, w3.alloc (.cells #[.int .i64 (n + 1), .slice A2 Z.length c2] 25) = u := ⟨_, rfl⟩
          have hbu : Below w2.heap.size w2 u := by rw [← hu]; exact hb.alloc hb.size _
          have hTu := hid (hT2.out.step hbu)
          have hCu := hid (show Cs u w3.heap.size 25 #[.int .i64 (n + 1), .slice A2 Z.length c2] by rw [← hu]; exact Cs.new _ _ _)
          have hOu := hid (own_of_block hO2'.out fun g hg => hbu.block g (hO2'.out.lt g hg).2)
          have q3 : u.cell? ⟨1, 0, none⟩ = some (snV a2) := ht2.out.below hbu
          obtain ⟨z0, z1, z2, z3⟩ := hTu.out.z.two
          obtain ⟨e0, e1, -, -⟩ := hCu.out.two
          obtain ⟨f1, f2⟩ := hTu.out.fill (.int .i64 (n + 1)) (.slice A2 Z.length c2)
          replace f2 := hid f2
          have hO9 := hid (hOu.out.fillV hTu.out.z (.int .i64 (n + 1)) (.slice A2 Z.length c2))
          have y0 := f1.cell 0
          have y1 := f1.cell 1
          have x0 := (hTu.out.z.set 0 (.int .i64 (n + 1))).cell 0
          replace hu := hid hu
          clear hb hbu d0 d1 hT2 f1
          go_upto_region 7 with (fail)
          rw [hu.out]
          go_region_with (go_at_call 38; refine (is_nil a2 _).mono ?_; rintro e w4 ⟨rfl, rfl⟩)
          all_goals go_wp2
          all_goals
            refine bodyPost_ret (v := .tuple #[vwV (n + 1) (.slice A2 Z.length c2), .bool true]) (by simp [results, Tryd.results20, go_sem, y0, y1, x0]) rfl ?_
            rw [hyes.out, hres.out, hZ.out]
            exact ⟨A2, c2, rfl, hO9.out, f2.out.drew⟩
        | false =>
          refine (viewOf_no (n + 1) _ hrd2.out hil' ht2.out hR'.out).mono ?_
          rintro e w3 ⟨rfl, hb⟩
          obtain ⟨u, hu⟩ : ∃ u, w3.alloc (.cells vz 25) = u := ⟨_, rfl⟩
          have hbu : Below w2.heap.size w2 u := by rw [← hu]; exact hb.alloc hb.size _
          have hTu := hid (hT2.out.step hbu)
          have hCu := hid (show Cs u w3.heap.size 25 vz by rw [← hu]; exact Cs.new _ _ _)
          have q3 : u.cell? ⟨1, 0, none⟩ = some (snV a2) := ht2.out.below hbu
          obtain ⟨z0, z1, z2, z3⟩ := hTu.out.z.two
          obtain ⟨e0, e1, -, -⟩ := hCu.out.two
          obtain ⟨f1, f2⟩ := hTu.out.fill (.int .i64 0) (.slice none 0 0)
          replace f2 := hid f2
          have y0 := f1.cell 0
          have y1 := f1.cell 1
          have x0 := (hTu.out.z.set 0 (.int .i64 0)).cell 0
          replace hu := hid hu
          clear hb hbu d0 d1 hT2 f1
          go_upto_region 7 with (fail)
          rw [hu.out]
          go_region_with (go_at_call 38; refine (is_same a2 _).mono ?_; rintro e w4 ⟨rfl, rfl⟩)
          all_goals go_wp2
          all_goals
            refine bodyPost_ret (v := .tuple #[vwV 0 (.slice none 0 0), .bool false]) (by simp [results, Tryd.results20, go_sem, y0, y1, x0]) rfl ?_
            rw [hyes.out, hres.out]
            exact ⟨none, 0, rfl, World.ownsRow_nil _ _ _ _, f2.out.drew⟩
      exact main _ rfl

end Go.Proofs.YtppdfgifnmfioaaDoor
