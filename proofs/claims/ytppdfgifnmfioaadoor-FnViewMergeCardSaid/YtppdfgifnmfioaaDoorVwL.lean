/-
  Contract of the program's ViewSplit. No condition but lengths below 2^40.
-/
import Derived.Test.YtppdfgifnmfioaaDoorVwK
import Derived.Test.YtppdfgifnmfioaaDoorVwG
import Derived.Deep.CutBlock
import Derived.Deep.RegionLaw
import Derived.Deep.DeepCutAuto
namespace Go.Proofs.YtppdfgifnmfioaaDoor
open Go.RowKit
set_option linter.unusedVariables false
set_option linter.unusedSimpArgs false

theorem OwI.rdY {w : World} {B c : Nat} {A : Option Addr} {zs : List Int} (h : OwI w B (.slice A zs.length c) zs) : RdI w w.heap.size A zs.length zs := by
  obtain ⟨A', c', e, hr⟩ := h.form
  injection e with e1 e2 e3
  rw [e1]
  exact hr

theorem viewOf_er {m c B : Nat} {A : Option Addr} {zs oz : List Int} {n on : Int} {ok : Bool} {a : Addr} (hV : vwR n zs = ((on, oz), ok)) (w : World) (hr : RdI w w.heap.size A m zs) (ho : OwI w B (.slice A m c) zs) (hm : m < 1099511627776) (hs : Sn w 1 a) :
    Calls Tryd.prog 39 #[.int .i64 n, .slice A m c] w fun e w' => ∃ A' c', e = .returned (.tuple #[vwV on (.slice A' oz.length c'), erV (!ok) a]) ∧ OwI w' B (.slice A' oz.length c') oz ∧ Below w.heap.size w w' := by
  cases ok with
  | true =>
    obtain ⟨hv, e1, e2⟩ := vwR_true hV
    subst e1
    subst e2
    obtain rfl := hr.len
    exact (viewOf_yes _ w hr hm hv).mono fun e w' ⟨h1, h2⟩ => ⟨A, c, h1, own_of_block ho fun g hg => h2.block g (ho.lt g hg).2, h2⟩
  | false =>
    have hv := vwR_false hV
    have h0 : vwR n zs = vr0 := by simp [vwR, hv]
    rw [h0] at hV
    injection hV with h1 h2
    injection h1 with h3 h4
    subst h3
    subst h4
    exact (viewOf_no n w hr hm hs hv).mono fun e w' ⟨h1, h2⟩ => ⟨none, 0, h1, World.ownsRow_nil _ _ _ _, h2⟩

set_option maxRecDepth 100000 in
set_option maxHeartbeats 16000000 in
theorem ViewSplit_impl {m c : Nat} {A : Option Addr} {zs : List Int} {a : Addr} (n x : Int) (w : World) (hr : RdI w w.heap.size A m zs) (hc : m ≤ c ∧ c ≤ 9223372036854775807) (hm : m < 2097152) (s : Sn w 1 a) :
    Calls Tryd.prog 27 #[vwV n (.slice A m c), .int .i64 x] w (SPost (splitR n zs x) w) := by
  obtain ⟨W, hW⟩ : ∃ W, (((w.alloc (.cells #[.int .i64 n, .slice A m c] 25)).alloc (.cells vz 25)).alloc (.cells vz 25)) = W := ⟨_, rfl⟩
  have hT := hid (show ThreeV w W n (.slice A m c) by rw [← hW]; exact ThreeV.new w _ _)
  have hr' := hid (show RdI W W.heap.size A m zs from (Reads.below hr hT.out.b).more hT.out.b.size)
  have hsA := hid (s.below hT.out.b)
  have hl := hid hr.len
  have hm40 : m < 1099511627776 := by omega
  replace hW := hid hW
  clear hr s
  obtain ⟨d0, d1, -, -⟩ := hT.out.a.two
  cases hv : vwB n zs with
  | false =>
    have hno := hid (splitR_no (n := n) (zs := zs) (m := x) (by simp [splB, hv]))
    have hv' := hid hv
    clear hv
    go_enter Tryd.func27, Tryd.ntmps27
    go_upto_region 1 with (fail)
    rw [hW.out]
    go_wp2_with fail
    refine (ViewValid_impl n _ hr'.out hm40 hv'.out).mono ?_
    rintro e w1 ⟨rfl, hb⟩
    have hT1 := hid (hT.out.step hb)
    clear d0 d1 hb
    obtain ⟨y0, y1, y2, y3⟩ := hT1.out.y.two
    obtain ⟨z0, z1, z2, z3⟩ := hT1.out.z.two
    obtain ⟨f1, f2, f3⟩ := hT1.out.fill (.int .i64 0) (.slice none 0 0) (.int .i64 0) (.slice none 0 0)
    replace f3 := hid f3
    obtain ⟨r0, r1, -, -⟩ := f1.two
    obtain ⟨s0, s1, -, -⟩ := f2.two
    clear f1 f2 hT1
    go_wp2
    refine bodyPost_ret (v := .tuple #[vwV 0 (.slice none 0 0), vwV 0 (.slice none 0 0), .bool false]) (by simp [results, Tryd.results27, go_sem, r0, r1, s0, s1]) rfl ?_
    rw [hno.out]
    exact ⟨none, 0, none, 0, w.heap.size, rfl, ⟨World.ownsRow_nil _ _ _ _, fun g hg => by cases hg⟩, World.ownsRow_nil _ _ _ _, Nat.le_refl _, f3.out.size, f3.out⟩
  | true =>
    obtain ⟨⟨n0, n9⟩, hpos, hmv⟩ := vwB_true.1 hv
    have hv' := hid hv
    have hw1 : IntKind.i64.wrap (n + 1) = n + 1 := IntWalk.i64_in _ (by omega)
    obtain ⟨ad, rfl, -, -⟩ := hr'.out.2 (by have := hl.out; omega)
    obtain ⟨k, hkk⟩ : ∃ k, cnt zs x = k := ⟨_, rfl⟩
    have hkn : k ≤ m := by rw [← hkk, ← hl.out]; exact cnt_le _
    have hlt := take_lo (m := x) hmv
    rw [hkk] at hlt
    obtain ⟨L1, hL1⟩ : ∃ L, loL zs x = L := ⟨_, rfl⟩
    obtain ⟨L2, hL2⟩ : ∃ L, hiL zs x = L := ⟨_, rfl⟩
    have hT1e := hid (show zs.take k = L1 by rw [hlt.1, hL1])
    have hT2e := hid (show zs.drop k = L2 by rw [hlt.2, hL2])
    have hLn := hid (show L1.length < 1099511627776 by rw [← hT1e.out, List.length_take]; omega)
    have hLn2 := hid (show L2.length < 1099511627776 by rw [← hT2e.out, List.length_drop]; have := hl.out; omega)
    have hkc : (k : Int) ≤ (c : Int) := by omega
    have hki : (k : Int) ≤ (m : Int) := by omega
    have hk0 : (0 : Int) ≤ (k : Int) := by omega
    obtain ⟨h1, h2⟩ := hc
    obtain ⟨P, hP⟩ : ∃ P, (if c = k then some ad else some (ad.add k)) = P := ⟨_, rfl⟩
    obtain ⟨on1, oz1, ok1, hV1⟩ : ∃ on oz ok, vwR (n + 1) L1 = ((on, oz), ok) := ⟨_, _, _, rfl⟩
    obtain ⟨on2, oz2, ok2, hV2⟩ : ∃ on oz ok, vwR (n + 1) L2 = ((on, oz), ok) := ⟨_, _, _, rfl⟩
    replace hV1 := hid hV1
    replace hV2 := hid hV2
    replace hkk := hid hkk
    replace hL1 := hid hL1
    replace hL2 := hid hL2
    replace hmv := hid hmv
    replace hpos := hid hpos
    have hkm1 : k < 1099511627776 := by omega
    have hkm2 : m - k < 1099511627776 := by omega
    clear hv hlt
    go_enter Tryd.func27, Tryd.ntmps27
    go_upto_region 1 with (fail)
    rw [hW.out]
    go_wp2_with fail
    refine (ViewValid_impl n _ hr'.out hm40 hv'.out).mono ?_
    rintro e w1 ⟨rfl, hb⟩
    have hT1 := hid (hT.out.step hb)
    have hr1 := hid ((Reads.below hr'.out hb).more hb.size)
    have hs1 := hid (hsA.out.below hb)
    clear d0 d1 hb
    obtain ⟨d0, d1, -, -⟩ := hT1.out.a.two
    go_wp2_with fail
    refine (BinarySearchV x _ hr1.out hm40 hmv.out.1).mono ?_
    rw [hkk.out]
    rintro e w2 ⟨rfl, rfl⟩
    have rt1 := hid (show RdI w1 w1.heap.size (some ad) k L1 by rw [← hT1e.out]; exact RdI.takeV hr1.out hkn)
    have rp1 := hid (show RdI w1 w1.heap.size P (m - k) L2 by rw [← hT2e.out, ← hP]; exact RdI.dropV hr1.out hkn h1)
    have hA1 := hid hT1.out.a
    clear d0 d1 hr1
    go_upto_region 4 with (fail)
    have hdD := hid (Below.refl w1.heap.size w1).drew
    have hdA := hid (((Below.refl w1.heap.size w1).alloc (Nat.le_refl _) (.cells #[.int .i64 0, .slice none 0 0] 25)).drew)
    have rdD := hid (Reads.below rt1.out hdD.out)
    have rdA := hid ((Reads.below rt1.out hdA.out).more hdA.out.size)
    have KA := hid (show Cs (w1.alloc (.cells #[.int .i64 0, .slice none 0 0] 25)).drew w1.heap.size 25 vz from (Cs.new w1 _ _).step (Below.refl _ _).drew)
    obtain ⟨d0, d1, -, -⟩ := hA1.out.two
    obtain ⟨a0, a1, -, -⟩ := (hA1.out.step hdA.out).two
    go_cut [9, 10] (fun p e wx => ∃ (b : Nat) (A4 : Option Addr) (c4 : Nat), p = .pointer (some ⟨b, 0, none⟩) ∧ e = erV (!ok1) a ∧ Hid (Cs wx b 25 #[.int .i64 on1, .slice A4 oz1.length c4]) ∧ Hid (OwI wx w1.heap.size (.slice A4 oz1.length c4) oz1) ∧ Hid (Below w1.heap.size w1 wx) ∧ w1.heap.size ≤ b)
    case first =>
      go_region_law (go_simp; (first | (go_at_call 47; (first | ((with_reducible refine (CloneV _ rdD.out hkm1).mono ?_); rintro e x1 ⟨A3, c3, rfl, o3, hb⟩; have B1 := hid (show Below w1.heap.size w1 x1 from hdD.out.trans (hb.mono hdD.out.size)); have O1 := hid (OwI.more o3 hdD.out.size)) | ((with_reducible refine (CloneV _ rdA.out hkm1).mono ?_); rintro e x1 ⟨A3, c3, rfl, o3, hb⟩; have B1 := hid (show Below w1.heap.size w1 x1 from hdA.out.trans (hb.mono hdA.out.size)); have O1 := hid (OwI.more o3 hdA.out.size); have KB := hid (KA.out.step hb))); have R1 := hid O1.out.rdY; have S1 := hid (Sn.below hs1.out B1.out); obtain ⟨p0, p1, -, -⟩ := (hA1.out.step B1.out).two; obtain ⟨t0, t1, -, -⟩ := ((hA1.out.step B1.out).alloc (.cells #[.int .i64 0, .slice none 0 0] 25)).two; clear hb o3) | (go_at_call 39; (first | ((with_reducible refine (viewOf_er hV1.out _ R1.out O1.out hLn.out S1.out).mono ?_); rintro e x2 ⟨A4, c4, rfl, O2, hb⟩; have B2 := hid (B1.out.trans (hb.mono B1.out.size)); (try have KC := hid (KB.out.step hb)); (try obtain ⟨b0, b1, b2, b3⟩ := KC.out.two)) | ((with_reducible refine (viewOf_er hV1.out _ ((Reads.below R1.out (below1 x1 _)).more (below1 x1 _).size) (O1.out.alloc_ _) hLn.out (S1.out.below (below1 x1 _))).mono ?_); rintro e x2 ⟨A4, c4, rfl, O2, hb⟩; have B2 := hid ((B1.out.alloc B1.out.size _).trans (hb.mono (Nat.le_trans B1.out.size (below1 x1 _).size))); have KC := hid ((Cs.new x1 _ _).step hb); obtain ⟨b0, b1, b2, b3⟩ := KC.out.two)); have O2 := hid O2; clear hb)))
      all_goals
        go_wp2_with fail
        go_meet
        first | exact ⟨_, A4, c4, rfl, rfl, hid ((KC.out.set 0 _).set 1 _), hid (O2.out.fillV KC.out _ _), hid ((B2.out.setCell (Nat.le_refl _) _).setCell (Nat.le_refl _) _), Nat.le_refl _⟩ | exact ⟨_, A4, c4, rfl, rfl, hid ((KC.out.set 0 _).set 1 _), hid (O2.out.fillV KC.out _ _), hid ((B2.out.setCell B1.out.size _).setCell B1.out.size _), B1.out.size⟩ | exact ⟨_, A4, c4, rfl, rfl, hid (Cs.new _ _ _), hid (O2.out.alloc_ _), hid (B2.out.alloc B2.out.size _), B2.out.size⟩
    case rest =>
      obtain ⟨bx1, A4, c4, rfl, rfl, hC4, hO4, hB4, hx1⟩ := hcut
      obtain ⟨w4, rfl⟩ : ∃ u, u = wc := ⟨_, rfl⟩
      clear d0 d1 a0 a1 hdD hdA rdD rdA KA
      have hT4 := hid (hT1.out.step hB4.out)
      have rp4 := hid ((Reads.below rp1.out hB4.out).more hB4.out.size)
      have hs4 := hid (Sn.below hs1.out hB4.out)
      have hA4 := hid hT4.out.a
      have hlt1 : w.heap.size + 1 + 1 < w1.heap.size := hT1.out.lt
      have hz4 : w1.heap.size ≤ w4.heap.size := hB4.out.size
      obtain ⟨d0, d1, -, -⟩ := hA4.out.two
      go_upto_region 5 with (fail)
      clear d0 d1
      have hdD := hid (Below.refl w4.heap.size w4).drew
      have hdA := hid (((Below.refl w4.heap.size w4).alloc (Nat.le_refl _) (.cells #[.int .i64 0, .slice none 0 0] 25)).drew)
      have rdD := hid (Reads.below rp4.out hdD.out)
      have rdA := hid ((Reads.below rp4.out hdA.out).more hdA.out.size)
      have KA := hid (show Cs (w4.alloc (.cells #[.int .i64 0, .slice none 0 0] 25)).drew w4.heap.size 25 vz from (Cs.new w4 _ _).step (Below.refl _ _).drew)
      obtain ⟨d0, d1, -, -⟩ := hA4.out.two
      obtain ⟨a0, a1, -, -⟩ := (hA4.out.step hdA.out).two
      go_cut [11, 12] (fun p e wx => ∃ (b : Nat) (A4 : Option Addr) (c4 : Nat), p = .pointer (some ⟨b, 0, none⟩) ∧ e = erV (!ok2) a ∧ Hid (Cs wx b 25 #[.int .i64 on2, .slice A4 oz2.length c4]) ∧ Hid (OwI wx w4.heap.size (.slice A4 oz2.length c4) oz2) ∧ Hid (Below w4.heap.size w4 wx) ∧ w4.heap.size ≤ b)
      case first =>
        go_region_law (go_simp; (first | (go_at_call 47; (first | ((with_reducible refine (CloneV _ rdD.out hkm2).mono ?_); rintro e x1 ⟨A3, c3, rfl, o3, hb⟩; have B1 := hid (show Below w4.heap.size w4 x1 from hdD.out.trans (hb.mono hdD.out.size)); have O1 := hid (OwI.more o3 hdD.out.size)) | ((with_reducible refine (CloneV _ rdA.out hkm2).mono ?_); rintro e x1 ⟨A3, c3, rfl, o3, hb⟩; have B1 := hid (show Below w4.heap.size w4 x1 from hdA.out.trans (hb.mono hdA.out.size)); have O1 := hid (OwI.more o3 hdA.out.size); have KB := hid (KA.out.step hb))); have R1 := hid O1.out.rdY; have S1 := hid (Sn.below hs4.out B1.out); obtain ⟨p0, p1, -, -⟩ := (hA4.out.step B1.out).two; obtain ⟨t0, t1, -, -⟩ := ((hA4.out.step B1.out).alloc (.cells #[.int .i64 0, .slice none 0 0] 25)).two; clear hb o3) | (go_at_call 39; (first | ((with_reducible refine (viewOf_er hV2.out _ R1.out O1.out hLn2.out S1.out).mono ?_); rintro e x2 ⟨A4, c4, rfl, O2, hb⟩; have B2 := hid (B1.out.trans (hb.mono B1.out.size)); (try have KC := hid (KB.out.step hb)); (try obtain ⟨b0, b1, b2, b3⟩ := KC.out.two)) | ((with_reducible refine (viewOf_er hV2.out _ ((Reads.below R1.out (below1 x1 _)).more (below1 x1 _).size) (O1.out.alloc_ _) hLn2.out (S1.out.below (below1 x1 _))).mono ?_); rintro e x2 ⟨A4, c4, rfl, O2, hb⟩; have B2 := hid ((B1.out.alloc B1.out.size _).trans (hb.mono (Nat.le_trans B1.out.size (below1 x1 _).size))); have KC := hid ((Cs.new x1 _ _).step hb); obtain ⟨b0, b1, b2, b3⟩ := KC.out.two)); have O2 := hid O2; clear hb)))
        all_goals
          go_wp2_with fail
          go_meet
          first | exact ⟨_, A4, c4, rfl, rfl, hid ((KC.out.set 0 _).set 1 _), hid (O2.out.fillV KC.out _ _), hid ((B2.out.setCell (Nat.le_refl _) _).setCell (Nat.le_refl _) _), Nat.le_refl _⟩ | exact ⟨_, A4, c4, rfl, rfl, hid ((KC.out.set 0 _).set 1 _), hid (O2.out.fillV KC.out _ _), hid ((B2.out.setCell B1.out.size _).setCell B1.out.size _), B1.out.size⟩ | exact ⟨_, A4, c4, rfl, rfl, hid (Cs.new _ _ _), hid (O2.out.alloc_ _), hid (B2.out.alloc B2.out.size _), B2.out.size⟩
      case rest =>
        obtain ⟨bx2, A5, c5, rfl, rfl, hC5, hO5, hB5, hx2⟩ := hcut
        obtain ⟨w5, rfl⟩ : ∃ u, u = wc := ⟨_, rfl⟩
        clear d0 d1 a0 a1 hdD hdA rdD rdA KA
        have hT5 := hid (hT4.out.step hB5.out)
        have hC45 := hid (hC4.out.step hB5.out)
        have hO45 := hid (own_of_block hO4.out fun g hg => hB5.out.block g (hO4.out.lt g hg).2)
        have hO4b := hid (fun g hg => (hO4.out.lt g hg).2)
        have hz5 : w4.heap.size ≤ w5.heap.size := hB5.out.size
        have g5 : w5.cell? ⟨1, 0, none⟩ = some (snV a) := Sn.below hs4.out hB5.out
        obtain ⟨y0, y1, y2, y3⟩ := hT5.out.y.two
        obtain ⟨z0, z1, z2, z3⟩ := hT5.out.z.two
        clear hB4 hB5 hC4 hO4 hT4 hT1 rp4 rp1 rt1
        cases ok1 with
        | false =>
          rw [show erV (!false) a = snV a from rfl]
          have hno := hid (splitR_no (n := n) (zs := zs) (m := x) (by simp [splB, hL1.out, vwR_false hV1.out]))
          obtain ⟨f1, f2, f3⟩ := hT5.out.fill (.int .i64 0) (.slice none 0 0) (.int .i64 0) (.slice none 0 0)
          replace f3 := hid f3
          obtain ⟨r0, r1, -, -⟩ := f1.two
          obtain ⟨s0, s1, -, -⟩ := f2.two
          clear f1 f2 hT5 hC5 hC45 hO5 hO45
          go_wp2_with (go_at_call 38; (with_reducible refine (is_same a _).mono ?_); rintro e w9 ⟨rfl, rfl⟩)
          refine bodyPost_ret (v := .tuple #[vwV 0 (.slice none 0 0), vwV 0 (.slice none 0 0), .bool false]) (by simp [results, Tryd.results27, go_sem, r0, r1, s0, s1]) rfl ?_
          rw [hno.out]
          exact ⟨none, 0, none, 0, w.heap.size, rfl, ⟨World.ownsRow_nil _ _ _ _, fun g hg => by cases hg⟩, World.ownsRow_nil _ _ _ _, Nat.le_refl _, f3.out.size, f3.out⟩
        | true =>
          cases ok2 with
          | false =>
            rw [show erV (!true) a = .nilIface from rfl, show erV (!false) a = snV a from rfl]
            have hno := hid (splitR_no (n := n) (zs := zs) (m := x) (by simp [splB, hL2.out, vwR_false hV2.out]))
            obtain ⟨f1, f2, f3⟩ := hT5.out.fill (.int .i64 0) (.slice none 0 0) (.int .i64 0) (.slice none 0 0)
            replace f3 := hid f3
            obtain ⟨r0, r1, -, -⟩ := f1.two
            obtain ⟨s0, s1, -, -⟩ := f2.two
            clear f1 f2 hT5 hC5 hC45 hO5 hO45
            go_wp2_with (first | (go_at_call 38; (with_reducible refine (is_nil a _).mono ?_); rintro e w9 ⟨rfl, rfl⟩) | (go_at_call 38; (with_reducible refine (is_same a _).mono ?_); rintro e w9 ⟨rfl, rfl⟩))
            refine bodyPost_ret (v := .tuple #[vwV 0 (.slice none 0 0), vwV 0 (.slice none 0 0), .bool false]) (by simp [results, Tryd.results27, go_sem, r0, r1, s0, s1]) rfl ?_
            rw [hno.out]
            exact ⟨none, 0, none, 0, w.heap.size, rfl, ⟨World.ownsRow_nil _ _ _ _, fun g hg => by cases hg⟩, World.ownsRow_nil _ _ _ _, Nat.le_refl _, f3.out.size, f3.out⟩
          | true =>
            rw [show erV (!true) a = .nilIface from rfl]
            obtain ⟨b1, e1, e2⟩ := vwR_true hV1.out
            subst e1
            subst e2
            obtain ⟨b2, e3, e4⟩ := vwR_true hV2.out
            subst e3
            subst e4
            have hyes := hid (splitR_yes (n := n) (zs := zs) (m := x) (by simp [splB, hv'.out, hL1.out, hL2.out, b1, b2]))
            obtain ⟨f1, f2, f3⟩ := hT5.out.fill (.int .i64 (n + 1)) (.slice A4 oz1.length c4) (.int .i64 (n + 1)) (.slice A5 oz2.length c5)
            replace f3 := hid f3
            have r0 := f1.cell 0
            have r1 := f1.cell 1
            have s0 := f2.cell 0
            have s1 := f2.cell 1
            have g1 := hid (hO45.out.fill2V hT5.out.y hT5.out.z (.int .i64 (n + 1)) (.slice A4 oz1.length c4) (.int .i64 (n + 1)) (.slice A5 oz2.length c5))
            have g2 := hid (hO5.out.fill2V hT5.out.y hT5.out.z (.int .i64 (n + 1)) (.slice A4 oz1.length c4) (.int .i64 (n + 1)) (.slice A5 oz2.length c5))
            obtain ⟨q40, q41, -, -⟩ := hC45.out.two
            obtain ⟨q50, q51, -, -⟩ := hC5.out.two
            have k50 := ((hC5.out.far (p := ⟨w.heap.size + 1, 0, none⟩) (by simp; omega) (.int .i64 (n + 1)))).two.1
            have k51 := ((hC5.out.far (p := ⟨w.heap.size + 1, 0, none⟩) (by simp; omega) (.int .i64 (n + 1)))).two.2.1
            have k52 := ((hC5.out.far (p := ⟨w.heap.size + 1, 0, none⟩) (by simp; omega) (.int .i64 (n + 1))).far (p := ⟨w.heap.size + 1, 1, none⟩) (by simp; omega) (.slice A4 oz1.length c4)).two.1
            have k53 := ((hC5.out.far (p := ⟨w.heap.size + 1, 0, none⟩) (by simp; omega) (.int .i64 (n + 1))).far (p := ⟨w.heap.size + 1, 1, none⟩) (by simp; omega) (.slice A4 oz1.length c4)).two.2.1
            have x0 := (hT5.out.y.set 0 (.int .i64 (n + 1))).cell 0
            have x1 := (hT5.out.z.set 0 (.int .i64 (n + 1))).cell 0
            have hsz9 := hid (show w4.heap.size ≤ ((((w5.setCell ⟨w.heap.size + 1, 0, none⟩ (.int .i64 (n + 1))).setCell ⟨w.heap.size + 1, 1, none⟩ (.slice A4 oz1.length c4)).setCell ⟨w.heap.size + 1 + 1, 0, none⟩ (.int .i64 (n + 1))).setCell ⟨w.heap.size + 1 + 1, 1, none⟩ (.slice A5 oz2.length c5)).heap.size by simp [World.setCell]; omega)
            clear b1 b2 f1 f2 hT5 hC5 hC45 hO45 hO5
            go_wp2_with (go_at_call 38; (with_reducible refine (is_nil a _).mono ?_); rintro e w9 ⟨rfl, rfl⟩)
            go_region
            all_goals go_wp2
            all_goals
              refine bodyPost_ret (v := .tuple #[vwV (n + 1) (.slice A4 oz1.length c4), vwV (n + 1) (.slice A5 oz2.length c5), .bool true]) (by simp [results, Tryd.results27, go_sem, r0, r1, s0, s1, x0, x1]) rfl ?_
              rw [hyes.out, hL1.out, hL2.out]
              exact ⟨A4, c4, A5, c5, w4.heap.size, rfl, ⟨g1.out.more (by omega), hO4b.out⟩, g2.out, by omega, hsz9.out, f3.out.drew⟩
end Go.Proofs.YtppdfgifnmfioaaDoor
