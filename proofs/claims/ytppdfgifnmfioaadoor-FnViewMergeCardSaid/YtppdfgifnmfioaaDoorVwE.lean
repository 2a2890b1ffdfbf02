/-
  Contracts of the model's ViewJoin and ViewLeave. No condition but lengths below 2^40.
-/
import Derived.Test.YtppdfgifnmfioaaDoorVwD
import Derived.Deep.RegionLaw
namespace Go.Proofs.YtppdfgifnmfioaaDoor
open Go.RowKit
set_option linter.unusedVariables false
set_option linter.unusedSimpArgs false

/-- the two boxes of a call on a view: the argument, the result -/
structure TwoV (w W : World) (n : Int) (v : Value) : Prop where
  b : Below w.heap.size w W
  a : Cs W w.heap.size 25 #[.int .i64 n, v]
  z : Cs W (w.heap.size + 1) 25 vz
  lt : w.heap.size + 1 < W.heap.size

theorem TwoV.new (w : World) (n : Int) (v : Value) : TwoV w ((w.alloc (.cells #[.int .i64 n, v] 25)).alloc (.cells vz 25)) n v :=
  ⟨below2 w _ _, (Cs.new w _ _).alloc _, Cs.new' _ _ _ (by simp), by simp⟩

theorem TwoV.step {w W W' : World} {n : Int} {v : Value} (h : TwoV w W n v) (hb : Below W.heap.size W W') : TwoV w W' n v :=
  ⟨h.b.trans (hb.mono (by have := h.lt; omega)), h.a.step hb, h.z.step hb, Nat.lt_of_lt_of_le h.lt hb.size⟩

theorem TwoV.stepB {w W W' : World} {n : Int} {v : Value} {B : Nat} (h : TwoV w W n v) (hb : Below B W W') (hB : w.heap.size + 1 < B) : TwoV w W' n v :=
  ⟨h.b.trans (hb.mono (by omega)), h.a.below hb (by omega), h.z.below hb hB, Nat.lt_of_lt_of_le h.lt hb.size⟩
/-- behind the result's filling -/
theorem TwoV.fill {w W : World} {n : Int} {v : Value} (h : TwoV w W n v) (u0 u1 : Value) :
    Cs ((W.setCell ⟨w.heap.size + 1, 0, none⟩ u0).setCell ⟨w.heap.size + 1, 1, none⟩ u1) (w.heap.size + 1) 25 #[u0, u1] ∧ Below w.heap.size w ((W.setCell ⟨w.heap.size + 1, 0, none⟩ u0).setCell ⟨w.heap.size + 1, 1, none⟩ u1) :=
  h.z.fillV h.b (by omega) u0 u1

theorem step_appV {w : World} {ops : Array Oper} {o : Oper} {a : Act} {K : Act → World → Prop} {Q : Exit → Act → World → Prop} {E : Prop} (hgd : o.guard = none) (s x : Operand)
    (ho : o.op = .call { callee := .builtin .append, args := #[s, x], argTypes := #[23, 23] }) {B : Nat} {v : Value} {zs ys : List Int} {A : Option Addr} {m c : Nat} (hs : a.eval s = v) (hx : a.eval x = .slice A m c) (hown : OwI w B v zs) (hr : ∃ Br, RdI w Br A m ys) (hB : B ≤ w.heap.size) (hn : zs.length + m < 1099511627776)
    (h : ∀ v' w', OwI w' B v' (zs ++ ys) → w.grownBy w' v.ownBlock → (v'.ownBlock = v.ownBlock ∨ v'.ownBlock = some w.heap.size) → K (a.put o.dst v') w') :
    if Region.wanted o (yielded ops a.tmps) = true then Oper.wp Tryd.prog o a w K Q else E := by
  have hw : Region.wanted o (yielded ops a.tmps) = true := by simp [Region.wanted, hgd]
  rw [if_pos hw]
  obtain ⟨Br, hr⟩ := hr
  exact wp_appH s x ho hs hx hown hr hB hn h

theorem l23View_as {m c : Nat} {A : Option Addr} {zs oz : List Int} {n n1 on : Int} {ok : Bool} (hV : vwR n1 zs = ((on, oz), ok)) (w : World) (hr : RdI w w.heap.size A m zs) (hm : m < 2097152) (hw : IntKind.i64.wrap (n + 1) = n1) :
    Calls Tryd.prog 41 #[.int .i64 n, .slice A m c] w fun e w' => ∃ A' c', e = .returned (.tuple #[vwV on (.slice A' oz.length c'), .bool ok]) ∧ OwI w' w.heap.size (.slice A' oz.length c') oz ∧ Below w.heap.size w w' := by
  refine (l23View_any w hr hm hw).mono fun e w' h => ?_
  rw [hV] at h
  exact h

theorem ViewValid_specT {m c : Nat} {A : Option Addr} {zs : List Int} {r : Bool} {n : Int} {w W : World} (hT : TwoV w W n (.slice A m c)) (hr : RdI W W.heap.size A m zs) (hm : m < 1099511627776) (hR : vwB n zs = r) :
    Calls Tryd.prog 33 #[vwV n (.slice A m c)] W fun e w' => e = .returned (.bool r) ∧ TwoV w w' n (.slice A m c) ∧ RdI w' w'.heap.size A m zs :=
  (ViewValid_spec n W hr hm hR).mono fun e w' ⟨h1, h2⟩ => ⟨h1, hT.step h2, (Reads.below hr h2).more h2.size⟩

theorem l1Has_asV {B n c : Nat} {A : Option Addr} {zs : List Int} {x : Int} {r : Bool} (h : hasB zs x = r) (w : World) (hr : RdI w B A n zs) (hn : n < 1099511627776) :
    Calls Tryd.prog 40 #[.slice A n c, .int .i64 x] w fun e w' => e = .returned (.bool r) ∧ w = w' := by
  subst h; exact l1Has_any x w hr hn

theorem RdI.of_cs {w : World} {b : Nat} {x : Int} (h : Cs w b 3 #[.int .i64 x]) : RdI w (b + 1) (some ⟨b, 0, none⟩) 1 [x] := by
  refine ⟨by simp, fun _ => ⟨_, rfl, by simp, fun j u hu => ?_⟩⟩
  match j, hu with
  | 0, hu =>
    simp at hu; subst hu
    have := h.cell 0
    simpa [Addr.add] using this

set_option maxHeartbeats 16000000 in
theorem ViewJoin_spec {m c : Nat} {A : Option Addr} {zs : List Int} (n x : Int) (w : World) (hr : RdI w w.heap.size A m zs) (hc : m ≤ c ∧ c ≤ 9223372036854775807) (hm : m < 2097152) :
    Calls Tryd.prog 15 #[vwV n (.slice A m c), .int .i64 x] w (VPost (joinR n zs x) w) := by
  obtain ⟨W, hW⟩ : ∃ W, (w.alloc (.cells #[.int .i64 n, .slice A m c] 25)).alloc (.cells vz 25) = W := ⟨_, rfl⟩
  have hT := hid (show TwoV w W n (.slice A m c) by rw [← hW]; exact TwoV.new w _ _)
  have hr' := hid (show RdI W W.heap.size A m zs from (Reads.below hr hT.out.b).more hT.out.b.size)
  have hl := hid hr.len
  have hm40 : m < 1099511627776 := by omega
  replace hW := hid hW
  clear hr
  obtain ⟨d0, d1, -, -⟩ := hT.out.a.two
  have bad : ∀ {w1 : World}, TwoV w w1 n (.slice A m c) → True := fun _ => trivial
  clear bad
  cases hv : vwB n zs with
  | false =>
    have hno := hid (joinR_no (m := x) (.inl hv))
    have hv' := hid hv
    clear hv
    go_enter Tryd.func15, Tryd.ntmps15
    go_upto_region 1 with (fail)
    rw [hW.out]
    go_wp2_with fail
    refine (ViewValid_specT hT.out hr'.out hm40 hv'.out).mono ?_
    rintro e w1 ⟨rfl, hT1, -⟩
    obtain ⟨z0, z1, z2, z3⟩ := hT1.z.two
    obtain ⟨f1, f2⟩ := hT1.fill (.int .i64 0) (.slice none 0 0)
    replace f2 := hid f2
    obtain ⟨y0, y1, -, -⟩ := f1.two
    clear d0 d1 f1 hT1
    go_wp2
    refine bodyPost_ret (v := .tuple #[vwV 0 (.slice none 0 0), .bool false]) (by simp [results, Tryd.results15, go_sem, y0, y1]) rfl ?_
    rw [hno.out]
    exact ⟨none, 0, rfl, World.ownsRow_nil _ _ _ _, f2.out⟩
  | true =>
    have hv' := hid hv
    obtain ⟨⟨n0, n9⟩, hpos, hmv⟩ := vwB_true.1 hv
    cases hh : hasB zs x with
    | true =>
      have hno := hid (joinR_no (n := n) (m := x) (.inr hh))
      have hh' := hid hh
      clear hv hh hpos
      go_enter Tryd.func15, Tryd.ntmps15
      go_upto_region 1 with (fail)
      rw [hW.out]
      go_wp2_with fail
      refine (ViewValid_specT hT.out hr'.out hm40 hv'.out).mono ?_
      rintro e w1 ⟨rfl, hT1, hr1⟩
      obtain ⟨z0, z1, z2, z3⟩ := hT1.z.two
      obtain ⟨f1, f2⟩ := hT1.fill (.int .i64 0) (.slice none 0 0)
      replace f2 := hid f2
      replace hr1 := hid hr1
      obtain ⟨y0, y1, -, -⟩ := f1.two
      clear d0 d1 f1
      obtain ⟨d0, d1, -, -⟩ := hT1.a.two
      clear hT1
      go_wp2_with (go_at_call 40; (with_reducible refine (l1Has_asV hh'.out _ hr1.out hm40).mono ?_); rintro e w2 ⟨rfl, rfl⟩)
      refine bodyPost_ret (v := .tuple #[vwV 0 (.slice none 0 0), .bool false]) (by simp [results, Tryd.results15, go_sem, y0, y1]) rfl ?_
      rw [hno.out]
      exact ⟨none, 0, rfl, World.ownsRow_nil _ _ _ _, f2.out⟩
    | false =>
      have hyes := hid (joinR_yes hv hh)
      have hh' := hid hh
      have hmv' := hid hmv
      have h8 := hmv.len
      obtain ⟨ad, rfl, -, -⟩ := hr'.out.2 (by rw [← hl.out]; exact hpos)
      clear hv hh hmv hpos
      go_enter Tryd.func15, Tryd.ntmps15
      go_upto_region 1 with (fail)
      rw [hW.out]
      go_wp2_with fail
      refine (ViewValid_specT hT.out hr'.out hm40 hv'.out).mono ?_
      rintro e w1 ⟨rfl, hT1, hr1⟩
      replace hT1 := hid hT1
      replace hr1 := hid hr1
      clear d0 d1 hr'
      obtain ⟨d0, d1, -, -⟩ := hT1.out.a.two
      go_wp2_with (go_at_call 40; (with_reducible refine (l1Has_asV hh'.out _ hr1.out hm40).mono ?_); rintro e w2 ⟨rfl, rfl⟩)
      go_loop [6] (fun i => ∃ k : Nat, k ≤ m ∧ i = .int .i64 k ∧ Hid (∀ j, j < k → zs.getD j 0 < x)) (fun i => m - (intOf i).toNat)
      case atStart => exact ⟨0, Nat.zero_le _, rfl, hid (fun j h => by omega)⟩
      case round =>
        obtain ⟨k, hk, rfl, hall⟩ := hrel
        have stop : (k < m → ¬ zs.getD k 0 < x) → Hid (cnt zs x = k) := fun h => hid (ins_at hmv'.out (by rw [hl.out]; exact hk) hall.out (fun hj => h (by rw [hl.out] at hj; exact hj)))
        by_cases hgo : k < m ∧ zs.getD k 0 < x
        · obtain ⟨hlt, hzx0⟩ := hgo
          obtain ⟨ad', z, e, hz, hcc⟩ := hr1.out.at' hlt
          injection e with e
          subst e
          have hzx : z < x := by rw [← hz.out]; exact hzx0
          have i0 : (0 : Int) ≤ (k : Int) := by omega
          have i1 : (k : Int) < (m : Int) := by omega
          clear stop hzx0
          go_wp2
          go_round
          case rel => exact ⟨k + 1, by omega, by go_num, hid (fun j hj => by
              by_cases e : j = k
              · subst e; rw [hz.out]; exact hzx
              · exact hall.out j (by omega))⟩
          case measure => simp [intOf]; omega
        · have hk' := stop (fun h1 h2 => hgo ⟨h1, h2⟩)
          clear stop
          have hside : (k < m ∧ ∃ z, Hid (zs.getD k 0 = z) ∧ w1.cell? (ad.add k) = some (.int .i64 z) ∧ ¬ z < x) ∨ ¬ ((k : Int) < (m : Int)) := by
            by_cases hlt : k < m
            · obtain ⟨ad', z, e, hz, hcc⟩ := hr1.out.at' hlt
              injection e with e
              subst e
              exact .inl ⟨hlt, z, hz, hcc, fun h => hgo ⟨hlt, by rw [hz.out]; exact h⟩⟩
            · exact .inr (by omega)
          clear hgo hall
          have hI : Hid (zs.take k ++ [x] ++ zs.drop k = ins zs x) := hid (by rw [ins, hk'.out]; simp)
          obtain ⟨P, hP⟩ : ∃ P, (if c = k then some ad else some (ad.add k)) = P := ⟨_, rfl⟩
          have hD := hid (show RdI w1 w1.heap.size P (m - k) (zs.drop k) by rw [← hP]; exact hr1.out.dropV hk hc.1)
          have hTk := hid (hr1.out.takeV hk)
          have hkc : k ≤ c := by omega
          have hz34 : w.heap.size + 1 ≤ w1.heap.size := Nat.le_of_lt hT1.out.lt
          have KA : Hid (∀ X, Below (w.heap.size + 1) w1 X → X.cell? ⟨w.heap.size, 0, none⟩ = some (.int .i64 n) ∧ X.cell? ⟨w.heap.size, 1, none⟩ = some (.slice (some ad) m c)) := hid (fun X h => ⟨(hT1.out.a.below h (by omega)).cell 0, (hT1.out.a.below h (by omega)).cell 1⟩)
          have D0 : Hid (Below (w.heap.size + 1) w1 w1.drew) := hid (Below.refl _ _).drew
          have v1 : Below w1.heap.size w1 ((w1.alloc (.cells #[] 3)).drew) := (below1 w1 _).drew
          have v0 : Below w1.heap.size w1 ((w1.alloc (.cells #[.int .i64 x] 3)).drew) := (below1 w1 _).drew
          have v2 : Below w1.heap.size w1 (((w1.alloc (.cells #[] 3)).alloc (.cells #[.int .i64 x] 3)).drew) := (below2 w1 _ _).drew
          have v3 : Below w1.heap.size w1 (((w1.alloc (.cells #[.int .i64 x] 3)).alloc (.cells #[] 3)).drew) := (below2 w1 _ _).drew
          have V1 := hid (v1.mono hz34)
          have V0 := hid (v0.mono hz34)
          have V2 := hid (v2.mono hz34)
          have V3 := hid (v3.mono hz34)
          have r1 : Hid (RdI ((w1.alloc (.cells #[] 3)).drew) w1.heap.size (some ad) k (zs.take k)) := hid (Reads.below hTk.out v1)
          have r2 : Hid (RdI (((w1.alloc (.cells #[] 3)).alloc (.cells #[.int .i64 x] 3)).drew) w1.heap.size (some ad) k (zs.take k)) := hid (Reads.below hTk.out v2)
          have r3 : Hid (RdI (((w1.alloc (.cells #[.int .i64 x] 3)).alloc (.cells #[] 3)).drew) w1.heap.size (some ad) k (zs.take k)) := hid (Reads.below hTk.out v3)
          have o1 : Hid (OwI ((w1.alloc (.cells #[] 3)).drew) w1.heap.size (.slice (some ⟨w1.heap.size, 0, none⟩) 0 0) []) := hid (OwI.lit0 w1 rfl)
          have o2 : Hid (OwI (((w1.alloc (.cells #[] 3)).alloc (.cells #[.int .i64 x] 3)).drew) w1.heap.size (.slice (some ⟨w1.heap.size, 0, none⟩) 0 0) []) := hid ((OwI.lit0 w1 rfl).alloc_ _)
          have o3 : Hid (OwI (((w1.alloc (.cells #[.int .i64 x] 3)).alloc (.cells #[] 3)).drew) w1.heap.size (.slice (some ⟨w1.heap.size + 1, 0, none⟩) 0 0) []) := hid (OwI.more (OwI.lit0 (b := w1.heap.size + 1) (w1.alloc (.cells #[.int .i64 x] 3)) (by simp)) (Nat.le_succ _))
          have z1 : Hid (w1.heap.size ≤ ((w1.alloc (.cells #[] 3)).drew).heap.size) := hid v1.size
          have z2 : Hid (w1.heap.size ≤ (((w1.alloc (.cells #[] 3)).alloc (.cells #[.int .i64 x] 3)).drew).heap.size) := hid v2.size
          have z3 : Hid (w1.heap.size ≤ (((w1.alloc (.cells #[.int .i64 x] 3)).alloc (.cells #[] 3)).drew).heap.size) := hid v3.size
          have k1 : Hid (Kp (fun b => w1.heap.size ≤ b) w1 ((w1.alloc (.cells #[] 3)).drew)) := hid (Kp.of_below v1)
          have k2 : Hid (Kp (fun b => w1.heap.size ≤ b) w1 (((w1.alloc (.cells #[] 3)).alloc (.cells #[.int .i64 x] 3)).drew)) := hid (Kp.of_below v2)
          have k3 : Hid (Kp (fun b => w1.heap.size ≤ b) w1 (((w1.alloc (.cells #[.int .i64 x] 3)).alloc (.cells #[] 3)).drew)) := hid (Kp.of_below v3)
          have l2 : Hid (Cs (((w1.alloc (.cells #[] 3)).alloc (.cells #[.int .i64 x] 3)).drew) (w1.heap.size + 1) 3 #[.int .i64 x]) := hid (Cs.new' _ _ _ (by simp))
          have l3 : Hid (Cs (((w1.alloc (.cells #[.int .i64 x] 3)).alloc (.cells #[] 3)).drew) w1.heap.size 3 #[.int .i64 x]) := hid ((Cs.new _ _ _).alloc _)
          have a4 : Hid (([] : List Int).length + k < 1099511627776) := hid (by simp; omega)
          have a5 : Hid ((zs.take k).length + 1 < 1099511627776) := hid (by rw [List.length_take, hl.out]; omega)
          have a6 : Hid ((zs.take k ++ [x]).length + (m - k) < 1099511627776) := hid (by rw [List.length_append, List.length_take, hl.out]; simp; omega)
          have hw1 : IntKind.i64.wrap (n + 1) = n + 1 := IntWalk.i64_in _ (by omega)
          have hil : Hid ((ins zs x).length < 2097152) := hid (by rw [ins_len]; omega)
          have hbase := hid (show ∀ X, Kp (fun b => w1.heap.size ≤ b) w1 X → Below (w.heap.size + 1) w1 X from fun X h => h.base hz34 (fun i h => Nat.le_trans hz34 h))
          have hbase4 := hid (show ∀ X, Kp (fun b => w1.heap.size ≤ b) w1 X → Below w1.heap.size w1 X from fun X h => h.base (Nat.le_refl _) (fun i h => h))
          have j0 : (0 : Int) ≤ (k : Int) := by omega
          have j1 : (k : Int) ≤ (c : Int) := by omega
          have j2 : (k : Int) ≤ (m : Int) := by omega
          have kZ1 := hid hT1.out.z
          have hBw := hid hT1.out.b
          have hz2w := hT1.out.lt
          obtain ⟨⟨⟨on, oz⟩, ok⟩, hrv⟩ : ∃ rv, vwR (n + 1) (ins zs x) = rv := ⟨_, rfl⟩
          replace hrv := hid hrv
          clear v0 v1 v2 v3 hT hr1 hTk hT1
          rcases hside with ⟨hlt, z, hz, hcc, hzx⟩ | hkm
          all_goals (try clear hz)
          all_goals go_wp2
          all_goals (try clear hcc)
          all_goals
           (go_region_held3 (fun X => X.cell? ⟨w.heap.size, 0, none⟩ = some (.int .i64 n) ∧ X.cell? ⟨w.heap.size, 1, none⟩ = some (.slice (some ad) m c))
              (first | with_reducible exact KA.out _ D0.out | with_reducible exact KA.out _ V1.out | with_reducible exact KA.out _ V2.out | with_reducible exact KA.out _ V3.out | with_reducible exact KA.out _ V0.out | with_reducible exact KA.out _ D13.out | with_reducible exact KA.out _ D13a.out | with_reducible exact KA.out _ D14.out | with_reducible exact KA.out _ D15.out | with_reducible exact KA.out _ D16.out | with_reducible exact KA.out _ D17.out)
              (first | ((first | refine step_appV rfl (.tmp 35) (.tmp 39) rfl (B := w1.heap.size) (v := .slice (some ⟨w1.heap.size, 0, none⟩) 0 0) (zs := []) (ys := zs.take k) (A := some ad) (m := k) rfl rfl ?_ ?_ ?_ a4.out ?_ | refine step_appV rfl (.tmp 35) (.tmp 39) rfl (B := w1.heap.size) (v := .slice (some ⟨w1.heap.size + 1, 0, none⟩) 0 0) (zs := []) (ys := zs.take k) (A := some ad) (m := k) rfl rfl ?_ ?_ ?_ a4.out ?_); (first | with_reducible exact o1.out | with_reducible exact o2.out | with_reducible exact o3.out); (first | with_reducible exact ⟨_, r1.out⟩ | with_reducible exact ⟨_, r2.out⟩ | with_reducible exact ⟨_, r3.out⟩); (first | with_reducible exact z1.out | with_reducible exact z2.out | with_reducible exact z3.out); intro v13 w13 ho13 hg13 hv13; rw [List.nil_append] at ho13; have ho13' := hid ho13; have hk13 : Hid (Kp (fun b => w1.heap.size ≤ b) w1 w13) := hid (by (refine Kp.grown ?_ hg13 (fun b hb => .inl (by injection hb with hb; (first | exact Nat.le_of_eq hb | exact Nat.le_of_succ_le (Nat.le_of_eq hb))))); (first | with_reducible exact k1.out | with_reducible exact k2.out | with_reducible exact k3.out)); (first | (have hl13 : Hid (Cs w13 (w1.heap.size + 1) 3 #[.int .i64 x]) := by ((refine hid ?_); (with_reducible refine grown_cs l2.out hg13 ?_); (intro h; injection h with h; simp at h))) | (have hl13 : Hid (Cs w13 w1.heap.size 3 #[.int .i64 x]) := by ((refine hid ?_); (with_reducible refine grown_cs l3.out hg13 ?_); (intro h; injection h with h; simp at h))) | skip); have D13 := hid (hbase.out _ hk13.out); have D13a := hid (hbase.out _ (hk13.out.alloc (.cells #[.int .i64 x] 3))); have hz13 := hk13.out.size; clear ho13 hg13 hv13) | ((refine step_appV rfl (.tmp 40) (.tmp 42) rfl (B := w1.heap.size) (v := v13) (zs := zs.take k) (ys := [x]) (m := 1) rfl rfl ?_ ?_ ?_ a5.out ?_); (first | with_reducible exact ho13'.out | with_reducible exact OwI.alloc_ ho13'.out _); (first | with_reducible exact ⟨_, RdI.of_cs hl13.out⟩ | with_reducible exact ⟨_, RdI.of_cs (Cs.new w13 _ _)⟩); (first | with_reducible exact hz13 | (simp; omega)); intro v14 w14 ho14 hg14 hv14; have ho14' := hid ho14; have hk14 : Hid (Kp (fun b => w1.heap.size ≤ b) w1 w14) := hid (by (refine Kp.grown ?_ hg14 (fun b hb => .inl (ho13'.out.lt b hb).1)); (first | with_reducible exact hk13.out | with_reducible exact hk13.out.alloc _)); have D14 := hid (hbase.out _ hk14.out); have hz14 := hid hk14.out.size; have hr14 : Hid (RdI w14 w1.heap.size P (m - k) (zs.drop k)) := hid (Reads.below hD.out (hbase4.out _ hk14.out)); clear ho14 hg14 hv14) | ((refine step_appV rfl (.tmp 43) (.tmp 47) rfl (B := w1.heap.size) (v := v14) (zs := zs.take k ++ [x]) (ys := zs.drop k) (A := P) (m := m - k) rfl rfl ho14'.out ⟨_, hr14.out⟩ hz14.out a6.out ?_); intro v15 w15 ho15 hg15 hv15; rw [hI.out] at ho15; obtain ⟨A15, p15, rfl, hr15⟩ := ho15.form; have hr15 := hid hr15; have hk15 : Hid (Kp (fun b => w1.heap.size ≤ b) w1 w15) := hid (Kp.grown hk14.out hg15 (fun b hb => .inl (ho14'.out.lt b hb).1)); have D15 := hid (hbase.out _ hk15.out); clear ho15 hg15 hv15) | (go_at_call 41; (refine (l23View_as hrv.out w15 hr15.out hil.out hw1).mono ?_); rintro e w16 ⟨A16, c16, rfl, ho16, hb16⟩; have ho16' := hid ho16; have D16 := hid (D15.out.trans (hb16.mono (Nat.le_trans hz34 hk15.out.size))); have B16 := hid (hBw.out.trans (((hbase4.out _ hk15.out).mono (Nat.le_of_lt (Nat.lt_of_succ_lt hz2w))).trans (hb16.mono (Nat.le_trans (Nat.le_of_lt (Nat.lt_of_succ_lt hz2w)) hk15.out.size)))); have kZ16 := hid ((kZ1.out.kp hk15.out (by omega)).step hb16); obtain ⟨z0, z1, z2, z3⟩ := kZ16.out.two; have D17 := hid ((D16.out.setCell (p := ⟨w.heap.size + 1, 0, none⟩) (Nat.le_refl _) (.int .i64 on)).setCell (p := ⟨w.heap.size + 1, 1, none⟩) (Nat.le_refl _) (.slice A16 oz.length c16)); clear hb16 ho16)))
          all_goals
            have hz15 := hk15.out.size
            have hO9 := hid ((ho16'.out.fillV kZ16.out (.int .i64 on) (.slice A16 oz.length c16)).more (show w.heap.size ≤ w15.heap.size by omega))
            obtain ⟨f1, f2⟩ := kZ16.out.fillV B16.out (by omega) (.int .i64 on) (.slice A16 oz.length c16)
            replace f2 := hid f2
            obtain ⟨y0, y1, -, -⟩ := f1.two
            clear f1 D17 D16 D15 D14 D13 D13a ho16' ho14' ho13' hk15 hk14 hk13 kZ16 B16 hr15 hr14
            go_wp2
            refine bodyPost_ret (v := .tuple #[vwV on (.slice A16 oz.length c16), .bool ok]) (by simp [results, Tryd.results15, go_sem, y0, y1]) rfl ?_
            rw [hyes.out, hrv.out]
            exact ⟨A16, c16, rfl, hO9.out, f2.out⟩
end Go.Proofs.YtppdfgifnmfioaaDoor
