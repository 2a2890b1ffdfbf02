/-
  Contracts of the model's l11Propose and GroupPropose. No condition but a clock not below 0 and lengths below 2^40.
-/
import Derived.Test.YtbnmeedmeikepaaGmU
namespace Go.Proofs.Ytbnmeedmeikepaa
open Go.RowKit
set_option linter.unusedVariables false
set_option linter.unusedSimpArgs false

theorem prA_hit {id ck m : Int} {P D : List En} {k : Nat} {x : En} (p1 : pla P m = k) (p2 : plI P m = k) (p4 : P[k]? = some x) : prA ⟨id, ck, P, D⟩ m = if x.2.2 = false then (⟨id, ck, P, D⟩, x.2.1, true) else (⟨id, ck, P, D⟩, (0, 0), false) := by
  unfold prA
  simp only
  rw [p1, p2, atE_get p4]
  by_cases h : x.2.2 = false
  · rw [if_pos ⟨by omega, h⟩, if_pos h]
  · rw [if_neg (fun h2 => h h2.2), if_pos (.inl (by omega)), if_neg h]

theorem prA_off {id ck m : Int} {P D : List En} (p2 : plI P m = -1) (h : plI D m ≥ 0 ∨ ck ≥ 999) : prA ⟨id, ck, P, D⟩ m = (⟨id, ck, P, D⟩, (0, 0), false) := by
  unfold prA
  simp only
  rw [p2, if_neg (by omega), if_pos (.inr h)]

theorem prA_new {id ck m : Int} {P D : List En} (p2 : plI P m = -1) (q2 : plI D m = -1) (h : ck < 999) : prA ⟨id, ck, P, D⟩ m = (⟨id, ck + 1, P ++ [(m, (ck + 1, id), false)], D⟩, (ck + 1, id), true) := by
  unfold prA
  simp only
  rw [p2, q2, if_neg (by omega), if_neg (by omega)]

theorem RdE.blk {w : World} {B b off n : Nat} {zs : List En} (h : RdE w B (some ⟨b, off, none⟩) n zs) (hn : 0 < n) : b < B := by
  obtain ⟨b', off', e, hb, _⟩ := h.2 hn
  injection e with e
  injection e with e1 e2
  subst e1
  exact hb

theorem Cs.kp' {S : Nat → Prop} {w w' : World} {b : Nat} {T : TypeId} {cs : Array Value} (h : Cs w b T cs) (hk : Kp S w w') (hb : ¬ S b) : Cs w' b T cs := h.kp hk hb

set_option maxRecDepth 100000 in
set_option maxHeartbeats 8000000 in
theorem l11Propose_as {n1 c1 n2 c2 : Nat} {A1 A2 : Option Addr} {P D P' D' : List En} {id ck m id' ck' t' k' : Int} {b' : Bool} (hR : prA ⟨id, ck, P, D⟩ m = (⟨id', ck', P', D'⟩, (t', k'), b')) (w : World) (hr : RdG w A1 n1 c1 A2 n2 c2 P D) (hN : n1 + 1 < 1099511627776) (hck0 : 0 ≤ ck) :
    Calls Try.prog 31 #[gpV id ck (.slice A1 n1 c1) (.slice A2 n2 c2), .int .i64 m] w (PrPost id' ck' t' k' b' P' D' w) := by
  have hX0 : Hid (PrB w (((w.alloc (.cells #[.int .i64 id, .int .i64 ck, .slice A1 n1 c1, .slice A2 n2 c2] 25)).alloc (.cells #[.int .i64 0, .int .i64 0, .slice none 0 0, .slice none 0 0] 25)).alloc (.cells #[.int .i64 0, .int .i64 0] 29)) #[.int .i64 id, .int .i64 ck, .slice A1 n1 c1, .slice A2 n2 c2]) := hid
    ⟨((Cs.new w _ _).alloc _).alloc _, (Cs.new' _ _ _ (by simp)).alloc _, Cs.new' _ _ _ (by simp), below3 w _ _ _⟩
  have hr0 := hid (hr.below hX0.out.2.2.2)
  have hl1 := hid hr.rp.len
  have hl2 := hid hr.rd.len
  have hh1 := hr.h1
  have hh2 := hr.h2
  have hR' := hid hR
  have hrw := hid hr
  clear hR hr
  go_enter Try.func31, Try.ntmps31
  go_wp2_with fail
  refine (l11Copy_any id ck _ hr0.out).mono ?_
  rintro e w3 ⟨B1, d1, B2, d2, rfl, ho3, hb3⟩
  obtain ⟨W6, hW6⟩ : ∃ W6, w3.alloc (.cells #[.int .i64 id, .int .i64 ck, .slice B1 P.length d1, .slice B2 D.length d2] 25) = W6 := ⟨_, rfl⟩
  have hb6 := below1 w3 (.cells #[.int .i64 id, .int .i64 ck, .slice B1 P.length d1, .slice B2 D.length d2] 25)
  have hE6 := hid (Cs.new w3 25 #[.int .i64 id, .int .i64 ck, .slice B1 P.length d1, .slice B2 D.length d2])
  rw [hW6] at hb6 hE6
  have hX6 := hid ((hX0.out.step hb3).step hb6)
  have hr6 := hid ((hr0.out.below hb3).below hb6)
  have hO6 := hid (show OwG W6 (w.heap.size + 1 + 1 + 1) B1 P.length d1 B2 D.length d2 P D from (ho3.below hb6).more (by simp))
  have hob : Hid (∀ b, ((Value.slice B1 P.length d1).ownBlock = some b ∨ (Value.slice B2 D.length d2).ownBlock = some b) → w.heap.size + 1 + 1 < b ∧ b < w3.heap.size) := hid (fun b h => by
    rcases h with h | h
    · have h1 := (ho3.op.lt b h).1
      simp at h1
      exact ⟨by omega, (ho3.op.lt b h).2⟩
    · have h1 := (ho3.od.lt b h).1
      simp at h1
      exact ⟨by omega, (ho3.od.lt b h).2⟩)
  have hz3 : w.heap.size + 1 + 1 < w3.heap.size := (hX0.out.step hb3).2.2.1.lt
  have hz6 : w3.heap.size < W6.heap.size := hE6.out.lt
  have hz6b : w.heap.size < W6.heap.size := by omega
  have hz6c : w.heap.size + 1 < W6.heap.size := by omega
  have hz6d : w.heap.size + 1 + 1 < W6.heap.size := by omega
  have hW6' := hid hW6
  clear hb3 ho3 hX0 hr0 hb6 hW6
  go_upto_region 2 with (fail)
  rw [hW6'.out]
  obtain ⟨q0, q1, q2, q3⟩ := hX6.out.1.four
  obtain ⟨r0, r1, r2, r3⟩ := hX6.out.2.1.four
  obtain ⟨v0, v1, v2, v3⟩ := hX6.out.2.1.free4
  obtain ⟨s0, s1, s2, s3⟩ := hX6.out.2.2.1.two
  obtain ⟨e0, e1, e2, e3⟩ := hE6.out.four
  obtain ⟨f0, f1, f2, f3⟩ := hE6.out.free4
  have hfin : ∀ (t k : Int), Hid (OwG (((((((W6.setCell ⟨w.heap.size + 1, 0, none⟩ (.int .i64 id)).setCell ⟨w.heap.size + 1, 1, none⟩ (.int .i64 ck)).setCell ⟨w.heap.size + 1, 2, none⟩ (.slice B1 P.length d1)).setCell ⟨w.heap.size + 1, 3, none⟩ (.slice B2 D.length d2)).setCell ⟨w.heap.size + 1 + 1, 0, none⟩ (.int .i64 t)).setCell ⟨w.heap.size + 1 + 1, 1, none⟩ (.int .i64 k))) w.heap.size B1 P.length d1 B2 D.length d2 P D ∧
      Below w.heap.size w (((((((W6.setCell ⟨w.heap.size + 1, 0, none⟩ (.int .i64 id)).setCell ⟨w.heap.size + 1, 1, none⟩ (.int .i64 ck)).setCell ⟨w.heap.size + 1, 2, none⟩ (.slice B1 P.length d1)).setCell ⟨w.heap.size + 1, 3, none⟩ (.slice B2 D.length d2)).setCell ⟨w.heap.size + 1 + 1, 0, none⟩ (.int .i64 t)).setCell ⟨w.heap.size + 1 + 1, 1, none⟩ (.int .i64 k)))) := fun t k => hid (by
    have hfk := ((Kp.refl (Hd w) W6).set4 (hd1 w) (.int .i64 id) (.int .i64 ck) (.slice B1 P.length d1) (.slice B2 D.length d2)).set2 (hd2 w) (.int .i64 t) (.int .i64 k)
    exact ⟨(hO6.out.kp hfk (fun b hb h => by have h8 := h.2; omega)).more (by omega), hX6.out.2.2.2.trans (hfk.base hX6.out.2.2.2.size (fun i h => h.1))⟩)
  have hfin := hid hfin
  rcases pla_cases P m with ⟨k, x, p1, p2, p3, p4, p5, _⟩ | ⟨_, p2, p3⟩
  · obtain ⟨b, off, mx, tx, kx, fx, rfl, hx, hb, c0, c1', c2', c3⟩ := hr6.out.rp.at_ (show k < n1 by rw [← hl1.out]; exact p3)
    have ex : x = (mx, (tx, kx), fx) := by have := p4.symm.trans hx.out; injection this
    have hpr := hid ((prA_hit (id := id) (ck := ck) (D := D) p1 p2 p4).symm.trans hR'.out)
    rw [ex] at hpr
    have hF := hid p2
    have k0 : (0 : Int) ≤ (k : Int) := by omega
    have k1 : (k : Int) < (n1 : Int) := by rw [← hl1.out]; omega
    have hb9 : b < w.heap.size := hrw.out.rp.blk (by omega)
    have hbn0 : w.heap.size + 1 ≠ b := by omega
    have hbn1 : w.heap.size + 1 + 1 ≠ b := by omega
    clear p1 p2 p3 p4 p5 ex
    cases fx with
    | false =>
      obtain ⟨rfl, rfl, rfl, rfl, rfl, rfl, rfl⟩ : id = id' ∧ ck = ck' ∧ P = P' ∧ D = D' ∧ tx = t' ∧ kx = k' ∧ true = b' := by
        have h7 := hpr.out
        simp only [if_true, Prod.mk.injEq, Gp.mk.injEq] at h7
        exact ⟨h7.1.1, h7.1.2.1, h7.1.2.2.1, h7.1.2.2.2, h7.2.1.1, h7.2.1.2, h7.2.2⟩
      clear hpr hx
      go_wp2_with fail
      refine (l11Find_as hF.out _ hr6.out.rp hh1).mono ?_
      rintro e w7 ⟨rfl, rfl⟩
      go_wp2_with fail
      go_region
      go_wp2
      refine bodyPost_ret (v := .tuple #[gpV id ck (.slice B1 P.length d1) (.slice B2 D.length d2), two tx kx, .bool true]) (by simp [results, Try.results31, go_sem, r0, r1, r2, r3, s0, s1]) rfl ⟨B1, d1, B2, d2, rfl, (hfin.out tx kx).out.1.drew, (hfin.out tx kx).out.2.drew⟩
    | true =>
      obtain ⟨rfl, rfl, rfl, rfl, rfl, rfl, rfl⟩ : id = id' ∧ ck = ck' ∧ P = P' ∧ D = D' ∧ 0 = t' ∧ 0 = k' ∧ false = b' := by
        have h7 := hpr.out
        simp only [Bool.true_eq_false, if_false, Prod.mk.injEq, Gp.mk.injEq] at h7
        exact ⟨h7.1.1, h7.1.2.1, h7.1.2.2.1, h7.1.2.2.2, h7.2.1.1, h7.2.1.2, h7.2.2⟩
      clear hpr hx
      go_wp2_with fail
      refine (l11Find_as hF.out _ hr6.out.rp hh1).mono ?_
      rintro e w7 ⟨rfl, rfl⟩
      go_wp2
      refine bodyPost_ret (v := .tuple #[gpV id ck (.slice B1 P.length d1) (.slice B2 D.length d2), two 0 0, .bool false]) (by simp [results, Try.results31, go_sem, r0, r1, r2, r3, s0, s1]) rfl ⟨B1, d1, B2, d2, rfl, (hfin.out 0 0).out.1, (hfin.out 0 0).out.2⟩
  · have hF := hid p2
    rcases pla_cases D m with ⟨k, x, _, y2, _, _, _, _⟩ | ⟨_, y2, y3⟩
    · obtain ⟨rfl, rfl, rfl, rfl, rfl, rfl, rfl⟩ : id = id' ∧ ck = ck' ∧ P = P' ∧ D = D' ∧ 0 = t' ∧ 0 = k' ∧ false = b' := by
        have h7 := (prA_off (id := id) (ck := ck) p2 (D := D) (.inl (by omega))).symm.trans hR'.out
        simp only [Prod.mk.injEq, Gp.mk.injEq] at h7
        exact ⟨h7.1.1, h7.1.2.1, h7.1.2.2.1, h7.1.2.2.2, h7.2.1.1, h7.2.1.2, h7.2.2⟩
      have hF2 := hid y2
      have k0 : (0 : Int) ≤ (k : Int) := by omega
      clear p2 p3 y2
      go_wp2_with fail
      refine (l11Find_as hF.out _ hr6.out.rp hh1).mono ?_
      rintro e w7 ⟨rfl, rfl⟩
      go_wp2_with fail
      refine (l11Find_as hF2.out _ hr6.out.rd hh2).mono ?_
      rintro e w7 ⟨rfl, rfl⟩
      go_wp2
      refine bodyPost_ret (v := .tuple #[gpV id ck (.slice B1 P.length d1) (.slice B2 D.length d2), two 0 0, .bool false]) (by simp [results, Try.results31, go_sem, r0, r1, r2, r3, s0, s1]) rfl ⟨B1, d1, B2, d2, rfl, (hfin.out 0 0).out.1, (hfin.out 0 0).out.2⟩
    · have hF2 := hid y2
      by_cases hc9 : ck ≥ 999
      · obtain ⟨rfl, rfl, rfl, rfl, rfl, rfl, rfl⟩ : id = id' ∧ ck = ck' ∧ P = P' ∧ D = D' ∧ 0 = t' ∧ 0 = k' ∧ false = b' := by
          have h7 := (prA_off (id := id) (ck := ck) p2 (D := D) (.inr hc9)).symm.trans hR'.out
          simp only [Prod.mk.injEq, Gp.mk.injEq] at h7
          exact ⟨h7.1.1, h7.1.2.1, h7.1.2.2.1, h7.1.2.2.2, h7.2.1.1, h7.2.1.2, h7.2.2⟩
        clear p2 p3 y2 y3
        go_wp2_with fail
        refine (l11Find_as hF.out _ hr6.out.rp hh1).mono ?_
        rintro e w7 ⟨rfl, rfl⟩
        go_wp2_with fail
        refine (l11Find_as hF2.out _ hr6.out.rd hh2).mono ?_
        rintro e w7 ⟨rfl, rfl⟩
        go_wp2
        refine bodyPost_ret (v := .tuple #[gpV id ck (.slice B1 P.length d1) (.slice B2 D.length d2), two 0 0, .bool false]) (by simp [results, Try.results31, go_sem, r0, r1, r2, r3, s0, s1]) rfl ⟨B1, d1, B2, d2, rfl, (hfin.out 0 0).out.1, (hfin.out 0 0).out.2⟩
      · obtain ⟨rfl, rfl, rfl, rfl, rfl, rfl, rfl⟩ : id = id' ∧ ck + 1 = ck' ∧ P ++ [(m, (ck + 1, id), false)] = P' ∧ D = D' ∧ ck + 1 = t' ∧ id = k' ∧ true = b' := by
          have h7 := (prA_new (id := id) (ck := ck) (P := P) (D := D) p2 y2 (by omega)).symm.trans hR'.out
          simp only [Prod.mk.injEq, Gp.mk.injEq] at h7
          exact ⟨h7.1.1, h7.1.2.1, h7.1.2.2.1, h7.1.2.2.2, h7.2.1.1, h7.2.1.2, h7.2.2⟩
        clear p2 p3 y2 y3 hfin
        -- the world ahead of the append: the clock set, the stamp laid
        have hk7 := hid (((Kp.refl (fun b => b = w3.heap.size) W6).setCell (p := ⟨w3.heap.size, 1, none⟩) (.inr rfl) (.int .i64 (ck + 1))).alloc (.cells #[.int .i64 (ck + 1), .int .i64 id] 29))
        have hX7 := hid (hX6.out.kp hk7.out (fun b hb => by omega))
        have hE7 : Hid (Cs ((W6.setCell ⟨w3.heap.size, 1, none⟩ (.int .i64 (ck + 1))).alloc (.cells #[.int .i64 (ck + 1), .int .i64 id] 29)) w3.heap.size 25 #[.int .i64 id, .int .i64 (ck + 1), .slice B1 P.length d1, .slice B2 D.length d2]) := hid ((hE6.out.set 1 _).alloc _)
        have hS7 : Hid (Cs ((W6.setCell ⟨w3.heap.size, 1, none⟩ (.int .i64 (ck + 1))).alloc (.cells #[.int .i64 (ck + 1), .int .i64 id] 29)) W6.heap.size 29 #[.int .i64 (ck + 1), .int .i64 id]) := hid (Cs.new' _ _ _ (by simp [World.setCell]))
        have hP7 := hid (hk7.out.own hO6.out.op (fun b hb hS => by have := (hob.out b (.inl hb)).2; omega))
        have hD7 := hid (hk7.out.own hO6.out.od (fun b hb hS => by have := (hob.out b (.inr hb)).2; omega))
        have hk8 := hid ((Kp.refl (fun b => (Value.slice B1 P.length d1).ownBlock = some b) ((W6.setCell ⟨w3.heap.size, 1, none⟩ (.int .i64 (ck + 1))).alloc (.cells #[.int .i64 (ck + 1), .int .i64 id] 29))).alloc (.cells #[.int .i64 m, .int .i64 (ck + 1), .int .i64 id, .bool false] 34))
        have hsz7 : ((W6.setCell ⟨w3.heap.size, 1, none⟩ (.int .i64 (ck + 1))).alloc (.cells #[.int .i64 (ck + 1), .int .i64 id] 29)).heap.size = W6.heap.size + 1 := by simp [World.setCell]
        have hlit : Hid (RdE (((W6.setCell ⟨w3.heap.size, 1, none⟩ (.int .i64 (ck + 1))).alloc (.cells #[.int .i64 (ck + 1), .int .i64 id] 29)).alloc (.cells #[.int .i64 m, .int .i64 (ck + 1), .int .i64 id, .bool false] 34)) (W6.heap.size + 1 + 1) (some ⟨W6.heap.size + 1, 0, none⟩) 1 [(m, (ck + 1, id), false)]) := hid (by
          have h := RdE.lit1 ((W6.setCell ⟨w3.heap.size, 1, none⟩ (.int .i64 (ck + 1))).alloc (.cells #[.int .i64 (ck + 1), .int .i64 id] 29)) m (ck + 1) id false
          rwa [hsz7] at h)
        have hlz : Hid (w.heap.size + 1 + 1 + 1 ≤ (((W6.setCell ⟨w3.heap.size, 1, none⟩ (.int .i64 (ck + 1))).alloc (.cells #[.int .i64 (ck + 1), .int .i64 id] 29)).alloc (.cells #[.int .i64 m, .int .i64 (ck + 1), .int .i64 id, .bool false] 34)).heap.size) := hid (by rw [World.size_alloc, hsz7]; omega)
        clear hsz7
        have hPn : Hid (P.length + 1 < 1099511627776) := hid (by rw [hl1.out]; exact hN)
        have hln : Hid ((P ++ [(m, (ck + 1, id), false)]).length = P.length + 1) := hid (by simp)
        go_wp2_with fail
        refine (l11Find_as hF.out _ hr6.out.rp hh1).mono ?_
        rintro e w7 ⟨rfl, rfl⟩
        go_wp2_with fail
        refine (l11Find_as hF2.out _ hr6.out.rd hh2).mono ?_
        rintro e w7 ⟨rfl, rfl⟩
        go_upto_region 9 with (fail)
        go_upto_region 10 with (at_builtin; refine wpList_appE2 rfl und_en (.tmp 60) (.tmp 64) rfl (B := w.heap.size + 1 + 1 + 1) (Br := W6.heap.size + 1 + 1) (v := .slice B1 P.length d1) (zs := P) (ys := [(m, (ck + 1, id), false)]) rfl rfl (hP7.out.alloc _) hlit.out hlz.out hPn.out ?_; intro v8 w8 ho8 hg8 hv8; obtain ⟨A8, c8, e8, _⟩ := ho8.form; rw [hln.out] at e8; subst e8; have hk9 := hid (hk8.out.grown hg8 (fun b hb => .inr hb)); have hX9 := hid (hX7.out.kp hk9.out (fun b hb => (hob.out b (.inl hb)).1)); have hE9 := hid (hE7.out.kp hk9.out (fun hb => by have := (hob.out _ (.inl hb)).2; omega)); have hS9 := hid (hS7.out.kp hk9.out (fun hb => by have := (hob.out _ (.inl hb)).2; omega)); have hD9 := hid (hk9.out.own hD7.out (fun b hb hS => hO6.out.ne b hS hb)); have hP9 := hid ho8; have hv9 := hid hv8; obtain ⟨e0, e1, e2, e3⟩ := hE9.out.four; have ef := hE9.out.frozen 2; clear ho8 hg8 hv8)
        have hdone := hid True.intro
        obtain ⟨q0, q1, q2, q3⟩ := hX9.out.1.four
        obtain ⟨r0, r1, r2, r3⟩ := hX9.out.2.1.four
        obtain ⟨v0, v1, v2, v3⟩ := hX9.out.2.1.free4
        obtain ⟨s0, s1, s2, s3⟩ := hX9.out.2.2.1.two
        obtain ⟨y0, y1, _, _⟩ := hS9.out.two
        have hfk := hid ((((((Kp.refl (fun b => Hd w b ∨ b = w3.heap.size) w8).setCell (p := ⟨w3.heap.size, 2, none⟩) (.inr (.inr rfl)) (.slice A8 (P.length + 1) c8)).set4 (.inl (hd1 w)) (.int .i64 id) (.int .i64 (ck + 1)) (.slice A8 (P.length + 1) c8) (.slice B2 D.length d2)).set2 (.inl (hd2 w)) (.int .i64 (ck + 1)) (.int .i64 id)).drew))
        have hfo : Hid (OwG ((((((((w8.setCell ⟨w3.heap.size, 2, none⟩ (.slice A8 (P.length + 1) c8)).setCell ⟨w.heap.size + 1, 0, none⟩ (.int .i64 id)).setCell ⟨w.heap.size + 1, 1, none⟩ (.int .i64 (ck + 1))).setCell ⟨w.heap.size + 1, 2, none⟩ (.slice A8 (P.length + 1) c8)).setCell ⟨w.heap.size + 1, 3, none⟩ (.slice B2 D.length d2)).setCell ⟨w.heap.size + 1 + 1, 0, none⟩ (.int .i64 (ck + 1))).setCell ⟨w.heap.size + 1 + 1, 1, none⟩ (.int .i64 id)).drew) w.heap.size A8 (P.length + 1) c8 B2 D.length d2 (P ++ [(m, (ck + 1, id), false)]) D) := hid (by
          have hown : ∀ b, (Value.slice A8 (P.length + 1) c8).ownBlock = some b → w.heap.size + 1 + 1 < b ∧ b ≠ w3.heap.size ∧ (Value.slice B2 D.length d2).ownBlock ≠ some b := fun b hb => by
            rcases hv9.out with h | h
            · rw [h] at hb
              have h1 := hob.out b (.inl hb)
              exact ⟨h1.1, by omega, hO6.out.ne b hb⟩
            · rw [h] at hb
              have h1 : W6.heap.size + 1 + 1 = b := by
                have : some _ = some b := hb
                injection this with this
                rw [← this]
                simp [World.setCell]
              refine ⟨by omega, by omega, fun h2 => ?_⟩
              have := (hob.out b (.inr h2)).2
              omega
          refine ⟨(hfk.out.own hP9.out (fun b hb hS => ?_)).more (by omega), (hfk.out.own hD9.out (fun b hb hS => ?_)).more (by omega), by simp, rfl, fun b h1 => (hown b h1).2.2⟩
          · have h1 := hown b hb
            rcases hS with hS | hS
            · have := hS.2; omega
            · exact h1.2.1 hS
          · have h1 := hob.out b (.inr hb)
            rcases hS with hS | hS
            · have := hS.2; omega
            · omega)
        have hfb := hid (hX9.out.2.2.2.trans (hfk.out.base hX9.out.2.2.2.size (fun i h => by
          rcases h with h | h
          · exact h.1
          · omega)))
        have hz9 := hE9.out.lt
        have hne9 : W6.heap.size ≠ w.heap.size := by omega
        have hne10 : W6.heap.size ≠ w.heap.size + 1 := by omega
        have hne11 : W6.heap.size ≠ w.heap.size + 1 + 1 := by omega
        have hne12 : w3.heap.size ≠ w.heap.size + 1 := by omega
        have hne13 : w3.heap.size ≠ w.heap.size + 1 + 1 := by omega
        have hne14 : W6.heap.size ≠ w3.heap.size := by omega
        clear hX7 hE7 hS7 hP7 hD7 hk7 hk8 hk9 hX9 hE9 hS9 hP9 hD9 hv9 hdone
        go_wp2_with fail
        go_region
        go_wp2
        refine bodyPost_ret (v := .tuple #[gpV id (ck + 1) (.slice A8 (P.length + 1) c8) (.slice B2 D.length d2), two (ck + 1) id, .bool true]) (by simp [results, Try.results31, go_sem, r0, r1, r2, r3, s0, s1]) rfl ⟨A8, c8, B2, d2, by rw [hln.out], by rw [hln.out]; exact hfo.out, hfb.out⟩
end Go.Proofs.Ytbnmeedmeikepaa
