/-
  Contract of the program's BatchFits. No condition but lengths below 2^40, and that the slices' capacities are no smaller than their lengths.
-/
import Derived.Test.YtikjcpbhleejnaaBtI
namespace Go.Proofs.Ytikjcpbhleejnaa
open Go.RowKit Go.Shelf
attribute [local go_sem] Oper.semAt_some

/-- what is known of BatchFits when k batches have been passed -/
def FitAt (zs cut : List Int) (B M : Int) (k a : Nat) : Prop := firstW cut k = (a : Int) ∧ a ≤ zs.length ∧ fitL B M (zs.drop a) (cut.drop k) = fitL B M zs cut

theorem FitAt.next {zs cut : List Int} {B M s : Int} {k a y n : Nat} (h : FitAt zs cut B M k a) (hn : zs.length = n) (h20 : n ≤ 20) (hk : k < cut.length) (hz : cut.getD k 0 = (y : Int)) (hin : inB (y : Int) 1 M = true) (hov : a + y ≤ n) (hT : tot ((zs.drop a).take y) = s) (hs : s ≤ B) : FitAt zs cut B M (k + 1) (a + y) := by
  obtain ⟨h1, h2, h3⟩ := h
  refine ⟨?_, by omega, ?_⟩
  · rw [firstW, h1, hz]; unfold wrap64; omega
  · rw [← h3, drop_cons hk hz, fitL_on hn hin hT hs hov]

/-- the boxes of BatchFits -/
def FitBox (A : Option Addr) (n c : Nat) (B M : Int) (b : Nat) (W : World) : Prop :=
  Boxed W b 23 (.slice A n c) ∧ Boxed W (b + 1) 3 (.int .i64 B) ∧ Boxed W (b + 2) 3 (.int .i64 M) ∧ Boxed W (b + 3) 4 (.bool false)

theorem FitBox.own {β : Type} (A : Option Addr) (n c : Nat) (B M : Int) (b : Nat) : Own (fun (_ : β) W => FitBox A n c B M b W) := fun s W W' row h hg hr =>
  ⟨boxed_own _ _ (fun _ => _) s W W' row h.1 hg hr, boxed_own _ _ (fun _ => _) s W W' row h.2.1 hg hr, boxed_own _ _ (fun _ => _) s W W' row h.2.2.1 hg hr, boxed_own _ _ (fun _ => _) s W W' row h.2.2.2 hg hr⟩

theorem FitBox.below {A : Option Addr} {n c : Nat} {B M : Int} {b Q : Nat} {W W' : World} (h : FitBox A n c B M b W) (hb : Below Q W W') (hQ : b + 3 < Q) : FitBox A n c B M b W' :=
  ⟨Boxed.below h.1 hb (by omega), Boxed.below h.2.1 hb (by omega), Boxed.below h.2.2.1 hb (by omega), Boxed.below h.2.2.2 hb (by omega)⟩

theorem FitBox.alloc {A : Option Addr} {n c : Nat} {B M : Int} {b : Nat} {W : World} (h : FitBox A n c B M b W) (o : Obj) : FitBox A n c B M b (W.alloc o) :=
  ⟨Boxed.alloc h.1 o, Boxed.alloc h.2.1 o, Boxed.alloc h.2.2.1 o, Boxed.alloc h.2.2.2 o⟩

theorem FitBox.other {A : Option Addr} {n c : Nat} {B M : Int} {b : Nat} {W : World} (h : FitBox A n c B M b W) (v : Value) : FitBox A n c B M b (W.setCell ⟨b + 4, 0, none⟩ v) :=
  ⟨Boxed.other h.1 (by omega) v, Boxed.other h.2.1 (by omega) v, Boxed.other h.2.2.1 (by omega) v, Boxed.other h.2.2.2 (by omega) v⟩

theorem FitBox.cells {A : Option Addr} {n c : Nat} {B M : Int} {b : Nat} {W : World} (h : FitBox A n c B M b W) :
    W.cell? ⟨b, 0, none⟩ = some (.slice A n c) ∧ W.cell? ⟨b + 1, 0, none⟩ = some (.int .i64 B) ∧ W.cell? ⟨b + 2, 0, none⟩ = some (.int .i64 M) ∧ W.cell? ⟨b + 3, 0, none⟩ = some (.bool false) ∧ W.frozen? ⟨b + 3, 0, none⟩ = false :=
  ⟨Boxed.cell h.1, Boxed.cell h.2.1, Boxed.cell h.2.2.1, Boxed.cell h.2.2.2, Boxed.frozen h.2.2.2⟩

abbrev fitTmps (A : Option Addr) (n c : Nat) (B M : Int) (A' : Option Addr) (m c' b k bx : Nat) (f z : Int) : Array Value :=
  #[.slice A n c, .int .i64 B, .int .i64 M, .slice A' m c', .pointer (some ⟨b, 0, none⟩), .pointer (some ⟨b + 1, 0, none⟩), .pointer (some ⟨b + 2, 0, none⟩), undef, .pointer (some ⟨b + 3, 0, none⟩), .pointer (some ⟨b + 4, 0, none⟩), undef, .pointer (some ⟨bx, 0, none⟩),
    .slice A n c, .int .i64 B, .int .i64 M, .bool true, .bool false, .slice A' m c', .func (.func 34) #[] #[.pointer (some ⟨b + 5, 0, none⟩)], .int .i64 k, btv f z,
    undef, undef, undef, undef, undef, undef, undef, undef, undef, undef, undef, undef, undef, undef, undef, undef, undef, undef, undef, undef, undef, undef, undef, undef]

set_option linter.unusedSimpArgs false in
set_option maxRecDepth 100000 in
set_option maxHeartbeats 8000000 in
theorem BatchFits_impl {P P' n c m c' : Nat} {A A' : Option Addr} {zs cut : List Int} (B M : Int) (w : World) (hr : RdI w P A n zs) (hP : P ≤ w.heap.size) (hn : n < 1099511627776) (hc1 : n ≤ c) (hc2 : c ≤ maxLen) (hy : RdI w P' A' m cut) (hP' : P' ≤ w.heap.size) (hm : m < 1099511627776) :
    Calls Try.prog 16 #[.slice A n c, .int .i64 B, .int .i64 M, .slice A' m c'] w fun e w' => e = .returned (.bool (fitR zs B M cut)) ∧ Below w.heap.size w w' := by
  have hl' := hid hr.len
  have hr' := hid hr
  have hly := hid hy.len
  have hy' := hid hy
  clear hr hy
  cases hv : bvB zs B M with
  | false =>
    have hv' := hid hv
    have hR := hid (fitR_no (cut := cut) hv)
    have hr2 : Hid (RdI ((((w.alloc (.cells #[.slice A n c] 23)).alloc (.cells #[.int .i64 B] 3)).alloc (.cells #[.int .i64 M] 3)).alloc (.cells #[.bool false] 4)) P A n zs) :=
      hid ((((hr'.out.alloc hP _).alloc (by simp; omega) _).alloc (by simp; omega) _).alloc (by simp; omega) _)
    clear hv
    go_enter Try.func16, Try.ntmps16
    go_wp2_with (go_at_call 22; (with_reducible refine (BatchesValid_impl _ _ _ hr2.out hn).mono ?_); rw [hv'.out]; rintro e w1 ⟨rfl, rfl⟩)
    exact bodyPost_ret (v := .bool false) (by simp [results, Try.f16, go_sem]) rfl ⟨by rw [hR.out], ((((Below.refl w.heap.size w).alloc (Nat.le_refl _) _).alloc (by simp) _).alloc (by simp; omega) _).alloc (by simp; omega) _⟩
  | true =>
    have hv' := hid hv
    have hfy := hid (fitR_yes (cut := cut) hv)
    obtain ⟨p1, p2, p3, p4, p5, p6, p7⟩ := bvB_true hv
    have hit := hid (fun z (hz : z ∈ zs) => And.intro (p1 z hz) (Int.le_trans (p2 z hz) p5))
    have h20 : n ≤ 20 := by rw [← hl'.out]; exact p3
    clear hv p1 p2 p3
    have b0 := hid (Boxed.new w 23 (.slice A n c))
    have b1 := hid (Boxed.new (w.alloc (.cells #[.slice A n c] 23)) 3 (.int .i64 B))
    have b2 := hid (Boxed.new ((w.alloc (.cells #[.slice A n c] 23)).alloc (.cells #[.int .i64 B] 3)) 3 (.int .i64 M))
    have b3 := hid (Boxed.new (((w.alloc (.cells #[.slice A n c] 23)).alloc (.cells #[.int .i64 B] 3)).alloc (.cells #[.int .i64 M] 3)) 4 (.bool false))
    have b4 := hid (Boxed.new ((((w.alloc (.cells #[.slice A n c] 23)).alloc (.cells #[.int .i64 B] 3)).alloc (.cells #[.int .i64 M] 3)).alloc (.cells #[.bool false] 4)) 3 (.int .i64 0))
    have b5 := hid (Boxed.new (((((w.alloc (.cells #[.slice A n c] 23)).alloc (.cells #[.int .i64 B] 3)).alloc (.cells #[.int .i64 M] 3)).alloc (.cells #[.bool false] 4)).alloc (.cells #[.int .i64 0] 3)) 23 (.slice A' m c'))
    have hB := hid ((((((Below.refl w.heap.size w).alloc (Nat.le_refl _) (.cells #[.slice A n c] 23)).alloc (by simp) (.cells #[.int .i64 B] 3)).alloc (by simp; omega) (.cells #[.int .i64 M] 3)).alloc (by simp; omega) (.cells #[.bool false] 4)).alloc (by simp; omega) (.cells #[.int .i64 0] 3) |> fun h => h.alloc (by simp; omega) (.cells #[.slice A' m c'] 23))
    have hr2 : Hid (RdI ((((w.alloc (.cells #[.slice A n c] 23)).alloc (.cells #[.int .i64 B] 3)).alloc (.cells #[.int .i64 M] 3)).alloc (.cells #[.bool false] 4)) P A n zs) :=
      hid ((((hr'.out.alloc hP _).alloc (by simp; omega) _).alloc (by simp; omega) _).alloc (by simp; omega) _)
    refine (callsIn_wide (n := 5)).1 ?_
    refine callsIn_of_wp_marks Try.func16 rfl trivial ?_ rfl
    simp only [Try.ntmps16, List.size_toArray, List.length_cons, List.length_nil, Nat.reduceAdd, Nat.reduceSub, Array.replicate_succ, Array.replicate_zero, List.push_toArray, List.append_toArray, List.nil_append, List.cons_append]
    gi_wp2_with (first
      | (refine ⟨trivial, ?_⟩; gi_at_call 22; refine (callsIn_wide.2 (BatchesValid_impl _ _ _ hr2.out hn)).mono ?_; rw [hv'.out]; rintro e w1 ⟨rfl, rfl⟩)
      | (refine ⟨trivial, ?_⟩; gi_at_call 26; refine (callsIn_wide.2 (batchesOf_any _ _ _ _)).mono ?_; rintro e w1 ⟨rfl, rfl⟩))
    obtain ⟨ws, hws⟩ : ∃ ws, (((((w.alloc (.cells #[.slice A n c] 23)).alloc (.cells #[.int .i64 B] 3)).alloc (.cells #[.int .i64 M] 3)).alloc (.cells #[.bool false] 4)).alloc (.cells #[.int .i64 0] 3)).alloc (.cells #[.slice A' m c'] 23) = ws := ⟨_, rfl⟩
    have hs := hid (show ws.heap.size = w.heap.size + 6 by rw [← hws]; simp)
    have d0 := hid (show FitBox A n c B M w.heap.size ws by
      rw [← hws]
      exact ⟨((((b0.out.alloc _).alloc _).alloc _).alloc _).alloc _, by simpa using (((b1.out.alloc (.cells #[.int .i64 M] 3)).alloc (.cells #[.bool false] 4)).alloc (.cells #[.int .i64 0] 3)).alloc (.cells #[.slice A' m c'] 23), by simpa using ((b2.out.alloc (.cells #[.bool false] 4)).alloc (.cells #[.int .i64 0] 3)).alloc (.cells #[.slice A' m c'] 23), by simpa using (b3.out.alloc (.cells #[.int .i64 0] 3)).alloc (.cells #[.slice A' m c'] 23)⟩)
    have d4 := hid (show Boxed ws (w.heap.size + 4) 3 (.int .i64 0) by rw [← hws]; simpa using b4.out.alloc (.cells #[.slice A' m c'] 23))
    have d5 := hid (show Boxed ws (w.heap.size + 5) 23 (.slice A' m c') by rw [← hws]; simpa using b5.out)
    have hBs := hid (show Below w.heap.size w ws by rw [← hws]; exact hB.out)
    rw [hws]
    simp only [Nat.add_assoc, Nat.reduceAdd]
    clear b0 b1 b2 b3 b4 b5 hB hws hr2
    have hrs : Hid (∀ W, Below w.heap.size w W → RdI W P A n zs) := hid (fun W hW => hr'.out.keep fun p hp => hW.cell (by omega))
    have hseq := batchesOf_seq (n0 := w.heap.size + 6) (e := w.heap.size + 4) (P0 := P') (p := w.heap.size + 5) (nn := 4) ws (by omega) (by rw [hs.out]; omega) (by omega) (by omega) (by omega) (by omega) d5.out.cell (hy'.out.keep fun p hp => hBs.out.cell (by omega)) hm
    refine wpIn_rangeN (gf := 34) (lb := #[.pointer (some ⟨w.heap.size + 5, 0, none⟩)]) (n0 := w.heap.size + 6) (e := w.heap.size + 4) rfl (enters_of Try.func34 (by kernel_rfl) rfl) hseq (by rw [hs.out]; omega) (fun _ => rfl)
      (fun k W => ((∃ a, FitAt zs cut B M k a) ∧ (FitBox A n c B M w.heap.size W ∧ Boxed W (w.heap.size + 4) 3 (.int .i64 (firstW cut k)))) ∧ (Below w.heap.size w W ∧ w.heap.size + 6 ≤ W.heap.size))
      (fun _ W => (fitR zs B M cut = false ∧ Boxed W (w.heap.size + 3) 4 (.bool false)) ∧ Below w.heap.size w W)
      (OwnFrom.and (OwnFrom.and (ownFrom_pure _ _) (OwnFrom.and (Own.from (FitBox.own _ _ _ _ _ _) _) (Own.from (boxed_own _ _ (fun k => .int .i64 (firstW cut k))) _))) (OwnFrom.and (ownFrom_below (Nat.le_refl _) (by rw [hs.out]; omega)) (ownFrom_size _ _)))
      (OwnFrom.and (OwnFrom.and (ownFrom_pure _ _) (Own.from (boxed_own _ _ _) _)) (ownFrom_below (Nat.le_refl _) (by rw [hs.out]; omega)))
      ⟨⟨⟨0, rfl, Nat.zero_le _, by simp⟩, d0.out, d4.out⟩, hBs.out, by rw [hs.out]; omega⟩
      (fun k a' W => ∃ bx, AtB W bx (firstW cut k) (cut.getD k 0) ∧ a' = { tmps := fitTmps A n c B M A' m c' w.heap.size k bx (firstW cut k) (cut.getD k 0), defers := [] })
      (fun k a' _ W W' row h hg hr => by
        obtain ⟨bx, h1, h2⟩ := h
        exact ⟨bx, h1.kept hg (fun r e => (hr r e).2), h2⟩) ?assign ?body ?done ?stop
    case assign =>
      intro k l W K hk hi hK
      obtain ⟨f, hf⟩ : ∃ f, firstW cut k = f := ⟨_, rfl⟩
      obtain ⟨z, hz⟩ : ∃ z, cut.getD k 0 = z := ⟨_, rfl⟩
      rw [hf, hz] at hK ⊢
      rw [hf] at hi
      have hi' := hid hi
      clear hi hf hz hk
      gi_wp2
      obtain ⟨⟨i1, i2, i3⟩, i4, i5⟩ := hi'.out
      refine hK _ _ ((KeepsOthers.alloc _ _).from _) ((KeepX.refl _ _ _).alloc i5 _) ⟨⟨i1, i2.alloc _, Boxed.alloc i3 _⟩, i4.alloc i4.size _, ?_⟩ ⟨_, AtB.new W f z, rfl⟩
      simp; omega
    case body =>
      rintro k l a' W hk ⟨⟨⟨a, hat⟩, i2, i3⟩, i4, i5⟩ ⟨bx, hbx, rfl⟩
      have hkl : k < cut.length := by rw [hly.out]; exact hk
      have hat' := hid hat
      obtain ⟨hf, han, hinv⟩ := hat
      obtain ⟨z, hz⟩ : ∃ z, cut.getD k 0 = z := ⟨_, rfl⟩
      rw [hf, hz] at hbx ⊢
      rw [hf] at i3
      rw [hl'.out] at han
      rw [drop_cons hkl hz] at hinv
      have hbl := hbx.lt
      have hS : Hid (∀ w', Below W.heap.size W w' → w'.cell? ⟨bx, 0, none⟩ = some (.int .i64 (a : Int)) ∧ w'.cell? ⟨bx, 1, none⟩ = some (.int .i64 z) ∧ w'.cell? ⟨w.heap.size, 0, none⟩ = some (.slice A n c) ∧ w'.cell? ⟨w.heap.size + 1, 0, none⟩ = some (.int .i64 B) ∧ w'.cell? ⟨w.heap.size + 2, 0, none⟩ = some (.int .i64 M)) :=
        hid (fun w' hb => by
          have h := (i2.below hb (by omega)).cells
          exact ⟨(hbx.below hb hbl).c0, (hbx.below hb hbl).c1, h.1, h.2.1, h.2.2.1⟩)
      have hrW : Hid (∀ w', Below W.heap.size W w' → RdI w' P A n zs) := hid (fun w' hb => hrs.out _ (i4.trans (hb.mono i4.size)))
      have hsz : Hid (∀ w', Below W.heap.size W w' → P ≤ w'.heap.size) := hid (fun w' hb => by have := hb.size; have := i4.size; omega)
      have hres : Hid (∀ w', Below W.heap.size W w' → w'.cell? ⟨w.heap.size + 3, 0, none⟩ = some (.bool false) ∧ w'.frozen? ⟨w.heap.size + 3, 0, none⟩ = false) := hid (fun w' hb => by
        have h := (i2.below hb (by omega)).cells
        exact ⟨h.2.2.2.1, h.2.2.2.2⟩)
      have hcov : Hid (∀ w', Below W.heap.size W w' → w'.cell? ⟨w.heap.size + 4, 0, none⟩ = some (.int .i64 (a : Int)) ∧ w'.frozen? ⟨w.heap.size + 4, 0, none⟩ = false) := hid (fun w' hb => by
        have h := Boxed.below i3 hb (by omega)
        exact ⟨h.cell, h.frozen⟩)
      have stop : Hid (fitR zs B M cut = false → ∀ w', Below W.heap.size W w' → KeepsFrom ws.heap.size W (w'.setCell ⟨w.heap.size + 3, 0, none⟩ (.bool false)) ∧ (fitR zs B M cut = false ∧ Boxed (w'.setCell ⟨w.heap.size + 3, 0, none⟩ (.bool false)) (w.heap.size + 3) 4 (.bool false)) ∧ Below w.heap.size w (w'.setCell ⟨w.heap.size + 3, 0, none⟩ (.bool false))) := hid (fun h w' hb =>
        ⟨(KeepsFrom.of_below hb).trans ((KeepsOthers.setCell _ _ _).from _), ⟨h, Boxed.set _ (i2.below hb (by omega)).2.2.2⟩, (i4.trans (hb.mono i4.size)).setCell (p := ⟨w.heap.size + 3, 0, none⟩) (by simp) _⟩)
      have i2' := hid i2
      have i3' := hid i3
      have i4' := hid i4
      have hf' := hid hf
      have hinv' := hid hinv
      have hz' := hid hz
      have hkl' := hid hkl
      clear hbx i2 i3 i4 hf hinv hz hkl
      by_cases hin : inB z 1 M = false
      · have hbad := hid (show fitR zs B M cut = false by rw [hfy.out, ← hinv'.out, fitL_off hin])
        have hin' := hid hin
        clear hin
        gi_wp2
        refine wpIn_region_held (S := fun w' => w'.cell? ⟨bx, 0, none⟩ = some (.int .i64 (a : Int)) ∧ w'.cell? ⟨bx, 1, none⟩ = some (.int .i64 z) ∧ w'.cell? ⟨w.heap.size, 0, none⟩ = some (.slice A n c) ∧ w'.cell? ⟨w.heap.size + 1, 0, none⟩ = some (.int .i64 B) ∧ w'.cell? ⟨w.heap.size + 2, 0, none⟩ = some (.int .i64 M)) (by rintro ⟨_, _, h⟩; exact h) (by kernel_rfl) (by kernel_rfl) (hS.out _ (Below.refl W.heap.size W).drew) (fun hHeld => ?_)
        refine wpAnyH_take (i := 0) (oi := _) (v := ?vA0) rfl (by kernel_rfl) (by kernel_rfl) (by kernel_rfl) (fun _ _ _ h => h) (Or.inl ⟨by kernel_rfl, ?hA0⟩) (by assumption) ?rA0
        case hA0 => ((intro w hSw; (try dsimp only at hSw); go_simp) <;> (with_reducible rfl))
        try simp only [List.getElem_toArray, List.getElem_cons_zero, List.getElem_cons_succ, Act.put, List.setIfInBounds_toArray, List.set_cons_zero, List.set_cons_succ]
        refine wpAnyH_take (i := 1) (oi := _) (v := ?vA1) rfl (by kernel_rfl) (by kernel_rfl) (by kernel_rfl) (fun _ _ _ h => h) (Or.inl ⟨by kernel_rfl, ?hA1⟩) (by assumption) ?rA1
        case hA1 => ((intro w hSw; (try dsimp only at hSw); go_simp) <;> (with_reducible rfl))
        try simp only [List.getElem_toArray, List.getElem_cons_zero, List.getElem_cons_succ, Act.put, List.setIfInBounds_toArray, List.set_cons_zero, List.set_cons_succ]
        refine wpAnyH_ready (rs := [2]) (by kernel_rfl) (by simp) ?_
        refine AllReadyH.cons (o := _) rfl (fun K hK => ?_) AllReadyH.nil
        go_simp
        go_at_call 27
        refine (counts_any _ _ _ _).mono ?_
        rw [hin'.out]
        rintro e w1 ⟨rfl, hb1⟩
        have B1 := hid ((Below.refl W.heap.size W).drew.trans hb1)
        clear hb1
        go_wp2_with fail
        refine hK.out _ _ ?_ (fun hHeld2 => ?_)
        · exact hS.out _ B1.out
        clear hK K
        try simp only [List.getElem_toArray, List.getElem_cons_zero, List.getElem_cons_succ, Act.put, List.setIfInBounds_toArray, List.set_cons_zero, List.set_cons_succ]
        refine wpAnyH_take (i := 3) (oi := _) (v := ?vA3) rfl (by kernel_rfl) (by kernel_rfl) (by kernel_rfl) (fun _ _ _ h => h) (Or.inl ⟨by kernel_rfl, ?hA3⟩) (by assumption) ?rA3
        case hA3 => ((intro w hSw; (try dsimp only at hSw); go_simp) <;> (with_reducible rfl))
        try simp only [List.getElem_toArray, List.getElem_cons_zero, List.getElem_cons_succ, Act.put, List.setIfInBounds_toArray, List.set_cons_zero, List.set_cons_succ]
        refine wpAnyH_take (i := 4) (oi := _) (v := ?vA4) rfl (by kernel_rfl) (by kernel_rfl) (by kernel_rfl) (fun _ _ _ h => h) (Or.inl ⟨by kernel_rfl, ?hA4⟩) (by assumption) ?rA4
        case hA4 => ((intro w hSw; (try dsimp only at hSw); go_simp) <;> (with_reducible rfl))
        try simp only [List.getElem_toArray, List.getElem_cons_zero, List.getElem_cons_succ, Act.put, List.setIfInBounds_toArray, List.set_cons_zero, List.set_cons_succ]
        refine wpAnyH_take (i := 5) (oi := _) (v := undef) rfl (by kernel_rfl) (by kernel_rfl) (by kernel_rfl) (fun _ _ _ h => h) (Or.inr ⟨by kernel_rfl, rfl⟩) (by assumption) ?_
        try simp only [List.getElem_toArray, List.getElem_cons_zero, List.getElem_cons_succ, Act.put, List.setIfInBounds_toArray, List.set_cons_zero, List.set_cons_succ]
        refine wpAnyH_take (i := 6) (oi := _) (v := undef) rfl (by kernel_rfl) (by kernel_rfl) (by kernel_rfl) (fun _ _ _ h => h) (Or.inr ⟨by kernel_rfl, rfl⟩) (by assumption) ?_
        try simp only [List.getElem_toArray, List.getElem_cons_zero, List.getElem_cons_succ, Act.put, List.setIfInBounds_toArray, List.set_cons_zero, List.set_cons_succ]
        refine wpAnyH_take (i := 7) (oi := _) (v := undef) rfl (by kernel_rfl) (by kernel_rfl) (by kernel_rfl) (fun _ _ _ h => h) (Or.inr ⟨by kernel_rfl, rfl⟩) (by assumption) ?_
        try simp only [List.getElem_toArray, List.getElem_cons_zero, List.getElem_cons_succ, Act.put, List.setIfInBounds_toArray, List.set_cons_zero, List.set_cons_succ]
        refine wpAnyH_take (i := 8) (oi := _) (v := undef) rfl (by kernel_rfl) (by kernel_rfl) (by kernel_rfl) (fun _ _ _ h => h) (Or.inr ⟨by kernel_rfl, rfl⟩) (by assumption) ?_
        try simp only [List.getElem_toArray, List.getElem_cons_zero, List.getElem_cons_succ, Act.put, List.setIfInBounds_toArray, List.set_cons_zero, List.set_cons_succ]
        refine wpAnyH_take (i := 9) (oi := _) (v := undef) rfl (by kernel_rfl) (by kernel_rfl) (by kernel_rfl) (fun _ _ _ h => h) (Or.inr ⟨by kernel_rfl, rfl⟩) (by assumption) ?_
        try simp only [List.getElem_toArray, List.getElem_cons_zero, List.getElem_cons_succ, Act.put, List.setIfInBounds_toArray, List.set_cons_zero, List.set_cons_succ]
        refine wpAnyH_take (i := 10) (oi := _) (v := ?vA10) rfl (by kernel_rfl) (by kernel_rfl) (by kernel_rfl) (fun _ _ _ h => h) (Or.inl ⟨by kernel_rfl, ?hA10⟩) (by assumption) ?rA10
        case hA10 => ((intro w hSw; (try dsimp only at hSw); go_simp) <;> (with_reducible rfl))
        try simp only [List.getElem_toArray, List.getElem_cons_zero, List.getElem_cons_succ, Act.put, List.setIfInBounds_toArray, List.set_cons_zero, List.set_cons_succ]
        refine wpAnyH_take (i := 11) (oi := _) (v := ?vA11) rfl (by kernel_rfl) (by kernel_rfl) (by kernel_rfl) (fun _ _ _ h => h) (Or.inl ⟨by kernel_rfl, ?hA11⟩) (by assumption) ?rA11
        case hA11 => ((intro w hSw; (try dsimp only at hSw); go_simp) <;> (with_reducible rfl))
        try simp only [List.getElem_toArray, List.getElem_cons_zero, List.getElem_cons_succ, Act.put, List.setIfInBounds_toArray, List.set_cons_zero, List.set_cons_succ]
        refine wpAnyH_take (i := 12) (oi := _) (v := undef) rfl (by kernel_rfl) (by kernel_rfl) (by kernel_rfl) (fun _ _ _ h => h) (Or.inr ⟨by kernel_rfl, rfl⟩) (by assumption) ?_
        try simp only [List.getElem_toArray, List.getElem_cons_zero, List.getElem_cons_succ, Act.put, List.setIfInBounds_toArray, List.set_cons_zero, List.set_cons_succ]
        refine wpAnyH_take (i := 13) (oi := _) (v := undef) rfl (by kernel_rfl) (by kernel_rfl) (by kernel_rfl) (fun _ _ _ h => h) (Or.inr ⟨by kernel_rfl, rfl⟩) (by assumption) ?_
        try simp only [List.getElem_toArray, List.getElem_cons_zero, List.getElem_cons_succ, Act.put, List.setIfInBounds_toArray, List.set_cons_zero, List.set_cons_succ]
        refine wpAnyH_take (i := 14) (oi := _) (v := undef) rfl (by kernel_rfl) (by kernel_rfl) (by kernel_rfl) (fun _ _ _ h => h) (Or.inr ⟨by kernel_rfl, rfl⟩) (by assumption) ?_
        try simp only [List.getElem_toArray, List.getElem_cons_zero, List.getElem_cons_succ, Act.put, List.setIfInBounds_toArray, List.set_cons_zero, List.set_cons_succ]
        refine wpAnyH_take (i := 15) (oi := _) (v := undef) rfl (by kernel_rfl) (by kernel_rfl) (by kernel_rfl) (fun _ _ _ h => h) (Or.inr ⟨by kernel_rfl, rfl⟩) (by assumption) ?_
        try simp only [List.getElem_toArray, List.getElem_cons_zero, List.getElem_cons_succ, Act.put, List.setIfInBounds_toArray, List.set_cons_zero, List.set_cons_succ]
        refine wpAnyH_take (i := 16) (oi := _) (v := undef) rfl (by kernel_rfl) (by kernel_rfl) (by kernel_rfl) (fun _ _ _ h => h) (Or.inr ⟨by kernel_rfl, rfl⟩) (by assumption) ?_
        try simp only [List.getElem_toArray, List.getElem_cons_zero, List.getElem_cons_succ, Act.put, List.setIfInBounds_toArray, List.set_cons_zero, List.set_cons_succ]
        refine wpAnyH_take (i := 17) (oi := _) (v := ?vA17) rfl (by kernel_rfl) (by kernel_rfl) (by kernel_rfl) (fun _ _ _ h => h) (Or.inl ⟨by kernel_rfl, ?hA17⟩) (by assumption) ?rA17
        case hA17 => ((intro w hSw; (try dsimp only at hSw); go_simp) <;> (with_reducible rfl))
        try simp only [List.getElem_toArray, List.getElem_cons_zero, List.getElem_cons_succ, Act.put, List.setIfInBounds_toArray, List.set_cons_zero, List.set_cons_succ]
        refine wpAnyH_done (by kernel_rfl) ?_ _
        obtain ⟨r1, r2⟩ := hres.out _ B1.out
        gi_wp2
        exact stop.out hbad.out _ B1.out
      · have hin : inB z 1 M = true := by simpa using hin
        obtain ⟨z1, z2⟩ := inB_true.1 hin
        obtain ⟨y, rfl⟩ := Int.eq_ofNat_of_zero_le (show 0 ≤ z by omega)
        have hin' := hid hin
        clear hin
        by_cases hov : a + y ≤ n
        · obtain ⟨s, hT⟩ : ∃ s, tot ((zs.drop a).take y) = s := ⟨_, rfl⟩
          have hT' := hid hT
          clear hT
          by_cases hs2 : B < s
          · have hbad := hid (show fitR zs B M cut = false by rw [hfy.out, ← hinv'.out, fitL_heavy hT'.out hs2])
            have q1 : decide ((n : Int) < (a : Int) + (y : Int)) = false := by simp; omega
            have q2 : decide (B < s) = true := by simpa using hs2
            gi_wp2
            refine wpIn_region_held (S := fun w' => w'.cell? ⟨bx, 0, none⟩ = some (.int .i64 (a : Int)) ∧ w'.cell? ⟨bx, 1, none⟩ = some (.int .i64 (y : Int)) ∧ w'.cell? ⟨w.heap.size, 0, none⟩ = some (.slice A n c) ∧ w'.cell? ⟨w.heap.size + 1, 0, none⟩ = some (.int .i64 B) ∧ w'.cell? ⟨w.heap.size + 2, 0, none⟩ = some (.int .i64 M)) (by rintro ⟨_, _, h⟩; exact h) (by kernel_rfl) (by kernel_rfl) (hS.out _ (Below.refl W.heap.size W).drew) (fun hHeld => ?_)
            refine wpAnyH_take (i := 0) (oi := _) (v := ?vC0) rfl (by kernel_rfl) (by kernel_rfl) (by kernel_rfl) (fun _ _ _ h => h) (Or.inl ⟨by kernel_rfl, ?hC0⟩) (by assumption) ?rC0
            case hC0 => ((intro w hSw; (try dsimp only at hSw); go_simp) <;> (with_reducible rfl))
            try simp only [List.getElem_toArray, List.getElem_cons_zero, List.getElem_cons_succ, Act.put, List.setIfInBounds_toArray, List.set_cons_zero, List.set_cons_succ]
            refine wpAnyH_take (i := 1) (oi := _) (v := ?vC1) rfl (by kernel_rfl) (by kernel_rfl) (by kernel_rfl) (fun _ _ _ h => h) (Or.inl ⟨by kernel_rfl, ?hC1⟩) (by assumption) ?rC1
            case hC1 => ((intro w hSw; (try dsimp only at hSw); go_simp) <;> (with_reducible rfl))
            try simp only [List.getElem_toArray, List.getElem_cons_zero, List.getElem_cons_succ, Act.put, List.setIfInBounds_toArray, List.set_cons_zero, List.set_cons_succ]
            refine wpAnyH_ready (rs := [2]) (by kernel_rfl) (by simp) ?_
            refine AllReadyH.cons (o := _) rfl (fun K hK => ?_) AllReadyH.nil
            go_simp
            go_at_call 27
            refine (counts_any _ _ _ _).mono ?_
            rw [hin'.out]
            rintro e w1 ⟨rfl, hb1⟩
            have B1 := hid ((Below.refl W.heap.size W).drew.trans hb1)
            clear hb1
            go_wp2_with fail
            refine hK.out _ _ ?_ (fun hHeld2 => ?_)
            · exact hS.out _ B1.out
            clear hK K
            try simp only [List.getElem_toArray, List.getElem_cons_zero, List.getElem_cons_succ, Act.put, List.setIfInBounds_toArray, List.set_cons_zero, List.set_cons_succ]
            refine wpAnyH_take (i := 3) (oi := _) (v := ?vC3) rfl (by kernel_rfl) (by kernel_rfl) (by kernel_rfl) (fun _ _ _ h => h) (Or.inl ⟨by kernel_rfl, ?hC3⟩) (by assumption) ?rC3
            case hC3 => ((intro w hSw; (try dsimp only at hSw); go_simp) <;> (with_reducible rfl))
            try simp only [List.getElem_toArray, List.getElem_cons_zero, List.getElem_cons_succ, Act.put, List.setIfInBounds_toArray, List.set_cons_zero, List.set_cons_succ]
            refine wpAnyH_take (i := 4) (oi := _) (v := ?vC4) rfl (by kernel_rfl) (by kernel_rfl) (by kernel_rfl) (fun _ _ _ h => h) (Or.inl ⟨by kernel_rfl, ?hC4⟩) (by assumption) ?rC4
            case hC4 => ((intro w hSw; (try dsimp only at hSw); go_simp) <;> (with_reducible rfl))
            try simp only [List.getElem_toArray, List.getElem_cons_zero, List.getElem_cons_succ, Act.put, List.setIfInBounds_toArray, List.set_cons_zero, List.set_cons_succ]
            refine wpAnyH_take (i := 5) (oi := _) (v := ?vC5) rfl (by kernel_rfl) (by kernel_rfl) (by kernel_rfl) (fun _ _ _ h => h) (Or.inl ⟨by kernel_rfl, ?hC5⟩) (by assumption) ?rC5
            case hC5 => ((intro w hSw; (try dsimp only at hSw); go_simp) <;> (with_reducible rfl))
            try simp only [List.getElem_toArray, List.getElem_cons_zero, List.getElem_cons_succ, Act.put, List.setIfInBounds_toArray, List.set_cons_zero, List.set_cons_succ]
            refine wpAnyH_take (i := 7) (oi := _) (v := ?vC7) rfl (by kernel_rfl) (by kernel_rfl) (by kernel_rfl) (fun _ _ _ h => h) (Or.inl ⟨by kernel_rfl, ?hC7⟩) (by assumption) ?rC7
            case hC7 => ((intro w hSw; (try dsimp only at hSw); go_simp) <;> (with_reducible rfl))
            try simp only [List.getElem_toArray, List.getElem_cons_zero, List.getElem_cons_succ, Act.put, List.setIfInBounds_toArray, List.set_cons_zero, List.set_cons_succ]
            refine wpAnyH_take (i := 8) (oi := _) (v := ?vC8) rfl (by kernel_rfl) (by kernel_rfl) (by kernel_rfl) (fun _ _ _ h => h) (Or.inl ⟨by kernel_rfl, ?hC8⟩) (by assumption) ?rC8
            case hC8 => ((intro w hSw; (try dsimp only at hSw); go_simp) <;> (with_reducible rfl))
            try simp only [List.getElem_toArray, List.getElem_cons_zero, List.getElem_cons_succ, Act.put, List.setIfInBounds_toArray, List.set_cons_zero, List.set_cons_succ]
            refine wpAnyH_ready (rs := [6]) (by kernel_rfl) (by simp) ?_
            refine AllReadyH.cons (o := _) rfl (fun K hK => ?_) AllReadyH.nil
            go_simp
            go_at_call 28
            refine (end_any _ _ (by omega) (by omega) _).mono ?_
            rintro e w2 ⟨rfl, hb2⟩
            have B2 := hid (B1.out.trans (hb2.mono B1.out.size))
            clear hb2
            go_wp2_with fail
            refine hK.out _ _ ?_ (fun hHeld6 => ?_)
            · exact hS.out _ B2.out
            clear hK K
            try simp only [List.getElem_toArray, List.getElem_cons_zero, List.getElem_cons_succ, Act.put, List.setIfInBounds_toArray, List.set_cons_zero, List.set_cons_succ]
            refine wpAnyH_take (i := 9) (oi := _) (v := ?vC9) rfl (by kernel_rfl) (by kernel_rfl) (by kernel_rfl) (fun _ _ _ h => h) (Or.inl ⟨by kernel_rfl, ?hC9⟩) (by assumption) ?rC9
            case hC9 => ((intro w hSw; (try dsimp only at hSw); go_simp) <;> (with_reducible rfl))
            try simp only [List.getElem_toArray, List.getElem_cons_zero, List.getElem_cons_succ, Act.put, List.setIfInBounds_toArray, List.set_cons_zero, List.set_cons_succ]
            refine wpAnyH_take (i := 10) (oi := _) (v := ?vC10) rfl (by kernel_rfl) (by kernel_rfl) (by kernel_rfl) (fun _ _ _ h => h) (Or.inl ⟨by kernel_rfl, ?hC10⟩) (by assumption) ?rC10
            case hC10 => ((intro w hSw; (try dsimp only at hSw); go_simp) <;> (with_reducible rfl))
            try simp only [List.getElem_toArray, List.getElem_cons_zero, List.getElem_cons_succ, Act.put, List.setIfInBounds_toArray, List.set_cons_zero, List.set_cons_succ]
            refine wpAnyH_take (i := 11) (oi := _) (v := ?vC11) rfl (by kernel_rfl) (by kernel_rfl) (by kernel_rfl) (fun _ _ _ h => h) (Or.inl ⟨by kernel_rfl, ?hC11⟩) (by assumption) ?rC11
            case hC11 => ((intro w hSw; (try dsimp only at hSw); go_simp) <;> (with_reducible rfl))
            try simp only [List.getElem_toArray, List.getElem_cons_zero, List.getElem_cons_succ, Act.put, List.setIfInBounds_toArray, List.set_cons_zero, List.set_cons_succ]
            refine wpAnyH_take (i := 12) (oi := _) (v := ?vC12) rfl (by kernel_rfl) (by kernel_rfl) (by kernel_rfl) (fun _ _ _ h => h) (Or.inl ⟨by kernel_rfl, ?hC12⟩) (by assumption) ?rC12
            case hC12 => ((intro w hSw; (try dsimp only at hSw); go_simp) <;> (with_reducible rfl))
            try simp only [List.getElem_toArray, List.getElem_cons_zero, List.getElem_cons_succ, Act.put, List.setIfInBounds_toArray, List.set_cons_zero, List.set_cons_succ]
            refine wpAnyH_take (i := 13) (oi := _) (v := ?vC13) rfl (by kernel_rfl) (by kernel_rfl) (by kernel_rfl) (fun _ _ _ h => h) (Or.inl ⟨by kernel_rfl, ?hC13⟩) (by assumption) ?rC13
            case hC13 => ((intro w hSw; (try dsimp only at hSw); go_simp) <;> (with_reducible rfl))
            try simp only [List.getElem_toArray, List.getElem_cons_zero, List.getElem_cons_succ, Act.put, List.setIfInBounds_toArray, List.set_cons_zero, List.set_cons_succ]
            refine wpAnyH_take (i := 15) (oi := _) (v := ?vC15) rfl (by kernel_rfl) (by kernel_rfl) (by kernel_rfl) (fun _ _ _ h => h) (Or.inl ⟨by kernel_rfl, ?hC15⟩) (by assumption) ?rC15
            case hC15 => ((intro w hSw; (try dsimp only at hSw); go_simp) <;> (with_reducible rfl))
            try simp only [List.getElem_toArray, List.getElem_cons_zero, List.getElem_cons_succ, Act.put, List.setIfInBounds_toArray, List.set_cons_zero, List.set_cons_succ]
            refine wpAnyH_ready (rs := [14]) (by kernel_rfl) (by simp) ?_
            refine AllReadyH.cons (o := _) rfl (fun K hK => ?_) AllReadyH.nil
            go_simp
            go_at_call 29
            refine (size_any _ (hrW.out _ B2.out) (hsz.out _ B2.out) h20 hc1 hc2 (by omega) hov hit.out).mono ?_
            rw [hT'.out]
            rintro e w3 ⟨rfl, hb3⟩
            have B3 := hid (B2.out.trans (hb3.mono B2.out.size))
            clear hb3
            go_wp2_with fail
            refine hK.out _ _ ?_ (fun hHeld14 => ?_)
            · exact hS.out _ B3.out
            clear hK K
            try simp only [List.getElem_toArray, List.getElem_cons_zero, List.getElem_cons_succ, Act.put, List.setIfInBounds_toArray, List.set_cons_zero, List.set_cons_succ]
            refine wpAnyH_take (i := 16) (oi := _) (v := ?vC16) rfl (by kernel_rfl) (by kernel_rfl) (by kernel_rfl) (fun _ _ _ h => h) (Or.inl ⟨by kernel_rfl, ?hC16⟩) (by assumption) ?rC16
            case hC16 => ((intro w hSw; (try dsimp only at hSw); go_simp) <;> (with_reducible rfl))
            try simp only [List.getElem_toArray, List.getElem_cons_zero, List.getElem_cons_succ, Act.put, List.setIfInBounds_toArray, List.set_cons_zero, List.set_cons_succ]
            refine wpAnyH_take (i := 17) (oi := _) (v := ?vC17) rfl (by kernel_rfl) (by kernel_rfl) (by kernel_rfl) (fun _ _ _ h => h) (Or.inl ⟨by kernel_rfl, ?hC17⟩) (by assumption) ?rC17
            case hC17 => ((intro w hSw; (try dsimp only at hSw); go_simp) <;> (with_reducible rfl))
            try simp only [List.getElem_toArray, List.getElem_cons_zero, List.getElem_cons_succ, Act.put, List.setIfInBounds_toArray, List.set_cons_zero, List.set_cons_succ]
            refine wpAnyH_done (by kernel_rfl) ?_ _
            obtain ⟨r1, r2⟩ := hres.out _ B3.out
            gi_wp2
            exact stop.out hbad.out _ B3.out
          · have hnext := hid (hat'.out.next hl'.out h20 hkl'.out hz'.out hin'.out hov hT'.out (by omega))
            have q1 : decide ((n : Int) < (a : Int) + (y : Int)) = false := by simp; omega
            have q2 : decide (B < s) = false := by simpa using hs2
            gi_wp2
            refine wpIn_region_held (S := fun w' => w'.cell? ⟨bx, 0, none⟩ = some (.int .i64 (a : Int)) ∧ w'.cell? ⟨bx, 1, none⟩ = some (.int .i64 (y : Int)) ∧ w'.cell? ⟨w.heap.size, 0, none⟩ = some (.slice A n c) ∧ w'.cell? ⟨w.heap.size + 1, 0, none⟩ = some (.int .i64 B) ∧ w'.cell? ⟨w.heap.size + 2, 0, none⟩ = some (.int .i64 M)) (by rintro ⟨_, _, h⟩; exact h) (by kernel_rfl) (by kernel_rfl) (hS.out _ (Below.refl W.heap.size W).drew) (fun hHeld => ?_)
            refine wpAnyH_take (i := 0) (oi := _) (v := ?vD0) rfl (by kernel_rfl) (by kernel_rfl) (by kernel_rfl) (fun _ _ _ h => h) (Or.inl ⟨by kernel_rfl, ?hD0⟩) (by assumption) ?rD0
            case hD0 => ((intro w hSw; (try dsimp only at hSw); go_simp) <;> (with_reducible rfl))
            try simp only [List.getElem_toArray, List.getElem_cons_zero, List.getElem_cons_succ, Act.put, List.setIfInBounds_toArray, List.set_cons_zero, List.set_cons_succ]
            refine wpAnyH_take (i := 1) (oi := _) (v := ?vD1) rfl (by kernel_rfl) (by kernel_rfl) (by kernel_rfl) (fun _ _ _ h => h) (Or.inl ⟨by kernel_rfl, ?hD1⟩) (by assumption) ?rD1
            case hD1 => ((intro w hSw; (try dsimp only at hSw); go_simp) <;> (with_reducible rfl))
            try simp only [List.getElem_toArray, List.getElem_cons_zero, List.getElem_cons_succ, Act.put, List.setIfInBounds_toArray, List.set_cons_zero, List.set_cons_succ]
            refine wpAnyH_ready (rs := [2]) (by kernel_rfl) (by simp) ?_
            refine AllReadyH.cons (o := _) rfl (fun K hK => ?_) AllReadyH.nil
            go_simp
            go_at_call 27
            refine (counts_any _ _ _ _).mono ?_
            rw [hin'.out]
            rintro e w1 ⟨rfl, hb1⟩
            have B1 := hid ((Below.refl W.heap.size W).drew.trans hb1)
            clear hb1
            go_wp2_with fail
            refine hK.out _ _ ?_ (fun hHeld2 => ?_)
            · exact hS.out _ B1.out
            clear hK K
            try simp only [List.getElem_toArray, List.getElem_cons_zero, List.getElem_cons_succ, Act.put, List.setIfInBounds_toArray, List.set_cons_zero, List.set_cons_succ]
            refine wpAnyH_take (i := 3) (oi := _) (v := ?vD3) rfl (by kernel_rfl) (by kernel_rfl) (by kernel_rfl) (fun _ _ _ h => h) (Or.inl ⟨by kernel_rfl, ?hD3⟩) (by assumption) ?rD3
            case hD3 => ((intro w hSw; (try dsimp only at hSw); go_simp) <;> (with_reducible rfl))
            try simp only [List.getElem_toArray, List.getElem_cons_zero, List.getElem_cons_succ, Act.put, List.setIfInBounds_toArray, List.set_cons_zero, List.set_cons_succ]
            refine wpAnyH_take (i := 4) (oi := _) (v := ?vD4) rfl (by kernel_rfl) (by kernel_rfl) (by kernel_rfl) (fun _ _ _ h => h) (Or.inl ⟨by kernel_rfl, ?hD4⟩) (by assumption) ?rD4
            case hD4 => ((intro w hSw; (try dsimp only at hSw); go_simp) <;> (with_reducible rfl))
            try simp only [List.getElem_toArray, List.getElem_cons_zero, List.getElem_cons_succ, Act.put, List.setIfInBounds_toArray, List.set_cons_zero, List.set_cons_succ]
            refine wpAnyH_take (i := 5) (oi := _) (v := ?vD5) rfl (by kernel_rfl) (by kernel_rfl) (by kernel_rfl) (fun _ _ _ h => h) (Or.inl ⟨by kernel_rfl, ?hD5⟩) (by assumption) ?rD5
            case hD5 => ((intro w hSw; (try dsimp only at hSw); go_simp) <;> (with_reducible rfl))
            try simp only [List.getElem_toArray, List.getElem_cons_zero, List.getElem_cons_succ, Act.put, List.setIfInBounds_toArray, List.set_cons_zero, List.set_cons_succ]
            refine wpAnyH_take (i := 7) (oi := _) (v := ?vD7) rfl (by kernel_rfl) (by kernel_rfl) (by kernel_rfl) (fun _ _ _ h => h) (Or.inl ⟨by kernel_rfl, ?hD7⟩) (by assumption) ?rD7
            case hD7 => ((intro w hSw; (try dsimp only at hSw); go_simp) <;> (with_reducible rfl))
            try simp only [List.getElem_toArray, List.getElem_cons_zero, List.getElem_cons_succ, Act.put, List.setIfInBounds_toArray, List.set_cons_zero, List.set_cons_succ]
            refine wpAnyH_take (i := 8) (oi := _) (v := ?vD8) rfl (by kernel_rfl) (by kernel_rfl) (by kernel_rfl) (fun _ _ _ h => h) (Or.inl ⟨by kernel_rfl, ?hD8⟩) (by assumption) ?rD8
            case hD8 => ((intro w hSw; (try dsimp only at hSw); go_simp) <;> (with_reducible rfl))
            try simp only [List.getElem_toArray, List.getElem_cons_zero, List.getElem_cons_succ, Act.put, List.setIfInBounds_toArray, List.set_cons_zero, List.set_cons_succ]
            refine wpAnyH_ready (rs := [6]) (by kernel_rfl) (by simp) ?_
            refine AllReadyH.cons (o := _) rfl (fun K hK => ?_) AllReadyH.nil
            go_simp
            go_at_call 28
            refine (end_any _ _ (by omega) (by omega) _).mono ?_
            rintro e w2 ⟨rfl, hb2⟩
            have B2 := hid (B1.out.trans (hb2.mono B1.out.size))
            clear hb2
            go_wp2_with fail
            refine hK.out _ _ ?_ (fun hHeld6 => ?_)
            · exact hS.out _ B2.out
            clear hK K
            try simp only [List.getElem_toArray, List.getElem_cons_zero, List.getElem_cons_succ, Act.put, List.setIfInBounds_toArray, List.set_cons_zero, List.set_cons_succ]
            refine wpAnyH_take (i := 9) (oi := _) (v := ?vD9) rfl (by kernel_rfl) (by kernel_rfl) (by kernel_rfl) (fun _ _ _ h => h) (Or.inl ⟨by kernel_rfl, ?hD9⟩) (by assumption) ?rD9
            case hD9 => ((intro w hSw; (try dsimp only at hSw); go_simp) <;> (with_reducible rfl))
            try simp only [List.getElem_toArray, List.getElem_cons_zero, List.getElem_cons_succ, Act.put, List.setIfInBounds_toArray, List.set_cons_zero, List.set_cons_succ]
            refine wpAnyH_take (i := 10) (oi := _) (v := ?vD10) rfl (by kernel_rfl) (by kernel_rfl) (by kernel_rfl) (fun _ _ _ h => h) (Or.inl ⟨by kernel_rfl, ?hD10⟩) (by assumption) ?rD10
            case hD10 => ((intro w hSw; (try dsimp only at hSw); go_simp) <;> (with_reducible rfl))
            try simp only [List.getElem_toArray, List.getElem_cons_zero, List.getElem_cons_succ, Act.put, List.setIfInBounds_toArray, List.set_cons_zero, List.set_cons_succ]
            refine wpAnyH_take (i := 11) (oi := _) (v := ?vD11) rfl (by kernel_rfl) (by kernel_rfl) (by kernel_rfl) (fun _ _ _ h => h) (Or.inl ⟨by kernel_rfl, ?hD11⟩) (by assumption) ?rD11
            case hD11 => ((intro w hSw; (try dsimp only at hSw); go_simp) <;> (with_reducible rfl))
            try simp only [List.getElem_toArray, List.getElem_cons_zero, List.getElem_cons_succ, Act.put, List.setIfInBounds_toArray, List.set_cons_zero, List.set_cons_succ]
            refine wpAnyH_take (i := 12) (oi := _) (v := ?vD12) rfl (by kernel_rfl) (by kernel_rfl) (by kernel_rfl) (fun _ _ _ h => h) (Or.inl ⟨by kernel_rfl, ?hD12⟩) (by assumption) ?rD12
            case hD12 => ((intro w hSw; (try dsimp only at hSw); go_simp) <;> (with_reducible rfl))
            try simp only [List.getElem_toArray, List.getElem_cons_zero, List.getElem_cons_succ, Act.put, List.setIfInBounds_toArray, List.set_cons_zero, List.set_cons_succ]
            refine wpAnyH_take (i := 13) (oi := _) (v := ?vD13) rfl (by kernel_rfl) (by kernel_rfl) (by kernel_rfl) (fun _ _ _ h => h) (Or.inl ⟨by kernel_rfl, ?hD13⟩) (by assumption) ?rD13
            case hD13 => ((intro w hSw; (try dsimp only at hSw); go_simp) <;> (with_reducible rfl))
            try simp only [List.getElem_toArray, List.getElem_cons_zero, List.getElem_cons_succ, Act.put, List.setIfInBounds_toArray, List.set_cons_zero, List.set_cons_succ]
            refine wpAnyH_take (i := 15) (oi := _) (v := ?vD15) rfl (by kernel_rfl) (by kernel_rfl) (by kernel_rfl) (fun _ _ _ h => h) (Or.inl ⟨by kernel_rfl, ?hD15⟩) (by assumption) ?rD15
            case hD15 => ((intro w hSw; (try dsimp only at hSw); go_simp) <;> (with_reducible rfl))
            try simp only [List.getElem_toArray, List.getElem_cons_zero, List.getElem_cons_succ, Act.put, List.setIfInBounds_toArray, List.set_cons_zero, List.set_cons_succ]
            refine wpAnyH_ready (rs := [14]) (by kernel_rfl) (by simp) ?_
            refine AllReadyH.cons (o := _) rfl (fun K hK => ?_) AllReadyH.nil
            go_simp
            go_at_call 29
            refine (size_any _ (hrW.out _ B2.out) (hsz.out _ B2.out) h20 hc1 hc2 (by omega) hov hit.out).mono ?_
            rw [hT'.out]
            rintro e w3 ⟨rfl, hb3⟩
            have B3 := hid (B2.out.trans (hb3.mono B2.out.size))
            clear hb3
            go_wp2_with fail
            refine hK.out _ _ ?_ (fun hHeld14 => ?_)
            · exact hS.out _ B3.out
            clear hK K
            try simp only [List.getElem_toArray, List.getElem_cons_zero, List.getElem_cons_succ, Act.put, List.setIfInBounds_toArray, List.set_cons_zero, List.set_cons_succ]
            refine wpAnyH_take (i := 16) (oi := _) (v := ?vD16) rfl (by kernel_rfl) (by kernel_rfl) (by kernel_rfl) (fun _ _ _ h => h) (Or.inl ⟨by kernel_rfl, ?hD16⟩) (by assumption) ?rD16
            case hD16 => ((intro w hSw; (try dsimp only at hSw); go_simp) <;> (with_reducible rfl))
            try simp only [List.getElem_toArray, List.getElem_cons_zero, List.getElem_cons_succ, Act.put, List.setIfInBounds_toArray, List.set_cons_zero, List.set_cons_succ]
            refine wpAnyH_take (i := 17) (oi := _) (v := ?vD17) rfl (by kernel_rfl) (by kernel_rfl) (by kernel_rfl) (fun _ _ _ h => h) (Or.inl ⟨by kernel_rfl, ?hD17⟩) (by assumption) ?rD17
            case hD17 => ((intro w hSw; (try dsimp only at hSw); go_simp) <;> (with_reducible rfl))
            try simp only [List.getElem_toArray, List.getElem_cons_zero, List.getElem_cons_succ, Act.put, List.setIfInBounds_toArray, List.set_cons_zero, List.set_cons_succ]
            refine wpAnyH_done (by kernel_rfl) ?_ _
            obtain ⟨c0, c1, _⟩ := hHeld14
            clear q1 q2
            gi_wp2_with (refine ⟨trivial, ?_⟩; gi_at_call 28; refine (CallsIn.inRound l (callsIn_wide.2 (end_any _ _ (by omega) (by omega) _))).mono ?_; rintro e w4 ⟨rfl, hb4⟩; have B4 := hid (B3.out.trans (hb4.mono B3.out.size)); obtain ⟨u1, u2⟩ := hcov.out _ B4.out)
            have hWs := B4.out.size
            have hcv := hid (Boxed.set (.int .i64 ((a : Int) + (y : Int))) (Boxed.below i3'.out B4.out (by omega)))
            refine ⟨(KeepsFrom.of_below B4.out).trans ((KeepsOthers.setCell _ _ _).from _), (KeepX.of_below (B4.out.mono i5)).trans ?_, ⟨⟨a + y, hnext.out⟩, FitBox.other (i2'.out.below B4.out (by omega)) _, ?_⟩, (i4'.out.trans (B4.out.mono i4'.out.size)).setCell (p := ⟨w.heap.size + 4, 0, none⟩) (by simp) _, ?_⟩
            · exact KeepX.setCell (KeepX.refl _ _ _) (.inr rfl) _
            · rw [hnext.out.1]; exact hcv.out
            · have := (KeepsWalks.setCell w4 ⟨w.heap.size + 4, 0, none⟩ (.int .i64 ((a : Int) + (y : Int)))).size
              omega
        · have hbad := hid (show fitR zs B M cut = false by rw [hfy.out, ← hinv'.out, fitL_over hl'.out han hov])
          have q1 : decide ((n : Int) < (a : Int) + (y : Int)) = true := by simp; omega
          gi_wp2
          refine wpIn_region_held (S := fun w' => w'.cell? ⟨bx, 0, none⟩ = some (.int .i64 (a : Int)) ∧ w'.cell? ⟨bx, 1, none⟩ = some (.int .i64 (y : Int)) ∧ w'.cell? ⟨w.heap.size, 0, none⟩ = some (.slice A n c) ∧ w'.cell? ⟨w.heap.size + 1, 0, none⟩ = some (.int .i64 B) ∧ w'.cell? ⟨w.heap.size + 2, 0, none⟩ = some (.int .i64 M)) (by rintro ⟨_, _, h⟩; exact h) (by kernel_rfl) (by kernel_rfl) (hS.out _ (Below.refl W.heap.size W).drew) (fun hHeld => ?_)
          refine wpAnyH_take (i := 0) (oi := _) (v := ?vB0) rfl (by kernel_rfl) (by kernel_rfl) (by kernel_rfl) (fun _ _ _ h => h) (Or.inl ⟨by kernel_rfl, ?hB0⟩) (by assumption) ?rB0
          case hB0 => ((intro w hSw; (try dsimp only at hSw); go_simp) <;> (with_reducible rfl))
          try simp only [List.getElem_toArray, List.getElem_cons_zero, List.getElem_cons_succ, Act.put, List.setIfInBounds_toArray, List.set_cons_zero, List.set_cons_succ]
          refine wpAnyH_take (i := 1) (oi := _) (v := ?vB1) rfl (by kernel_rfl) (by kernel_rfl) (by kernel_rfl) (fun _ _ _ h => h) (Or.inl ⟨by kernel_rfl, ?hB1⟩) (by assumption) ?rB1
          case hB1 => ((intro w hSw; (try dsimp only at hSw); go_simp) <;> (with_reducible rfl))
          try simp only [List.getElem_toArray, List.getElem_cons_zero, List.getElem_cons_succ, Act.put, List.setIfInBounds_toArray, List.set_cons_zero, List.set_cons_succ]
          refine wpAnyH_ready (rs := [2]) (by kernel_rfl) (by simp) ?_
          refine AllReadyH.cons (o := _) rfl (fun K hK => ?_) AllReadyH.nil
          go_simp
          go_at_call 27
          refine (counts_any _ _ _ _).mono ?_
          rw [hin'.out]
          rintro e w1 ⟨rfl, hb1⟩
          have B1 := hid ((Below.refl W.heap.size W).drew.trans hb1)
          clear hb1
          go_wp2_with fail
          refine hK.out _ _ ?_ (fun hHeld2 => ?_)
          · exact hS.out _ B1.out
          clear hK K
          try simp only [List.getElem_toArray, List.getElem_cons_zero, List.getElem_cons_succ, Act.put, List.setIfInBounds_toArray, List.set_cons_zero, List.set_cons_succ]
          refine wpAnyH_take (i := 3) (oi := _) (v := ?vB3) rfl (by kernel_rfl) (by kernel_rfl) (by kernel_rfl) (fun _ _ _ h => h) (Or.inl ⟨by kernel_rfl, ?hB3⟩) (by assumption) ?rB3
          case hB3 => ((intro w hSw; (try dsimp only at hSw); go_simp) <;> (with_reducible rfl))
          try simp only [List.getElem_toArray, List.getElem_cons_zero, List.getElem_cons_succ, Act.put, List.setIfInBounds_toArray, List.set_cons_zero, List.set_cons_succ]
          refine wpAnyH_take (i := 4) (oi := _) (v := ?vB4) rfl (by kernel_rfl) (by kernel_rfl) (by kernel_rfl) (fun _ _ _ h => h) (Or.inl ⟨by kernel_rfl, ?hB4⟩) (by assumption) ?rB4
          case hB4 => ((intro w hSw; (try dsimp only at hSw); go_simp) <;> (with_reducible rfl))
          try simp only [List.getElem_toArray, List.getElem_cons_zero, List.getElem_cons_succ, Act.put, List.setIfInBounds_toArray, List.set_cons_zero, List.set_cons_succ]
          refine wpAnyH_take (i := 5) (oi := _) (v := ?vB5) rfl (by kernel_rfl) (by kernel_rfl) (by kernel_rfl) (fun _ _ _ h => h) (Or.inl ⟨by kernel_rfl, ?hB5⟩) (by assumption) ?rB5
          case hB5 => ((intro w hSw; (try dsimp only at hSw); go_simp) <;> (with_reducible rfl))
          try simp only [List.getElem_toArray, List.getElem_cons_zero, List.getElem_cons_succ, Act.put, List.setIfInBounds_toArray, List.set_cons_zero, List.set_cons_succ]
          refine wpAnyH_take (i := 7) (oi := _) (v := ?vB7) rfl (by kernel_rfl) (by kernel_rfl) (by kernel_rfl) (fun _ _ _ h => h) (Or.inl ⟨by kernel_rfl, ?hB7⟩) (by assumption) ?rB7
          case hB7 => ((intro w hSw; (try dsimp only at hSw); go_simp) <;> (with_reducible rfl))
          try simp only [List.getElem_toArray, List.getElem_cons_zero, List.getElem_cons_succ, Act.put, List.setIfInBounds_toArray, List.set_cons_zero, List.set_cons_succ]
          refine wpAnyH_take (i := 8) (oi := _) (v := ?vB8) rfl (by kernel_rfl) (by kernel_rfl) (by kernel_rfl) (fun _ _ _ h => h) (Or.inl ⟨by kernel_rfl, ?hB8⟩) (by assumption) ?rB8
          case hB8 => ((intro w hSw; (try dsimp only at hSw); go_simp) <;> (with_reducible rfl))
          try simp only [List.getElem_toArray, List.getElem_cons_zero, List.getElem_cons_succ, Act.put, List.setIfInBounds_toArray, List.set_cons_zero, List.set_cons_succ]
          refine wpAnyH_ready (rs := [6]) (by kernel_rfl) (by simp) ?_
          refine AllReadyH.cons (o := _) rfl (fun K hK => ?_) AllReadyH.nil
          go_simp
          go_at_call 28
          refine (end_any _ _ (by omega) (by omega) _).mono ?_
          rintro e w2 ⟨rfl, hb2⟩
          have B2 := hid (B1.out.trans (hb2.mono B1.out.size))
          clear hb2
          go_wp2_with fail
          refine hK.out _ _ ?_ (fun hHeld6 => ?_)
          · exact hS.out _ B2.out
          clear hK K
          try simp only [List.getElem_toArray, List.getElem_cons_zero, List.getElem_cons_succ, Act.put, List.setIfInBounds_toArray, List.set_cons_zero, List.set_cons_succ]
          refine wpAnyH_take (i := 9) (oi := _) (v := ?vB9) rfl (by kernel_rfl) (by kernel_rfl) (by kernel_rfl) (fun _ _ _ h => h) (Or.inl ⟨by kernel_rfl, ?hB9⟩) (by assumption) ?rB9
          case hB9 => ((intro w hSw; (try dsimp only at hSw); go_simp) <;> (with_reducible rfl))
          try simp only [List.getElem_toArray, List.getElem_cons_zero, List.getElem_cons_succ, Act.put, List.setIfInBounds_toArray, List.set_cons_zero, List.set_cons_succ]
          refine wpAnyH_take (i := 10) (oi := _) (v := ?vB10) rfl (by kernel_rfl) (by kernel_rfl) (by kernel_rfl) (fun _ _ _ h => h) (Or.inl ⟨by kernel_rfl, ?hB10⟩) (by assumption) ?rB10
          case hB10 => ((intro w hSw; (try dsimp only at hSw); go_simp) <;> (with_reducible rfl))
          try simp only [List.getElem_toArray, List.getElem_cons_zero, List.getElem_cons_succ, Act.put, List.setIfInBounds_toArray, List.set_cons_zero, List.set_cons_succ]
          refine wpAnyH_take (i := 11) (oi := _) (v := ?vB11) rfl (by kernel_rfl) (by kernel_rfl) (by kernel_rfl) (fun _ _ _ h => h) (Or.inl ⟨by kernel_rfl, ?hB11⟩) (by assumption) ?rB11
          case hB11 => ((intro w hSw; (try dsimp only at hSw); go_simp) <;> (with_reducible rfl))
          try simp only [List.getElem_toArray, List.getElem_cons_zero, List.getElem_cons_succ, Act.put, List.setIfInBounds_toArray, List.set_cons_zero, List.set_cons_succ]
          refine wpAnyH_take (i := 12) (oi := _) (v := undef) rfl (by kernel_rfl) (by kernel_rfl) (by kernel_rfl) (fun _ _ _ h => h) (Or.inr ⟨by kernel_rfl, rfl⟩) (by assumption) ?_
          try simp only [List.getElem_toArray, List.getElem_cons_zero, List.getElem_cons_succ, Act.put, List.setIfInBounds_toArray, List.set_cons_zero, List.set_cons_succ]
          refine wpAnyH_take (i := 13) (oi := _) (v := undef) rfl (by kernel_rfl) (by kernel_rfl) (by kernel_rfl) (fun _ _ _ h => h) (Or.inr ⟨by kernel_rfl, rfl⟩) (by assumption) ?_
          try simp only [List.getElem_toArray, List.getElem_cons_zero, List.getElem_cons_succ, Act.put, List.setIfInBounds_toArray, List.set_cons_zero, List.set_cons_succ]
          refine wpAnyH_take (i := 14) (oi := _) (v := undef) rfl (by kernel_rfl) (by kernel_rfl) (by kernel_rfl) (fun _ _ _ h => h) (Or.inr ⟨by kernel_rfl, rfl⟩) (by assumption) ?_
          try simp only [List.getElem_toArray, List.getElem_cons_zero, List.getElem_cons_succ, Act.put, List.setIfInBounds_toArray, List.set_cons_zero, List.set_cons_succ]
          refine wpAnyH_take (i := 15) (oi := _) (v := undef) rfl (by kernel_rfl) (by kernel_rfl) (by kernel_rfl) (fun _ _ _ h => h) (Or.inr ⟨by kernel_rfl, rfl⟩) (by assumption) ?_
          try simp only [List.getElem_toArray, List.getElem_cons_zero, List.getElem_cons_succ, Act.put, List.setIfInBounds_toArray, List.set_cons_zero, List.set_cons_succ]
          refine wpAnyH_take (i := 16) (oi := _) (v := undef) rfl (by kernel_rfl) (by kernel_rfl) (by kernel_rfl) (fun _ _ _ h => h) (Or.inr ⟨by kernel_rfl, rfl⟩) (by assumption) ?_
          try simp only [List.getElem_toArray, List.getElem_cons_zero, List.getElem_cons_succ, Act.put, List.setIfInBounds_toArray, List.set_cons_zero, List.set_cons_succ]
          refine wpAnyH_take (i := 17) (oi := _) (v := ?vB17) rfl (by kernel_rfl) (by kernel_rfl) (by kernel_rfl) (fun _ _ _ h => h) (Or.inl ⟨by kernel_rfl, ?hB17⟩) (by assumption) ?rB17
          case hB17 => ((intro w hSw; (try dsimp only at hSw); go_simp) <;> (with_reducible rfl))
          try simp only [List.getElem_toArray, List.getElem_cons_zero, List.getElem_cons_succ, Act.put, List.setIfInBounds_toArray, List.set_cons_zero, List.set_cons_succ]
          refine wpAnyH_done (by kernel_rfl) ?_ _
          obtain ⟨r1, r2⟩ := hres.out _ B2.out
          gi_wp2
          exact stop.out hbad.out _ B2.out
    case done =>
      rintro D W hD ⟨⟨⟨a, hat⟩, i2, i3⟩, i4, i5⟩ hK
      obtain ⟨hf, han, hinv⟩ := hat
      rw [hf] at i3
      have hres := hid (show fitR zs B M cut = ((a : Int) == (n : Int)) by
        rw [hfy.out, ← hinv, show cut.drop m = [] from List.drop_eq_nil_of_le (by rw [hly.out]; omega), fitL_nil hl'.out (by rw [← hl'.out]; exact han)])
      have g1 := i3.cell
      obtain ⟨g2, _, _, g3, g4⟩ := i2.cells
      have i2' := hid i2
      clear hf hinv han i2
      gi_wp2
      have hK' := (KeepsOthers.setCell W ⟨w.heap.size + 3, 0, none⟩ (.bool ((a : Int) == (n : Int)))).same D _ hK rfl
      refine ⟨by simp, .inl ⟨_, _, rfl, run_takeDeferred hK', ?_⟩⟩
      have hc5 := cell_kept (Boxed.set (.bool ((a : Int) == (n : Int))) i2'.out.2.2.2).cell (grownBy_putObj' _ D (.deferred none)) (fun r e => by cases e; exact ⟨_, hK', rfl⟩)
      refine ⟨.bool ((a : Int) == (n : Int)), ?_, by rw [hres.out], (i4.setCell (p := ⟨w.heap.size + 3, 0, none⟩) (by simp) _).trans (belowK_b (w := w) (Nat.le_refl _) _ D _ _ (by rw [hs.out] at hD; omega) hK' rfl rfl)⟩
      simp [results, Try.f16, go_sem, hc5]
    case stop =>
      rintro D k W hD hk ⟨⟨hbad, i3⟩, i4⟩ hK
      simp only [Exit.inBlock, Exit.then]
      refine ⟨by simp, .inl ⟨_, _, rfl, run_takeDeferred hK, ?_⟩⟩
      have hc5 := cell_kept i3.cell (grownBy_putObj' _ D (.deferred none)) (fun r e => by cases e; exact ⟨_, hK, rfl⟩)
      refine ⟨.bool false, ?_, by rw [hbad], i4.trans (belowK_b (w := w) (Nat.le_refl _) W D _ _ (by rw [hs.out] at hD; omega) hK rfl rfl)⟩
      simp [results, Try.f16, go_sem, hc5]
end Go.Proofs.Ytikjcpbhleejnaa
