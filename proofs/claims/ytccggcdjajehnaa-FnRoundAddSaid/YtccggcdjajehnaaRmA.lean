/-
  Plain mathematics of rounds: what makes one valid, what is missing, what an added stamp makes, the final stamp. No program.
-/
import Derived.Test.YtccggcdjajehnaaSmA
import Derived.Test.YtccggcdjajehnaaGmB
import Derived.Laws.BitsAllLaws
namespace Go.Proofs.Ytccggcdjajehnaa
open Go

/-- the groups of stamps -/
def gOf (xs : List St) : List Int := xs.map fun x => x.2

def okR (gs : List Int) (x : St) : Bool := okS x && hasB gs x.2

abbrev Asc2 (xs : List St) : Prop := xs.Pairwise fun a b => a.2 < b.2

abbrev GotOk (gs : List Int) (xs : List St) : Prop := (∀ x ∈ xs, okR gs x = true) ∧ Asc2 xs

def gotB (gs : List Int) (xs : List St) : Bool := decide (GotOk gs xs)
/-- is a round valid? -/
def rvB (m : Int) (gs : List Int) (xs : List St) : Bool := gotB gs xs && (msB m && gvalid gs)

theorem gotB_true {gs : List Int} {xs : List St} : gotB gs xs = true ↔ GotOk gs xs := by simp only [gotB, decide_eq_true_eq]

theorem gotB_false {gs : List Int} {xs : List St} : gotB gs xs = false ↔ ¬ GotOk gs xs := by rw [← gotB_true, Bool.not_eq_true]

theorem rvB_true {m : Int} {gs : List Int} {xs : List St} : rvB m gs xs = true ↔ (GotOk gs xs ∧ msB m = true ∧ gvalid gs = true) := by
  rw [rvB, Bool.and_eq_true, Bool.and_eq_true, gotB_true]

theorem rvB_got {m : Int} {gs : List Int} {xs : List St} (h : gotB gs xs = false) : rvB m gs xs = false := by simp [rvB, h]

theorem rvB_msg {m : Int} {gs : List Int} {xs : List St} (h : msB m = false) : rvB m gs xs = false := by simp [rvB, h]

theorem rvB_grp {m : Int} {gs : List Int} {xs : List St} (h : gvalid gs = false) : rvB m gs xs = false := by simp [rvB, h]

theorem okS_iff {x : St} : okS x = true ↔ (1 ≤ x.1 ∧ x.1 ≤ 999 ∧ 0 ≤ x.2 ∧ x.2 ≤ 4) := stB_true

theorem okR_iff {gs : List Int} {x : St} : okR gs x = true ↔ (okS x = true ∧ x.2 ∈ gs) := by rw [okR, Bool.and_eq_true, hasB_iff]

theorem okR_no1 {gs : List Int} {x : St} (h : okS x = false) : okR gs x = false := by simp [okR, h]

theorem okR_no2 {gs : List Int} {x : St} (h : hasB gs x.2 = false) : okR gs x = false := by simp [okR, h]

theorem okR_yes {gs : List Int} {x : St} (h : okS x = true) (k : hasB gs x.2 = true) : okR gs x = true := by simp [okR, h, k]

/-- the group of the stamp ahead of place k -/
def laG (xs : List St) (k : Nat) : Int := if k = 0 then -1 else (xs.getD (k - 1) (0, 0)).2

theorem laG_zero (xs : List St) : laG xs 0 = -1 := rfl

theorem laG_succ {xs : List St} {k : Nat} {x : St} (h : xs[k]? = some x) : laG xs (k + 1) = x.2 := by
  rw [laG, if_neg (by omega), Nat.add_sub_cancel, List.getD_eq_getElem?_getD, h]; rfl

theorem take_snoc {xs : List St} {k : Nat} {x : St} (h : xs[k]? = some x) : xs.take (k + 1) = xs.take k ++ [x] := by
  rw [List.take_add_one, h]; rfl

theorem got_nil (gs : List Int) (xs : List St) : GotOk gs (xs.take 0) := ⟨fun x h => by simp at h, by simp⟩

theorem got_step {gs : List Int} {xs : List St} {k : Nat} {x : St} (h : GotOk gs (xs.take k)) (hx : xs[k]? = some x) (hr : okR gs x = true) (hl : laG xs k < x.2) : GotOk gs (xs.take (k + 1)) := by
  rw [take_snoc hx]
  refine ⟨fun y hy => ?_, ?_⟩
  · rcases List.mem_append.1 hy with hy | hy
    · exact h.1 y hy
    · simp at hy; subst hy; exact hr
  · rw [Asc2, List.pairwise_append]
    refine ⟨h.2, by simp, fun y hy z hz => ?_⟩
    simp at hz; subst hz
    obtain ⟨i, hi, rfl⟩ := List.getElem_of_mem hy
    have hi2 := hi
    rw [List.length_take] at hi2
    have hk : 0 < k := by omega
    have hkx : k < xs.length := (List.getElem?_eq_some_iff.1 hx).1
    have hk1 : k - 1 < xs.length := by omega
    have hxk : xs[k - 1]? = some xs[k - 1] := List.getElem?_eq_getElem hk1
    have e := laG_succ hxk
    rw [show k - 1 + 1 = k by omega] at e
    rw [e] at hl
    by_cases hik : i = k - 1
    · subst hik; simpa using hl
    · have := List.pairwise_iff_getElem.1 h.2 i (k - 1) (by rw [List.length_take]; omega) (by rw [List.length_take]; omega) (by omega)
      simp at this
      have h2 : (List.take k xs)[i].2 = xs[i].2 := by simp
      rw [h2]; omega

theorem got_bad1 {gs : List Int} {xs : List St} {k : Nat} {x : St} (hx : xs[k]? = some x) (hr : okR gs x = false) : gotB gs xs = false := by
  rw [gotB_false]
  intro h
  have := h.1 x (List.mem_of_getElem? hx)
  rw [hr] at this; cases this

theorem got_bad2 {gs : List Int} {xs : List St} {k : Nat} {x : St} (hx : xs[k]? = some x) (hl : x.2 ≤ laG xs k) (hr : 0 ≤ x.2) : gotB gs xs = false := by
  rw [gotB_false]
  intro h
  have hk : k ≠ 0 := fun e => by subst e; rw [laG_zero] at hl; omega
  obtain ⟨hkl, e⟩ := List.getElem?_eq_some_iff.1 hx
  have hxk : xs[k - 1]? = some xs[k - 1] := List.getElem?_eq_getElem (by omega)
  have e2 := laG_succ hxk
  rw [show k - 1 + 1 = k by omega] at e2
  have := List.pairwise_iff_getElem.1 h.2 (k - 1) k (by omega) hkl (by omega)
  rw [e] at this
  rw [e2] at hl
  omega

theorem got_fin {gs : List Int} {xs : List St} {k : Nat} (h : GotOk gs (xs.take k)) (hk : xs.length ≤ k) : gotB gs xs = true := by
  rw [List.take_of_length_le hk] at h
  exact gotB_true.2 h

/-! ### masks -/
theorem Asc2.g {xs : List St} (h : Asc2 xs) : (gOf xs).Pairwise (· < ·) := by rw [gOf, List.pairwise_map]; exact h

theorem gOf_snoc (xs : List St) (x : St) : gOf (xs ++ [x]) = gOf xs ++ [x.2] := by simp [gOf]

theorem gOf_mem {xs : List St} {g : Int} : g ∈ gOf xs ↔ ∃ x ∈ xs, x.2 = g := by simp [gOf]

theorem gOf_len (xs : List St) : (gOf xs).length = xs.length := by simp [gOf]

theorem mk_snoc (zs : List Int) (z : Int) : mk (zs ++ [z]) = mk zs ||| 2 ^ z.toNat := by simp [mk, List.foldl_append]

theorem mk_lt32 {zs : List Int} (h : ∀ z ∈ zs, 0 ≤ z ∧ z ≤ 4) : mk zs < 32 := by
  apply Nat.lt_pow_two_of_testBit (n := 5)
  intro i hi
  rw [mk_test, List.any_eq_false]
  intro z hz
  have := h z hz
  simp; omega

theorem mk_bit {zs : List Int} (h : ∀ z ∈ zs, 0 ≤ z ∧ z ≤ 4) {g : Int} (hg : 0 ≤ g) : (mk zs).testBit g.toNat = hasB zs g := by
  rw [Bool.eq_iff_iff, hasB_iff, mk_test, List.any_eq_true]
  constructor
  · rintro ⟨z, hz, e⟩
    have := h z hz
    have e' : z.toNat = g.toNat := by simpa using e
    have : z = g := by omega
    rw [← this]; exact hz
  · intro hz
    exact ⟨g, hz, by simp⟩

theorem elems_of {zs : List Int} (ha : zs.Pairwise (· < ·)) (h : ∀ z ∈ zs, 0 ≤ z ∧ z ≤ 4) : elemsM (mk zs) = zs := by
  refine (asc_ext ha (elemsM_asc _) fun z => ?_).symm
  rw [elemsM_mem]
  constructor
  · intro hz
    have := h z hz
    exact ⟨by omega, by rw [mk_bit h this.1, hasB_iff]; exact hz⟩
  · rintro ⟨⟨h0, _⟩, hb⟩
    rw [mk_bit h h0, hasB_iff] at hb; exact hb

theorem got_rng {gs : List Int} {xs : List St} (h : GotOk gs xs) : ∀ g ∈ gOf xs, 0 ≤ g ∧ g ≤ 4 := by
  intro g hg
  obtain ⟨x, hx, rfl⟩ := gOf_mem.1 hg
  have := okS_iff.1 (okR_iff.1 (h.1 x hx)).1
  omega

theorem got_rng' {gs : List Int} {xs : List St} (h : GotOk gs xs) : ∀ x ∈ xs, 0 ≤ x.2 ∧ x.2 ≤ 4 := fun x hx => got_rng h _ (gOf_mem.2 ⟨x, hx, rfl⟩)

/-- the bits of m that are not in d -/
def misM (m d : Nat) : Nat := m &&& (18446744073709551615 - d)

theorem misM_lt {m d : Nat} (h : m < 32) : misM m d < 32 := Nat.lt_of_le_of_lt Nat.and_le_left h

theorem misM_bit {m d g : Nat} (hd : d < 32) (hg : g < 64) : (misM m d).testBit g = (m.testBit g && !d.testBit g) := by
  have h := Nat.testBit_two_pow_sub_succ (n := 64) (x := d) (by omega) g
  rw [show 2 ^ 64 - (d + 1) = 18446744073709551615 - d by omega] at h
  rw [misM, Nat.testBit_and, h]
  simp [hg]
/-- the groups without stamps -/
def misL (gs : List Int) (xs : List St) : List Int := gs.filter fun g => !hasB (gOf xs) g

def misR (m : Int) (gs : List Int) (xs : List St) : List Int := if rvB m gs xs then misL gs xs else []

theorem misR_yes {m : Int} {gs : List Int} {xs : List St} (h : rvB m gs xs = true) : misR m gs xs = misL gs xs := by simp [misR, h]

theorem misR_no {m : Int} {gs : List Int} {xs : List St} (h : rvB m gs xs = false) : misR m gs xs = [] := by simp [misR, h]

theorem misL_elems {gs : List Int} {xs : List St} (h1 : gvalid gs = true) (h : GotOk gs xs) : misL gs xs = elemsM (misM (mk gs) (mk (gOf xs))) := by
  refine asc_ext ((gvalid_asc h1).filter _) (elemsM_asc _) fun z => ?_
  rw [misL, List.mem_filter, elemsM_mem]
  have hd := mk_lt32 (got_rng h)
  constructor
  · rintro ⟨hz, hn⟩
    have hr := gvalid_mem h1 hz
    refine ⟨by omega, ?_⟩
    rw [misM_bit hd (by omega), mk_bit (fun z hz => gvalid_mem h1 hz) hr.1, mk_bit (got_rng h) hr.1, hasB_iff.2 hz]
    simpa using hn
  · rintro ⟨⟨h0, h5⟩, hb⟩
    rw [misM_bit hd (by omega), mk_bit (fun z hz => gvalid_mem h1 hz) h0, mk_bit (got_rng h) h0, Bool.and_eq_true] at hb
    exact ⟨hasB_iff.1 hb.1, hb.2⟩

theorem elems_zero {m : Nat} (h : m < 32) : elemsM m = [] ↔ m = 0 := by
  constructor
  · intro e
    apply Nat.eq_of_testBit_eq
    intro i
    rw [Nat.zero_testBit]
    by_cases hi : i < 5
    · cases hb : m.testBit i with
      | false => rfl
      | true =>
        have : ((i : Nat) : Int) ∈ elemsM m := elemsM_mem.2 ⟨by omega, by simpa using hb⟩
        rw [e] at this; cases this
    · exact Nat.testBit_lt_two_pow (Nat.lt_of_lt_of_le h (by show 2 ^ 5 ≤ 2 ^ i; exact Nat.pow_le_pow_right (by decide) (by omega)))
  · rintro rfl
    rfl

theorem misL_len {gs : List Int} {xs : List St} (h1 : gvalid gs = true) (h : GotOk gs xs) : (misL gs xs).length + xs.length = gs.length := by
  have e : (gs.filter fun g => hasB (gOf xs) g) = gOf xs := by
    refine asc_ext ((gvalid_asc h1).filter _) h.2.g fun z => ?_
    rw [List.mem_filter, hasB_iff]
    constructor
    · exact fun h => h.2
    · intro hz
      refine ⟨?_, hz⟩
      obtain ⟨x, hx, rfl⟩ := gOf_mem.1 hz
      exact (okR_iff.1 (h.1 x hx)).2
  have hl : ∀ l : List Int, (l.filter fun g => hasB (gOf xs) g).length + (l.filter fun g => !hasB (gOf xs) g).length = l.length := by
    intro l
    induction l with
    | nil => rfl
    | cons y l ih =>
      cases hy : hasB (gOf xs) y <;> simp [hy] <;> omega
  have := hl gs
  rw [e, gOf_len] at this
  rw [misL]
  omega

theorem gs_len {gs : List Int} (h : gvalid gs = true) : 1 ≤ gs.length ∧ gs.length ≤ 5 := by
  refine ⟨gvalid_pos h, ?_⟩
  rw [gvalid_elems h]
  have := grps_len (fun g => (mk gs).testBit g.toNat) 5
  exact this

theorem got_len {gs : List Int} {xs : List St} (h1 : gvalid gs = true) (h : GotOk gs xs) : xs.length ≤ 5 := by
  have := misL_len h1 h
  have := gs_len h1
  omega

/-! ### a place for each group -/
def lkS (xs : List St) (g : Nat) : St := (xs.find? fun x => decide (x.2 = (g : Int))).getD (0, 0)

def upT (T : Nat → St) (k : Nat) (x : St) : Nat → St := fun i => if i = k then x else T i

theorem lk_nil : lkS [] = fun _ => (0, 0) := rfl

theorem lk_snoc {xs : List St} {x : St} (h : ∀ y ∈ xs, y.2 ≠ x.2) (h0 : 0 ≤ x.2) : lkS (xs ++ [x]) = upT (lkS xs) x.2.toNat x := by
  funext i
  rw [lkS, upT, List.find?_append]
  by_cases hi : i = x.2.toNat
  · subst hi
    have e : xs.find? (fun y => decide (y.2 = ((x.2.toNat : Nat) : Int))) = none := by
      rw [List.find?_eq_none]
      intro y hy
      have := h y hy
      simp; omega
    rw [e, if_pos rfl]
    have : decide (x.2 = ((x.2.toNat : Nat) : Int)) = true := by simp; omega
    rw [List.find?_cons, this]; rfl
  · rw [if_neg hi]
    have : decide (x.2 = ((i : Nat) : Int)) = false := by simp; omega
    rw [List.find?_cons, this, List.find?_nil, Option.or_none]; rfl

theorem lk_mem {xs : List St} (h : Asc2 xs) {x : St} (hx : x ∈ xs) (h0 : 0 ≤ x.2) : lkS xs x.2.toNat = x := by
  unfold lkS
  cases e : xs.find? (fun y => decide (y.2 = ((x.2.toNat : Nat) : Int))) with
  | none =>
    rw [List.find?_eq_none] at e
    have := e x hx
    simp at this; omega
  | some y =>
    have h1 := List.find?_some e
    have h2 := List.mem_of_find?_eq_some e
    have h3 : y.2 = x.2 := by simp at h1; omega
    obtain ⟨i, hi, rfl⟩ := List.getElem_of_mem hx
    obtain ⟨j, hj, rfl⟩ := List.getElem_of_mem h2
    rcases (show i < j ∨ i = j ∨ j < i by omega) with hh | hh | hh
    · have := List.pairwise_iff_getElem.1 h i j hi hj hh; omega
    · subst hh; rfl
    · have := List.pairwise_iff_getElem.1 h j i hj hi hh; omega
/-- stamps by their places -/
theorem lk_all {xs : List St} (h : Asc2 xs) (h0 : ∀ x ∈ xs, 0 ≤ x.2 ∧ x.2 ≤ 4) : (elemsM (mk (gOf xs))).map (fun g => lkS xs g.toNat) = xs := by
  have hr : ∀ g ∈ gOf xs, 0 ≤ g ∧ g ≤ 4 := fun g hg => by
    obtain ⟨x, hx, rfl⟩ := gOf_mem.1 hg
    exact h0 x hx
  rw [elems_of h.g hr, gOf, List.map_map]
  conv => rhs; rw [← List.map_id xs]
  apply List.map_congr_left
  intro x hx
  exact lk_mem h hx (h0 x hx).1

/-! ### a stamp added -/
def insS (xs : List St) (s : St) : List St := (xs.takeWhile fun x => decide (x.2 < s.2)) ++ s :: xs.dropWhile fun x => decide (x.2 < s.2)
/-- is a stamp's group one whose stamp is missing? -/
def adB (gs : List Int) (xs : List St) (s : St) : Bool := hasB gs s.2 && !hasB (gOf xs) s.2

structure Ro where
  m : Int
  gs : List Int
  xs : List St
  ok : Bool

def ro0 : Ro := ⟨0, [], [], false⟩

def adA (m : Int) (gs : List Int) (xs : List St) (s : St) : Ro := if adB gs xs s then ⟨m, gs, insS xs s, true⟩ else ⟨m, gs, xs, false⟩

def adR (m : Int) (gs : List Int) (xs : List St) (s : St) : Ro := if rvB m gs xs && okS s then adA m gs xs s else ro0

def nwRo (m : Int) (gs : List Int) : Ro := if msB m && gvalid gs then ⟨m, gs, [], true⟩ else ro0

theorem insS_perm (xs : List St) (s : St) : (insS xs s).Perm (s :: xs) := by
  unfold insS
  refine List.perm_middle.trans (List.Perm.cons _ ?_)
  rw [List.takeWhile_append_dropWhile]

theorem insS_mem {xs : List St} {s x : St} : x ∈ insS xs s ↔ (x = s ∨ x ∈ xs) := by rw [(insS_perm xs s).mem_iff, List.mem_cons]

theorem asc_tw {xs : List St} (h : Asc2 xs) (s : St) : (∀ x ∈ xs.takeWhile fun x => decide (x.2 < s.2), x.2 < s.2) ∧ (∀ x ∈ xs.dropWhile fun x => decide (x.2 < s.2), s.2 ≤ x.2) := by
  induction xs with
  | nil => exact ⟨(fun x h => by simp at h), (fun x h => by simp at h)⟩
  | cons y l ih =>
    rw [Asc2, List.pairwise_cons] at h
    obtain ⟨i1, i2⟩ := ih h.2
    by_cases hy : y.2 < s.2
    · have e : decide (y.2 < s.2) = true := by simpa using hy
      rw [List.takeWhile_cons, List.dropWhile_cons]
      simp only [e, if_true]
      refine ⟨fun x hx => ?_, i2⟩
      rcases List.mem_cons.1 hx with rfl | hx
      · exact hy
      · exact i1 x hx
    · have e : decide (y.2 < s.2) = false := by simpa using hy
      rw [List.takeWhile_cons, List.dropWhile_cons]
      simp only [e]
      refine ⟨fun x hx => by simp at hx, fun x hx => ?_⟩
      simp only [Bool.false_eq_true, if_false] at hx
      rcases List.mem_cons.1 hx with rfl | hx
      · omega
      · have := h.1 x hx; omega

theorem insS_asc {xs : List St} (h : Asc2 xs) {s : St} (hn : ∀ x ∈ xs, x.2 ≠ s.2) : Asc2 (insS xs s) := by
  obtain ⟨h1, h2⟩ := asc_tw h s
  have h2' : ∀ x ∈ xs.dropWhile fun x => decide (x.2 < s.2), s.2 < x.2 := fun x hx => by
    have := h2 x hx
    have := hn x ((List.dropWhile_sublist _).subset hx)
    omega
  unfold insS
  rw [Asc2, List.pairwise_append, List.pairwise_cons]
  refine ⟨h.sublist (List.takeWhile_sublist _), ⟨h2', h.sublist (List.dropWhile_sublist _)⟩, fun x hx y hy => ?_⟩
  have a := h1 x hx
  rcases List.mem_cons.1 hy with rfl | hy
  · exact a
  · have := h2' y hy; omega

theorem adB_true {gs : List Int} {xs : List St} {s : St} : adB gs xs s = true ↔ (s.2 ∈ gs ∧ ∀ x ∈ xs, x.2 ≠ s.2) := by
  rw [adB, Bool.and_eq_true, hasB_iff, Bool.not_eq_true', ← Bool.not_eq_true, hasB_iff, gOf_mem]
  constructor
  · rintro ⟨a, b⟩; exact ⟨a, fun x hx e => b ⟨x, hx, e⟩⟩
  · rintro ⟨a, b⟩; exact ⟨a, fun ⟨x, hx, e⟩ => b x hx e⟩

theorem insS_ok {gs : List Int} {xs : List St} {s : St} (h : GotOk gs xs) (hs : okS s = true) (ha : adB gs xs s = true) : GotOk gs (insS xs s) := by
  obtain ⟨h1, h2⟩ := adB_true.1 ha
  refine ⟨fun x hx => ?_, insS_asc h.2 h2⟩
  rcases insS_mem.1 hx with rfl | hx
  · exact okR_iff.2 ⟨hs, h1⟩
  · exact h.1 x hx

theorem insS_len (xs : List St) (s : St) : (insS xs s).length = xs.length + 1 := by rw [(insS_perm xs s).length_eq]; rfl
/-- lists that ascend and have the same members are the same -/
theorem asc2_ext {xs ys : List St} (hx : Asc2 xs) (hy : Asc2 ys) (h : ∀ z, z ∈ xs ↔ z ∈ ys) : xs = ys := by
  induction xs generalizing ys with
  | nil =>
    cases ys with
    | nil => rfl
    | cons y l => have := (h y).2 (by simp); simp at this
  | cons x l ih =>
    cases ys with
    | nil => have := (h x).1 (by simp); simp at this
    | cons y k =>
      rw [Asc2, List.pairwise_cons] at hx hy
      have e : x = y := by
        rcases List.mem_cons.1 ((h x).1 (by simp)) with h1 | h1
        · exact h1
        · rcases List.mem_cons.1 ((h y).2 (by simp)) with h2 | h2
          · exact h2.symm
          · have := hx.1 _ h2; have := hy.1 _ h1; omega
      subst e
      rw [ih hx.2 hy.2 fun z => ?_]
      constructor
      · intro hz
        rcases List.mem_cons.1 ((h z).1 (by simp [hz])) with h1 | h1
        · subst h1; have := hx.1 _ hz; omega
        · exact h1
      · intro hz
        rcases List.mem_cons.1 ((h z).2 (by simp [hz])) with h1 | h1
        · subst h1; have := hy.1 _ hz; omega
        · exact h1
/-- the program's way: the stamp in its place -/
theorem insS_lk {gs : List Int} {xs : List St} {s : St} (h : GotOk gs xs) (hs : okS s = true) (ha : adB gs xs s = true) :
    (elemsM (mk (gOf xs) ||| 2 ^ s.2.toNat)).map (fun g => upT (lkS xs) s.2.toNat s g.toNat) = insS xs s := by
  obtain ⟨h1, h2⟩ := adB_true.1 ha
  have hi := insS_ok h hs ha
  have hs0 := okS_iff.1 hs
  have e1 : mk (gOf xs) ||| 2 ^ s.2.toNat = mk (gOf (insS xs s)) := by
    rw [← mk_snoc, ← gOf_snoc]
    apply Nat.eq_of_testBit_eq
    intro i
    rw [mk_test, mk_test, Bool.eq_iff_iff, List.any_eq_true, List.any_eq_true]
    have hm : ∀ z, z ∈ gOf (xs ++ [s]) ↔ z ∈ gOf (insS xs s) := fun z => by
      rw [gOf_mem, gOf_mem]
      constructor
      · rintro ⟨x, hx, e⟩; exact ⟨x, insS_mem.2 (by rcases List.mem_append.1 hx with hx | hx; exact .inr hx; simp at hx; exact .inl hx), e⟩
      · rintro ⟨x, hx, e⟩; exact ⟨x, List.mem_append.2 (by rcases insS_mem.1 hx with hx | hx; exact .inr (by simp [hx]); exact .inl hx), e⟩
    constructor
    · rintro ⟨z, hz, e⟩; exact ⟨z, (hm z).1 hz, e⟩
    · rintro ⟨z, hz, e⟩; exact ⟨z, (hm z).2 hz, e⟩
  rw [e1]
  conv => rhs; rw [← lk_all hi.2 (got_rng' hi)]
  apply List.map_congr_left
  intro g hg
  have hg' := hg
  rw [elems_of hi.2.g (got_rng hi)] at hg'
  obtain ⟨x, hx, rfl⟩ := gOf_mem.1 hg'
  have hx0 := (got_rng' hi x hx).1
  rw [lk_mem hi.2 hx hx0, upT]
  rcases insS_mem.1 hx with rfl | hx'
  · rw [if_pos rfl]
  · have := h2 x hx'
    rw [if_neg (by omega), lk_mem h.2 hx' hx0]

/-! ### the final stamp -/
def fnB (m : Int) (gs : List Int) (xs : List St) : Bool := rvB m gs xs && decide (xs.length = gs.length)

def fnR (m : Int) (gs : List Int) (xs : List St) : St := if fnB m gs xs then maxR xs else (0, 0)

theorem fnB_no {m : Int} {gs : List Int} {xs : List St} (h : rvB m gs xs = false) : fnB m gs xs = false := by simp [fnB, h]

theorem fn_max {m : Int} {gs : List Int} {xs : List St} (h : fnB m gs xs = true) : maxOk xs = true := by
  rw [fnB, Bool.and_eq_true, rvB_true, decide_eq_true_eq] at h
  obtain ⟨⟨h1, h2, h3⟩, h4⟩ := h
  have := gs_len h3
  exact maxOk_true.2 ⟨by omega, by omega, fun x hx => (okR_iff.1 (h1.1 x hx)).1⟩

theorem mis_zero {gs : List Int} {xs : List St} (h1 : gvalid gs = true) (h : GotOk gs xs) : misM (mk gs) (mk (gOf xs)) = 0 ↔ xs.length = gs.length := by
  have hm : mk gs < 32 := mk_lt h1
  rw [← elems_zero (misM_lt hm), ← misL_elems h1 h, ← List.length_eq_zero_iff]
  have := misL_len h1 h
  omega
end Go.Proofs.Ytccggcdjajehnaa
