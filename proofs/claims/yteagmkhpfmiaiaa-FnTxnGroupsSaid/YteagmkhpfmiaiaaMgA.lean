/-
  Several of my texts in one: Pure Words SpecA SpecB SpecC ImplA Own ExA. No condition.
-/
import Derived.Below
import Derived.Test.YteagmkhpfmiaiaaRows
import Derived.WalkKit
import Derived.WalkSpells
import Derived.WalkLawsBesides
import Derived.Handy
import Derived.BigQuiet
import Derived.Deep.QuietTactic
import Derived.Deep.AppendLies
import Derived.Deep.Draws

namespace Go.Proofs.Yteagmkhpfmiaiaa

def inB (n lo hi : Int) : Bool := decide (lo ≤ n) && decide (n ≤ hi)

theorem inB_true {n lo hi : Int} : inB n lo hi = true ↔ lo ≤ n ∧ n ≤ hi := by simp [inB]

theorem inB_false {n lo hi : Int} : inB n lo hi = false ↔ (n < lo ∨ hi < n) := by
  rw [← Bool.not_eq_true, inB_true]; omega

def grB (n : Int) : Bool := inB n 0 4

theorem grB_true {n : Int} : grB n = true ↔ 0 ≤ n ∧ n ≤ 4 := inB_true

theorem grB_false {n : Int} : grB n = false ↔ (n < 0 ∨ 4 < n) := inB_false

def okAt (zs : List Int) (i : Nat) : Bool := grB (zs.getD i 0) && (decide (i = 0) || decide (zs.getD (i - 1) 0 < zs.getD i 0))

def gvalid (zs : List Int) : Bool := decide (0 < zs.length) && (List.range zs.length).all (okAt zs)

theorem okAt_false {zs : List Int} {k : Nat} {z y : Int} (h0 : 0 < k) (hz : zs.getD k 0 = z) (hy : zs.getD (k - 1) 0 = y) (h : z ≤ y) : okAt zs k = false := by
  have h1 : decide (k = 0) = false := by simp; omega
  have h2 : decide (y < z) = false := by simp; omega
  rw [okAt, hz, hy, h1, h2]; simp

theorem okAt_true {zs : List Int} {k : Nat} {z y : Int} (hg : grB z = true) (hz : zs.getD k 0 = z) (hy : zs.getD (k - 1) 0 = y) (h : y < z) : okAt zs k = true := by
  rw [okAt, hz, hy, hg]; simp [h]

theorem gvalid_of_all {zs : List Int} (h : ∀ i, i < zs.length → okAt zs i = true) : gvalid zs = decide (0 < zs.length) := by
  have : (List.range zs.length).all (okAt zs) = true := by
    rw [List.all_eq_true]; intro i hi; exact h i (by simpa using hi)
  simp [gvalid, this]

theorem gvalid_of_bad {zs : List Int} {i : Nat} (hi : i < zs.length) (h : okAt zs i = false) : gvalid zs = false := by
  have : (List.range zs.length).all (okAt zs) = false := by
    rw [List.all_eq_false]; exact ⟨i, by simpa using hi, by simp [h]⟩
  simp [gvalid, this]

/-- does a list contain x? -/
def hasB (zs : List Int) (x : Int) : Bool := zs.contains x

theorem hasB_hit {zs : List Int} {x : Int} {k : Nat} (hk : k < zs.length) (h : zs.getD k 0 = x) : hasB zs x = true := by
  unfold hasB
  rw [List.contains_iff_mem]
  have : zs.getD k 0 = zs[k] := by simp [hk]
  rw [← h, this]; exact List.getElem_mem hk

theorem hasB_miss {zs : List Int} {x : Int} (h : ∀ i, i < zs.length → zs.getD i 0 ≠ x) : hasB zs x = false := by
  unfold hasB
  rw [← Bool.not_eq_true, List.contains_iff_mem]
  intro hm
  obtain ⟨i, hi, he⟩ := List.getElem_of_mem hm
  exact h i hi (by simp [hi, he])

/-- the first k groups -/
def grps (k : Nat) : List Int := (List.range k).map (fun (i : Nat) => (i : Int))

theorem grps_succ (k : Nat) : grps (k + 1) = grps k ++ [(k : Int)] := by simp [grps, List.range_succ]

theorem grps_hit {p : Int → Bool} {k : Nat} (h : p k = true) : (grps (k + 1)).filter p = (grps k).filter p ++ [(k : Int)] := by simp [grps_succ, h]

theorem grps_miss {p : Int → Bool} {k : Nat} (h : p k = false) : (grps (k + 1)).filter p = (grps k).filter p := by simp [grps_succ, h]

theorem grps_len (p : Int → Bool) (k : Nat) : ((grps k).filter p).length ≤ k := by
  have := List.length_filter_le p (grps k)
  simpa [grps] using this

theorem take_hit {p : Int → Bool} {xs : List Int} {k : Nat} {z : Int} (hk : k < xs.length) (hz : xs.getD k 0 = z) (h : p z = true) : (xs.take (k + 1)).filter p = (xs.take k).filter p ++ [z] := by
  have e : xs[k] = z := by rw [← hz]; simp [hk]
  rw [List.take_add_one, List.getElem?_eq_getElem hk, List.filter_append, e]; simp [h]

theorem take_miss {p : Int → Bool} {xs : List Int} {k : Nat} {z : Int} (hk : k < xs.length) (hz : xs.getD k 0 = z) (h : p z = false) : (xs.take (k + 1)).filter p = (xs.take k).filter p := by
  have e : xs[k] = z := by rw [← hz]; simp [hk]
  rw [List.take_add_one, List.getElem?_eq_getElem hk, List.filter_append, e]; simp [h]

theorem take_filter_len (p : Int → Bool) (xs : List Int) (k : Nat) : ((xs.take k).filter p).length ≤ k :=
  Nat.le_trans (List.length_filter_le _ _) (List.length_take_le _ _)

def unionL (xs ys : List Int) : List Int := (grps 5).filter fun g => hasB xs g || hasB ys g

def commonL (xs ys : List Int) : List Int := xs.filter fun g => hasB ys g

def commonR (xs ys : List Int) : List Int := if gvalid xs && gvalid ys then commonL xs ys else []

def unionR (xs ys : List Int) : List Int := if gvalid xs && gvalid ys then unionL xs ys else []

theorem commonR_yes {xs ys : List Int} (h1 : gvalid xs = true) (h2 : gvalid ys = true) : commonR xs ys = commonL xs ys := by simp [commonR, h1, h2]

theorem commonR_no1 {xs ys : List Int} (h1 : gvalid xs = false) : commonR xs ys = [] := by simp [commonR, h1]

theorem commonR_no2 {xs ys : List Int} (h2 : gvalid ys = false) : commonR xs ys = [] := by simp [commonR, h2]

theorem unionR_yes {xs ys : List Int} (h1 : gvalid xs = true) (h2 : gvalid ys = true) : unionR xs ys = unionL xs ys := by simp [unionR, h1, h2]

theorem unionR_no1 {xs ys : List Int} (h1 : gvalid xs = false) : unionR xs ys = [] := by simp [unionR, h1]

theorem unionR_no2 {xs ys : List Int} (h2 : gvalid ys = false) : unionR xs ys = [] := by simp [unionR, h2]

/-! ### sets as masks -/
def mk (zs : List Int) : Nat := zs.foldl (fun m z => m ||| 2 ^ z.toNat) 0

def lastAt (zs : List Int) (k : Nat) : Int := if k = 0 then -1 else zs.getD (k - 1) 0

def maskR (zs : List Int) : Nat := if gvalid zs then mk zs else 0

def elemsM (m : Nat) : List Int := (grps 5).filter fun g => m.testBit g.toNat

theorem mk_take {zs : List Int} {k : Nat} {z : Int} (hk : k < zs.length) (hz : zs.getD k 0 = z) : mk (zs.take (k + 1)) = mk (zs.take k) ||| 2 ^ z.toNat := by
  have e : zs[k] = z := by rw [← hz]; simp [hk]
  rw [List.take_add_one, List.getElem?_eq_getElem hk]
  simp only [mk, Option.toList_some, List.foldl_append, List.foldl_cons, List.foldl_nil, e]

theorem or_lt32 {m g : Nat} (hm : m < 32) (hg : g ≤ 4) : m ||| 2 ^ g < 32 := by
  have h2 : 2 ^ g < 2 ^ 5 := Nat.pow_lt_pow_of_lt (by decide) (by omega)
  exact Nat.or_lt_two_pow (n := 5) hm h2

theorem okAt_last {zs : List Int} {k : Nat} {z l : Int} (hz : zs.getD k 0 = z) (hl : l = lastAt zs k) : okAt zs k = (grB z && decide (l < z)) := by
  rw [okAt, hz, hl]
  by_cases h0 : k = 0
  · have h1 : lastAt zs k = -1 := if_pos h0
    have h2 : decide (k = 0) = true := by simpa using h0
    rw [h1, h2, Bool.true_or, Bool.and_true]
    cases hg : grB z with
    | false => rfl
    | true =>
      rw [grB_true] at hg
      have : decide ((-1 : Int) < z) = true := by simp; omega
      rw [this]; rfl
  · have h1 : lastAt zs k = zs.getD (k - 1) 0 := if_neg h0
    have h2 : decide (k = 0) = false := by simpa using h0
    rw [h1, h2, Bool.false_or]

theorem maskR_yes {zs : List Int} (h : gvalid zs = true) : maskR zs = mk zs := by simp [maskR, h]

theorem maskR_no {zs : List Int} (h : gvalid zs = false) : maskR zs = 0 := by simp [maskR, h]

theorem gvalid_all {zs : List Int} (h : gvalid zs = true) : ∀ i, i < zs.length → okAt zs i = true := by
  simp only [gvalid, Bool.and_eq_true, List.all_eq_true, List.mem_range] at h
  exact h.2

theorem gvalid_pos {zs : List Int} (h : gvalid zs = true) : 0 < zs.length := by
  simp only [gvalid, Bool.and_eq_true, decide_eq_true_eq] at h
  exact h.1

theorem gvalid_nil : gvalid [] = false := rfl

theorem maskR_fin {zs : List Int} {m : Nat} (hf : gvalid zs = decide (0 < zs.length)) (h : mk zs = m) : maskR zs = m := by
  cases hg : gvalid zs with
  | true => rw [maskR_yes hg, h]
  | false =>
    rw [maskR_no hg]
    rw [hg] at hf
    have h0 : zs.length = 0 := by
      have := of_decide_eq_false hf.symm
      omega
    have : zs = [] := List.eq_nil_of_length_eq_zero h0
    subst this
    rw [← h]; rfl

def pairB (xs ys : List Int) : Bool := gvalid xs && gvalid ys

def pairL (xs ys : List Int) : Nat := if pairB xs ys then mk xs else 0

def pairR (xs ys : List Int) : Nat := if pairB xs ys then mk ys else 0

theorem pairB_no1 {xs ys : List Int} (h : gvalid xs = false) : pairB xs ys = false := by simp [pairB, h]

theorem pairB_no2 {xs ys : List Int} (h : gvalid ys = false) : pairB xs ys = false := by simp [pairB, h]

theorem pairB_yes {xs ys : List Int} (h : gvalid xs = true) (h2 : gvalid ys = true) : pairB xs ys = true := by simp [pairB, h, h2]

theorem pairL_no1 {xs ys : List Int} (h : gvalid xs = false) : pairL xs ys = 0 := by simp [pairL, pairB_no1 h]

theorem pairL_no2 {xs ys : List Int} (h : gvalid ys = false) : pairL xs ys = 0 := by simp [pairL, pairB_no2 h]

theorem pairL_yes {xs ys : List Int} (h : gvalid xs = true) (h2 : gvalid ys = true) : pairL xs ys = maskR xs := by simp [pairL, pairB_yes h h2, maskR_yes h]

theorem pairR_no1 {xs ys : List Int} (h : gvalid xs = false) : pairR xs ys = 0 := by simp [pairR, pairB_no1 h]

theorem pairR_no2 {xs ys : List Int} (h : gvalid ys = false) : pairR xs ys = 0 := by simp [pairR, pairB_no2 h]

theorem pairR_yes {xs ys : List Int} (h : gvalid xs = true) (h2 : gvalid ys = true) : pairR xs ys = maskR ys := by simp [pairR, pairB_yes h h2, maskR_yes h2]

/-! ### a valid set is the elements of its mask -/
theorem gvalid_mem {zs : List Int} (h : gvalid zs = true) {z : Int} (hz : z ∈ zs) : 0 ≤ z ∧ z ≤ 4 := by
  obtain ⟨i, hi, rfl⟩ := List.getElem_of_mem hz
  have := gvalid_all h i hi
  rw [okAt, Bool.and_eq_true] at this
  have h1 := grB_true.1 this.1
  simpa [hi] using h1

theorem mk_test (zs : List Int) (g : Nat) : (mk zs).testBit g = zs.any fun z => decide (z.toNat = g) := by
  have key : ∀ (zs : List Int) (m : Nat), (zs.foldl (fun m z => m ||| 2 ^ z.toNat) m).testBit g = (m.testBit g || zs.any fun z => decide (z.toNat = g)) := by
    intro zs
    induction zs with
    | nil => intro m; simp
    | cons z r ih =>
      intro m
      rw [List.foldl_cons, ih, Nat.testBit_or, Nat.testBit_two_pow, List.any_cons, Bool.or_assoc]
  rw [mk, key]
  simp

theorem mk_lt {zs : List Int} (h : gvalid zs = true) : mk zs < 32 := by
  apply Nat.lt_pow_two_of_testBit (n := 5)
  intro i hi
  rw [mk_test, List.any_eq_false]
  intro z hz
  have := gvalid_mem h hz
  simp; omega

theorem pairL_lt (xs ys : List Int) : pairL xs ys < 32 := by
  unfold pairL
  cases h : pairB xs ys with
  | false => simp
  | true => simp only [if_true]; simp only [pairB, Bool.and_eq_true] at h; exact mk_lt h.1

theorem pairR_lt (xs ys : List Int) : pairR xs ys < 32 := by
  unfold pairR
  cases h : pairB xs ys with
  | false => simp
  | true => simp only [if_true]; simp only [pairB, Bool.and_eq_true] at h; exact mk_lt h.2

theorem common_lt32 {a b : Nat} (ha : a < 32) (_hb : b < 32) : a &&& b < 32 := Nat.lt_of_le_of_lt Nat.and_le_left ha

theorem union_lt32 {a b : Nat} (ha : a < 32) (hb : b < 32) : a ||| b < 32 := Nat.or_lt_two_pow (n := 5) ha hb

/-- strictly ascending lists with the same members are equal -/
theorem asc_ext : ∀ {xs ys : List Int}, xs.Pairwise (· < ·) → ys.Pairwise (· < ·) → (∀ z, z ∈ xs ↔ z ∈ ys) → xs = ys
  | [], [], _, _, _ => rfl
  | [], y :: ys, _, _, h => by have := (h y).2 (by simp); simp at this
  | x :: xs, [], _, _, h => by have := (h x).1 (by simp); simp at this
  | x :: xs, y :: ys, hx, hy, h => by
    rw [List.pairwise_cons] at hx hy
    have e : x = y := by
      have h1 := (h x).1 (by simp)
      have h2 := (h y).2 (by simp)
      rcases List.mem_cons.1 h1 with h1 | h1
      · exact h1
      · rcases List.mem_cons.1 h2 with h2 | h2
        · exact h2.symm
        · have := hx.1 _ h2; have := hy.1 _ h1; omega
    subst e
    congr 1
    apply asc_ext hx.2 hy.2
    intro z
    constructor
    · intro hz
      have := (h z).1 (by simp [hz])
      rcases List.mem_cons.1 this with h1 | h1
      · have := hx.1 _ hz; omega
      · exact h1
    · intro hz
      have := (h z).2 (by simp [hz])
      rcases List.mem_cons.1 this with h1 | h1
      · have := hy.1 _ hz; omega
      · exact h1

theorem gvalid_asc {zs : List Int} (h : gvalid zs = true) : zs.Pairwise (· < ·) := by
  have step : ∀ i, i + 1 < zs.length → zs.getD i 0 < zs.getD (i + 1) 0 := by
    intro i hi
    have := gvalid_all h (i + 1) hi
    rw [okAt, Bool.and_eq_true] at this
    simpa using this.2
  have far : ∀ (d i : Nat), i + d + 1 < zs.length → zs.getD i 0 < zs.getD (i + d + 1) 0 := by
    intro d
    induction d with
    | zero => intro i hi; exact step i hi
    | succ d ih => intro i hi; exact Int.lt_trans (ih i (by omega)) (by have := step (i + d + 1) (by omega); simpa [Nat.add_assoc] using this)
  rw [List.pairwise_iff_getElem]
  intro i j hi hj hij
  have := far (j - i - 1) i (by omega)
  rw [show i + (j - i - 1) + 1 = j by omega] at this
  simpa [hi, hj] using this

theorem grps_mem {k : Nat} {z : Int} : z ∈ grps k ↔ 0 ≤ z ∧ z < k := by
  simp only [grps, List.mem_map, List.mem_range]
  constructor
  · rintro ⟨i, hi, rfl⟩; omega
  · rintro ⟨h0, h1⟩; exact ⟨z.toNat, by omega, by omega⟩

theorem grps_asc (k : Nat) : (grps k).Pairwise (· < ·) := by
  rw [grps, List.pairwise_map]
  exact List.Pairwise.imp (fun h => by omega) List.pairwise_lt_range

theorem elemsM_mem {m : Nat} {z : Int} : z ∈ elemsM m ↔ (0 ≤ z ∧ z < 5) ∧ m.testBit z.toNat = true := by
  simp only [elemsM, List.mem_filter, grps_mem]; rfl

theorem elemsM_asc (m : Nat) : (elemsM m).Pairwise (· < ·) := (grps_asc 5).filter _

theorem gvalid_elems {zs : List Int} (h : gvalid zs = true) : zs = elemsM (mk zs) := by
  refine asc_ext (gvalid_asc h) (elemsM_asc _) fun z => ?_
  rw [elemsM_mem, mk_test, List.any_eq_true]
  constructor
  · intro hz
    have := gvalid_mem h hz
    exact ⟨by omega, z, hz, by simp⟩
  · rintro ⟨_, y, hy, e⟩
    have := gvalid_mem h hy
    have e' : y.toNat = z.toNat := by simpa using e
    have : y = z := by omega
    rw [← this]; exact hy

theorem hasB_iff {zs : List Int} {z : Int} : hasB zs z = true ↔ z ∈ zs := by
  unfold hasB; rw [List.contains_iff_mem]

theorem pairB_true {xs ys : List Int} (h : pairB xs ys = true) : gvalid xs = true ∧ gvalid ys = true := by
  simpa only [pairB, Bool.and_eq_true] using h

theorem commonR_no {xs ys : List Int} (h : pairB xs ys = false) : commonR xs ys = [] := by
  unfold pairB at h; simp [commonR, h]

theorem unionR_no {xs ys : List Int} (h : pairB xs ys = false) : unionR xs ys = [] := by
  unfold pairB at h; simp [unionR, h]

theorem commonR_elems {xs ys : List Int} (h : pairB xs ys = true) : commonR xs ys = elemsM (pairL xs ys &&& pairR xs ys) := by
  obtain ⟨h1, h2⟩ := pairB_true h
  rw [commonR_yes h1 h2, pairL, pairR, if_pos h, if_pos h]
  refine asc_ext ((gvalid_asc h1).filter _) (elemsM_asc _) fun z => ?_
  rw [commonL, List.mem_filter, hasB_iff, elemsM_mem, Nat.testBit_and, Bool.and_eq_true]
  have e1 := elemsM_mem (m := mk xs) (z := z)
  have e2 := elemsM_mem (m := mk ys) (z := z)
  rw [← gvalid_elems h1] at e1
  rw [← gvalid_elems h2] at e2
  rw [e1, e2]
  constructor
  · rintro ⟨⟨a, b⟩, _, c⟩; exact ⟨a, b, c⟩
  · rintro ⟨a, b, c⟩; exact ⟨⟨a, b⟩, a, c⟩

theorem unionR_elems {xs ys : List Int} (h : pairB xs ys = true) : unionR xs ys = elemsM (pairL xs ys ||| pairR xs ys) := by
  obtain ⟨h1, h2⟩ := pairB_true h
  rw [unionR_yes h1 h2, pairL, pairR, if_pos h, if_pos h]
  refine asc_ext ((grps_asc 5).filter _) (elemsM_asc _) fun z => ?_
  rw [unionL, List.mem_filter, grps_mem, Bool.or_eq_true, hasB_iff, hasB_iff, elemsM_mem, Nat.testBit_or, Bool.or_eq_true]
  have e1 := elemsM_mem (m := mk xs) (z := z)
  have e2 := elemsM_mem (m := mk ys) (z := z)
  rw [← gvalid_elems h1] at e1
  rw [← gvalid_elems h2] at e2
  rw [e1, e2]
  constructor
  · rintro ⟨a, b | b⟩
    · exact ⟨a, .inl b.2⟩
    · exact ⟨a, .inr b.2⟩
  · rintro ⟨a, b | b⟩
    · exact ⟨a, .inl ⟨a, b⟩⟩
    · exact ⟨a, .inr ⟨a, b⟩⟩

end Go.Proofs.Yteagmkhpfmiaiaa

namespace Go.Proofs.Yteagmkhpfmiaiaa
open Go.RowKit

theorem info_int : (Try.prog.info? 3).map (fun i => (i.zero, i.size, i.bytes)) = some (some (.int .i64 0), 1, 8) := by kernel_rfl

theorem hid {p : Prop} (h : p) : Hid p := h

/-! ### lists of ints as cells -/
abbrev ints (zs : List Int) : List Value := zs.map (Value.int .i64)

theorem ints_one (zs : List Int) : ∀ u ∈ ints zs, u.oneCell' = true := ints_oneCell .i64 zs

theorem ints_get {zs : List Int} {k : Nat} (h : k < zs.length) : (ints zs)[k]? = some (.int .i64 zs[k]) := by simp [ints, h]

theorem block_of_add (a : Addr) (n : Nat) : (a.add n).block = a.block := by unfold Addr.add; split <;> rfl

theorem add_of_add (a : Addr) (i j : Nat) : (a.add i).add j = a.add (i + j) := by
  unfold Addr.add
  by_cases hi : i = 0 <;> by_cases hj : j = 0 <;> simp [hi, hj, Nat.add_assoc]

/-- The slice '.slice A n c' reads as the cells xs (each element 'size' cells), all below block B. -/
def Reads (w : World) (B size : Nat) (A : Option Addr) (n : Nat) (xs : List Value) : Prop :=
  xs.length = n * size ∧ (0 < n → ∃ ad, A = some ad ∧ ad.block < B ∧ ∀ j u, xs[j]? = some u → w.cell? (ad.add j) = some u)

section
variable {w w' : World} {B B' size n : Nat} {A : Option Addr} {xs : List Value}

theorem Reads.none_ : Reads w B size A 0 [] := ⟨by simp, fun h => absurd h (by omega)⟩

theorem Reads.keep (h : Reads w B size A n xs) (hk : ∀ p : Addr, p.block < B → w'.cell? p = w.cell? p) : Reads w' B size A n xs :=
  ⟨h.1, fun hn => by
    obtain ⟨ad, e, hb, hc⟩ := h.2 hn
    exact ⟨ad, e, hb, fun j u hu => (hk _ (by rw [block_of_add]; exact hb)).trans (hc j u hu)⟩⟩

theorem Reads.more (h : Reads w B size A n xs) (hB : B ≤ B') : Reads w B' size A n xs :=
  ⟨h.1, fun hn => by
    obtain ⟨ad, e, hb, hc⟩ := h.2 hn
    exact ⟨ad, e, by omega, hc⟩⟩

theorem Reads.below (h : Reads w B size A n xs) (hb : Below B w w') : Reads w' B size A n xs := h.keep fun _ hp => hb.cell hp

theorem Reads.drew (h : Reads w B size A n xs) : Reads w.drew B size A n xs := h

theorem Reads.drewN (h : Reads w B size A n xs) (k : Nat) : Reads (w.drewN k) B size A n xs := h

theorem Reads.alloc (h : Reads w B size A n xs) (hB : B ≤ w.heap.size) (o : Obj) : Reads (w.alloc o) B size A n xs := h.keep fun p hp => World.cell?_alloc_lt w o p (by omega)

theorem Reads.setCell (h : Reads w B size A n xs) {p : Addr} (hB : B ≤ p.block) (u : Value) : Reads (w.setCell p u) B size A n xs :=
  h.keep fun q hq => World.cell?_setCell_other w p q u (fun e => by subst e; omega)

theorem Reads.grown (h : Reads w B size A n xs) {row : Option Nat} (hg : w.grownBy w' row) (hB : B ≤ w.heap.size) (hr : ∀ g, row = some g → B ≤ g) : Reads w' B size A n xs :=
  h.keep fun p hp => World.cell?_of_block (hg.block p.block (by omega) (fun e => by have := hr _ e.symm; omega))

theorem Reads.of_own {base : Nat} {e : TypeId} {c : Nat} (h : w.ownsRow base e size (.slice A n c) n xs) : Reads w w.heap.size size A n xs := by
  refine ⟨h.1, fun hn => ?_⟩
  rcases h.2 with ⟨h0, hz⟩ | ⟨g, cap, cur, hv, _, hh, _⟩
  · omega
  · have hA : A = some ⟨g, 0, none⟩ := by injection hv
    subst hA
    exact ⟨_, rfl, (h.lt g rfl).2, h.cells (g := g) rfl⟩
end

/-- '.slice A n c' reads as the ints zs. -/
abbrev RdI (w : World) (B : Nat) (A : Option Addr) (n : Nat) (zs : List Int) : Prop := Reads w B 1 A n (ints zs)

theorem RdI.len {w : World} {B n : Nat} {A : Option Addr} {zs : List Int} (h : RdI w B A n zs) : zs.length = n := by
  have := h.1; simpa using this
/-- the cell at k, where there is one -/
theorem RdI.at_ {w : World} {B n k : Nat} {A : Option Addr} {zs : List Int} (h : RdI w B A n zs) (hk : k < n) :
    ∃ ad, A = some ad ∧ ad.block < B ∧ w.cell? (ad.add k) = some (.int .i64 (zs.getD k 0)) := by
  obtain ⟨ad, e, hb, hc⟩ := h.2 (by omega)
  have hl : k < zs.length := by have := h.len; omega
  refine ⟨ad, e, hb, hc k _ ?_⟩
  simp [hl]

/-- the cell at k under a name of its own -/
theorem RdI.at' {w : World} {B n k : Nat} {A : Option Addr} {zs : List Int} (h : RdI w B A n zs) (hk : k < n) :
    ∃ ad z, A = some ad ∧ Hid (zs.getD k 0 = z) ∧ w.cell? (ad.add k) = some (.int .i64 z) := by
  obtain ⟨ad, e, _, hc⟩ := h.at_ hk
  exact ⟨ad, _, e, rfl, hc⟩

/-- v is a slice of the call's own (blocks from B on) that holds the ints zs. -/
abbrev OwI (w : World) (B : Nat) (v : Value) (zs : List Int) : Prop := w.ownsRow B 3 1 v zs.length (ints zs)

theorem OwI.form {w : World} {B : Nat} {v : Value} {zs : List Int} (h : OwI w B v zs) : ∃ A c, v = .slice A zs.length c ∧ RdI w w.heap.size A zs.length zs := by
  rcases h.2 with ⟨rfl, h0⟩ | ⟨g, cap, cur, rfl, hrest⟩
  · have hz : zs = [] := List.eq_nil_of_length_eq_zero h0
    subst hz
    exact ⟨none, 0, rfl, Reads.none_⟩
  · exact ⟨_, cap, rfl, Reads.of_own (c := cap) h⟩

theorem OwI.more {w : World} {B B' : Nat} {v : Value} {zs : List Int} (h : OwI w B v zs) (hB : B' ≤ B) : OwI w B' v zs := by
  refine ⟨h.1, ?_⟩
  rcases h.2 with hn | ⟨g, cap, cur, e, hb, hr⟩
  · exact .inl hn
  · exact .inr ⟨g, cap, cur, e, Nat.le_trans hB hb, hr⟩

/-- One append of one int: 'out = append(out, z)'. The literal's block lies already. -/
theorem wpList_app1 {w : World} {ops : Array Oper} {rest : List Oper} {o : Oper} {a : Act} {Q : Exit → Act → World → Prop} (hgd : o.guard = none) (s x : Operand)
    (ho : o.op = .call { callee := .builtin .append, args := #[s, x], argTypes := #[23, 23] })
    (B : Nat) (z : Int) (v : Value) (zs : List Int) (hs : a.eval s = v) (hx : a.eval x = .slice (some ⟨w.heap.size, 0, none⟩) 1 1) (hown : OwI w B v zs) (hB : B ≤ w.heap.size) (hn : zs.length < 1099511627776)
    (h : ∀ v' w', OwI w' B v' (zs ++ [z]) → Below B w w' → wpList Try.prog ops Q rest (a.put o.dst v') w') :
    wpList Try.prog ops Q (o :: rest) a (w.alloc (.cells #[.int .i64 z] 3)) := by
  obtain ⟨i0, hi, hz0, hz1, hz2⟩ := info_parts info_int
  refine wpList_append_own (P := Try.prog) _ hgd s x 23 ho B 3 i0 (.int .i64 0) 1 8 Try.underlying23 hi hz0 hz1 hz2 rfl (by decide) v zs.length (ints zs) hs (hown.alloc _) ⟨w.heap.size, 0, none⟩ 1 1 [.int .i64 z] hx rfl ?_ ?_ ?_ ?_ ?_ ?_
  · intro j u hj
    match j, hj with
    | 0, hj => simp at hj; subst hj; simp [Addr.add]
  · intro u hu; simp at hu; subst hu; rfl
  · unfold maxLen; omega
  · omega
  · simp; omega
  · intro v' w' hown' hg _
    refine h v' w' ?_ ?_
    · show w'.ownsRow B 3 1 v' (zs ++ [z]).length (ints (zs ++ [z]))
      simpa [ints] using hown'
    · exact ((Below.refl B w).alloc hB _).grown hg (by simp; omega) (fun k hk => (hown.lt k hk).1)

/-- '[]int{}': an empty literal is owned. -/
theorem OwI.empty_lit (w : World) {B : Nat} (hB : B ≤ w.heap.size) : OwI (w.alloc (.cells #[] 3)) B (.slice (some ⟨w.heap.size, 0, none⟩) 0 0) [] :=
  World.ownsRow_lit w #[] 0 hB (by decide) rfl

theorem OwI.one_lit (w : World) {B : Nat} (hB : B ≤ w.heap.size) (z : Int) : OwI (w.alloc (.cells #[.int .i64 z] 3)) B (.slice (some ⟨w.heap.size, 0, none⟩) 1 1) [z] :=
  World.ownsRow_lit w #[.int .i64 z] 1 hB (by decide) rfl

/-- endings -/
theorem ret_bool {a b : Bool} (h : a = b) : Ending.returned (.bool a) = .returned (.bool b) := by rw [h]

theorem ret_int {k : IntKind} {a b : Int} (h : a = b) : Ending.returned (.int k a) = .returned (.int k b) := by rw [h]

/-! ### quiet: nothing but draws -/
def Qt (w w' : World) : Prop := ∃ q, w' = w.drewN q

theorem Qt.refl (w : World) : Qt w w := ⟨0, rfl⟩

theorem Qt.drewN {w w' : World} (h : Qt w w') (n : Nat) : Qt w (w'.drewN n) := by
  obtain ⟨q, rfl⟩ := h
  exact ⟨q + n, by rw [World.drewN_drewN]⟩

theorem Qt.drew {w w' : World} (h : Qt w w') : Qt w w'.drew := h.drewN 1

theorem Qt.trans {a b c : World} (h : Qt a b) (k : Qt b c) : Qt a c := by
  obtain ⟨q, rfl⟩ := k
  exact h.drewN q

theorem Qt.reads {w w' : World} (h : Qt w w') {B size n : Nat} {A : Option Addr} {xs : List Value} (hr : Reads w B size A n xs) : Reads w' B size A n xs := by
  obtain ⟨q, rfl⟩ := h
  exact hr

theorem Qt.own {w w' : World} (h : Qt w w') {B : Nat} {v : Value} {zs : List Int} (hr : OwI w B v zs) : OwI w' B v zs := by
  obtain ⟨q, rfl⟩ := h
  exact hr

theorem below_drewN {B : Nat} {a w : World} (h : Below B a w) (n : Nat) : Below B a (w.drewN n) := ⟨h.os, h.tape, h.output, h.size, h.block⟩

theorem Qt.below {w w' : World} (h : Qt w w') (B : Nat) : Below B w w' := by
  obtain ⟨q, rfl⟩ := h
  exact below_drewN (Below.refl _ _) q

theorem Qt.size {w w' : World} (h : Qt w w') : w'.heap.size = w.heap.size := by
  obtain ⟨q, rfl⟩ := h
  rfl
/-- a quiet call inside a region that draws -/
theorem Qt.call {P : Program} {f : FuncId} {args : Array Value} {w : World} {n : Nat} {v : Value}
    (h : Calls P f args (w.drewN n) fun e w' => e = .returned v ∧ Qt (w.drewN n) w') : Calls P f args (w.drewN n) fun e w'' => e = .returned v ∧ ∃ m, w'' = w.drewN m :=
  h.mono fun _ _ ⟨he, m, hm⟩ => ⟨he, n + m, by rw [hm, World.drewN_drewN]⟩

theorem same_call {P : Program} {f : FuncId} {args : Array Value} {w : World} {n : Nat} {v : Value}
    (h : Calls P f args (w.drewN n) fun e w' => e = .returned v ∧ w.drewN n = w') : Calls P f args (w.drewN n) fun e w'' => e = .returned v ∧ ∃ m, w'' = w.drewN m :=
  h.mono fun _ _ ⟨he, hm⟩ => ⟨he, n, hm.symm⟩

end Go.Proofs.Yteagmkhpfmiaiaa

namespace Go.Proofs.Yteagmkhpfmiaiaa
open Go.RowKit

set_option maxHeartbeats 400000 in
theorem l6In_any (n lo hi : Int) (w : World) :
    Calls Try.prog 59 #[.int .i64 n, .int .i64 lo, .int .i64 hi] w fun e w' => e = .returned (.bool (inB n lo hi)) ∧ w = w' := by
  go_enter Try.func59, Try.ntmps59
  go_wp2
  all_goals go_ret
  · exact ⟨ret_bool (by simp [inB, *]), rfl⟩
  · exact ⟨ret_bool (by simp [inB, *]; omega), rfl⟩

set_option maxHeartbeats 400000 in
theorem l1Group_any (n : Int) (w : World) :
    Calls Try.prog 68 #[.int .i64 n] w fun e w' => e = .returned (.bool (grB n)) ∧ w = w' := by
  go_enter Try.func68, Try.ntmps68
  go_wp2_with (go_at_call 59; refine (l6In_any _ _ _ _).mono ?_; rintro e w' ⟨rfl, rfl⟩)
  go_ret
  exact ⟨rfl, rfl⟩

set_option maxHeartbeats 400000 in
theorem l1Has_any {B n c : Nat} {A : Option Addr} {zs : List Int} (x : Int) (w : World) (hr : RdI w B A n zs) (hn : n < 1099511627776) :
    Calls Try.prog 80 #[.slice A n c, .int .i64 x] w fun e w' => e = .returned (.bool (hasB zs x)) ∧ w = w' := by
  have hl' := hid hr.len
  have hr' := hid hr
  clear hr
  go_enter Try.func80, Try.ntmps80
  go_wp2
  go_loop [5] (fun i => ∃ k : Nat, k ≤ n ∧ i = .int .i64 k ∧ Hid (∀ j, j < k → zs.getD j 0 ≠ x)) (fun i => n - (intOf i).toNat)
  case atStart => exact ⟨0, Nat.zero_le _, rfl, hid (fun j h => by omega)⟩
  case round =>
    obtain ⟨k, hk, rfl, hmiss⟩ := hrel
    by_cases hlt : k < n
    · obtain ⟨ad, z, rfl, hz, hc⟩ := hr'.out.at' hlt
      go_wp2
      · have h1 : (z == x) = true := by assumption
        go_ret
        exact ⟨ret_bool (hasB_hit (k := k) (by rw [hl'.out]; exact hlt) (hz.out.trans (by simpa using h1))).symm, rfl⟩
      · have h1 : (z == x) = false := by assumption
        go_round
        case rel => exact ⟨k + 1, by omega, by go_num, hid (fun j hj => by
            by_cases e : j = k
            · subst e; rw [hz.out]; simpa using h1
            · exact hmiss.out j (by omega))⟩
        case measure => simp [intOf]; omega
    · go_wp2
      go_ret
      exact ⟨ret_bool (hasB_miss (fun i hi => hmiss.out i (by rw [hl'.out] at hi; omega))).symm, rfl⟩

set_option maxHeartbeats 400000 in
theorem hasInt_any {B n c : Nat} {A : Option Addr} {zs : List Int} (x : Int) (w : World) (hr : RdI w B A n zs) (hn : n < 1099511627776) :
    Calls Try.prog 27 #[.slice A n c, .int .i64 x] w fun e w' => e = .returned (.bool (hasB zs x)) ∧ w = w' := by
  have hl' := hid hr.len
  have hr' := hid hr
  clear hr
  go_enter Try.func27, Try.ntmps27
  go_wp2
  go_loop [5] (fun i => ∃ k : Nat, k ≤ n ∧ i = .int .i64 k ∧ Hid (∀ j, j < k → zs.getD j 0 ≠ x)) (fun i => n - (intOf i).toNat)
  case atStart => exact ⟨0, Nat.zero_le _, rfl, hid (fun j h => by omega)⟩
  case round =>
    obtain ⟨k, hk, rfl, hmiss⟩ := hrel
    by_cases hlt : k < n
    · obtain ⟨ad, z, rfl, hz, hc⟩ := hr'.out.at' hlt
      go_wp2
      · have h1 : (z == x) = true := by assumption
        go_ret
        exact ⟨ret_bool (hasB_hit (k := k) (by rw [hl'.out]; exact hlt) (hz.out.trans (by simpa using h1))).symm, rfl⟩
      · have h1 : (z == x) = false := by assumption
        go_round
        case rel => exact ⟨k + 1, by omega, by go_num, hid (fun j hj => by
            by_cases e : j = k
            · subst e; rw [hz.out]; simpa using h1
            · exact hmiss.out j (by omega))⟩
        case measure => simp [intOf]; omega
    · go_wp2
      go_ret
      exact ⟨ret_bool (hasB_miss (fun i hi => hmiss.out i (by rw [hl'.out] at hi; omega))).symm, rfl⟩

end Go.Proofs.Yteagmkhpfmiaiaa

namespace Go.Proofs.Yteagmkhpfmiaiaa
open Go.RowKit

/-- are two lists of ints equal? -/
def sameB (xs ys : List Int) : Bool := decide (xs = ys)

theorem sameB_len {xs ys : List Int} (h : xs.length ≠ ys.length) : sameB xs ys = false := by
  simp only [sameB, decide_eq_false_iff_not]; intro e; exact h (by rw [e])

theorem sameB_miss {xs ys : List Int} {k : Nat} (h : xs.getD k 0 ≠ ys.getD k 0) : sameB xs ys = false := by
  simp only [sameB, decide_eq_false_iff_not]; intro e; exact h (by rw [e])

theorem sameB_all {xs ys : List Int} (hl : xs.length = ys.length) (h : ∀ i, i < xs.length → xs.getD i 0 = ys.getD i 0) : sameB xs ys = true := by
  simp only [sameB, decide_eq_true_eq]
  apply List.ext_getElem hl
  intro i h1 h2
  have := h i h1
  simpa [h1, h2] using this

set_option maxHeartbeats 400000 in
theorem sameInts_any {B B' n m c d : Nat} {A A' : Option Addr} {xs ys : List Int} (w : World) (hx : RdI w B A n xs) (hy : RdI w B' A' m ys) (hn : n < 1099511627776) (hm : m < 1099511627776) :
    Calls Try.prog 21 #[.slice A n c, .slice A' m d] w fun e w' => e = .returned (.bool (sameB xs ys)) ∧ Qt w w' := by
  have hlx := hid hx.len
  have hly := hid hy.len
  have hx' := hid hx
  have hy' := hid hy
  clear hx hy
  by_cases hnm : n = m
  · subst hnm
    have h0 : ((n : Int) != (n : Int)) = false := by simp
    go_enter Try.func21, Try.ntmps21
    go_wp2
    go_loopw [5] (fun i wr => ∃ k : Nat, k ≤ n ∧ i = .int .i64 k ∧ Qt w wr ∧ Hid (∀ j, j < k → xs.getD j 0 = ys.getD j 0)) (fun i _ => n - (intOf i).toNat)
    case atStart => exact ⟨0, Nat.zero_le _, rfl, Qt.refl _, hid (fun j h => by omega)⟩
    case round =>
      obtain ⟨k, hk, rfl, hq, hall⟩ := hrel
      by_cases hlt : k < n
      · obtain ⟨ad, z, rfl, hz, hc⟩ := RdI.at' (hq.reads hx'.out) hlt
        obtain ⟨ad', z', rfl, hz', hc'⟩ := RdI.at' (hq.reads hy'.out) hlt
        go_wp2
        go_quiet (fail)
        go_wp2
        · have h1 : (z != z') = true := by assumption
          go_ret
          exact ⟨ret_bool (sameB_miss (k := k) (by rw [hz.out, hz'.out]; simpa using h1)).symm, hq.drewN _⟩
        · have h1 : (z != z') = false := by assumption
          go_roundw
          case rel => exact ⟨k + 1, by omega, by go_num, hq.drewN _, hid (fun j hj => by
              by_cases e : j = k
              · subst e; rw [hz.out, hz'.out]; simpa using h1
              · exact hall.out j (by omega))⟩
          case measure => simp [intOf]; omega
      · go_wp2
        go_ret
        exact ⟨ret_bool (sameB_all (by rw [hlx.out, hly.out]) (fun i hi => hall.out i (by rw [hlx.out] at hi; omega))).symm, hq⟩
  · have h0 : ((n : Int) != (m : Int)) = true := by simp; omega
    go_enter Try.func21, Try.ntmps21
    go_wp2
    go_ret
    exact ⟨ret_bool (sameB_len (by rw [hlx.out, hly.out]; exact hnm)).symm, Qt.refl _⟩

end Go.Proofs.Yteagmkhpfmiaiaa

namespace Go.Proofs.Yteagmkhpfmiaiaa
open Go.RowKit

set_option maxHeartbeats 400000 in
theorem l1Union_any {n m c d : Nat} {A A' : Option Addr} {xs ys : List Int} (w : World) (hx : RdI w w.heap.size A n xs) (hy : RdI w w.heap.size A' m ys) (hn : n < 1099511627776) (hm : m < 1099511627776) :
    Calls Try.prog 57 #[.slice A n c, .slice A' m d] w fun e w' => ∃ v, e = .returned v ∧ OwI w' w.heap.size v (unionL xs ys) ∧ Below w.heap.size w w' := by
  have hx' := hid hx
  have hy' := hid hy
  clear hx hy
  go_enter Try.func57, Try.ntmps57
  go_wp2
  go_loopw [5, 6] (fun o i wr => ∃ k : Nat, k ≤ 5 ∧ i = .int .i64 k ∧ OwI wr w.heap.size o ((grps k).filter fun g => hasB xs g || hasB ys g) ∧ Below w.heap.size w wr) (fun _ i _ => 5 - (intOf i).toNat)
  case atStart => exact ⟨0, by omega, rfl, OwI.empty_lit w (Nat.le_refl _), (Below.refl _ _).alloc (Nat.le_refl _) _⟩
  case round =>
    obtain ⟨k, hk, rfl, hown, hbel⟩ := hrel
    have hxr := hid (hx'.out.below hbel)
    have hyr := hid (hy'.out.below hbel)
    have hsz := hbel.size
    have hll := grps_len (fun g => hasB xs g || hasB ys g) k
    by_cases hlt : k < 5
    · by_cases h1 : hasB xs k = true
      · have hnew := hid (grps_hit (p := fun g => hasB xs g || hasB ys g) (k := k) (by simp [h1]))
        go_wp2_with (first
          | (go_at_call 80; (with_reducible refine (l1Has_any _ _ hxr.out hn).mono ?_); rintro e w' ⟨rfl, rfl⟩)
          | (at_builtin; refine wpList_app1 rfl (.tmp 20) (.tmp 22) rfl w.heap.size k _ _ rfl rfl hown hsz (by omega) ?_; intro v' w1 hown' hbel'))
        go_roundw
        case rel => exact ⟨k + 1, by omega, by go_num, by rw [hnew.out]; exact hown', hbel.trans hbel'⟩
        case measure => simp [intOf]; omega
      · have h1' : hasB xs k = false := by simpa using h1
        clear h1
        by_cases h2 : hasB ys k = true
        · have hnew := hid (grps_hit (p := fun g => hasB xs g || hasB ys g) (k := k) (by simp [h2]))
          go_wp2_with (first
            | (go_at_call 80; (with_reducible refine (l1Has_any _ _ hxr.out hn).mono ?_); rintro e w' ⟨rfl, rfl⟩)
            | (go_at_call 80; (with_reducible refine (l1Has_any _ _ hyr.out hm).mono ?_); rintro e w' ⟨rfl, rfl⟩)
            | (at_builtin; refine wpList_app1 rfl (.tmp 20) (.tmp 22) rfl w.heap.size k _ _ rfl rfl hown hsz (by omega) ?_; intro v' w1 hown' hbel'))
          go_roundw
          case rel => exact ⟨k + 1, by omega, by go_num, by rw [hnew.out]; exact hown', hbel.trans hbel'⟩
          case measure => simp [intOf]; omega
        · have h2' : hasB ys k = false := by simpa using h2
          clear h2
          have hnew := hid (grps_miss (p := fun g => hasB xs g || hasB ys g) (k := k) (by simp [h1', h2']))
          go_wp2_with (first
            | (go_at_call 80; (with_reducible refine (l1Has_any _ _ hxr.out hn).mono ?_); rintro e w' ⟨rfl, rfl⟩)
            | (go_at_call 80; (with_reducible refine (l1Has_any _ _ hyr.out hm).mono ?_); rintro e w' ⟨rfl, rfl⟩))
          go_roundw
          case rel => exact ⟨k + 1, by omega, by go_num, by rw [hnew.out]; exact hown, hbel⟩
          case measure => simp [intOf]; omega
    · obtain rfl : k = 5 := by omega
      go_wp2
      go_ret
      exact ⟨_, rfl, hown, hbel⟩

end Go.Proofs.Yteagmkhpfmiaiaa

namespace Go.Proofs.Yteagmkhpfmiaiaa
open Go.RowKit

set_option maxHeartbeats 400000 in
theorem groupExists_any (n : Int) (w : World) :
    Calls Try.prog 61 #[.int .i64 n] w fun e w' => e = .returned (.bool (grB n)) ∧ w = w' := by
  go_enter Try.func61, Try.ntmps61
  go_wp2
  all_goals go_ret
  · exact ⟨ret_bool (by simp [grB, inB, *]; omega), rfl⟩
  · exact ⟨ret_bool (by simp [grB, inB, *]; omega), rfl⟩

theorem wrap_pow {g : Nat} (hg : g < 5) : IntKind.u64.wrap ((2 : Int) ^ g) = ((2 ^ g : Nat) : Int) := by
  have : g = 0 ∨ g = 1 ∨ g = 2 ∨ g = 3 ∨ g = 4 := by omega
  rcases this with rfl | rfl | rfl | rfl | rfl <;> decide

theorem or_pow {m g : Nat} (hm : m < 32) (hg : g < 5) : bits .or .u64 (m : Int) (IntKind.u64.wrap ((2 : Int) ^ g)) = ((m ||| 2 ^ g : Nat) : Int) := by
  rw [wrap_pow hg]
  have h2 : 2 ^ g < 2 ^ 5 := Nat.pow_lt_pow_of_lt (by decide) hg
  exact u64_or_nat _ _ (by omega) (by omega)

theorem bit_test {m g : Nat} (hm : m < 32) : (bits .and .u64 ((m : Int) / 2 ^ g) 1 == 1) = m.testBit g := by
  have h1 : (m : Int) / 2 ^ g = ((m / 2 ^ g : Nat) : Int) := by simp
  have h2 : m / 2 ^ g < 18446744073709551616 := Nat.lt_of_le_of_lt (Nat.div_le_self _ _) (by omega)
  rw [h1]
  rw [show bits .and .u64 ((m / 2 ^ g : Nat) : Int) 1 = ((m / 2 ^ g &&& 1 : Nat) : Int) from u64_and_nat _ 1 h2 (by decide)]
  rw [Nat.testBit, Nat.shiftRight_eq_div_pow, Nat.and_comm 1]
  rw [Nat.and_one_is_mod]
  have h3 := Nat.mod_two_eq_zero_or_one (m / 2 ^ g)
  rcases h3 with h3 | h3 <;> rw [h3] <;> rfl

set_option maxHeartbeats 400000 in
theorem with_any (m : Nat) (z : Int) (hm : m < 32) (hz : grB z = true) (w : World) :
    Calls Try.prog 54 #[.int .u64 m, .int .i64 z] w fun e w' => e = .returned (.int .u64 (m ||| 2 ^ z.toNat : Nat)) ∧ w = w' := by
  obtain ⟨h0, h4⟩ := grB_true.1 hz
  obtain ⟨g, rfl⟩ := Int.eq_ofNat_of_zero_le h0
  clear hz h0
  rw [Int.toNat_natCast]
  have hg : g < 5 := by omega
  go_enter Try.func54, Try.ntmps54
  go_wp2
  go_ret
  exact ⟨ret_int (or_pow hm hg), rfl⟩

set_option maxHeartbeats 400000 in
theorem has_any (m : Nat) (z : Int) (hm : m < 32) (hz : grB z = true) (w : World) :
    Calls Try.prog 79 #[.int .u64 m, .int .i64 z] w fun e w' => e = .returned (.bool (m.testBit z.toNat)) ∧ w = w' := by
  obtain ⟨h0, h4⟩ := grB_true.1 hz
  obtain ⟨g, rfl⟩ := Int.eq_ofNat_of_zero_le h0
  clear hz h0
  rw [Int.toNat_natCast]
  have hg : g < 5 := by omega
  go_enter Try.func79, Try.ntmps79
  go_wp2
  go_ret
  exact ⟨ret_bool (bit_test hm), rfl⟩

set_option maxHeartbeats 400000 in
theorem common_any (m g : Nat) (hm : m < 32) (hg : g < 32) (w : World) :
    Calls Try.prog 64 #[.int .u64 m, .int .u64 g] w fun e w' => e = .returned (.int .u64 (m &&& g : Nat)) ∧ w = w' := by
  go_enter Try.func64, Try.ntmps64
  go_wp2
  go_ret
  exact ⟨ret_int (u64_and_nat _ _ (by omega) (by omega)), rfl⟩

set_option maxHeartbeats 400000 in
theorem groups_any (m : Nat) (hm : m < 32) (w : World) :
    Calls Try.prog 56 #[.int .u64 m] w fun e w' => ∃ v, e = .returned v ∧ OwI w' w.heap.size v (elemsM m) ∧ Below w.heap.size w w' := by
  go_enter Try.func56, Try.ntmps56
  go_wp2
  go_loopw [3, 6] (fun o i wr => ∃ k : Nat, k ≤ 5 ∧ i = .int .i64 k ∧ OwI wr w.heap.size o ((grps k).filter fun g => m.testBit g.toNat) ∧ Below w.heap.size w wr) (fun _ i _ => 5 - (intOf i).toNat)
  case atStart => exact ⟨0, by omega, rfl, OwI.empty_lit w (Nat.le_refl _), (Below.refl _ _).alloc (Nat.le_refl _) _⟩
  case round =>
    obtain ⟨k, hk, rfl, hown, hbel⟩ := hrel
    have hsz := hbel.size
    have hll := grps_len (fun g => m.testBit g.toNat) k
    by_cases hlt : k < 5
    · have hg := hid (grB_true.2 (show (0 : Int) ≤ (k : Int) ∧ (k : Int) ≤ 4 by omega))
      by_cases hp : m.testBit ((k : Int).toNat) = true
      · have hnew := hid (grps_hit (p := fun g => m.testBit g.toNat) (k := k) hp)
        have hp' := hid hp
        clear hp
        go_wp2_with (first
          | (go_at_call 79; (with_reducible refine (has_any m k hm hg.out _).mono ?_); rw [hp'.out]; rintro e w' ⟨rfl, rfl⟩)
          | (at_builtin; refine wpList_app1 rfl (.tmp 12) (.tmp 14) rfl w.heap.size k _ _ rfl rfl hown hsz (by omega) ?_; intro v' w1 hown' hbel'))
        go_roundw
        case rel => exact ⟨k + 1, by omega, by go_num, by rw [hnew.out]; exact hown', hbel.trans hbel'⟩
        case measure => simp [intOf]; omega
      · have hp0 : m.testBit ((k : Int).toNat) = false := by simpa using hp
        have hnew := hid (grps_miss (p := fun g => m.testBit g.toNat) (k := k) hp0)
        have hp' := hid hp0
        clear hp hp0
        go_wp2_with (go_at_call 79; (with_reducible refine (has_any m k hm hg.out _).mono ?_); rw [hp'.out]; rintro e w' ⟨rfl, rfl⟩)
        go_roundw
        case rel => exact ⟨k + 1, by omega, by go_num, by rw [hnew.out]; exact hown, hbel⟩
        case measure => simp [intOf]; omega
    · obtain rfl : k = 5 := by omega
      go_wp2
      go_ret
      exact ⟨_, rfl, hown, hbel⟩

set_option maxHeartbeats 400000 in
theorem groupSetOf_any {B n c : Nat} {A : Option Addr} {zs : List Int} (w : World) (hr : RdI w B A n zs) (hn : n < 1099511627776) :
    Calls Try.prog 60 #[.slice A n c] w fun e w' => e = .returned (.tuple #[.int .u64 (maskR zs : Nat), .bool (gvalid zs)]) ∧ w = w' := by
  have hl' := hid hr.len
  have hr' := hid hr
  clear hr
  go_enter Try.func60, Try.ntmps60
  go_wp2
  go_loop [4, 5, 10] (fun s l i => ∃ (k m : Nat) (la : Int), k ≤ n ∧ i = .int .i64 k ∧ s = .int .u64 m ∧ l = .int .i64 la ∧ m < 32 ∧ Hid (la = lastAt zs k) ∧ Hid (m = mk (zs.take k)) ∧ Hid (∀ j, j < k → okAt zs j = true)) (fun _ _ i => n - (intOf i).toNat)
  case atStart => exact ⟨0, 0, -1, Nat.zero_le _, rfl, rfl, rfl, by omega, rfl, rfl, hid (fun j h => by omega)⟩
  case round =>
    obtain ⟨k, m, la, hk, rfl, rfl, rfl, hm, hla, hmk, hall⟩ := hrel
    by_cases hlt : k < n
    · obtain ⟨ad, z, rfl, hz, hc⟩ := RdI.at' hr'.out hlt
      have hok := hid (okAt_last hz.out hla.out)
      by_cases hg : grB z = true
      · by_cases hlz : la < z
        · go_wp2_with (first
            | (go_at_call 61; (with_reducible refine (groupExists_any _ _).mono ?_); rintro e w' ⟨rfl, rfl⟩)
            | (go_at_call 54; (with_reducible refine (with_any _ _ hm hg _).mono ?_); rintro e w' ⟨rfl, rfl⟩))
          go_round
          case rel => exact ⟨k + 1, _, _, by omega, by go_num, rfl, rfl, or_lt32 hm (by have := grB_true.1 hg; omega), hid (by rw [lastAt, if_neg (by omega)]; exact hz.out.symm),
            hid (by rw [mk_take (by rw [hl'.out]; exact hlt) hz.out, ← hmk.out]), hid (fun j hj => by
              by_cases e : j = k
              · subst e; rw [hok.out, hg]; simpa using hlz
              · exact hall.out j (by omega))⟩
          case measure => simp [intOf]; omega
        · have hbad := hid (gvalid_of_bad (i := k) (by rw [hl'.out]; exact hlt) (by rw [hok.out]; simp [hlz]))
          go_wp2_with (go_at_call 61; (with_reducible refine (groupExists_any _ _).mono ?_); rintro e w' ⟨rfl, rfl⟩)
          go_ret2
          exact ⟨by rw [hbad.out, maskR_no hbad.out]; rfl, rfl⟩
      · have hg' : grB z = false := by simpa using hg
        clear hg
        have hbad := hid (gvalid_of_bad (i := k) (by rw [hl'.out]; exact hlt) (by rw [hok.out]; simp [hg']))
        go_wp2_with (go_at_call 61; (with_reducible refine (groupExists_any _ _).mono ?_); rintro e w' ⟨rfl, rfl⟩)
        go_ret2
        exact ⟨by rw [hbad.out, maskR_no hbad.out]; rfl, rfl⟩
    · have hfin := hid (gvalid_of_all (zs := zs) (fun i hi => hall.out i (by rw [hl'.out] at hi; omega)))
      have hmz := hid (maskR_fin hfin.out (show mk zs = m by rw [hmk.out, List.take_of_length_le (by rw [hl'.out]; omega)]))
      go_wp2
      go_ret2
      exact ⟨by rw [hmz.out, hfin.out, hl'.out]; rfl, rfl⟩

set_option maxHeartbeats 400000 in
theorem GroupsValid_impl {B n c : Nat} {A : Option Addr} {zs : List Int} (w : World) (hr : RdI w B A n zs) (hn : n < 1099511627776) :
    Calls Try.prog 28 #[.slice A n c] w fun e w' => e = .returned (.bool (gvalid zs)) ∧ w = w' := by
  have hr' := hid hr
  clear hr
  go_enter Try.func28, Try.ntmps28
  go_wp2_with (go_at_call 60; (with_reducible refine (groupSetOf_any _ hr'.out hn).mono ?_); rintro e w' ⟨rfl, rfl⟩)
  go_ret
  exact ⟨rfl, rfl⟩

set_option maxHeartbeats 400000 in
theorem groupSetPair_any {B B' n m c d : Nat} {A A' : Option Addr} {xs ys : List Int} (w : World) (hx : RdI w B A n xs) (hy : RdI w B' A' m ys) (hn : n < 1099511627776) (hm : m < 1099511627776) :
    Calls Try.prog 63 #[.slice A n c, .slice A' m d] w fun e w' =>
      e = .returned (.tuple #[.int .u64 (pairL xs ys : Nat), .int .u64 (pairR xs ys : Nat), .bool (pairB xs ys)]) ∧ w = w' := by
  have hx' := hid hx
  have hy' := hid hy
  clear hx hy
  cases h1 : gvalid xs with
  | false =>
    go_enter Try.func63, Try.ntmps63
    go_wp2_with (first
      | (go_at_call 60; (with_reducible refine (groupSetOf_any _ hx'.out hn).mono ?_); rintro e w' ⟨rfl, rfl⟩)
      | (go_at_call 60; (with_reducible refine (groupSetOf_any _ hy'.out hm).mono ?_); rintro e w' ⟨rfl, rfl⟩))
    go_ret3
    exact ⟨by rw [pairL_no1 h1, pairR_no1 h1, pairB_no1 h1]; rfl, rfl⟩
  | true =>
    cases h2 : gvalid ys with
    | false =>
      go_enter Try.func63, Try.ntmps63
      go_wp2_with (first
        | (go_at_call 60; (with_reducible refine (groupSetOf_any _ hx'.out hn).mono ?_); rintro e w' ⟨rfl, rfl⟩)
        | (go_at_call 60; (with_reducible refine (groupSetOf_any _ hy'.out hm).mono ?_); rintro e w' ⟨rfl, rfl⟩))
      go_ret3
      exact ⟨by rw [pairL_no2 h2, pairR_no2 h2, pairB_no2 h2]; rfl, rfl⟩
    | true =>
      go_enter Try.func63, Try.ntmps63
      go_wp2_with (first
        | (go_at_call 60; (with_reducible refine (groupSetOf_any _ hx'.out hn).mono ?_); rintro e w' ⟨rfl, rfl⟩)
        | (go_at_call 60; (with_reducible refine (groupSetOf_any _ hy'.out hm).mono ?_); rintro e w' ⟨rfl, rfl⟩))
      go_ret3
      exact ⟨by rw [pairL_yes h1 h2, pairR_yes h1 h2, pairB_yes h1 h2]; rfl, rfl⟩

set_option maxHeartbeats 400000 in
theorem GroupsCommon_impl {n m c d : Nat} {A A' : Option Addr} {xs ys : List Int} (w : World) (hx : RdI w w.heap.size A n xs) (hy : RdI w w.heap.size A' m ys) (hn : n < 1099511627776) (hm : m < 1099511627776) :
    Calls Try.prog 30 #[.slice A n c, .slice A' m d] w fun e w' => ∃ v, e = .returned v ∧ OwI w' w.heap.size v (commonR xs ys) ∧ Below w.heap.size w w' := by
  have hx' := hid hx
  have hy' := hid hy
  clear hx hy
  cases hb : pairB xs ys with
  | false =>
    have hno := hid (commonR_no hb)
    have hb' := hid hb
    clear hb
    go_enter Try.func30, Try.ntmps30
    go_wp2_with (go_at_call 63; (with_reducible refine (groupSetPair_any _ hx'.out hy'.out hn hm).mono ?_); rw [hb'.out]; rintro e w' ⟨rfl, rfl⟩)
    go_ret
    exact ⟨_, rfl, by rw [hno.out]; exact OwI.empty_lit w (Nat.le_refl _), (Below.refl _ _).alloc (Nat.le_refl _) _⟩
  | true =>
    have hyes := hid (commonR_elems hb)
    have h1 := pairL_lt xs ys
    have h2 := pairR_lt xs ys
    have h3 := common_lt32 h1 h2
    have hb' := hid hb
    clear hb
    go_enter Try.func30, Try.ntmps30
    go_wp2_with (first
      | (go_at_call 63; (with_reducible refine (groupSetPair_any _ hx'.out hy'.out hn hm).mono ?_); rw [hb'.out]; rintro e w' ⟨rfl, rfl⟩)
      | (go_at_call 64; (with_reducible refine (common_any _ _ h1 h2 _).mono ?_); rintro e w' ⟨rfl, rfl⟩)
      | (go_at_call 56; (with_reducible refine (groups_any _ h3 _).mono ?_); rintro e w' ⟨v, rfl, hown, hbel⟩))
    go_ret
    exact ⟨_, rfl, by rw [hyes.out]; exact hown, hbel⟩

end Go.Proofs.Yteagmkhpfmiaiaa

namespace Go.Proofs.Yteagmkhpfmiaiaa
open Go.RowKit

/-- v is a slice that is owned and holds zs; its block (if any) lies from lo on and below hi. -/
def Ow (w : World) (lo hi : Nat) (v : Value) (zs : List Int) : Prop := OwI w lo v zs ∧ ∀ g, v.ownBlock = some g → g < hi

section
variable {w w' : World} {lo hi lo' hi' B : Nat} {v u : Value} {zs : List Int}

theorem Ow.of (h : OwI w lo v zs) : Ow w lo w.heap.size v zs := ⟨h, fun g hg => (h.lt g hg).2⟩

theorem Ow.le (h : Ow w lo hi v zs) (hh : hi ≤ hi') : Ow w lo hi' v zs := ⟨h.1, fun g hg => Nat.lt_of_lt_of_le (h.2 g hg) hh⟩

theorem own_of_block (h : OwI w lo v zs) (hb : ∀ g, v.ownBlock = some g → w'.heap[g]? = w.heap[g]?) : OwI w' lo v zs := by
  refine ⟨h.1, ?_⟩
  rcases h.2 with hn | ⟨g, cap, cur, e, hl, hg, hr⟩
  · exact .inl hn
  · exact .inr ⟨g, cap, cur, e, hl, (hb g (by rw [e]; rfl)).trans hg, hr⟩

theorem Ow.below (h : Ow w lo hi v zs) (hb : Below B w w') (hh : hi ≤ B) : Ow w' lo hi v zs :=
  ⟨own_of_block h.1 fun g hg => hb.block g (Nat.lt_of_lt_of_le (h.2 g hg) hh), h.2⟩

theorem Ow.quiet (h : Ow w lo hi v zs) (hq : Qt w w') : Ow w' lo hi v zs := ⟨hq.own h.1, h.2⟩
/-- behind a write to another row -/
theorem Ow.other (h : Ow w lo hi v zs) (hg : w.grownBy w' u.ownBlock) (hu : ∀ g, u.ownBlock = some g → g < lo ∨ hi ≤ g) : Ow w' lo hi v zs :=
  ⟨own_of_block h.1 fun g hgv => hg.block g (h.1.lt g hgv).2 (fun e => by
    have h1 := hu g e.symm
    have h2 := (h.1.lt g hgv).1
    have h3 := h.2 g hgv
    omega), h.2⟩

theorem Ow.rd (h : Ow w lo hi v zs) (hs : hi ≤ B) : ∃ A c, v = .slice A zs.length c ∧ RdI w B A zs.length zs := by
  rcases h.1.2 with ⟨rfl, h0⟩ | ⟨g, cap, cur, rfl, hrest⟩
  · have hz : zs = [] := List.eq_nil_of_length_eq_zero h0
    subst hz
    exact ⟨none, 0, rfl, Reads.none_⟩
  · refine ⟨_, cap, rfl, ?_⟩
    have hr := Reads.of_own (c := cap) h.1
    refine ⟨hr.1, fun hn => ?_⟩
    obtain ⟨ad, e, _, hc⟩ := hr.2 hn
    refine ⟨ad, e, ?_, hc⟩
    have := h.2 g rfl
    injection e with e
    subst e
    show g < B
    omega

theorem Ow.belowOf (h : Ow w lo hi v zs) (hg : w.grownBy w' v.ownBlock) (hB : B ≤ lo) (hs : B ≤ w.heap.size) : Below B w w' :=
  ⟨hg.os, hg.tape, hg.output, hg.size, fun k hk => hg.block k (by omega) (fun e => by have := (h.1.lt k e.symm).1; omega)⟩
end

theorem grown_set {w wr w' : World} {row : Option Nat} (h : w.grownBy wr row) (k : wr.grownBy w' row) : w.grownBy w' row :=
  ⟨k.os.trans h.os, k.tape.trans h.tape, k.output.trans h.output, Nat.le_trans h.size k.size, fun i hi hne => (k.block i (Nat.lt_of_lt_of_le hi h.size) hne).trans (h.block i hi hne)⟩

/-- the numbers k, k + 1, .. -/
def marks (k : Int) (n : Nat) : List Int := (List.range n).map fun (i : Nat) => k + (i : Int)

theorem marks_len (k : Int) (n : Nat) : (marks k n).length = n := by simp [marks]

theorem marks_get {k : Int} {n i : Nat} (h : i < n) : (marks k n).getD i 0 = k + (i : Int) := by simp [marks, h]

/-! ### live values: owned, and their blocks lie already -/
theorem Ow.rdAt {w : World} {lo hi B n c : Nat} {A : Option Addr} {zs : List Int} (h : Ow w lo hi (.slice A n c) zs) (hs : hi ≤ B) : RdI w B A n zs := by
  obtain ⟨A', c', e, hr⟩ := h.rd hs
  injection e with e1 e2 e3
  subst e1; subst e2
  exact hr

def Lv (w : World) (lo hi : Nat) (v : Value) (zs : List Int) : Prop := Ow w lo hi v zs ∧ hi ≤ w.heap.size
section
variable {w w' : World} {lo hi lo2 hi2 n c B : Nat} {v u : Value} {zs us : List Int} {A : Option Addr}

theorem Lv.of (h : Ow w lo w.heap.size v zs) : Lv w lo w.heap.size v zs := ⟨h, Nat.le_refl _⟩

theorem Lv.ofI (h : OwI w lo v zs) : Lv w lo w.heap.size v zs := ⟨Ow.of h, Nat.le_refl _⟩

theorem Lv.step (h : Lv w lo hi v zs) (hb : Below w.heap.size w w') : Lv w' lo hi v zs := ⟨h.1.below hb h.2, Nat.le_trans h.2 hb.size⟩

theorem Lv.quiet (h : Lv w lo hi v zs) (hq : Qt w w') : Lv w' lo hi v zs := ⟨h.1.quiet hq, by rw [hq.size]; exact h.2⟩

theorem Lv.other (h : Lv w lo hi v zs) (hu : Lv w lo2 hi2 u us) (hg : w.grownBy w' u.ownBlock) (hd : hi ≤ lo2 ∨ hi2 ≤ lo) : Lv w' lo hi v zs :=
  ⟨h.1.other hg fun g hgu => by
    have h1 := (hu.1.1.lt g hgu).1
    have h2 := hu.1.2 g hgu
    omega, Nat.le_trans h.2 hg.size⟩

theorem Lv.rd (h : Lv w lo hi v zs) : ∃ A c, v = .slice A zs.length c := by
  obtain ⟨A, c, e, _⟩ := h.1.rd (Nat.le_refl hi)
  exact ⟨A, c, e⟩

theorem Lv.at_ (h : Lv w lo hi (.slice A n c) zs) : RdI w w.heap.size A n zs := h.1.rdAt h.2

theorem Lv.base (h : Lv w lo hi v zs) (hg : w.grownBy w' v.ownBlock) (hB : B ≤ lo) (hs : B ≤ w.heap.size) : Below B w w' := h.1.belowOf hg hB hs
end

end Go.Proofs.Yteagmkhpfmiaiaa

namespace Go.Proofs.Yteagmkhpfmiaiaa
open Go.RowKit

/-- what the frame tells of a slice of ints that came in -/
def RowIs (k : IntKind) (w : World) (a : Option Addr) (len cap : Nat) (zs : List Int) : Prop :=
  (a = none ∧ len = 0 ∧ cap = 0 ∧ zs = []) ∨
  ∃ x, a = some x ∧ len ≤ cap ∧ cap ≤ maxLen ∧ zs.length = cap ∧ (∀ i, i < zs.length → w.cell? (x.add i) = some (.int k (zs.getD i 0))) ∧ ∀ n ∈ zs, (Lit.int k n).wf = true

theorem RowIs.rd {w : World} {a : Option Addr} {len cap : Nat} {zs : List Int} (h : RowIs .i64 w a len cap zs) : RdI w w.heap.size a len (zs.take len) ∧ len ≤ maxLen := by
  rcases h with ⟨rfl, rfl, rfl, rfl⟩ | ⟨x, rfl, hl, hm, hz, hc, _⟩
  · exact ⟨Reads.none_, by decide⟩
  · have h1 : (zs.take len).length = len := by rw [List.length_take]; omega
    refine ⟨⟨by simpa [ints] using h1, fun hn => ⟨x, rfl, ?_, fun j u hu => ?_⟩⟩, by omega⟩
    · have := World.block_lt_of_cell? w (x.add 0) (hc 0 (by omega))
      rwa [block_of_add] at this
    · have hj : j < len := by
        have := (List.getElem?_eq_some_iff.1 hu).1
        rw [ints, List.length_map, h1] at this; exact this
      rw [hc j (by omega), ← hu]
      have h2 : j < zs.length := by omega
      simp [ints, hj, h2]

end Go.Proofs.Yteagmkhpfmiaiaa
