/-
  Plain mathematics of sets of groups: no program. A set of groups as a list of ints and as a mask.
-/
import Derived.Below
namespace Go.Proofs.Ytbnmeedmeikepaa

def inB (n lo hi : Int) : Bool := decide (lo ≤ n) && decide (n ≤ hi)

theorem inB_true {n lo hi : Int} : inB n lo hi = true ↔ lo ≤ n ∧ n ≤ hi := by simp [inB]

theorem inB_false {n lo hi : Int} : inB n lo hi = false ↔ (n < lo ∨ hi < n) := by
  rw [← Bool.not_eq_true, inB_true]; omega

def grB (n : Int) : Bool := inB n 0 4

theorem grB_true {n : Int} : grB n = true ↔ 0 ≤ n ∧ n ≤ 4 := inB_true

theorem grB_false {n : Int} : grB n = false ↔ (n < 0 ∨ 4 < n) := inB_false

def okAt (zs : List Int) (i : Nat) : Bool := grB (zs.getD i 0) && (decide (i = 0) || decide (zs.getD (i - 1) 0 < zs.getD i 0))

def gvalid (zs : List Int) : Bool := decide (0 < zs.length) && (List.range zs.length).all (okAt zs)

theorem okAt_false {zs : List Int} {k : Nat} {z y : Int} (h0 : 0 < k) (hz : zs.getD k 0 = z) (hy : zs.getD (k - 1) 0 = y) (h : z ≤ y) : okAt zs k = false := by
  have h1 : decide (k = 0) = false := by simp; omega
  have h2 : decide (y < z) = false := by simp; omega
  rw [okAt, hz, hy, h1, h2]; simp

theorem okAt_true {zs : List Int} {k : Nat} {z y : Int} (hg : grB z = true) (hz : zs.getD k 0 = z) (hy : zs.getD (k - 1) 0 = y) (h : y < z) : okAt zs k = true := by
  rw [okAt, hz, hy, hg]; simp [h]

theorem gvalid_of_all {zs : List Int} (h : ∀ i, i < zs.length → okAt zs i = true) : gvalid zs = decide (0 < zs.length) := by
  have : (List.range zs.length).all (okAt zs) = true := by
    rw [List.all_eq_true]; intro i hi; exact h i (by simpa using hi)
  simp [gvalid, this]

theorem gvalid_of_bad {zs : List Int} {i : Nat} (hi : i < zs.length) (h : okAt zs i = false) : gvalid zs = false := by
  have : (List.range zs.length).all (okAt zs) = false := by
    rw [List.all_eq_false]; exact ⟨i, by simpa using hi, by simp [h]⟩
  simp [gvalid, this]

/-- does a list contain x? -/
def hasB (zs : List Int) (x : Int) : Bool := zs.contains x

theorem hasB_hit {zs : List Int} {x : Int} {k : Nat} (hk : k < zs.length) (h : zs.getD k 0 = x) : hasB zs x = true := by
  unfold hasB
  rw [List.contains_iff_mem]
  have : zs.getD k 0 = zs[k] := by simp [hk]
  rw [← h, this]; exact List.getElem_mem hk

theorem hasB_miss {zs : List Int} {x : Int} (h : ∀ i, i < zs.length → zs.getD i 0 ≠ x) : hasB zs x = false := by
  unfold hasB
  rw [← Bool.not_eq_true, List.contains_iff_mem]
  intro hm
  obtain ⟨i, hi, he⟩ := List.getElem_of_mem hm
  exact h i hi (by simp [hi, he])

/-- the first k groups -/
def grps (k : Nat) : List Int := (List.range k).map (fun (i : Nat) => (i : Int))

theorem grps_succ (k : Nat) : grps (k + 1) = grps k ++ [(k : Int)] := by simp [grps, List.range_succ]

theorem grps_hit {p : Int → Bool} {k : Nat} (h : p k = true) : (grps (k + 1)).filter p = (grps k).filter p ++ [(k : Int)] := by simp [grps_succ, h]

theorem grps_miss {p : Int → Bool} {k : Nat} (h : p k = false) : (grps (k + 1)).filter p = (grps k).filter p := by simp [grps_succ, h]

theorem grps_len (p : Int → Bool) (k : Nat) : ((grps k).filter p).length ≤ k := by
  have := List.length_filter_le p (grps k)
  simpa [grps] using this

theorem take_hit {p : Int → Bool} {xs : List Int} {k : Nat} {z : Int} (hk : k < xs.length) (hz : xs.getD k 0 = z) (h : p z = true) : (xs.take (k + 1)).filter p = (xs.take k).filter p ++ [z] := by
  have e : xs[k] = z := by rw [← hz]; simp [hk]
  rw [List.take_add_one, List.getElem?_eq_getElem hk, List.filter_append, e]; simp [h]

theorem take_miss {p : Int → Bool} {xs : List Int} {k : Nat} {z : Int} (hk : k < xs.length) (hz : xs.getD k 0 = z) (h : p z = false) : (xs.take (k + 1)).filter p = (xs.take k).filter p := by
  have e : xs[k] = z := by rw [← hz]; simp [hk]
  rw [List.take_add_one, List.getElem?_eq_getElem hk, List.filter_append, e]; simp [h]

theorem take_filter_len (p : Int → Bool) (xs : List Int) (k : Nat) : ((xs.take k).filter p).length ≤ k :=
  Nat.le_trans (List.length_filter_le _ _) (List.length_take_le _ _)

def unionL (xs ys : List Int) : List Int := (grps 5).filter fun g => hasB xs g || hasB ys g

def commonL (xs ys : List Int) : List Int := xs.filter fun g => hasB ys g

def commonR (xs ys : List Int) : List Int := if gvalid xs && gvalid ys then commonL xs ys else []

def unionR (xs ys : List Int) : List Int := if gvalid xs && gvalid ys then unionL xs ys else []

theorem commonR_yes {xs ys : List Int} (h1 : gvalid xs = true) (h2 : gvalid ys = true) : commonR xs ys = commonL xs ys := by simp [commonR, h1, h2]

theorem commonR_no1 {xs ys : List Int} (h1 : gvalid xs = false) : commonR xs ys = [] := by simp [commonR, h1]

theorem commonR_no2 {xs ys : List Int} (h2 : gvalid ys = false) : commonR xs ys = [] := by simp [commonR, h2]

theorem unionR_yes {xs ys : List Int} (h1 : gvalid xs = true) (h2 : gvalid ys = true) : unionR xs ys = unionL xs ys := by simp [unionR, h1, h2]

theorem unionR_no1 {xs ys : List Int} (h1 : gvalid xs = false) : unionR xs ys = [] := by simp [unionR, h1]

theorem unionR_no2 {xs ys : List Int} (h2 : gvalid ys = false) : unionR xs ys = [] := by simp [unionR, h2]

/-! ### sets as masks -/
def mk (zs : List Int) : Nat := zs.foldl (fun m z => m ||| 2 ^ z.toNat) 0

def lastAt (zs : List Int) (k : Nat) : Int := if k = 0 then -1 else zs.getD (k - 1) 0

def maskR (zs : List Int) : Nat := if gvalid zs then mk zs else 0

def elemsM (m : Nat) : List Int := (grps 5).filter fun g => m.testBit g.toNat

theorem mk_take {zs : List Int} {k : Nat} {z : Int} (hk : k < zs.length) (hz : zs.getD k 0 = z) : mk (zs.take (k + 1)) = mk (zs.take k) ||| 2 ^ z.toNat := by
  have e : zs[k] = z := by rw [← hz]; simp [hk]
  rw [List.take_add_one, List.getElem?_eq_getElem hk]
  simp only [mk, Option.toList_some, List.foldl_append, List.foldl_cons, List.foldl_nil, e]

theorem or_lt32 {m g : Nat} (hm : m < 32) (hg : g ≤ 4) : m ||| 2 ^ g < 32 := by
  have h2 : 2 ^ g < 2 ^ 5 := Nat.pow_lt_pow_of_lt (by decide) (by omega)
  exact Nat.or_lt_two_pow (n := 5) hm h2

theorem okAt_last {zs : List Int} {k : Nat} {z l : Int} (hz : zs.getD k 0 = z) (hl : l = lastAt zs k) : okAt zs k = (grB z && decide (l < z)) := by
  rw [okAt, hz, hl]
  by_cases h0 : k = 0
  · have h1 : lastAt zs k = -1 := if_pos h0
    have h2 : decide (k = 0) = true := by simpa using h0
    rw [h1, h2, Bool.true_or, Bool.and_true]
    cases hg : grB z with
    | false => rfl
    | true =>
      rw [grB_true] at hg
      have : decide ((-1 : Int) < z) = true := by simp; omega
      rw [this]; rfl
  · have h1 : lastAt zs k = zs.getD (k - 1) 0 := if_neg h0
    have h2 : decide (k = 0) = false := by simpa using h0
    rw [h1, h2, Bool.false_or]

theorem maskR_yes {zs : List Int} (h : gvalid zs = true) : maskR zs = mk zs := by simp [maskR, h]

theorem maskR_no {zs : List Int} (h : gvalid zs = false) : maskR zs = 0 := by simp [maskR, h]

theorem gvalid_all {zs : List Int} (h : gvalid zs = true) : ∀ i, i < zs.length → okAt zs i = true := by
  simp only [gvalid, Bool.and_eq_true, List.all_eq_true, List.mem_range] at h
  exact h.2

theorem gvalid_pos {zs : List Int} (h : gvalid zs = true) : 0 < zs.length := by
  simp only [gvalid, Bool.and_eq_true, decide_eq_true_eq] at h
  exact h.1

theorem gvalid_nil : gvalid [] = false := rfl

theorem maskR_fin {zs : List Int} {m : Nat} (hf : gvalid zs = decide (0 < zs.length)) (h : mk zs = m) : maskR zs = m := by
  cases hg : gvalid zs with
  | true => rw [maskR_yes hg, h]
  | false =>
    rw [maskR_no hg]
    rw [hg] at hf
    have h0 : zs.length = 0 := by
      have := of_decide_eq_false hf.symm
      omega
    have : zs = [] := List.eq_nil_of_length_eq_zero h0
    subst this
    rw [← h]; rfl

def pairB (xs ys : List Int) : Bool := gvalid xs && gvalid ys

def pairL (xs ys : List Int) : Nat := if pairB xs ys then mk xs else 0

def pairR (xs ys : List Int) : Nat := if pairB xs ys then mk ys else 0

theorem pairB_no1 {xs ys : List Int} (h : gvalid xs = false) : pairB xs ys = false := by simp [pairB, h]

theorem pairB_no2 {xs ys : List Int} (h : gvalid ys = false) : pairB xs ys = false := by simp [pairB, h]

theorem pairB_yes {xs ys : List Int} (h : gvalid xs = true) (h2 : gvalid ys = true) : pairB xs ys = true := by simp [pairB, h, h2]

theorem pairL_no1 {xs ys : List Int} (h : gvalid xs = false) : pairL xs ys = 0 := by simp [pairL, pairB_no1 h]

theorem pairL_no2 {xs ys : List Int} (h : gvalid ys = false) : pairL xs ys = 0 := by simp [pairL, pairB_no2 h]

theorem pairL_yes {xs ys : List Int} (h : gvalid xs = true) (h2 : gvalid ys = true) : pairL xs ys = maskR xs := by simp [pairL, pairB_yes h h2, maskR_yes h]

theorem pairR_no1 {xs ys : List Int} (h : gvalid xs = false) : pairR xs ys = 0 := by simp [pairR, pairB_no1 h]

theorem pairR_no2 {xs ys : List Int} (h : gvalid ys = false) : pairR xs ys = 0 := by simp [pairR, pairB_no2 h]

theorem pairR_yes {xs ys : List Int} (h : gvalid xs = true) (h2 : gvalid ys = true) : pairR xs ys = maskR ys := by simp [pairR, pairB_yes h h2, maskR_yes h2]

/-! ### a valid set is the elements of its mask -/
theorem gvalid_mem {zs : List Int} (h : gvalid zs = true) {z : Int} (hz : z ∈ zs) : 0 ≤ z ∧ z ≤ 4 := by
  obtain ⟨i, hi, rfl⟩ := List.getElem_of_mem hz
  have := gvalid_all h i hi
  rw [okAt, Bool.and_eq_true] at this
  have h1 := grB_true.1 this.1
  simpa [hi] using h1

theorem mk_test (zs : List Int) (g : Nat) : (mk zs).testBit g = zs.any fun z => decide (z.toNat = g) := by
  have key : ∀ (zs : List Int) (m : Nat), (zs.foldl (fun m z => m ||| 2 ^ z.toNat) m).testBit g = (m.testBit g || zs.any fun z => decide (z.toNat = g)) := by
    intro zs
    induction zs with
    | nil => intro m; simp
    | cons z r ih =>
      intro m
      rw [List.foldl_cons, ih, Nat.testBit_or, Nat.testBit_two_pow, List.any_cons, Bool.or_assoc]
  rw [mk, key]
  simp

theorem mk_lt {zs : List Int} (h : gvalid zs = true) : mk zs < 32 := by
  apply Nat.lt_pow_two_of_testBit (n := 5)
  intro i hi
  rw [mk_test, List.any_eq_false]
  intro z hz
  have := gvalid_mem h hz
  simp; omega

theorem pairL_lt (xs ys : List Int) : pairL xs ys < 32 := by
  unfold pairL
  cases h : pairB xs ys with
  | false => simp
  | true => simp only [if_true]; simp only [pairB, Bool.and_eq_true] at h; exact mk_lt h.1

theorem pairR_lt (xs ys : List Int) : pairR xs ys < 32 := by
  unfold pairR
  cases h : pairB xs ys with
  | false => simp
  | true => simp only [if_true]; simp only [pairB, Bool.and_eq_true] at h; exact mk_lt h.2

theorem common_lt32 {a b : Nat} (ha : a < 32) (_hb : b < 32) : a &&& b < 32 := Nat.lt_of_le_of_lt Nat.and_le_left ha

theorem union_lt32 {a b : Nat} (ha : a < 32) (hb : b < 32) : a ||| b < 32 := Nat.or_lt_two_pow (n := 5) ha hb

/-- strictly ascending lists with the same members are equal -/
theorem asc_ext : ∀ {xs ys : List Int}, xs.Pairwise (· < ·) → ys.Pairwise (· < ·) → (∀ z, z ∈ xs ↔ z ∈ ys) → xs = ys
  | [], [], _, _, _ => rfl
  | [], y :: ys, _, _, h => by have := (h y).2 (by simp); simp at this
  | x :: xs, [], _, _, h => by have := (h x).1 (by simp); simp at this
  | x :: xs, y :: ys, hx, hy, h => by
    rw [List.pairwise_cons] at hx hy
    have e : x = y := by
      have h1 := (h x).1 (by simp)
      have h2 := (h y).2 (by simp)
      rcases List.mem_cons.1 h1 with h1 | h1
      · exact h1
      · rcases List.mem_cons.1 h2 with h2 | h2
        · exact h2.symm
        · have := hx.1 _ h2; have := hy.1 _ h1; omega
    subst e
    congr 1
    apply asc_ext hx.2 hy.2
    intro z
    constructor
    · intro hz
      have := (h z).1 (by simp [hz])
      rcases List.mem_cons.1 this with h1 | h1
      · have := hx.1 _ hz; omega
      · exact h1
    · intro hz
      have := (h z).2 (by simp [hz])
      rcases List.mem_cons.1 this with h1 | h1
      · have := hy.1 _ hz; omega
      · exact h1

theorem gvalid_asc {zs : List Int} (h : gvalid zs = true) : zs.Pairwise (· < ·) := by
  have step : ∀ i, i + 1 < zs.length → zs.getD i 0 < zs.getD (i + 1) 0 := by
    intro i hi
    have := gvalid_all h (i + 1) hi
    rw [okAt, Bool.and_eq_true] at this
    simpa using this.2
  have far : ∀ (d i : Nat), i + d + 1 < zs.length → zs.getD i 0 < zs.getD (i + d + 1) 0 := by
    intro d
    induction d with
    | zero => intro i hi; exact step i hi
    | succ d ih => intro i hi; exact Int.lt_trans (ih i (by omega)) (by have := step (i + d + 1) (by omega); simpa [Nat.add_assoc] using this)
  rw [List.pairwise_iff_getElem]
  intro i j hi hj hij
  have := far (j - i - 1) i (by omega)
  rw [show i + (j - i - 1) + 1 = j by omega] at this
  simpa [hi, hj] using this

theorem grps_mem {k : Nat} {z : Int} : z ∈ grps k ↔ 0 ≤ z ∧ z < k := by
  simp only [grps, List.mem_map, List.mem_range]
  constructor
  · rintro ⟨i, hi, rfl⟩; omega
  · rintro ⟨h0, h1⟩; exact ⟨z.toNat, by omega, by omega⟩

theorem grps_asc (k : Nat) : (grps k).Pairwise (· < ·) := by
  rw [grps, List.pairwise_map]
  exact List.Pairwise.imp (fun h => by omega) List.pairwise_lt_range

theorem elemsM_mem {m : Nat} {z : Int} : z ∈ elemsM m ↔ (0 ≤ z ∧ z < 5) ∧ m.testBit z.toNat = true := by
  simp only [elemsM, List.mem_filter, grps_mem]; rfl

theorem elemsM_asc (m : Nat) : (elemsM m).Pairwise (· < ·) := (grps_asc 5).filter _

theorem gvalid_elems {zs : List Int} (h : gvalid zs = true) : zs = elemsM (mk zs) := by
  refine asc_ext (gvalid_asc h) (elemsM_asc _) fun z => ?_
  rw [elemsM_mem, mk_test, List.any_eq_true]
  constructor
  · intro hz
    have := gvalid_mem h hz
    exact ⟨by omega, z, hz, by simp⟩
  · rintro ⟨_, y, hy, e⟩
    have := gvalid_mem h hy
    have e' : y.toNat = z.toNat := by simpa using e
    have : y = z := by omega
    rw [← this]; exact hy

theorem hasB_iff {zs : List Int} {z : Int} : hasB zs z = true ↔ z ∈ zs := by
  unfold hasB; rw [List.contains_iff_mem]

theorem pairB_true {xs ys : List Int} (h : pairB xs ys = true) : gvalid xs = true ∧ gvalid ys = true := by
  simpa only [pairB, Bool.and_eq_true] using h

theorem commonR_no {xs ys : List Int} (h : pairB xs ys = false) : commonR xs ys = [] := by
  unfold pairB at h; simp [commonR, h]

theorem unionR_no {xs ys : List Int} (h : pairB xs ys = false) : unionR xs ys = [] := by
  unfold pairB at h; simp [unionR, h]

theorem commonR_elems {xs ys : List Int} (h : pairB xs ys = true) : commonR xs ys = elemsM (pairL xs ys &&& pairR xs ys) := by
  obtain ⟨h1, h2⟩ := pairB_true h
  rw [commonR_yes h1 h2, pairL, pairR, if_pos h, if_pos h]
  refine asc_ext ((gvalid_asc h1).filter _) (elemsM_asc _) fun z => ?_
  rw [commonL, List.mem_filter, hasB_iff, elemsM_mem, Nat.testBit_and, Bool.and_eq_true]
  have e1 := elemsM_mem (m := mk xs) (z := z)
  have e2 := elemsM_mem (m := mk ys) (z := z)
  rw [← gvalid_elems h1] at e1
  rw [← gvalid_elems h2] at e2
  rw [e1, e2]
  constructor
  · rintro ⟨⟨a, b⟩, _, c⟩; exact ⟨a, b, c⟩
  · rintro ⟨a, b, c⟩; exact ⟨⟨a, b⟩, a, c⟩

theorem unionR_elems {xs ys : List Int} (h : pairB xs ys = true) : unionR xs ys = elemsM (pairL xs ys ||| pairR xs ys) := by
  obtain ⟨h1, h2⟩ := pairB_true h
  rw [unionR_yes h1 h2, pairL, pairR, if_pos h, if_pos h]
  refine asc_ext ((grps_asc 5).filter _) (elemsM_asc _) fun z => ?_
  rw [unionL, List.mem_filter, grps_mem, Bool.or_eq_true, hasB_iff, hasB_iff, elemsM_mem, Nat.testBit_or, Bool.or_eq_true]
  have e1 := elemsM_mem (m := mk xs) (z := z)
  have e2 := elemsM_mem (m := mk ys) (z := z)
  rw [← gvalid_elems h1] at e1
  rw [← gvalid_elems h2] at e2
  rw [e1, e2]
  constructor
  · rintro ⟨a, b | b⟩
    · exact ⟨a, .inl b.2⟩
    · exact ⟨a, .inr b.2⟩
  · rintro ⟨a, b | b⟩
    · exact ⟨a, .inl ⟨a, b⟩⟩
    · exact ⟨a, .inr ⟨a, b⟩⟩

end Go.Proofs.Ytbnmeedmeikepaa
