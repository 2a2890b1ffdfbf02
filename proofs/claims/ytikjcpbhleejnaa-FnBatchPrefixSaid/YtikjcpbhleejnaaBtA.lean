/-
  Plain mathematics of batches: no program. The greedy cut, its fitting, its place of an item; that no fitting cut is shorter.
-/
import Derived.Test.YtikjcpbhleejnaaPure
namespace Go.Proofs.Ytikjcpbhleejnaa

/-- the sum of a list -/
def tot : List Int → Int
  | [] => 0
  | x :: xs => x + tot xs

theorem tot_append : ∀ (xs ys : List Int), tot (xs ++ ys) = tot xs + tot ys
  | [], ys => by simp [tot]
  | x :: xs, ys => by simp [tot, tot_append xs ys]; omega

theorem tot_take_succ {xs : List Int} {k : Nat} {z : Int} (hk : k < xs.length) (hz : xs.getD k 0 = z) : tot (xs.take (k + 1)) = tot (xs.take k) + z := by
  have e : xs[k] = z := by simpa [hk] using hz
  rw [List.take_succ_eq_append_getElem hk, tot_append, e]; simp [tot]

def posL (xs : List Int) : Prop := ∀ z ∈ xs, 1 ≤ z

theorem posL.tail {x : Int} {xs : List Int} (h : posL (x :: xs)) : posL xs := fun z hz => h z (List.mem_cons_of_mem _ hz)

theorem posL.head {x : Int} {xs : List Int} (h : posL (x :: xs)) : 1 ≤ x := h x (List.mem_cons_self ..)

theorem posL.drop {xs : List Int} (h : posL xs) (k : Nat) : posL (xs.drop k) := fun z hz => h z (List.mem_of_mem_drop hz)

theorem posL.take {xs : List Int} (h : posL xs) (k : Nat) : posL (xs.take k) := fun z hz => h z (List.mem_of_mem_take hz)

theorem posL.left {xs ys : List Int} (h : posL (xs ++ ys)) : posL xs := fun z hz => h z (List.mem_append_left _ hz)

theorem posL.right {xs ys : List Int} (h : posL (xs ++ ys)) : posL ys := fun z hz => h z (List.mem_append_right _ hz)

theorem posL.tot : ∀ {xs : List Int}, posL xs → (xs.length : Int) ≤ tot xs
  | [], _ => by simp [Go.Proofs.Ytikjcpbhleejnaa.tot]
  | x :: xs, h => by have := h.head; have := h.tail.tot; simp [Go.Proofs.Ytikjcpbhleejnaa.tot]; omega

theorem getD_mem' {zs : List Int} {i : Nat} (h : i < zs.length) : zs.getD i 0 ∈ zs := by
  have : zs.getD i 0 = zs[i] := by simp [h]
  rw [this]; exact List.getElem_mem h
/-- valid items with limits -/
def itB (B x : Int) : Bool := inB x 1 B

def bvB (xs : List Int) (B M : Int) : Bool := xs.all (itB B) && (decide (xs.length ≤ 20) && (inB B 1 99 && inB M 1 20))

theorem bvB_bad {xs : List Int} {B M : Int} {i : Nat} (hi : i < xs.length) (h : itB B (xs.getD i 0) = false) : bvB xs B M = false := by
  have : xs.all (itB B) = false := by
    rw [List.all_eq_false]; exact ⟨xs.getD i 0, by simp [hi], by rw [h]; decide⟩
  simp [bvB, this]

theorem bvB_fin {xs : List Int} {B M : Int} (h : ∀ i, i < xs.length → itB B (xs.getD i 0) = true) : bvB xs B M = (decide (xs.length ≤ 20) && (inB B 1 99 && inB M 1 20)) := by
  have : xs.all (itB B) = true := by
    rw [List.all_eq_true]
    intro x hx
    obtain ⟨i, hi, e⟩ := List.mem_iff_getElem.1 hx
    have := h i hi
    simpa [hi, e] using this
  simp [bvB, this]

theorem bvB_true {xs : List Int} {B M : Int} (h : bvB xs B M = true) : posL xs ∧ (∀ z ∈ xs, z ≤ B) ∧ xs.length ≤ 20 ∧ 1 ≤ B ∧ B ≤ 99 ∧ 1 ≤ M ∧ M ≤ 20 := by
  simp only [bvB, Bool.and_eq_true, List.all_eq_true, decide_eq_true_eq, itB, inB_true] at h
  obtain ⟨h1, h2, ⟨h3, h4⟩, h5, h6⟩ := h
  exact ⟨fun z hz => (h1 z hz).1, fun z hz => (h1 z hz).2, h2, h3, h4, h5, h6⟩

theorem bvB_of {xs : List Int} {B M : Int} (h1 : posL xs) (h2 : ∀ z ∈ xs, z ≤ B) (h3 : xs.length ≤ 20) (h4 : 1 ≤ B) (h5 : B ≤ 99) (h6 : 1 ≤ M) (h7 : M ≤ 20) : bvB xs B M = true := by
  simp only [bvB, Bool.and_eq_true, List.all_eq_true, decide_eq_true_eq, itB, inB_true]
  exact ⟨fun z hz => ⟨h1 z hz, h2 z hz⟩, h3, ⟨h4, h5⟩, h6, h7⟩

theorem bvB_lim {xs : List Int} {B M : Int} (h : ¬ (xs.length ≤ 20 ∧ (1 ≤ B ∧ B ≤ 99) ∧ 1 ≤ M ∧ M ≤ 20)) : bvB xs B M = false := by
  cases e : bvB xs B M with
  | false => rfl
  | true => obtain ⟨_, _, h3, h4, h5, h6, h7⟩ := bvB_true e; exact absurd ⟨h3, ⟨h4, h5⟩, h6, h7⟩ h

/-! ### the greedy cut -/
def gcut (B M : Int) : List Int → Int → Int → List Int
  | [], c, _ => if 0 < c then [c] else []
  | x :: xs, c, s => if B < s + x ∨ c = M then c :: gcut B M xs 1 x else gcut B M xs (c + 1) (s + x)

def cutR (xs : List Int) (B M : Int) : List Int := if bvB xs B M then gcut B M xs 0 0 else []

theorem cutR_yes {xs : List Int} {B M : Int} (h : bvB xs B M = true) : cutR xs B M = gcut B M xs 0 0 := by simp [cutR, h]

theorem cutR_no {xs : List Int} {B M : Int} (h : bvB xs B M = false) : cutR xs B M = [] := by simp [cutR, h]

theorem drop_cons {xs : List Int} {k : Nat} {z : Int} (hk : k < xs.length) (hz : xs.getD k 0 = z) : xs.drop k = z :: xs.drop (k + 1) := by
  have e : xs[k] = z := by simpa [hk] using hz
  rw [← e]; exact List.drop_eq_getElem_cons hk

theorem gcut_cut {B M c s x : Int} {xs : List Int} (h : B < s + x ∨ c = M) : gcut B M (x :: xs) c s = c :: gcut B M xs 1 x := by simp [gcut, h]

theorem gcut_on {B M c s x : Int} {xs : List Int} (h : ¬ (B < s + x ∨ c = M)) : gcut B M (x :: xs) c s = gcut B M xs (c + 1) (s + x) := by simp [gcut, h]

theorem gcut_len_le {B M : Int} : ∀ (xs : List Int) (c s : Int), (gcut B M xs c s).length ≤ xs.length + 1
  | [], c, s => by simp only [gcut]; split <;> simp
  | x :: xs, c, s => by
    simp only [gcut]; split
    · simp; exact gcut_len_le xs 1 x
    · have := gcut_len_le (B := B) (M := M) xs (c + 1) (s + x); simp; omega

/-! ### a fitting cut -/
def fitL (B M : Int) : List Int → List Int → Bool
  | xs, [] => xs.isEmpty
  | xs, c :: cs => (inB c 1 M && decide (c ≤ xs.length)) && (decide (tot (xs.take c.toNat) ≤ B) && fitL B M (xs.drop c.toNat) cs)

def fitR (xs : List Int) (B M : Int) (cut : List Int) : Bool := bvB xs B M && fitL B M xs cut

theorem fitL_cons {B M c : Int} {xs cs : List Int} : fitL B M xs (c :: cs) = true ↔ (1 ≤ c ∧ c ≤ M) ∧ c ≤ xs.length ∧ tot (xs.take c.toNat) ≤ B ∧ fitL B M (xs.drop c.toNat) cs = true := by
  simp only [fitL, Bool.and_eq_true, decide_eq_true_eq, inB_true]
  exact ⟨fun ⟨⟨a, b⟩, c, d⟩ => ⟨a, b, c, d⟩, fun ⟨a, b, c, d⟩ => ⟨⟨a, b⟩, c, d⟩⟩

theorem gcut_fit {B M : Int} (hM : 1 ≤ M) : ∀ (xs p : List Int) (s : Int), tot p = s → s ≤ B → (p.length : Int) ≤ M → (∀ z ∈ xs, z ≤ B) → fitL B M (p ++ xs) (gcut B M xs p.length s) = true
  | [], p, s, hs, hB, hp, _ => by
    simp only [gcut, List.append_nil]
    split
    · rw [fitL_cons]
      refine ⟨by omega, by omega, ?_, ?_⟩
      · rw [Int.toNat_natCast, List.take_length]; omega
      · rw [Int.toNat_natCast, List.drop_length]; rfl
    · have : p = [] := List.eq_nil_of_length_eq_zero (by omega)
      subst this; rfl
  | x :: xs, p, s, hs, hB, hp, hx => by
    have hxB := hx x (List.mem_cons_self ..)
    have hx' : ∀ z ∈ xs, z ≤ B := fun z hz => hx z (List.mem_cons_of_mem _ hz)
    by_cases h : B < s + x ∨ (p.length : Int) = M
    · rw [gcut_cut h, fitL_cons]
      have hp1 : 1 ≤ p.length := by
        rcases Nat.eq_zero_or_pos p.length with e | e
        · have : p = [] := List.eq_nil_of_length_eq_zero e
          subst this; simp [tot] at hs; subst hs; simp at h; omega
        · exact e
      refine ⟨by omega, by simp; omega, ?_, ?_⟩
      · rw [Int.toNat_natCast, List.take_left]; omega
      · rw [Int.toNat_natCast, List.drop_left]
        have := gcut_fit (B := B) hM xs [x] x (by simp [tot]) hxB (by simpa using hM) hx'
        simpa using this
    · rw [gcut_on h]
      have := gcut_fit (B := B) hM xs (p ++ [x]) (s + x) (by rw [tot_append, hs]; simp [tot]) (by omega) (by simp; omega) hx'
      simpa using this

theorem cut_fits {xs : List Int} {B M : Int} (h : bvB xs B M = true) : fitR xs B M (cutR xs B M) = true := by
  obtain ⟨h1, h2, h3, h4, h5, h6, h7⟩ := bvB_true h
  rw [fitR, cutR_yes h, h, Bool.true_and]
  exact gcut_fit h6 xs [] 0 rfl (by omega) (by simp; omega) h2

/-! ### no fitting cut is shorter -/
theorem gcut_le {B M : Int} (hM : 1 ≤ M) : ∀ (xs : List Int), posL xs →
    (∀ c s c' s' : Int, 0 ≤ c → c ≤ c' → c' ≤ M → s ≤ s' → (gcut B M xs c s).length ≤ (gcut B M xs c' s').length) ∧
    (∀ c s c' s' : Int, 0 ≤ c → c ≤ M → 0 ≤ c' → c' ≤ M → 0 ≤ s' → (gcut B M xs c s).length ≤ (gcut B M xs c' s').length + 1)
  | [], _ => by
    refine ⟨fun c s c' s' h0 h1 _ _ => ?_, fun c s c' s' _ _ _ _ _ => ?_⟩
    · simp only [gcut]; split <;> split <;> simp <;> omega
    · simp only [gcut]; split <;> split <;> simp
  | x :: xs, hp => by
    obtain ⟨A, D⟩ := gcut_le (B := B) hM xs hp.tail
    have hx := hp.head
    refine ⟨fun c s c' s' h0 h1 h2 h3 => ?_, fun c s c' s' h0 h1 h2 h3 h4 => ?_⟩
    · by_cases a : B < s + x ∨ c = M
      · have b : B < s' + x ∨ c' = M := by omega
        rw [gcut_cut a, gcut_cut b]; simp
      · rw [gcut_on a]
        by_cases b : B < s' + x ∨ c' = M
        · rw [gcut_cut b]
          have := D (c + 1) (s + x) 1 x (by omega) (by omega) (by omega) (by omega) (by omega)
          simpa using this
        · rw [gcut_on b]
          exact A _ _ _ _ (by omega) (by omega) (by omega) (by omega)
    · by_cases a : B < s + x ∨ c = M
      · rw [gcut_cut a]
        by_cases b : B < s' + x ∨ c' = M
        · rw [gcut_cut b]; simp
        · rw [gcut_on b]
          have := A 1 x (c' + 1) (s' + x) (by omega) (by omega) (by omega) (by omega)
          simpa using this
      · rw [gcut_on a]
        by_cases b : B < s' + x ∨ c' = M
        · rw [gcut_cut b]
          have := D (c + 1) (s + x) 1 x (by omega) (by omega) (by omega) (by omega) (by omega)
          simp; omega
        · rw [gcut_on b]
          exact D _ _ _ _ (by omega) (by omega) (by omega) (by omega) (by omega)

theorem gcut_run {B M : Int} : ∀ (p ys : List Int) (c s : Int), posL p → s + tot p ≤ B → c + p.length ≤ M → gcut B M (p ++ ys) c s = gcut B M ys (c + p.length) (s + tot p)
  | [], ys, c, s, _, _, _ => by simp [tot]
  | x :: p, ys, c, s, hp, hB, hM => by
    have hl := hp.tail.tot
    simp only [tot, List.length_cons] at hB hM ⊢
    rw [List.cons_append, gcut_on (by omega), gcut_run p ys (c + 1) (s + x) hp.tail (by omega) (by omega)]
    congr 1
    · omega
    · omega

theorem gcut_few {B M : Int} (hM : 1 ≤ M) : ∀ (cut xs : List Int), posL xs → fitL B M xs cut = true → (gcut B M xs 0 0).length ≤ cut.length
  | [], xs, _, h => by
    have : xs = [] := by simpa [fitL] using h
    subst this; simp [gcut]
  | c :: cs, xs, hp, h => by
    obtain ⟨⟨h1, h2⟩, h3, h4, h5⟩ := fitL_cons.1 h
    obtain ⟨n, rfl⟩ := Int.eq_ofNat_of_zero_le (show 0 ≤ c by omega)
    rw [Int.toNat_natCast] at h4 h5
    have hl : (xs.take n).length = n := by rw [List.length_take]; omega
    have hr := gcut_run (B := B) (M := M) (xs.take n) (xs.drop n) 0 0 (hp.take n) (by omega) (by rw [hl]; omega)
    rw [List.take_append_drop, hl] at hr
    rw [hr]
    have h6 := (gcut_le (B := B) hM (xs.drop n) (hp.drop n)).2 (0 + n) (0 + tot (xs.take n)) 0 0 (by omega) (by omega) (by omega) (by omega) (by omega)
    have h7 := gcut_few (B := B) hM cs (xs.drop n) (hp.drop n) h5
    rw [List.length_cons]; omega

theorem few {xs cut : List Int} {B M : Int} (h : fitR xs B M cut = true) : (cutR xs B M).length ≤ cut.length := by
  rw [fitR, Bool.and_eq_true] at h
  obtain ⟨h1, _, _, _, _, h6, _⟩ := bvB_true h.1
  rw [cutR_yes h.1]
  exact gcut_few h6 cut xs h1 h.2

theorem fitL_more {B M B' M' : Int} (hB : B ≤ B') (hM : M ≤ M') : ∀ {cut xs : List Int}, fitL B M xs cut = true → fitL B' M' xs cut = true
  | [], _, h => h
  | c :: cs, xs, h => by
    obtain ⟨⟨h1, h2⟩, h3, h4, h5⟩ := fitL_cons.1 h
    exact fitL_cons.2 ⟨⟨h1, by omega⟩, h3, by omega, fitL_more hB hM h5⟩

theorem fitL_tot {B M : Int} : ∀ {cut xs : List Int}, fitL B M xs cut = true → tot cut = xs.length ∧ ∀ c ∈ cut, 1 ≤ c ∧ c ≤ M
  | [], xs, h => by
    have : xs = [] := by simpa [fitL] using h
    subst this; simp [tot]
  | c :: cs, xs, h => by
    obtain ⟨⟨h1, h2⟩, h3, h4, h5⟩ := fitL_cons.1 h
    obtain ⟨e, ha⟩ := fitL_tot h5
    refine ⟨?_, fun d hd => ?_⟩
    · simp only [tot, e, List.length_drop]; omega
    · rcases List.mem_cons.1 hd with rfl | hd
      · exact ⟨h1, h2⟩
      · exact ha d hd

/-! ### larger limits, a prefix, single items, few items -/
theorem larger {xs : List Int} {B M B' M' : Int} (h : bvB xs B M = true) (hB : B ≤ B') (hM : M ≤ M') (h9 : B' ≤ 99) (h2 : M' ≤ 20) (hne : 0 < (cutR xs B M).length) : 0 < (cutR xs B' M').length ∧ (cutR xs B' M').length ≤ (cutR xs B M).length := by
  obtain ⟨a1, a2, a3, a4, a5, a6, a7⟩ := bvB_true h
  have h' : bvB xs B' M' = true := bvB_of a1 (fun z hz => Int.le_trans (a2 z hz) hB) a3 (by omega) h9 (by omega) h2
  have hf := cut_fits h
  rw [fitR, Bool.and_eq_true] at hf
  have hf' := cut_fits h'
  rw [fitR, Bool.and_eq_true] at hf'
  refine ⟨?_, few (by rw [fitR, h', Bool.true_and]; exact fitL_more hB hM hf.2)⟩
  have e1 := (fitL_tot hf.2).1
  have e2 := (fitL_tot hf'.2).1
  rcases Nat.eq_zero_or_pos (cutR xs B' M').length with e | e
  · have := List.eq_nil_of_length_eq_zero e
    rw [this] at e2
    simp [tot] at e2
    have hp : posL (cutR xs B M) := fun z hz => ((fitL_tot hf.2).2 z hz).1
    have := hp.tot
    rw [e1] at this
    omega
  · exact e

def preB : List Int → List Int → Prop
  | [], _ => True
  | _ :: _, [] => False
  | x :: xs, y :: ys => x ≤ y ∧ (xs ≠ [] → x = y) ∧ preB xs ys

theorem gcut_head {B M : Int} : ∀ (ys : List Int) (c s : Int), 0 < c → ∃ h t, gcut B M ys c s = h :: t ∧ c ≤ h
  | [], c, s, h => ⟨c, [], by simp [gcut, h], Int.le_refl _⟩
  | x :: ys, c, s, h => by
    by_cases a : B < s + x ∨ c = M
    · exact ⟨c, _, gcut_cut a, Int.le_refl _⟩
    · obtain ⟨h', t, e, hl⟩ := gcut_head (B := B) (M := M) ys (c + 1) (s + x) (by omega)
      exact ⟨h', t, by rw [gcut_on a, e], by omega⟩

theorem gcut_pre {B M : Int} : ∀ (xs ys : List Int) (c s : Int), preB (gcut B M xs c s) (gcut B M (xs ++ ys) c s)
  | [], ys, c, s => by
    by_cases h : 0 < c
    · obtain ⟨h', t, e, hl⟩ := gcut_head (B := B) (M := M) ys c s h
      rw [List.nil_append, e]
      simp [gcut, h, preB, hl]
    · simp [gcut, h, preB]
  | x :: xs, ys, c, s => by
    rw [List.cons_append]
    by_cases a : B < s + x ∨ c = M
    · rw [gcut_cut a, gcut_cut a]
      exact ⟨Int.le_refl _, fun _ => rfl, gcut_pre xs ys 1 x⟩
    · rw [gcut_on a, gcut_on a]
      exact gcut_pre xs ys _ _

theorem preB.len : ∀ {xs ys : List Int}, preB xs ys → xs.length ≤ ys.length
  | [], _, _ => by simp
  | _ :: _, [], h => h.elim
  | _ :: _, _ :: _, h => by have := preB.len h.2.2; simp; omega

theorem preB.at_ : ∀ {xs ys : List Int} {i : Nat}, preB xs ys → i < xs.length → xs.getD i 0 ≤ ys.getD i 0 ∧ (i + 1 < xs.length → xs.getD i 0 = ys.getD i 0)
  | [], _, _, _, h => by simp at h
  | _ :: _, [], _, h, _ => h.elim
  | x :: xs, y :: ys, 0, h, _ => ⟨by simpa using h.1, fun hl => by simpa using h.2.1 (fun e => by subst e; simp at hl)⟩
  | x :: xs, y :: ys, i + 1, h, hi => by
    have := preB.at_ (i := i) h.2.2 (by simpa using hi)
    simpa using this

theorem bvB_take {xs : List Int} {B M : Int} (h : bvB xs B M = true) (n : Nat) : bvB (xs.take n) B M = true := by
  obtain ⟨a1, a2, a3, a4, a5, a6, a7⟩ := bvB_true h
  exact bvB_of (a1.take n) (fun z hz => a2 z (List.mem_of_mem_take hz)) (by rw [List.length_take]; omega) a4 a5 a6 a7

theorem cut_pre {xs : List Int} {B M : Int} (h : bvB xs B M = true) (n : Nat) : preB (cutR (xs.take n) B M) (cutR xs B M) := by
  rw [cutR_yes h, cutR_yes (bvB_take h n)]
  have := gcut_pre (B := B) (M := M) (xs.take n) (xs.drop n) 0 0
  rwa [List.take_append_drop] at this

theorem gcut_one {B : Int} : ∀ (xs : List Int) (s : Int), gcut B 1 xs 1 s = List.replicate (xs.length + 1) 1
  | [], s => by simp [gcut]
  | x :: xs, s => by rw [gcut_cut (.inr rfl), gcut_one xs x]; rfl

theorem cut_one {xs : List Int} {B : Int} (h : bvB xs B 1 = true) : cutR xs B 1 = List.replicate xs.length 1 := by
  rw [cutR_yes h]
  obtain ⟨_, a2, _⟩ := bvB_true h
  cases xs with
  | nil => simp [gcut]
  | cons x xs =>
    have := a2 x (List.mem_cons_self ..)
    rw [gcut_on (by omega)]
    exact gcut_one xs _

theorem cut_all {xs : List Int} {B M : Int} (h : bvB xs B M = true) (h1 : tot xs ≤ B) (h2 : (xs.length : Int) ≤ M) : (cutR xs B M).length = min xs.length 1 := by
  obtain ⟨a1, _⟩ := bvB_true h
  rw [cutR_yes h]
  have := gcut_run (B := B) (M := M) xs [] 0 0 a1 (by omega) (by omega)
  rw [List.append_nil] at this
  rw [this, gcut]
  split
  · simp; omega
  · simp; omega

/-! ### a batch takes as many items as possible -/
def fullL (B M : Int) : List Int → List Int → Prop
  | _, [] => True
  | _, [_] => True
  | xs, c :: d :: cs => (B < tot (xs.take (c.toNat + 1)) ∨ c = M) ∧ fullL B M (xs.drop c.toNat) (d :: cs)

theorem gcut_full {B M : Int} : ∀ (xs p : List Int) (s : Int), tot p = s → fullL B M (p ++ xs) (gcut B M xs p.length s)
  | [], p, s, _ => by simp only [gcut]; split <;> simp [fullL]
  | x :: xs, p, s, hs => by
    by_cases h : B < s + x ∨ (p.length : Int) = M
    · rw [gcut_cut h]
      obtain ⟨d, t, e, _⟩ := gcut_head (B := B) (M := M) xs 1 x (by omega)
      have ih := gcut_full (B := B) (M := M) xs [x] x (by simp [tot])
      simp only [List.length_singleton, Int.cast_ofNat_Int] at ih
      rw [e] at ih ⊢
      refine ⟨?_, ?_⟩
      · rw [Int.toNat_natCast]
        rcases h with h | h
        · left
          have : (p ++ x :: xs).take (p.length + 1) = p ++ [x] := by
            rw [show p ++ x :: xs = (p ++ [x]) ++ xs from by simp]
            exact List.take_left' (by simp)
          rw [this, tot_append, hs]; simp [tot]; omega
        · exact .inr h
      · rw [Int.toNat_natCast, List.drop_left]; exact ih
    · rw [gcut_on h]
      have := gcut_full (B := B) (M := M) xs (p ++ [x]) (s + x) (by rw [tot_append, hs]; simp [tot])
      simpa using this

theorem cut_full {xs : List Int} {B M : Int} (h : bvB xs B M = true) : fullL B M xs (cutR xs B M) := by
  rw [cutR_yes h]; exact gcut_full xs [] 0 rfl

/-! ### the batch of an item -/
def ofL (x : Int) : List Int → Int → Int → Int
  | [], _, _ => -1
  | c :: cs, i, a => if inB c 1 20 = false then -1 else if 0 ≤ x ∧ x < a + c then i else ofL x cs (i + 1) (a + c)

def ofR (cut : List Int) (x : Int) : Int := if cut.length ≤ 20 then ofL x cut 0 0 else -1

theorem ofL_bad {x c i a : Int} {cs : List Int} (h : inB c 1 20 = false) : ofL x (c :: cs) i a = -1 := by simp [ofL, h]

theorem ofL_hit {x c i a : Int} {cs : List Int} (h : inB c 1 20 = true) (h0 : 0 ≤ x) (h1 : x < a + c) : ofL x (c :: cs) i a = i := by simp [ofL, h, h0, h1]

theorem ofL_on {x c i a : Int} {cs : List Int} (h : inB c 1 20 = true) (h1 : ¬ (0 ≤ x ∧ x < a + c)) : ofL x (c :: cs) i a = ofL x cs (i + 1) (a + c) := by simp [ofL, h, h1]

theorem ofL_at {x : Int} : ∀ (pre : List Int) (c i a : Int) (cs : List Int), (∀ d ∈ pre, inB d 1 20 = true) → inB c 1 20 = true → 0 ≤ x → a + tot pre ≤ x → x < a + tot pre + c → ofL x (pre ++ c :: cs) i a = i + pre.length
  | [], c, i, a, cs, _, hc, h0, _, h2 => by simp only [tot] at h2; rw [List.nil_append, ofL_hit hc h0 (by omega)]; simp
  | d :: pre, c, i, a, cs, hp, hc, h0, h1, h2 => by
    have hd := hp d (List.mem_cons_self ..)
    have hpos : posL pre := fun z hz => (inB_true.1 (hp z (List.mem_cons_of_mem _ hz))).1
    have := hpos.tot
    simp only [tot] at h1 h2
    rw [List.cons_append, ofL_on hd (by omega), ofL_at pre c (i + 1) (a + d) cs (fun z hz => hp z (List.mem_cons_of_mem _ hz)) hc h0 (by omega) (by omega)]
    simp; omega

theorem ofL_out {x : Int} : ∀ (cut : List Int) (i a : Int), (∀ d ∈ cut, inB d 1 20 = true) → x < 0 ∨ a + tot cut ≤ x → ofL x cut i a = -1
  | [], _, _, _, _ => rfl
  | c :: cs, i, a, h, hx => by
    have hc := h c (List.mem_cons_self ..)
    have hpos : posL cs := fun z hz => (inB_true.1 (h z (List.mem_cons_of_mem _ hz))).1
    have := hpos.tot
    simp only [tot] at hx
    rw [ofL_on hc (by omega)]
    exact ofL_out cs _ _ (fun z hz => h z (List.mem_cons_of_mem _ hz)) (by omega)

theorem cut_len {xs : List Int} {B M : Int} : (cutR xs B M).length ≤ 20 := by
  cases h : bvB xs B M with
  | false => rw [cutR_no h]; simp
  | true =>
    obtain ⟨_, _, h3, _⟩ := bvB_true h
    have hf := cut_fits h
    rw [fitR, Bool.and_eq_true] at hf
    obtain ⟨e, ha⟩ := fitL_tot hf.2
    have hp : posL (cutR xs B M) := fun z hz => (ha z hz).1
    have := hp.tot
    omega

theorem cut_in {xs : List Int} {B M : Int} : ∀ d ∈ cutR xs B M, inB d 1 20 = true := by
  intro d hd
  cases h : bvB xs B M with
  | false => rw [cutR_no h] at hd; simp at hd
  | true =>
    obtain ⟨_, _, h3, _, _, _, h7⟩ := bvB_true h
    have hf := cut_fits h
    rw [fitR, Bool.and_eq_true] at hf
    have := (fitL_tot hf.2).2 d hd
    rw [inB_true]; omega

theorem cut_tot {xs : List Int} {B M : Int} (h : bvB xs B M = true) : tot (cutR xs B M) = xs.length := by
  have hf := cut_fits h
  rw [fitR, Bool.and_eq_true] at hf
  exact (fitL_tot hf.2).1
end Go.Proofs.Ytikjcpbhleejnaa
