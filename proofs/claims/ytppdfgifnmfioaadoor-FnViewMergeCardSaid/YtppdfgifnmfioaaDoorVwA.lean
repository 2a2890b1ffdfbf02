/-
  Plain mathematics of views: no program. What a valid view is; what joining, leaving, splitting, merging and majorities answer. No condition.
-/
import Derived.Test.YtppdfgifnmfioaaDoorMgA
namespace Go.Proofs.YtppdfgifnmfioaaDoor
set_option linter.unusedVariables false
set_option linter.unusedSimpArgs false

/-! ### members -/
def mvAt (zs : List Int) (i : Nat) : Bool := inB (zs.getD i 0) 0 7 && (decide (i = 0) || decide (zs.getD (i - 1) 0 < zs.getD i 0))

def mvB (zs : List Int) : Bool := (List.range zs.length).all (mvAt zs)
/-- strictly ascending members -/
def Mv (zs : List Int) : Prop := zs.Pairwise (· < ·) ∧ ∀ z ∈ zs, 0 ≤ z ∧ z ≤ 7
section
variable {zs : List Int}

theorem mvAt_false {k : Nat} {z y : Int} (h0 : 0 < k) (hz : zs.getD k 0 = z) (hy : zs.getD (k - 1) 0 = y) (h : z ≤ y) : mvAt zs k = false := by
  have h1 : decide (k = 0) = false := by simp; omega
  have h2 : decide (y < z) = false := by simp; omega
  rw [mvAt, hz, hy, h1, h2]; simp

theorem mvAt_true {k : Nat} {z y : Int} (hg : inB z 0 7 = true) (hz : zs.getD k 0 = z) (hy : zs.getD (k - 1) 0 = y) (h : y < z) : mvAt zs k = true := by
  rw [mvAt, hz, hy, hg]; simp [h]

theorem mvB_of_all (h : ∀ i, i < zs.length → mvAt zs i = true) : mvB zs = true := by
  unfold mvB; rw [List.all_eq_true]; intro i hi; exact h i (by simpa using hi)

theorem mvB_of_bad {i : Nat} (hi : i < zs.length) (h : mvAt zs i = false) : mvB zs = false := by
  unfold mvB; rw [List.all_eq_false]; exact ⟨i, by simpa using hi, by simp [h]⟩

theorem mvB_all (h : mvB zs = true) : ∀ i, i < zs.length → mvAt zs i = true := by
  unfold mvB at h; rw [List.all_eq_true] at h; intro i hi; exact h i (by simpa using hi)

theorem mvB_true : mvB zs = true ↔ Mv zs := by
  constructor
  · intro h
    have ha := mvB_all h
    have step : ∀ i, i + 1 < zs.length → zs.getD i 0 < zs.getD (i + 1) 0 := by
      intro i hi
      have := ha (i + 1) hi
      rw [mvAt, Bool.and_eq_true] at this
      simpa using this.2
    have far : ∀ (d i : Nat), i + d + 1 < zs.length → zs.getD i 0 < zs.getD (i + d + 1) 0 := by
      intro d
      induction d with
      | zero => intro i hi; exact step i hi
      | succ d ih => intro i hi; exact Int.lt_trans (ih i (by omega)) (by have := step (i + d + 1) (by omega); simpa [Nat.add_assoc] using this)
    refine ⟨?_, fun z hz => ?_⟩
    · rw [List.pairwise_iff_getElem]
      intro i j hi hj hij
      have := far (j - i - 1) i (by omega)
      rw [show i + (j - i - 1) + 1 = j by omega] at this
      simpa [hi, hj] using this
    · obtain ⟨i, hi, rfl⟩ := List.getElem_of_mem hz
      have := ha i hi
      rw [mvAt, Bool.and_eq_true] at this
      have h1 := inB_true.1 this.1
      simpa [hi] using h1
  · rintro ⟨ha, hr⟩
    apply mvB_of_all
    intro i hi
    rw [List.pairwise_iff_getElem] at ha
    have hg : inB (zs.getD i 0) 0 7 = true := by
      rw [inB_true]
      have := hr zs[i] (List.getElem_mem hi)
      simpa [hi] using this
    rw [mvAt, hg, Bool.true_and, Bool.or_eq_true]
    by_cases h0 : i = 0
    · left; simpa using h0
    · right
      have := ha (i - 1) i (by omega) hi (by omega)
      have h1 : i - 1 < zs.length := by omega
      simpa [hi, h1] using this
/-- the program's way: the last one before, -1 at first -/
def lastM (zs : List Int) (k : Nat) : Int := if k = 0 then -1 else zs.getD (k - 1) 0

theorem lastM_succ {k : Nat} {z : Int} (hz : zs.getD k 0 = z) : lastM zs (k + 1) = z := by rw [lastM, if_neg (by omega)]; exact hz

theorem lastM_ge {k : Nat} (h : ∀ j, j < k → mvAt zs j = true) : -1 ≤ lastM zs k ∧ lastM zs k ≤ 7 := by
  unfold lastM
  by_cases h0 : k = 0
  · rw [if_pos h0]; omega
  · rw [if_neg h0]
    have := h (k - 1) (by omega)
    rw [mvAt, Bool.and_eq_true] at this
    have := inB_true.1 this.1
    omega

theorem mvAt_last {k : Nat} {z l : Int} (hz : zs.getD k 0 = z) (hl : lastM zs k = l) (h : ∀ j, j < k → mvAt zs j = true) : mvAt zs k = (decide (l < z) && decide (z < 8)) := by
  have hg := lastM_ge h
  rw [hl] at hg
  unfold lastM at hl
  rw [mvAt, hz, inB, Bool.eq_iff_iff]
  by_cases h0 : k = 0
  · rw [if_pos h0] at hl
    subst h0
    simp
    omega
  · rw [if_neg h0] at hl
    rw [hl]
    simp [h0]
    omega

/-! ### places in ascending members -/
def cnt (zs : List Int) (m : Int) : Nat := zs.countP fun z => decide (z < m)

theorem cnt_le (m : Int) : cnt zs m ≤ zs.length := List.countP_le_length

theorem cnt_cons_lt {z m : Int} (h : z < m) : cnt (z :: zs) m = cnt zs m + 1 := by simp [cnt, List.countP_cons, h]

theorem cnt_zero {m : Int} (h : ∀ z ∈ zs, ¬ z < m) : cnt zs m = 0 := by
  unfold cnt; rw [List.countP_eq_zero]; intro z hz; simpa using h z hz

theorem cnt_cons_ge {z m : Int} (ha : (z :: zs).Pairwise (· < ·)) (h : ¬ z < m) : cnt (z :: zs) m = 0 := by
  rw [List.pairwise_cons] at ha
  apply cnt_zero
  intro y hy
  rcases List.mem_cons.1 hy with rfl | hy
  · exact h
  · have := ha.1 y hy; omega

theorem take_cnt {m : Int} : ∀ {zs : List Int}, zs.Pairwise (· < ·) → zs.take (cnt zs m) = zs.filter (fun z => decide (z < m)) ∧ zs.drop (cnt zs m) = zs.filter (fun z => !decide (z < m))
  | [], _ => by simp
  | z :: zs, ha => by
    by_cases h : z < m
    · obtain ⟨h1, h2⟩ := take_cnt (m := m) (List.pairwise_cons.1 ha).2
      rw [cnt_cons_lt h]
      simp only [List.take_succ_cons, List.drop_succ_cons, h1, h2, List.filter_cons, h, decide_true, if_true, Bool.not_true, Bool.false_eq_true, if_false]
      exact ⟨trivial, trivial⟩
    · have hall : ∀ y ∈ z :: zs, ¬ y < m := by
        rw [List.pairwise_cons] at ha
        intro y hy
        rcases List.mem_cons.1 hy with rfl | hy
        · exact h
        · have := ha.1 y hy; omega
      rw [cnt_cons_ge ha h, List.take_zero, List.drop_zero]
      constructor
      · symm; rw [List.filter_eq_nil_iff]; intro y hy; simpa using hall y hy
      · symm; rw [List.filter_eq_self]; intro y hy; simpa using hall y hy
/-- the first place that is not below m -/
theorem cnt_of {m : Int} {k : Nat} (hk : k ≤ zs.length) (h1 : ∀ j, j < k → zs.getD j 0 < m) (h2 : ∀ j, k ≤ j → j < zs.length → ¬ zs.getD j 0 < m) : cnt zs m = k := by
  have e : zs = zs.take k ++ zs.drop k := (List.take_append_drop k zs).symm
  have c1 : (zs.take k).countP (fun z => decide (z < m)) = k := by
    have hl : (zs.take k).length = k := by rw [List.length_take]; omega
    have : (zs.take k).countP (fun z => decide (z < m)) = (zs.take k).length := by
      rw [List.countP_eq_length]
      intro z hz
      obtain ⟨i, hi, rfl⟩ := List.getElem_of_mem hz
      have h3 := h1 i (by omega)
      have hi2 : i < zs.length := by omega
      rw [List.getElem_take]
      simpa [hi2] using h3
    rw [this, hl]
  have c2 : (zs.drop k).countP (fun z => decide (z < m)) = 0 := by
    rw [List.countP_eq_zero]
    intro z hz
    obtain ⟨i, hi, rfl⟩ := List.getElem_of_mem hz
    rw [List.length_drop] at hi
    have h3 := h2 (k + i) (by omega) (by omega)
    have hi2 : k + i < zs.length := by omega
    rw [List.getElem_drop]
    simpa [hi2] using h3
  unfold cnt
  rw [e, List.countP_append, c1, c2]
  simp [List.length_take]

theorem asc_at (ha : zs.Pairwise (· < ·)) {i j : Nat} (hij : i < j) (hj : j < zs.length) : zs.getD i 0 < zs.getD j 0 := by
  rw [List.pairwise_iff_getElem] at ha
  have := ha i j (by omega) hj hij
  have h1 : i < zs.length := by omega
  simpa [h1, hj] using this

theorem asc_nodup (ha : zs.Pairwise (· < ·)) : zs.Nodup := ha.imp fun h e => by omega

/-! ### a further member, one member less -/
def ins (zs : List Int) (m : Int) : List Int := zs.take (cnt zs m) ++ m :: zs.drop (cnt zs m)

def del (zs : List Int) (m : Int) : List Int := zs.take (cnt zs m) ++ zs.drop (cnt zs m + 1)

theorem ins_len (zs : List Int) (m : Int) : (ins zs m).length = zs.length + 1 := by
  have := cnt_le (zs := zs) m
  simp [ins]; omega

theorem ins_mem {m z : Int} : z ∈ ins zs m ↔ (z ∈ zs ∨ z = m) := by
  have e : z ∈ zs ↔ z ∈ zs.take (cnt zs m) ++ zs.drop (cnt zs m) := by rw [List.take_append_drop]
  rw [e, ins]
  simp only [List.mem_append, List.mem_cons]
  constructor
  · rintro (h | h | h)
    · exact .inl (.inl h)
    · exact .inr h
    · exact .inl (.inr h)
  · rintro ((h | h) | h)
    · exact .inl h
    · exact .inr (.inr h)
    · exact .inr (.inl h)

theorem ins_asc {m : Int} (ha : zs.Pairwise (· < ·)) (hm : m ∉ zs) : (ins zs m).Pairwise (· < ·) := by
  obtain ⟨h1, h2⟩ := take_cnt (m := m) ha
  rw [ins, h1, h2, List.pairwise_append]
  refine ⟨ha.filter _, List.pairwise_cons.2 ⟨fun z hz => ?_, ha.filter _⟩, fun x hx y hy => ?_⟩
  · rw [List.mem_filter] at hz
    have : z ≠ m := fun e => hm (e ▸ hz.1)
    have := hz.2
    simp at this
    omega
  · rw [List.mem_filter] at hx
    have hx2 : x < m := by simpa using hx.2
    rcases List.mem_cons.1 hy with rfl | hy
    · exact hx2
    · rw [List.mem_filter] at hy
      have := hy.2
      simp at this
      omega

theorem del_eq {m : Int} : ∀ {zs : List Int}, zs.Pairwise (· < ·) → m ∈ zs → del zs m = zs.filter fun z => z != m
  | [], _, h => by simp at h
  | z :: zs, ha, hm => by
    have ha' := List.pairwise_cons.1 ha
    by_cases h : z < m
    · have hm' : m ∈ zs := by
        rcases List.mem_cons.1 hm with e | e
        · omega
        · exact e
      have ih := del_eq ha'.2 hm'
      have hne : (z != m) = true := by simp; omega
      rw [del, cnt_cons_lt h, List.filter_cons, if_pos hne, ← ih, del]
      simp
    · have hz : z = m := by
        rcases List.mem_cons.1 hm with e | e
        · exact e.symm
        · have := ha'.1 m e; omega
      rw [del, cnt_cons_ge ha h, List.take_zero, List.nil_append, List.drop_succ_cons, List.drop_zero, List.filter_cons]
      have : (z != m) = false := by simp [hz]
      rw [if_neg (by simp [this])]
      symm
      rw [List.filter_eq_self]
      intro y hy
      have := ha'.1 y hy
      simp
      omega

theorem del_mem {m z : Int} (ha : zs.Pairwise (· < ·)) (hm : m ∈ zs) : z ∈ del zs m ↔ (z ∈ zs ∧ z ≠ m) := by
  rw [del_eq ha hm, List.mem_filter]; simp

theorem del_asc {m : Int} (ha : zs.Pairwise (· < ·)) (hm : m ∈ zs) : (del zs m).Pairwise (· < ·) := by rw [del_eq ha hm]; exact ha.filter _

theorem cnt_lt {m : Int} (hm : m ∈ zs) : cnt zs m < zs.length := by
  rcases Nat.lt_or_ge (cnt zs m) zs.length with h | h
  · exact h
  · have he : cnt zs m = zs.length := Nat.le_antisymm (cnt_le m) h
    unfold cnt at he
    rw [List.countP_eq_length] at he
    have := he m hm
    simp at this

theorem del_len {m : Int} (hm : m ∈ zs) : (del zs m).length + 1 = zs.length := by
  have := cnt_lt hm
  simp [del]; omega

theorem asc_sub {xs : List Int} (hx : xs.Pairwise (· < ·)) (hz : zs.Pairwise (· < ·)) (h : ∀ x ∈ xs, x ∈ zs) : xs.length ≤ zs.length := by
  have e : xs = zs.filter (hasB xs) := asc_ext hx (hz.filter _) fun z => by
    rw [List.mem_filter, hasB_iff]
    exact ⟨fun hh => ⟨h z hh, hh⟩, fun hh => hh.2⟩
  rw [e]; exact List.length_filter_le _ _

theorem Mv.ins {m : Int} (h : Mv zs) (hm : m ∉ zs) (h0 : 0 ≤ m) (h7 : m ≤ 7) : Mv (ins zs m) :=
  ⟨ins_asc h.1 hm, fun z hz => by
    rcases ins_mem.1 hz with hz | rfl
    · exact h.2 z hz
    · exact ⟨h0, h7⟩⟩

theorem Mv.del {m : Int} (h : Mv zs) (hm : m ∈ zs) : Mv (del zs m) := ⟨del_asc h.1 hm, fun z hz => h.2 z ((del_mem h.1 hm).1 hz).1⟩

theorem Mv.take (h : Mv zs) (k : Nat) : Mv (zs.take k) := ⟨h.1.sublist (List.take_sublist _ _), fun z hz => h.2 z (List.mem_of_mem_take hz)⟩

theorem Mv.drop (h : Mv zs) (k : Nat) : Mv (zs.drop k) := ⟨h.1.sublist (List.drop_sublist _ _), fun z hz => h.2 z (List.mem_of_mem_drop hz)⟩

theorem Mv.len (h : Mv zs) : zs.length ≤ 8 := by
  have := asc_sub h.1 (grps_asc 8) (fun x hx => grps_mem.2 ⟨(h.2 x hx).1, by have := (h.2 x hx).2; omega⟩)
  simpa [grps] using this

theorem Mv.le (h : Mv zs) : zs.Pairwise (· ≤ ·) := h.1.imp fun h => by omega
end

/-! ### views -/
def vwB (n : Int) (zs : List Int) : Bool := inB n 0 99 && decide (0 < zs.length) && mvB zs

theorem vwB_true {n : Int} {zs : List Int} : vwB n zs = true ↔ ((0 ≤ n ∧ n ≤ 99) ∧ 0 < zs.length ∧ Mv zs) := by
  unfold vwB
  rw [Bool.and_eq_true, Bool.and_eq_true, inB_true, decide_eq_true_eq, mvB_true, and_assoc]

theorem vwB_bad {n : Int} {zs : List Int} (h : mvB zs = false) : vwB n zs = false := by simp [vwB, h]
/-- a view, and whether it is one -/
abbrev Vr := (Int × List Int) × Bool

def vr0 : Vr := ((0, []), false)

def vwR (n : Int) (zs : List Int) : Vr := if vwB n zs then ((n, zs), true) else vr0

theorem vwR_yes {n : Int} {zs : List Int} (h : vwB n zs = true) : vwR n zs = ((n, zs), true) := if_pos h

theorem vwR_no {n : Int} {zs : List Int} (h : vwB n zs = false) : vwR n zs = vr0 := if_neg (by simp [h])

def joinR (n : Int) (zs : List Int) (m : Int) : Vr := if vwB n zs && !hasB zs m then vwR (n + 1) (ins zs m) else vr0

def leaveR (n : Int) (zs : List Int) (m : Int) : Vr := if vwB n zs && hasB zs m then vwR (n + 1) (del zs m) else vr0
/-- the members below a number, the others -/
def loL (zs : List Int) (m : Int) : List Int := zs.filter fun z => decide (z < m)

def hiL (zs : List Int) (m : Int) : List Int := zs.filter fun z => !decide (z < m)

def splB (n : Int) (zs : List Int) (m : Int) : Bool := vwB n zs && vwB (n + 1) (loL zs m) && vwB (n + 1) (hiL zs m)

def splitR (n : Int) (zs : List Int) (m : Int) : (Int × List Int) × (Int × List Int) × Bool := if splB n zs m then ((n + 1, loL zs m), (n + 1, hiL zs m), true) else ((0, []), (0, []), false)

def mg (zs ys : List Int) : List Int := (grps 8).filter fun g => hasB zs g || hasB ys g

def comB (zs ys : List Int) : Bool := ys.any fun y => hasB zs y

def mergeR (n : Int) (zs : List Int) (k : Int) (ys : List Int) : Vr := if vwB n zs && vwB k ys && !comB zs ys then vwR (max n k + 1) (mg zs ys) else vr0

def majR (n : Int) (zs so : List Int) : Bool := so.all (fun x => hasB zs x) && vwB n zs && mvB so && decide (zs.length < 2 * so.length)
section
variable {n k m : Int} {zs ys so : List Int}

theorem joinR_no (h : vwB n zs = false ∨ hasB zs m = true) : joinR n zs m = vr0 := by
  unfold joinR; rcases h with h | h <;> simp [h]

theorem joinR_yes (h : vwB n zs = true) (hm : hasB zs m = false) : joinR n zs m = vwR (n + 1) (ins zs m) := by simp [joinR, h, hm]

theorem leaveR_no (h : vwB n zs = false ∨ hasB zs m = false) : leaveR n zs m = vr0 := by
  unfold leaveR; rcases h with h | h <;> simp [h]

theorem leaveR_yes (h : vwB n zs = true) (hm : hasB zs m = true) : leaveR n zs m = vwR (n + 1) (del zs m) := by simp [leaveR, h, hm]

theorem splitR_yes (h : splB n zs m = true) : splitR n zs m = ((n + 1, loL zs m), (n + 1, hiL zs m), true) := if_pos h

theorem splitR_no (h : splB n zs m = false) : splitR n zs m = ((0, []), (0, []), false) := if_neg (by simp [h])

theorem mergeR_no (h : vwB n zs = false ∨ vwB k ys = false ∨ comB zs ys = true) : mergeR n zs k ys = vr0 := by
  unfold mergeR; rcases h with h | h | h <;> simp [h]

theorem mergeR_yes (h : vwB n zs = true) (h2 : vwB k ys = true) (hc : comB zs ys = false) : mergeR n zs k ys = vwR (max n k + 1) (mg zs ys) := by simp [mergeR, h, h2, hc]

theorem take_lo (h : Mv zs) : zs.take (cnt zs m) = loL zs m ∧ zs.drop (cnt zs m) = hiL zs m := take_cnt h.1
/-- the model's way to a further member -/
theorem ins_at (h : Mv zs) {j : Nat} (hj : j ≤ zs.length) (h1 : ∀ i, i < j → zs.getD i 0 < m) (h2 : j < zs.length → ¬ zs.getD j 0 < m) : cnt zs m = j := by
  refine cnt_of hj h1 fun i hij hi => ?_
  have h3 := h2 (by omega)
  rcases Nat.eq_or_lt_of_le hij with rfl | hlt
  · exact h3
  · have := asc_at h.1 hlt hi
    omega

/-! ### merging by one member after the other -/
def mgF (zs l : List Int) : List Int := l.foldl ins zs

theorem mgF_snoc (zs l : List Int) (y : Int) : mgF zs (l ++ [y]) = ins (mgF zs l) y := by simp [mgF]

theorem mgF_all : ∀ {l zs : List Int}, zs.Pairwise (· < ·) → l.Nodup → (∀ y ∈ l, y ∉ zs) → (mgF zs l).Pairwise (· < ·) ∧ (∀ z, z ∈ mgF zs l ↔ (z ∈ zs ∨ z ∈ l)) ∧ (mgF zs l).length = zs.length + l.length
  | [], zs, ha, _, _ => ⟨ha, fun z => by simp [mgF], rfl⟩
  | y :: l, zs, ha, hd, hn => by
    have hd' := List.nodup_cons.1 hd
    have hy := hn y (List.mem_cons_self ..)
    obtain ⟨h1, h2, h3⟩ := mgF_all (l := l) (zs := ins zs y) (ins_asc ha hy) hd'.2 (fun x hx hc => by
      rcases ins_mem.1 hc with hc | rfl
      · exact hn x (List.mem_cons_of_mem _ hx) hc
      · exact hd'.1 hx)
    refine ⟨h1, fun z => ?_, ?_⟩
    · show z ∈ mgF (ins zs y) l ↔ _
      rw [h2, ins_mem, List.mem_cons]
      constructor
      · rintro ((h | h) | h)
        · exact .inl h
        · exact .inr (.inl h)
        · exact .inr (.inr h)
      · rintro (h | h | h)
        · exact .inl (.inl h)
        · exact .inl (.inr h)
        · exact .inr h
    · show (mgF (ins zs y) l).length = _
      rw [h3, ins_len, List.length_cons]; omega

theorem take_snoc {j : Nat} {y : Int} (hj : j < ys.length) (hy : ys.getD j 0 = y) : ys.take (j + 1) = ys.take j ++ [y] := by
  have e : ys[j] = y := by rw [← hy]; simp [hj]
  rw [List.take_add_one, List.getElem?_eq_getElem hj, e]; rfl

theorem asc_new (h : ys.Pairwise (· < ·)) {j : Nat} {y : Int} (hj : j < ys.length) (hy : ys.getD j 0 = y) : y ∉ ys.take j := by
  intro hm
  obtain ⟨i, hi, e⟩ := List.getElem_of_mem hm
  rw [List.length_take] at hi
  rw [List.getElem_take] at e
  have h1 := asc_at h (show i < j by omega) hj
  have hi2 : i < ys.length := by omega
  have h2 : ys.getD i 0 = y := by simpa [hi2] using e
  omega
/-- at place j of the second view: nothing common so far -/
theorem mgF_take (hz : Mv zs) (hy : Mv ys) {j : Nat} (h : ∀ i, i < j → hasB zs (ys.getD i 0) = false) (hj : j ≤ ys.length) :
    (mgF zs (ys.take j)).Pairwise (· < ·) ∧ (∀ z, z ∈ mgF zs (ys.take j) ↔ (z ∈ zs ∨ z ∈ ys.take j)) ∧ (mgF zs (ys.take j)).length = zs.length + j := by
  have := mgF_all (l := ys.take j) (zs := zs) hz.1 ((asc_nodup hy.1).sublist (List.take_sublist _ _)) (fun y hm hc => by
    obtain ⟨i, hi, e⟩ := List.getElem_of_mem hm
    rw [List.length_take] at hi
    rw [List.getElem_take] at e
    have hi2 : i < ys.length := by omega
    have := h i (by omega)
    rw [show ys.getD i 0 = y by simpa [hi2] using e, hasB_iff.2 hc] at this
    cases this)
  refine ⟨this.1, this.2.1, ?_⟩
  rw [this.2.2, List.length_take]; omega

theorem mgF_has (hz : Mv zs) (hy : Mv ys) {j : Nat} {y : Int} (h : ∀ i, i < j → hasB zs (ys.getD i 0) = false) (hj : j < ys.length) (he : ys.getD j 0 = y) : hasB (mgF zs (ys.take j)) y = hasB zs y := by
  rw [Bool.eq_iff_iff, hasB_iff, hasB_iff, (mgF_take hz hy h (by omega)).2.1]
  exact ⟨fun h => h.elim id fun h => absurd h (asc_new hy.1 hj he), .inl⟩

theorem com_hit {j : Nat} {y : Int} (hj : j < ys.length) (he : ys.getD j 0 = y) (h : hasB zs y = true) : comB zs ys = true := by
  unfold comB
  rw [List.any_eq_true]
  refine ⟨y, ?_, h⟩
  have e : ys[j] = y := by rw [← he]; simp [hj]
  rw [← e]; exact List.getElem_mem hj

theorem com_miss (h : ∀ i, i < ys.length → hasB zs (ys.getD i 0) = false) : comB zs ys = false := by
  unfold comB
  rw [List.any_eq_false]
  intro y hy
  obtain ⟨i, hi, rfl⟩ := List.getElem_of_mem hy
  have := h i hi
  rw [show ys.getD i 0 = ys[i] by simp [hi]] at this
  simp [this]

theorem com_false (h : comB zs ys = false) : ∀ y ∈ ys, y ∉ zs := by
  intro y hy hc
  unfold comB at h
  rw [List.any_eq_false] at h
  exact h y hy (hasB_iff.2 hc)

theorem com_symm : comB zs ys = comB ys zs := by
  rw [Bool.eq_iff_iff]
  unfold comB
  rw [List.any_eq_true, List.any_eq_true]
  constructor
  · rintro ⟨y, h1, h2⟩; exact ⟨y, hasB_iff.1 h2, hasB_iff.2 h1⟩
  · rintro ⟨y, h1, h2⟩; exact ⟨y, hasB_iff.1 h2, hasB_iff.2 h1⟩

theorem mg_mem (hz : Mv zs) (hy : Mv ys) {z : Int} : z ∈ mg zs ys ↔ (z ∈ zs ∨ z ∈ ys) := by
  rw [mg, List.mem_filter, grps_mem, Bool.or_eq_true, hasB_iff, hasB_iff]
  constructor
  · exact fun h => h.2
  · rintro (h | h)
    · have := hz.2 z h; exact ⟨⟨this.1, by omega⟩, .inl h⟩
    · have := hy.2 z h; exact ⟨⟨this.1, by omega⟩, .inr h⟩

theorem mg_Mv (zs ys : List Int) : Mv (mg zs ys) := ⟨(grps_asc 8).filter _, fun z hz => by
  rw [mg, List.mem_filter, grps_mem] at hz
  exact ⟨hz.1.1, by omega⟩⟩

theorem mg_eq (hz : Mv zs) (hy : Mv ys) (h : ∀ i, i < ys.length → hasB zs (ys.getD i 0) = false) : mgF zs ys = mg zs ys := by
  have := mgF_take hz hy h (Nat.le_refl _)
  rw [List.take_length] at this
  exact asc_ext this.1 (mg_Mv _ _).1 fun z => by rw [this.2.1, mg_mem hz hy]

theorem mg_symm : mg zs ys = mg ys zs := by
  unfold mg; congr 1; funext g; rw [Bool.or_comm]

/-! ### majorities by one member less after the other -/
def dlF (zs l : List Int) : List Int := l.foldl del zs

theorem dlF_snoc (zs l : List Int) (y : Int) : dlF zs (l ++ [y]) = del (dlF zs l) y := by simp [dlF]

theorem dlF_all : ∀ {l zs : List Int}, zs.Pairwise (· < ·) → l.Nodup → (∀ y ∈ l, y ∈ zs) → (dlF zs l).Pairwise (· < ·) ∧ (∀ z, z ∈ dlF zs l ↔ (z ∈ zs ∧ z ∉ l)) ∧ (dlF zs l).length + l.length = zs.length
  | [], zs, ha, _, _ => ⟨ha, fun z => by simp [dlF], rfl⟩
  | y :: l, zs, ha, hd, hn => by
    have hd' := List.nodup_cons.1 hd
    have hy := hn y (List.mem_cons_self ..)
    obtain ⟨h1, h2, h3⟩ := dlF_all (l := l) (zs := del zs y) (del_asc ha hy) hd'.2 (fun x hx => (del_mem ha hy).2 ⟨hn x (List.mem_cons_of_mem _ hx), fun e => hd'.1 (e ▸ hx)⟩)
    have hl := del_len hy
    refine ⟨h1, fun z => ?_, ?_⟩
    · show z ∈ dlF (del zs y) l ↔ _
      rw [h2, del_mem ha hy, List.mem_cons, not_or, and_assoc]
    · show (dlF (del zs y) l).length + _ = _
      rw [List.length_cons]; omega
/-- what has been taken out so far: each one was there and had not been taken out -/
def okTake (zs so : List Int) (j : Nat) : Prop := ∀ i, i < j → so.getD i 0 ∈ zs ∧ so.getD i 0 ∉ so.take i

theorem okTake_nodup {j : Nat} (h : okTake zs so j) (hj : j ≤ so.length) : (so.take j).Nodup ∧ ∀ y ∈ so.take j, y ∈ zs := by
  induction j with
  | zero => simp
  | succ j ih =>
    obtain ⟨h1, h2⟩ := ih (fun i hi => h i (by omega)) (by omega)
    obtain ⟨h3, h4⟩ := h j (by omega)
    rw [take_snoc (show j < so.length by omega) rfl]
    refine ⟨?_, fun y hy => ?_⟩
    · rw [List.nodup_append]
      refine ⟨h1, by simp, fun a ha b hb => ?_⟩
      rw [List.mem_singleton] at hb
      intro e
      rw [e, hb] at ha
      exact h4 ha
    · rw [List.mem_append, List.mem_singleton] at hy
      rcases hy with hy | rfl
      · exact h2 y hy
      · exact h3

theorem dlF_take (hz : Mv zs) {j : Nat} (h : okTake zs so j) (hj : j ≤ so.length) :
    (dlF zs (so.take j)).Pairwise (· < ·) ∧ (∀ z, z ∈ dlF zs (so.take j) ↔ (z ∈ zs ∧ z ∉ so.take j)) ∧ (dlF zs (so.take j)).length + j = zs.length := by
  obtain ⟨h1, h2⟩ := okTake_nodup h hj
  have := dlF_all hz.1 h1 h2
  refine ⟨this.1, this.2.1, ?_⟩
  have h3 := this.2.2
  rw [List.length_take] at h3
  omega

theorem okTake_succ {j : Nat} {x : Int} (h : okTake zs so j) (hx : so.getD j 0 = x) (hm : x ∈ dlF zs (so.take j)) (hz : Mv zs) (hj : j < so.length) : okTake zs so (j + 1) := by
  have h1 := ((dlF_take hz h (by omega)).2.1 x).1 hm
  intro i hi
  by_cases e : i = j
  · subst e; rw [hx]; exact h1
  · exact h i (by omega)
/-- all taken out: they ascend, and are members -/
theorem maj_all (hv : vwB n zs = true) (hs : so.Pairwise (· ≤ ·)) (h : okTake zs so so.length) : majR n zs so = decide ((dlF zs so).length < so.length) := by
  obtain ⟨-, -, hz⟩ := vwB_true.1 hv
  obtain ⟨h1, h2⟩ := okTake_nodup h (Nat.le_refl _)
  have h3 := (dlF_take hz h (Nat.le_refl _)).2.2
  rw [List.take_length] at h1 h2 h3
  have hall : so.all (fun x => hasB zs x) = true := by rw [List.all_eq_true]; intro x hx; exact hasB_iff.2 (h2 x hx)
  have hm : mvB so = true := mvB_true.2 ⟨(List.Pairwise.and hs h1).imp fun ⟨a, b⟩ => by omega, fun z hz' => hz.2 z (h2 z hz')⟩
  unfold majR
  rw [hall, hv, hm, Bool.true_and, Bool.true_and, Bool.true_and]
  congr 1
  apply propext
  omega

theorem maj_no {j : Nat} {x : Int} (hz : Mv zs) (h : okTake zs so j) (hj : j < so.length) (hx : so.getD j 0 = x) (hm : x ∉ dlF zs (so.take j)) : majR n zs so = false := by
  have e : so[j] = x := by rw [← hx]; simp [hj]
  by_cases h1 : x ∈ zs
  · have h2 : x ∈ so.take j := by
      rcases Classical.em (x ∈ so.take j) with h2 | h2
      · exact h2
      · exact absurd (((dlF_take hz h (by omega)).2.1 x).2 ⟨h1, h2⟩) hm
    have : mvB so = false := by
      rw [← Bool.not_eq_true, mvB_true]
      rintro ⟨ha, -⟩
      exact asc_new ha hj hx h2
    simp [majR, this]
  · have : so.all (fun x => hasB zs x) = false := by
      rw [List.all_eq_false]
      refine ⟨x, by rw [← e]; exact List.getElem_mem hj, ?_⟩
      rw [hasB_iff]; exact h1
    simp [majR, this]

theorem maj_unsorted (h : ¬ so.Pairwise (· ≤ ·)) : majR n zs so = false := by
  have : mvB so = false := by
    rw [← Bool.not_eq_true, mvB_true]
    exact fun hm => h hm.le
  simp [majR, this]

theorem maj_bad (h : vwB n zs = false) : majR n zs so = false := by simp [majR, h]

theorem maj_true : majR n zs so = true ↔ ((∀ x ∈ so, x ∈ zs) ∧ vwB n zs = true ∧ Mv so ∧ zs.length < 2 * so.length) := by
  unfold majR
  rw [Bool.and_eq_true, Bool.and_eq_true, Bool.and_eq_true, decide_eq_true_eq, mvB_true, List.all_eq_true, and_assoc, and_assoc]
  constructor
  · rintro ⟨h1, h2⟩; exact ⟨fun x hx => hasB_iff.1 (h1 x hx), h2⟩
  · rintro ⟨h1, h2⟩; exact ⟨fun x hx => hasB_iff.2 (h1 x hx), h2⟩
/-- two majorities within the same members meet -/
theorem meet {xs ys : List Int} (hz : zs.Pairwise (· < ·)) (hx : xs.Pairwise (· < ·)) (hy : ys.Pairwise (· < ·)) (sx : ∀ x ∈ xs, x ∈ zs) (sy : ∀ y ∈ ys, y ∈ zs) (hl : zs.length < xs.length + ys.length) : ∃ x ∈ xs, x ∈ ys := by
  rcases Classical.em (∃ x ∈ xs, x ∈ ys) with h | h
  · exact h
  · exfalso
    obtain ⟨h1, h2, h3⟩ := dlF_all hz (asc_nodup hx) sx
    have := asc_sub hy h1 (fun y hy' => (h2 y).2 ⟨sy y hy', fun hc => h ⟨y, hc, hy'⟩⟩)
    omega
end
end Go.Proofs.YtppdfgifnmfioaaDoor
