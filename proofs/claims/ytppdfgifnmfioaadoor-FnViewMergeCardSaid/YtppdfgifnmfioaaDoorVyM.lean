/-
  Plain mathematics of the laws over views: P98 to P107. No program, no condition.
-/
import Derived.Test.YtppdfgifnmfioaaDoorVwA
namespace Go.Proofs.YtppdfgifnmfioaaDoor
set_option linter.unusedVariables false
set_option linter.unusedSimpArgs false

section
variable {n x y m on : Int} {zs oz so : List Int}

theorem joinR_ok (h : joinR n zs x = ((on, oz), true)) : vwB n zs = true ∧ hasB zs x = false ∧ vwB (n + 1) (ins zs x) = true ∧ on = n + 1 ∧ oz = ins zs x := by
  unfold joinR at h
  split at h
  · rename_i hv
    rw [Bool.and_eq_true] at hv
    unfold vwR at h
    split at h
    · rename_i h2
      injection h with h _
      injection h with h3 h4
      exact ⟨hv.1, by simpa using hv.2, h2, h3.symm, h4.symm⟩
    · simp [vr0] at h
  · simp [vr0] at h

theorem leaveR_ok (h : leaveR n zs x = ((on, oz), true)) : vwB n zs = true ∧ hasB zs x = true ∧ vwB (n + 1) (del zs x) = true ∧ on = n + 1 ∧ oz = del zs x := by
  unfold leaveR at h
  split at h
  · rename_i hv
    rw [Bool.and_eq_true] at hv
    unfold vwR at h
    split at h
    · rename_i h2
      injection h with h _
      injection h with h3 h4
      exact ⟨hv.1, hv.2, h2, h3.symm, h4.symm⟩
    · simp [vr0] at h
  · simp [vr0] at h

theorem no_mem (h : hasB zs x = false) : x ∉ zs := fun hm => by rw [hasB_iff.2 hm] at h; cases h

theorem ins_has : hasB (ins zs x) m = (hasB zs m || decide (m = x)) := by
  rw [Bool.eq_iff_iff, hasB_iff, ins_mem, Bool.or_eq_true, hasB_iff, decide_eq_true_eq]

theorem del_has (hz : Mv zs) (h : hasB zs x = true) : hasB (del zs x) m = (hasB zs m && !decide (m = x)) := by
  rw [Bool.eq_iff_iff, hasB_iff, del_mem hz.1 (hasB_iff.1 h), Bool.and_eq_true, hasB_iff]
  simp

theorem ins_del (hz : Mv zs) (h : hasB zs x = true) : ins (del zs x) x = zs := by
  have hm := hasB_iff.1 h
  refine asc_ext (ins_asc (del_asc hz.1 hm) (fun hc => ((del_mem hz.1 hm).1 hc).2 rfl)) hz.1 fun z => ?_
  rw [ins_mem, del_mem hz.1 hm]
  constructor
  · rintro (h | h)
    · exact h.1
    · rw [h]; exact hm
  · intro hz'
    by_cases e : z = x
    · exact .inr e
    · exact .inl ⟨hz', e⟩
/-- P100 -/
theorem back_of (h : leaveR n zs x = ((on, oz), true)) {bn : Int} {bz : List Int} {ok : Bool} (h2 : joinR on oz x = ((bn, bz), ok)) : (ok = true ∧ bz = zs ∧ bn = n + 2) ∨ (ok = false ∧ on = 99) := by
  obtain ⟨hv, hh, hv2, rfl, rfl⟩ := leaveR_ok h
  obtain ⟨⟨a1, a2⟩, a3, hz⟩ := vwB_true.1 hv
  have hno : hasB (del zs x) x = false := by rw [del_has hz hh]; simp
  rw [joinR_yes hv2 hno, ins_del hz hh] at h2
  obtain ⟨⟨b1, b2⟩, -⟩ := vwB_true.1 hv2
  unfold vwR at h2
  split at h2
  · injection h2 with h2 h3
    injection h2 with h4 h5
    exact .inl ⟨h3.symm, h5.symm, by omega⟩
  · rename_i hv3
    injection h2 with h2 h3
    refine .inr ⟨h3.symm, ?_⟩
    rcases Int.lt_or_le (n + 1) 99 with h6 | h6
    · exact absurd (vwB_true.2 ⟨⟨by omega, by omega⟩, a3, hz⟩) hv3
    · omega

theorem ins_comm (hz : Mv zs) (hx : x ∉ zs) (hy : y ∉ zs) (hxy : x ≠ y) : ins (ins zs x) y = ins (ins zs y) x := by
  refine asc_ext (ins_asc (ins_asc hz.1 hx) (fun h => ?_)) (ins_asc (ins_asc hz.1 hy) (fun h => ?_)) fun z => ?_
  · rcases ins_mem.1 h with h | h
    · exact hy h
    · exact hxy h.symm
  · rcases ins_mem.1 h with h | h
    · exact hx h
    · exact hxy h
  · rw [ins_mem, ins_mem, ins_mem, ins_mem]
    constructor
    · rintro ((h | h) | h)
      · exact .inl (.inl h)
      · exact .inr h
      · exact .inl (.inr h)
    · rintro ((h | h) | h)
      · exact .inl (.inl h)
      · exact .inr h
      · exact .inl (.inr h)
/-- P106 -/
theorem order_of {an bn : Int} {az bz : List Int} (h : joinR n zs x = ((on, oz), true)) (h1 : joinR on oz y = ((an, az), true)) (h2 : joinR n zs y = ((bn, bz), true)) : joinR bn bz x = ((an, az), true) := by
  obtain ⟨hv, hx, hv2, rfl, rfl⟩ := joinR_ok h
  obtain ⟨-, hy, hv3, rfl, rfl⟩ := joinR_ok h1
  obtain ⟨-, hy2, hv4, rfl, rfl⟩ := joinR_ok h2
  obtain ⟨-, -, hz⟩ := vwB_true.1 hv
  rw [ins_has, Bool.or_eq_false_iff] at hy
  have hxy : x ≠ y := fun e => by have := hy.2; simp [e] at this
  have hno : hasB (ins zs y) x = false := by rw [ins_has, hx]; simp [hxy]
  rw [joinR_yes hv4 hno, ← ins_comm hz (no_mem hx) (no_mem hy2) hxy, vwR_yes hv3]
/-- P102: majorities of consecutive views meet -/
theorem next_meet (hz : zs.Pairwise (· < ·)) (ho : oz.Pairwise (· < ·)) (hs : ∀ z ∈ zs, z ∈ oz) (hl : oz.length = zs.length + 1) (hp : 0 < zs.length) :
    ∃ z ∈ zs.take (zs.length / 2 + 1), z ∈ oz.drop (oz.length - (oz.length / 2 + 1)) := by
  refine meet (zs := oz) ho (hz.sublist (List.take_sublist _ _)) (ho.sublist (List.drop_sublist _ _)) (fun z h => hs z (List.mem_of_mem_take h)) (fun z h => List.mem_of_mem_drop h) ?_
  rw [List.length_take, List.length_drop]
  omega

theorem lo_has : hasB (loL zs x) m = (hasB zs m && decide (m < x)) := by
  rw [Bool.eq_iff_iff, hasB_iff, loL, List.mem_filter, Bool.and_eq_true, hasB_iff]

theorem hi_has : hasB (hiL zs x) m = (hasB zs m && decide (m ≥ x)) := by
  rw [Bool.eq_iff_iff, hasB_iff, hiL, List.mem_filter, Bool.and_eq_true, hasB_iff]
  simp

theorem mg_has (hz : Mv zs) (hy : Mv oz) : hasB (mg zs oz) m = (hasB zs m || hasB oz m) := by
  rw [Bool.eq_iff_iff, hasB_iff, mg_mem hz hy, Bool.or_eq_true, hasB_iff, hasB_iff]

theorem mg_split (hz : Mv zs) : mg (loL zs x) (hiL zs x) = zs := by
  have h1 : Mv (loL zs x) := ⟨hz.1.filter _, fun z h => hz.2 z (List.mem_filter.1 h).1⟩
  have h2 : Mv (hiL zs x) := ⟨hz.1.filter _, fun z h => hz.2 z (List.mem_filter.1 h).1⟩
  refine asc_ext (mg_Mv _ _).1 hz.1 fun z => ?_
  rw [mg_mem h1 h2, loL, hiL, List.mem_filter, List.mem_filter]
  constructor
  · rintro (h | h) <;> exact h.1
  · intro h
    by_cases e : z < x
    · exact .inl ⟨h, by simpa using e⟩
    · exact .inr ⟨h, by simpa using e⟩

theorem com_split : comB (loL zs x) (hiL zs x) = false := by
  unfold comB
  rw [List.any_eq_false]
  intro y hy hc
  rw [hasB_iff, loL, List.mem_filter] at hc
  rw [hiL, List.mem_filter] at hy
  have h1 := hc.2
  have h2 := hy.2
  simp at h1 h2
  omega
end
end Go.Proofs.YtppdfgifnmfioaaDoor
