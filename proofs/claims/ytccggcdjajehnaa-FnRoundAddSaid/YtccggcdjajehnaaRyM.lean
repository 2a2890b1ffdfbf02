/-
  More mathematics of rounds: what RoundNew, RoundAdd and RoundFinal hand back, as the laws ask for it. No program, no condition.
-/
import Derived.Test.YtccggcdjajehnaaRmA
namespace Go.Proofs.Ytccggcdjajehnaa
open Go

theorem misL_nil (gs : List Int) : misL gs [] = gs := by
  unfold misL
  rw [List.filter_eq_self]
  intro a _
  rfl

theorem nw_true {m om : Int} {gs og : List Int} {ox : List St} (h : nwRo m gs = ⟨om, og, ox, true⟩) : rvB om og ox = true ∧ misR om og ox = gs ∧ fnB om og ox = false ∧ fnR om og ox = (0, 0) := by
  unfold nwRo at h
  split at h
  · rename_i hc
    rw [Bool.and_eq_true] at hc
    injection h with h1 h2 h3 h4
    subst h1; subst h2; subst h3
    have hv : rvB m gs [] = true := rvB_true.2 ⟨⟨(fun x hx => by cases hx), List.Pairwise.nil⟩, hc.1, hc.2⟩
    have hf : fnB m gs [] = false := by
      have := (gs_len hc.2).1
      rw [fnB, hv, Bool.true_and, decide_eq_false_iff_not, List.length_nil]; omega
    exact ⟨hv, by rw [misR_yes hv, misL_nil], hf, by rw [fnR, hf]; rfl⟩
  · injection h with h1 h2 h3 h4
    cases h4

theorem fn_len {m : Int} {gs : List Int} {xs : List St} (h : rvB m gs xs = true) : fnB m gs xs = decide ((misR m gs xs).length = 0) := by
  have hv := rvB_true.1 h
  have := misL_len hv.2.2 hv.1
  rw [fnB, h, Bool.true_and, misR_yes h]
  apply decide_eq_decide.2
  omega

theorem fn_true {m : Int} {gs : List Int} {xs : List St} (h : fnB m gs xs = true) : fnR m gs xs = maxR xs ∧ maxOk xs = true := ⟨by rw [fnR, h]; rfl, fn_max h⟩

theorem mis_hasM {m : Int} {gs : List Int} {xs : List St} (h : rvB m gs xs = true) (s : St) : hasB (misR m gs xs) s.2 = adB gs xs s := by
  rw [misR_yes h, Bool.eq_iff_iff, hasB_iff, misL, List.mem_filter, adB, Bool.and_eq_true, hasB_iff]

theorem ad_true {m om : Int} {gs og : List Int} {xs ox : List St} {s : St} (h : adR m gs xs s = ⟨om, og, ox, true⟩) :
    om = m ∧ og = gs ∧ ox = insS xs s ∧ rvB m gs xs = true ∧ okS s = true ∧ adB gs xs s = true := by
  unfold adR at h
  split at h
  · rename_i hc
    rw [Bool.and_eq_true] at hc
    unfold adA at h
    split at h
    · rename_i ha
      injection h with h1 h2 h3 h4
      exact ⟨h1.symm, h2.symm, h3.symm, hc.1, hc.2, ha⟩
    · injection h with h1 h2 h3 h4
      cases h4
  · injection h with h1 h2 h3 h4
    cases h4

theorem ins_validM {m : Int} {gs : List Int} {xs : List St} {s : St} (h : rvB m gs xs = true) (hs : okS s = true) (ha : adB gs xs s = true) : rvB m gs (insS xs s) = true := by
  have hv := rvB_true.1 h
  exact rvB_true.2 ⟨insS_ok hv.1 hs ha, hv.2⟩

theorem ad_yes {m : Int} {gs : List Int} {xs : List St} {s : St} (h : rvB m gs xs = true) (hs : okS s = true) (ha : adB gs xs s = true) : adR m gs xs s = ⟨m, gs, insS xs s, true⟩ := by
  rw [adR, h, hs, adA, ha]; rfl

theorem ad_no {m : Int} {gs : List Int} {xs : List St} {s : St} (h : rvB m gs xs = true) (hs : okS s = true) (ha : adB gs xs s = false) : adR m gs xs s = ⟨m, gs, xs, false⟩ := by
  rw [adR, h, hs, adA, ha]; rfl
/-- a stamp is added once -/
theorem ad_twice {m om : Int} {gs og : List Int} {xs ox : List St} {s : St} (h : adR m gs xs s = ⟨om, og, ox, true⟩) {t : St} (ht : okS t = true) (hg : t.2 = s.2) :
    adR om og ox t = ⟨om, og, ox, false⟩ ∧ rvB om og ox = true ∧ hasB (misR om og ox) s.2 = false ∧ hasB (misR m gs xs) s.2 = true := by
  obtain ⟨rfl, rfl, rfl, hv, hs, ha⟩ := ad_true h
  have hv' := ins_validM hv hs ha
  have hn : ∀ u : St, u.2 = s.2 → adB og (insS xs s) u = false := fun u hu => by
    rw [Bool.eq_false_iff]
    intro hb
    exact (adB_true.1 hb).2 s (insS_mem.2 (.inl rfl)) hu.symm
  exact ⟨ad_no hv' ht (hn t hg), hv', by rw [mis_hasM hv', hn s rfl], by rw [mis_hasM hv, ha]⟩
/-- a stamp is refused only if it is not missing -/
theorem ad_refused {m om : Int} {gs og : List Int} {xs ox : List St} {s : St} {ok : Bool} (h : adR m gs xs s = ⟨om, og, ox, ok⟩) (hv : rvB m gs xs = true) (hs : okS s = true) :
    hasB (misR m gs xs) s.2 = ok ∧ (ok = false → om = m ∧ og = gs ∧ ox = xs) := by
  rw [mis_hasM hv]
  cases ha : adB gs xs s with
  | true =>
    rw [ad_yes hv hs ha] at h
    injection h with h1 h2 h3 h4
    exact ⟨h4, fun h => by rw [← h4] at h; cases h⟩
  | false =>
    rw [ad_no hv hs ha] at h
    injection h with h1 h2 h3 h4
    exact ⟨h4, fun _ => ⟨h1.symm, h2.symm, h3.symm⟩⟩
/-- the order of stamps does not matter -/
theorem ad_comm {m om am bm : Int} {gs og ag bg : List Int} {xs ox ax bx : List St} {s t : St} (h1 : adR m gs xs s = ⟨om, og, ox, true⟩) (h2 : adR om og ox t = ⟨am, ag, ax, true⟩) (h3 : adR m gs xs t = ⟨bm, bg, bx, true⟩) :
    adR bm bg bx s = ⟨am, ag, ax, true⟩ := by
  obtain ⟨rfl, rfl, rfl, hv, hs, ha⟩ := ad_true h1
  obtain ⟨rfl, rfl, rfl, hv', ht, ha'⟩ := ad_true h2
  obtain ⟨rfl, rfl, rfl, -, -, hb⟩ := ad_true h3
  have hvb := ins_validM hv ht hb
  have a1 := adB_true.1 ha
  have a2 := adB_true.1 ha'
  have a3 := adB_true.1 hb
  have hst : t.2 ≠ s.2 := fun e => a2.2 s (insS_mem.2 (.inl rfl)) e.symm
  have ha2 : adB _ (insS xs t) s = true := adB_true.2 ⟨a1.1, fun x hx => by
    rcases insS_mem.1 hx with rfl | hx
    · exact hst
    · exact a1.2 x hx⟩
  rw [ad_yes hvb hs ha2]
  have e : insS (insS xs t) s = insS (insS xs s) t := by
    refine asc2_ext (insS_ok (rvB_true.1 hvb).1 hs ha2).2 (insS_ok (rvB_true.1 hv').1 ht ha').2 fun z => ?_
    simp only [insS_mem]
    constructor
    · rintro (h | h | h)
      · exact .inr (.inl h)
      · exact .inl h
      · exact .inr (.inr h)
    · rintro (h | h | h)
      · exact .inr (.inl h)
      · exact .inl h
      · exact .inr (.inr h)
  rw [e]
/-- what is missing of a place -/
theorem mis_placeM {m : Int} {gs M : List Int} {xs : List St} (h : rvB m gs xs = true) (hM : misR m gs xs = M) {g : Int} (hg : g ∈ gs) : hasB M g = !hasB (gOf xs) g := by
  rw [← hM, misR_yes h, Bool.eq_iff_iff, hasB_iff, misL, List.mem_filter]
  exact ⟨fun h => h.2, fun h => ⟨hg, h⟩⟩

theorem mis_sumM {m : Int} {gs M : List Int} {xs : List St} (h : rvB m gs xs = true) (hM : misR m gs xs = M) : M.length + xs.length = gs.length := by
  have hv := rvB_true.1 h
  rw [← hM, misR_yes h]; exact misL_len hv.2.2 hv.1

theorem hasg_snoc {xs : List St} {k : Nat} {x : St} (h : xs[k]? = some x) (g : Int) : hasB (gOf (xs.take (k + 1))) g = (hasB (gOf (xs.take k)) g || (x.2 == g)) := by
  rw [take_snoc h, gOf_snoc, Bool.eq_iff_iff, Bool.or_eq_true, hasB_iff, hasB_iff, List.mem_append, beq_iff_eq, List.mem_singleton]
  exact ⟨fun h => h.imp id Eq.symm, fun h => h.imp id Eq.symm⟩
/-- is a stamp in a list? -/
def hasS (xs : List St) (s : St) : Bool := xs.any fun x => x.1 == s.1 && x.2 == s.2

theorem hasS_true {xs : List St} {s : St} (h : s ∈ xs) : hasS xs s = true := by
  rw [hasS, List.any_eq_true]; exact ⟨s, h, by simp⟩

theorem hasS_snoc {xs : List St} {k : Nat} {x : St} (h : xs[k]? = some x) (s : St) : hasS (xs.take (k + 1)) s = (hasS (xs.take k) s || (x.1 == s.1 && x.2 == s.2)) := by
  rw [take_snoc h, hasS, List.any_append]; simp [hasS]
/-- no stamp is above the final one -/
theorem fn_not_less {m : Int} {gs : List Int} {xs : List St} {t g : Int} (h : fnB m gs xs = true) (hF : fnR m gs xs = (t, g)) :
    hasS xs (t, g) = true ∧ ∀ (k : Nat) (x : St), xs[k]? = some x → stL t g x.1 x.2 = false := by
  obtain ⟨h1, h2⟩ := fn_true h
  rw [h1] at hF
  refine ⟨hasS_true (hF ▸ maxR_mem h2), fun k x hx => ?_⟩
  have := maxR_ge h2 (List.mem_of_getElem? hx)
  rw [hF] at this
  have hl : lexB t g x.1 x.2 = false := this
  unfold stL; rw [hl, Bool.and_false]
/-- all missing stamps, one after another -/
theorem mis_ins {gs : List Int} {xs : List St} {s : St} {l : List Int} (hg : gs.Pairwise (· < ·)) (h : misL gs xs = s.2 :: l) : adB gs xs s = true ∧ misL gs (insS xs s) = l := by
  have hm : s.2 ∈ misL gs xs := by rw [h]; simp
  unfold misL at hm
  rw [List.mem_filter] at hm
  refine ⟨by rw [adB, Bool.and_eq_true, hasB_iff]; exact hm, ?_⟩
  have hp : (misL gs xs).Pairwise (· < ·) := hg.filter _
  rw [h, List.pairwise_cons] at hp
  refine asc_ext (hg.filter _) hp.2 fun z => ?_
  have hz : z ∈ misL gs xs ↔ (z = s.2 ∨ z ∈ l) := by rw [h]; simp
  unfold misL at hz ⊢
  rw [List.mem_filter] at hz ⊢
  have e : hasB (gOf (insS xs s)) z = (hasB (gOf xs) z || decide (z = s.2)) := by
    rw [Bool.eq_iff_iff, Bool.or_eq_true, hasB_iff, hasB_iff, decide_eq_true_eq, gOf_mem, gOf_mem]
    constructor
    · rintro ⟨x, hx, e⟩
      rcases insS_mem.1 hx with rfl | hx
      · exact .inr e.symm
      · exact .inl ⟨x, hx, e⟩
    · rintro (⟨x, hx, e⟩ | e)
      · exact ⟨x, insS_mem.2 (.inr hx), e⟩
      · exact ⟨s, insS_mem.2 (.inl rfl), e.symm⟩
  rw [e]
  constructor
  · rintro ⟨a, b⟩
    rw [Bool.not_or, Bool.and_eq_true] at b
    rcases hz.1 ⟨a, b.1⟩ with h | h
    · simp [h] at b
    · exact h
  · intro hl
    have := hz.2 (.inr hl)
    refine ⟨this.1, ?_⟩
    rw [Bool.not_or, Bool.and_eq_true]
    refine ⟨this.2, ?_⟩
    have := hp.1 z hl
    simp; omega
end Go.Proofs.Ytccggcdjajehnaa
