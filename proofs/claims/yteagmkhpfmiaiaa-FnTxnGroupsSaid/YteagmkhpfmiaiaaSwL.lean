/-
  What the laws of the store need beside the draws: the calls told by what they answer, and small facts of the answers. No condition.
-/
import Derived.Test.YteagmkhpfmiaiaaSwC
import Derived.Test.YteagmkhpfmiaiaaSoD
import Derived.Test.YteagmkhpfmiaiaaSpE
namespace Go.Proofs.Yteagmkhpfmiaiaa
open Go.RowKit
set_option linter.unusedVariables false
set_option linter.unusedSimpArgs false

theorem TxnApply_asL {A A1 A2 : Option Addr} {n c n1 n2 c1 c2 : Nat} {zs O : List Int} {t : Tx} {q : Bool} {k : Nat} {m : Int} (hO : appS zs t = O) (hq : appB zs t = q) (hk : O.length = k) (hm : t.need = m) (w : World) (hs : RdI w w.heap.size A n zs) (hn : n < 1099511627776) (hr : RdT w A1 n1 A2 n2 t) :
    Calls Try.prog 20 #[.slice A n c, txV (.slice A1 n1 c1) m (.slice A2 n2 c2)] w fun e w' =>
      ∃ A' c', e = .returned (.tuple #[.slice A' k c', .bool q]) ∧ RdI w' w'.heap.size A' k O ∧ Below w.heap.size w w' := by
  subst hO; subst hq; subst hk; subst hm
  refine (TxnApply_spec w hs hn hr).mono fun e w' ⟨v, h1, h2, h3⟩ => ?_
  obtain ⟨A', c', rfl, hr⟩ := h2.form
  exact ⟨A', c', h1, hr, h3⟩

theorem TxnApply_iasL {A A1 A2 : Option Addr} {n c n1 n2 c1 c2 : Nat} {zs O : List Int} {t : Tx} {q : Bool} {k : Nat} {m : Int} (hO : appS zs t = O) (hq : appB zs t = q) (hk : O.length = k) (hm : t.need = m) (w : World) (hs : RdI w w.heap.size A n zs) (hn : n < 1099511627776) (hr : RdT w A1 n1 A2 n2 t) :
    Calls Try.prog 19 #[.slice A n c, txV (.slice A1 n1 c1) m (.slice A2 n2 c2)] w fun e w' =>
      ∃ A' c', e = .returned (.tuple #[.slice A' k c', .bool q]) ∧ RdI w' w'.heap.size A' k O ∧ Below w.heap.size w w' := by
  subst hO; subst hq; subst hk; subst hm
  refine (TxnApply_impl w hs hn hr).mono fun e w' ⟨v, h1, h2, h3⟩ => ?_
  obtain ⟨A', c', rfl, hr⟩ := h2.form
  exact ⟨A', c', h1, hr, h3⟩
/-- two slices that read the same -/
theorem sameInts_eq {B B' n m c d : Nat} {A A' : Option Addr} {xs ys : List Int} (he : xs = ys) (w : World) (hx : RdI w B A n xs) (hy : RdI w B' A' m ys) (hn : n < 1099511627776) (hm : m < 1099511627776) :
    Calls Try.prog 21 #[.slice A n c, .slice A' m d] w fun e w' => e = .returned (.bool true) ∧ Below w.heap.size w w' := by
  subst he
  exact (sameInts_any w hx hy hn hm).mono fun e w' ⟨h1, h2⟩ => ⟨by rw [h1, sameB_self], h2.below _⟩
/-- what a transaction that the document knows answers -/
theorem app_know {zs : List Int} {t : Tx} (h : (appS zs t).length ≠ 0) : vst zs = true ∧ Vtx t ∧ appS zs t = tab (nextF (atS zs) t) ∧ appB zs t = okF (atS zs) t := by
  unfold appS at h
  unfold appS appB
  cases e1 : vst zs <;> cases e2 : vtx t <;> simp only [e1, e2, Bool.and_true, Bool.and_false, Bool.true_and, Bool.false_and, if_true] at h ⊢
  case false.false => simp at h
  case false.true => simp at h
  case true.false => simp at h
  exact ⟨trivial, vtx_true.1 e2, trivial, trivial⟩

theorem app_yes {zs : List Int} {t : Tx} (h : appB zs t = true) : vst zs = true ∧ Vtx t ∧ appS zs t = tab (nextF (atS zs) t) ∧ okF (atS zs) t = true := by
  unfold appB at h
  simp only [Bool.and_eq_true] at h
  exact ⟨h.1, vtx_true.1 h.2.1, by simp [appS, h.1, h.2.1], h.2.2⟩

theorem app_len {zs : List Int} {t : Tx} : (appS zs t).length ≤ 15 := by
  unfold appS; split
  · rw [tab_len]; omega
  · simp

theorem app_fail {zs : List Int} {t : Tx} (h : (appS zs t).length ≠ 0) (hb : appB zs t = false) : appS zs t = zs := by
  obtain ⟨h1, h2, h3, h4⟩ := app_know h
  rw [h3, nextF_no (by rw [← h4]; exact hb), tab_atS (vst_len h1)]
/-- a transaction of reads alone -/
theorem app_read {zs : List Int} {t : Tx} (hv : vst zs = true) (ht : Vtx t) (hr : 0 < t.rd.length) : appS zs ⟨t.rd, t.need, []⟩ = zs ∧ appB zs ⟨t.rd, t.need, []⟩ = decide (t.need ≤ sumF (atS zs) t.rd) := by
  have h2 : Vtx ⟨t.rd, t.need, []⟩ := ⟨ht.rd, Asc.nil, fun p hp => by simp at hp, by simpa using hr, ht.n0, ht.n1⟩
  have hok : okF (atS zs) ⟨t.rd, t.need, []⟩ = decide (t.need ≤ sumF (atS zs) t.rd) := by simp [okF, fitP]
  refine ⟨?_, by simp [appB, hv, vtx_true.2 h2, hok]⟩
  have hn : nextF (atS zs) ⟨t.rd, t.need, []⟩ = atS zs := by
    unfold nextF
    split
    · funext k; simp [addF, dlt_nil]
    · rfl
  simp only [appS, hv, vtx_true.2 h2, Bool.and_self, if_true, hn]
  exact tab_atS (vst_len hv)
end Go.Proofs.Yteagmkhpfmiaiaa
