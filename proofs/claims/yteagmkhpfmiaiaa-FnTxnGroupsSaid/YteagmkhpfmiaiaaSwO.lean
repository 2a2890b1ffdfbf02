/-
  What the law on a transaction's groups needs: parts that stay, the calls told by what they answer. No condition.
-/
import Derived.Test.YteagmkhpfmiaiaaSwM
import Derived.Test.YteagmkhpfmiaiaaSpF
import Derived.Test.YteagmkhpfmiaiaaSpG
namespace Go.Proofs.Yteagmkhpfmiaiaa
open Go.RowKit
set_option linter.unusedVariables false
set_option linter.unusedSimpArgs false

theorem part_keep {zs : List Int} {t : Tx} {g : Int} (h : (appS zs t).length ≠ 0) (h0 : 0 ≤ g) (h4 : g ≤ 4) (hg : hasB (tgrpR t) g = false) : partR (appS zs t) g = partR zs g := by
  obtain ⟨hv, ht, he, -⟩ := app_know h
  have hne : t.rd ++ keysP t.puts ≠ [] := by
    intro e
    have := ht.some_
    have e2 := congrArg List.length e
    rw [List.length_append, keysP_len] at e2
    simp only [List.length_nil] at e2
    omega
  have hr : ∀ z ∈ t.rd ++ keysP t.puts, 0 ≤ z ∧ z ≤ 14 := fun z hz => by
    rcases List.mem_append.1 hz with hz | hz
    · exact ht.rd.mem hz
    · exact ht.puts.mem hz
  have hmiss : g ∉ tgrpR t := by
    unfold hasB at hg
    intro hm
    rw [List.contains_iff_mem.2 hm] at hg
    cases hg
  rw [tgrpR_yes (vtx_true.2 ht), grpsOf_valid hne hr] at hmiss
  have hz : ∀ x : Int, x % 5 = g → dlt t.puts x = 0 := fun x hx => dlt_miss fun hm => hmiss ⟨x, List.mem_append.2 (.inr hm), hx⟩
  have hF : ∀ x : Int, x % 5 = g → 0 ≤ x → x ≤ 14 → atS (tab (nextF (atS zs) t)) x = atS zs x := fun x hx x0 x1 => by
    rw [tab_at _ x0 x1]
    unfold nextF
    split
    · unfold addF; rw [hz x hx]; omega
    · rfl
  have hvO : vst (appS zs t) = true := by
    rw [he]; exact vst_tab fun k _ _ => nextF_amt (fun k => vst_amt hv) ht k
  have e0 := hF g (by omega) (by omega) (by omega)
  have e1 := hF (g + 5) (by omega) (by omega) (by omega)
  have e2 := hF (g + 10) (by omega) (by omega) (by omega)
  rw [he] at hvO ⊢
  simp only [partR, hv, hvO, Bool.true_and, e0, e1, e2]

theorem part_len (zs : List Int) (g : Int) : (partR zs g).length ≤ 3 := by
  unfold partR; split <;> simp

theorem tgrp_len (t : Tx) : (tgrpR t).length ≤ 5 := by
  cases e : vtx t with
  | false => rw [tgrpR_no e]; simp
  | true =>
    rw [tgrpR_yes e]
    unfold grpsOf
    exact Nat.le_trans (List.length_filter_le _ _) (by simp [grps])

theorem TxnGroups_iasL {A1 A2 : Option Addr} {n1 n2 c1 c2 : Nat} {t : Tx} {G : List Int} {k : Nat} {m : Int} (hG : tgrpR t = G) (hk : G.length = k) (hm : t.need = m) (w : World) (hr : RdT w A1 n1 A2 n2 t) :
    Calls Try.prog 24 #[txV (.slice A1 n1 c1) m (.slice A2 n2 c2)] w fun e w' => ∃ A' c', e = .returned (.slice A' k c') ∧ RdI w' w'.heap.size A' k G ∧ Below w.heap.size w w' := by
  subst hG; subst hk; subst hm
  refine (TxnGroups_impl w hr).mono fun e w' ⟨v, h1, h2, h3⟩ => ?_
  obtain ⟨A', c', rfl, hr⟩ := h2.form
  exact ⟨A', c', h1, hr, h3⟩

theorem StorePart_iasL {A : Option Addr} {n c : Nat} {zs Z : List Int} {k : Nat} (g : Int) (hZ : partR zs g = Z) (hk : Z.length = k) (w : World) (hs : RdI w w.heap.size A n zs) (hn : n < 1099511627776) :
    Calls Try.prog 29 #[.slice A n c, .int .i64 g] w fun e w' => ∃ A' c', e = .returned (.slice A' k c') ∧ RdI w' w'.heap.size A' k Z ∧ Below w.heap.size w w' := by
  subst hZ; subst hk
  refine (StorePart_impl g w hs hn).mono fun e w' ⟨v, h1, h2, h3⟩ => ?_
  obtain ⟨A', c', rfl, hr⟩ := h2.form
  exact ⟨A', c', h1, hr, h3⟩

theorem hasInt_asL {B n c : Nat} {A : Option Addr} {zs : List Int} {x : Int} {r : Bool} (h : hasB zs x = r) (w : World) (hr : RdI w B A n zs) (hn : n < 1099511627776) :
    Calls Try.prog 27 #[.slice A n c, .int .i64 x] w fun e w' => e = .returned (.bool r) ∧ w = w' := by
  subst h; exact hasInt_any x w hr hn
end Go.Proofs.Yteagmkhpfmiaiaa
