/-
  What the laws on puts need: puts taken back, one put's sum. No condition.
-/
import Derived.Test.YteagmkhpfmiaiaaSwL
namespace Go.Proofs.Yteagmkhpfmiaiaa
open Go.RowKit
set_option linter.unusedVariables false
set_option linter.unusedSimpArgs false

def negP (ps : List (Int × Int)) : List (Int × Int) := ps.map fun x => (x.1, -x.2)

theorem keysP_neg (ps : List (Int × Int)) : keysP (negP ps) = keysP ps := by simp [keysP, negP]

theorem negP_len (ps : List (Int × Int)) : (negP ps).length = ps.length := by simp [negP]

theorem dlt_neg (ps : List (Int × Int)) (k : Int) : dlt (negP ps) k = - dlt ps k := by
  induction ps with
  | nil => rfl
  | cons x l ih =>
    rw [show negP (x :: l) = (x.1, -x.2) :: negP l from rfl, dlt_cons, dlt_cons, ih]
    simp only
    split <;> omega

theorem negP_snoc {ps : List (Int × Int)} {k : Nat} {x : Int × Int} (h : ps[k]? = some x) : negP (ps.take (k + 1)) = negP (ps.take k) ++ [(x.1, -x.2)] := by
  rw [take_snocP h]; simp [negP]

theorem app_back {zs : List Int} {t : Tx} (h : appB zs t = true) (hp : 0 < t.puts.length) : appS (appS zs t) ⟨[], 0, negP t.puts⟩ = zs ∧ appB (appS zs t) ⟨[], 0, negP t.puts⟩ = true := by
  obtain ⟨hv, ht, he, hok⟩ := app_yes h
  have hG : ∀ k, amt (addF (atS zs) t.puts k) = true := addF_amt (fun k => vst_amt hv) ht.puts (okF_true.1 hok).2
  rw [nextF_yes hok] at he
  have hvG : vst (tab (addF (atS zs) t.puts)) = true := vst_tab fun k _ _ => hG k
  have ht2 : Vtx ⟨[], 0, negP t.puts⟩ := by
    refine ⟨Asc.nil, by rw [keysP_neg]; exact ht.puts, fun p hp2 => ?_, by simpa [negP_len] using hp, by show (0 : Int) ≤ 0; omega, by show (0 : Int) ≤ 14985; omega⟩
    obtain ⟨x, hx, rfl⟩ := List.mem_map.1 hp2
    have := ht.adds x hx
    simp only at this ⊢
    omega
  have hE := eqK_tab (addF (atS zs) t.puts)
  have hok2 : okF (addF (atS zs) t.puts) ⟨[], 0, negP t.puts⟩ = true := by
    refine okF_yes (by simp [sumF_nil]) ?_
    unfold fitP
    rw [List.all_eq_true]
    intro p hp2
    obtain ⟨x, hx, rfl⟩ := List.mem_map.1 hp2
    have e : addF (atS zs) t.puts x.1 + -x.2 = atS zs x.1 := by
      unfold addF; rw [dlt_hit ht.puts.pair hx]; omega
    simp only [e]
    exact vst_amt hv
  have hF : addF (addF (atS zs) t.puts) (negP t.puts) = atS zs := by
    funext k; unfold addF; rw [dlt_neg]; omega
  rw [he]
  constructor
  · simp only [appS, hvG, vtx_true.2 ht2, Bool.and_self, if_true]
    rw [(hE.next ht2).tab, nextF_yes hok2]
    simp only
    rw [hF]
    exact tab_atS (vst_len hv)
  · simp [appB, hvG, vtx_true.2 ht2, hE.ok ht2, hok2]
/-- what stands behind a success -/
theorem app_at {zs : List Int} {t : Tx} (h : appB zs t = true) {k : Nat} (hk : k < 15) : (appS zs t).getD k 0 = zs.getD k 0 + dlt t.puts k := by
  obtain ⟨hv, ht, he, hok⟩ := app_yes h
  rw [he, nextF_yes hok, tab_get _ hk]
  simp [addF, atS]

theorem app_valid {zs : List Int} {t : Tx} (h : appB zs t = true) : vst (appS zs t) = true := by
  obtain ⟨hv, ht, he, hok⟩ := app_yes h
  rw [he]
  exact vst_tab fun k _ _ => nextF_amt (fun k => vst_amt hv) ht k

theorem dlt_hitN {ps : List (Int × Int)} (hp : Asc (keysP ps)) {j : Nat} {x : Int × Int} (h : ps[j]? = some x) : dlt (ps.take (j + 1)) x.1 = x.2 := by
  rw [take_snocP h, dlt_snoc, dlt_miss (not_mem_take hp h), if_pos rfl]; omega

theorem dlt_missN {ps : List (Int × Int)} {j : Nat} {x : Int × Int} (h : ps[j]? = some x) {k : Int} (hk : x.1 ≠ k) : dlt (ps.take (j + 1)) k = dlt (ps.take j) k := by
  rw [take_snocP h, dlt_snoc, if_neg hk]; omega
end Go.Proofs.Yteagmkhpfmiaiaa
