/-
  Slices of slices of ints with their capacities: what they read as. No condition.
-/
import Derived.Test.YtdhafappclcijaaTrA
import Derived.Test.YtdhafappclcijaaOwnL
namespace Go.Proofs.Ytdhafappclcijaa
open Go.RowKit
set_option linter.unusedVariables false

/-- '.slice A n c' reads as the lists zss; everything lies below B; no length is greater than its capacity -/
def RdT (w : World) (B : Nat) (A : Option Addr) (n : Nat) (zss : List (List Int)) : Prop :=
  zss.length = n ∧ (0 < n → ∃ ad, A = some ad ∧ ad.block < B ∧ ∀ (i : Nat) (zs : List Int), zss[i]? = some zs → ∃ (Ai : Option Addr) (ci : Nat), w.cell? (ad.add i) = some (.slice Ai zs.length ci) ∧
    RdI w B Ai zs.length zs ∧ zs.length ≤ ci ∧ ci ≤ 9223372036854775807)
section
variable {w w' : World} {B B' n : Nat} {A : Option Addr} {zss : List (List Int)}

theorem RdT.keep (h : RdT w B A n zss) (hk : ∀ p : Addr, p.block < B → w'.cell? p = w.cell? p) : RdT w' B A n zss :=
  ⟨h.1, fun hn => by
    obtain ⟨ad, e, hb, hc⟩ := h.2 hn
    refine ⟨ad, e, hb, fun i zs hz => ?_⟩
    obtain ⟨Ai, ci, h1, h2, h3⟩ := hc i zs hz
    exact ⟨Ai, ci, (hk _ (by rw [block_of_add]; exact hb)).trans h1, Reads.keep h2 hk, h3⟩⟩

theorem RdT.more (h : RdT w B A n zss) (hB : B ≤ B') : RdT w B' A n zss :=
  ⟨h.1, fun hn => by
    obtain ⟨ad, e, hb, hc⟩ := h.2 hn
    refine ⟨ad, e, by omega, fun i zs hz => ?_⟩
    obtain ⟨Ai, ci, h1, h2, h3⟩ := hc i zs hz
    exact ⟨Ai, ci, h1, Reads.more h2 hB, h3⟩⟩

theorem RdT.below (h : RdT w B A n zss) (hb : Below B w w') : RdT w' B A n zss := h.keep fun _ hp => hb.cell hp

theorem RdT.step (h : RdT w w.heap.size A n zss) (hb : Below w.heap.size w w') : RdT w' w'.heap.size A n zss := (h.below hb).more hb.size

theorem RdT.quiet (h : RdT w B A n zss) (hq : Qt w w') : RdT w' B A n zss := by
  obtain ⟨q, rfl⟩ := hq
  exact h

theorem RdT.alloc (h : RdT w B A n zss) (hB : B ≤ w.heap.size) (o : Obj) : RdT (w.alloc o) B A n zss := h.keep fun p hp => World.cell?_alloc_lt w o p (by omega)

theorem RdT.at_ {k : Nat} (h : RdT w B A n zss) (hk : k < n) : ∃ (ad : Addr) (Ai : Option Addr) (m ci : Nat) (zs : List Int), A = some ad ∧ Hid (zss[k]? = some zs) ∧ Hid (zs.length = m) ∧ ad.block < B ∧ w.cell? (ad.add k) = some (.slice Ai m ci) ∧ Hid (RdI w B Ai m zs) ∧ m ≤ ci ∧ ci ≤ 9223372036854775807 := by
  obtain ⟨ad, e, hb, hc⟩ := h.2 (by omega)
  have hl : k < zss.length := by rw [h.1]; exact hk
  obtain ⟨Ai, ci, h1, h2, h3, h4⟩ := hc k zss[k] (List.getElem?_eq_getElem hl)
  exact ⟨ad, Ai, _, ci, zss[k], e, List.getElem?_eq_getElem hl, rfl, hb, h1, h2, h3, h4⟩

theorem RdT.rdl (h : RdT w B A n zss) : RdL w B A n zss :=
  ⟨h.1, fun i hi => by
    obtain ⟨ad, e, hb, hc⟩ := h.2 (by omega)
    have hl : i < zss.length := by rw [h.1]; exact hi
    obtain ⟨Ai, ci, h1, h2, h3⟩ := hc i zss[i] (List.getElem?_eq_getElem hl)
    refine ⟨ad, Ai, ci, e, hb, ?_⟩
    rw [show zss.getD i [] = zss[i] by simp [hl]]
    exact ⟨h1, h2⟩⟩

theorem RdT.take (h : RdT w B A n zss) {k : Nat} (hk : k ≤ n) : RdT w B A k (zss.take k) :=
  ⟨by rw [List.length_take, h.1]; omega, fun hn => by
    obtain ⟨ad, e, hb, hc⟩ := h.2 (by omega)
    refine ⟨ad, e, hb, fun i zs hz => hc i zs ?_⟩
    have hi : i < k := by
      have := (List.getElem?_eq_some_iff.1 hz).1
      rw [List.length_take] at this; omega
    rw [List.getElem?_take_of_lt hi] at hz
    exact hz⟩
end

theorem OwI.formT {w : World} {B : Nat} {v : Value} {zs : List Int} (h : OwI w B v zs) : ∃ A c, v = .slice A zs.length c ∧ RdI w w.heap.size A zs.length zs ∧ zs.length ≤ c ∧ c ≤ 9223372036854775807 := by
  rcases h.2 with ⟨rfl, h0⟩ | ⟨g, cap, cur, rfl, hb, hh, h1, h2, h3, h4⟩
  · have hz : zs = [] := List.eq_nil_of_length_eq_zero h0
    subst hz
    exact ⟨none, 0, rfl, Reads.none_, Nat.le_refl _, by omega⟩
  · exact ⟨_, cap, rfl, Reads.of_own (c := cap) h, h1, by simp only [maxLen] at h2; omega⟩

theorem OwLL.formT {w : World} {lo : Nat} {v : Value} {zss : List (List Int)} (h : OwLL w lo v zss) : ∃ A c, v = .slice A zss.length c ∧ RdT w w.heap.size A zss.length zss ∧ zss.length ≤ c ∧ c ≤ 9223372036854775807 := by
  obtain ⟨vals, hl, hv, hi⟩ := h
  have inner : ∀ (i : Nat) (zs : List Int), zss[i]? = some zs → ∃ Ai ci, vals[i]? = some (.slice Ai zs.length ci) ∧ RdI w w.heap.size Ai zs.length zs ∧ zs.length ≤ ci ∧ ci ≤ 9223372036854775807 := by
    intro i zs hz
    have hi' := (List.getElem?_eq_some_iff.1 hz).1
    have ho := hi i hi'
    rw [show zss.getD i [] = zs by rw [List.getD_eq_getElem?_getD, hz]; rfl] at ho
    obtain ⟨Ai, ci, e, hr, h1, h2⟩ := ho.formT
    refine ⟨Ai, ci, ?_, hr, h1, h2⟩
    have : i < vals.length := by omega
    rw [← e]; simp [this]
  rcases hv.2 with ⟨rfl, h0⟩ | ⟨g, cap, cur, rfl, hb, hh, h1, h2, h3, h4⟩
  · have hz : zss = [] := List.eq_nil_of_length_eq_zero (by omega)
    subst hz
    exact ⟨none, 0, rfl, ⟨rfl, fun h => by simp at h⟩, Nat.le_refl _, by omega⟩
  · refine ⟨_, cap, by rw [hl], ⟨rfl, fun hn => ⟨_, rfl, (hv.lt g rfl).2, fun i zs hz => ?_⟩⟩, by omega, by simp only [maxLen] at h2; omega⟩
    obtain ⟨Ai, ci, e, hr⟩ := inner i zs hz
    exact ⟨Ai, ci, hv.cells (g := g) rfl i _ e, hr⟩

theorem RdI.cutT {w : World} {B n k : Nat} {A : Option Addr} {zs : List Int} (h : RdI w B A n zs) (hk : k ≤ n) : RdI w B A k (zs.take k) := by
  have hl := h.len
  refine ⟨by simp [ints]; omega, fun h0 => ?_⟩
  obtain ⟨ad, e, hb, hc⟩ := h.2 (by omega)
  refine ⟨ad, e, hb, fun j u hu => hc j u ?_⟩
  rw [ints, List.map_take, List.getElem?_take] at hu
  split at hu
  · exact hu
  · cases hu

theorem getD_of {zs : List Int} {k : Nat} {z : Int} (hk : k < zs.length) (h : zs.getD k 0 = z) : zs[k]? = some z := by
  rw [← h]; simp [hk]
end Go.Proofs.Ytdhafappclcijaa
