/-
  Credits in memory: read, owned; what a store turns. No condition.
-/
import Derived.Test.YtfcoobebebdniaaCdB
import Derived.Test.YtfcoobebebdniaaKp
namespace Go.Proofs.Ytfcoobebebdniaa
open Go.RowKit
set_option linter.unusedVariables false
set_option linter.unusedSimpArgs false

/-- a sender by value, credits by value -/
abbrev hoV (v : Value) (x : Int) : Value := .agg #[v, .int .i64 x]

abbrev crV (F H : Value) : Value := .agg #[F, H]
/-- the cells of senders whose sets are vals -/
def hcs : List Value → List Ho → List Value
  | v :: vs, h :: hs => v :: .int .i64 h.2 :: hcs vs hs
  | _, _ => []

theorem hcs_len : ∀ {vs : List Value} {hs : List Ho}, vs.length = hs.length → (hcs vs hs).length = hs.length * 2
  | [], [], _ => rfl
  | v :: vs, h :: hs, e => by
    have := hcs_len (vs := vs) (hs := hs) (by simpa using e)
    simp only [hcs, List.length_cons, this]; omega

theorem hcs_get : ∀ {vs : List Value} {hs : List Ho} {i : Nat} {v : Value} {h : Ho}, vs[i]? = some v → hs[i]? = some h → (hcs vs hs)[i * 2]? = some v ∧ (hcs vs hs)[i * 2 + 1]? = some (.int .i64 h.2)
  | v :: vs, h :: hs, 0, _, _, e1, e2 => by
    simp at e1 e2
    subst e1; subst e2
    exact ⟨rfl, rfl⟩
  | v :: vs, h :: hs, i + 1, _, _, e1, e2 => by
    have := hcs_get (vs := vs) (hs := hs) (i := i) (by simpa using e1) (by simpa using e2)
    rw [show (i + 1) * 2 = i * 2 + 1 + 1 by omega]
    simpa [hcs] using this

theorem hcs_set : ∀ {vs : List Value} {hs : List Ho} {i : Nat} (v : Value) (h : Ho), vs.length = hs.length → i < hs.length → ((hcs vs hs).set (i * 2) v).set (i * 2 + 1) (.int .i64 h.2) = hcs (vs.set i v) (hs.set i h)
  | [], hs, i, v, h, e, hi => by
    have : hs.length = 0 := by simpa using e.symm
    omega
  | v0 :: vs, h0 :: hs, 0, v, h, _, _ => rfl
  | v0 :: vs, h0 :: hs, i + 1, v, h, e, hi => by
    have := hcs_set (vs := vs) (hs := hs) (i := i) v h (by simpa using e) (by simpa using hi)
    rw [show (i + 1) * 2 = i * 2 + 1 + 1 by omega]
    simp only [hcs, List.set_cons_succ, this]

theorem hcs_wait : ∀ {vs : List Value} {hs : List Ho} {i : Nat} {h0 : Ho} (x : Int), vs.length = hs.length → hs[i]? = some h0 → (hcs vs hs).set (i * 2 + 1) (.int .i64 x) = hcs vs (hs.set i (h0.1, x))
  | [], hs, i, _, x, e, hi => by
    have : hs.length = 0 := by simpa using e.symm
    have := (List.getElem?_eq_some_iff.1 hi).1
    omega
  | v0 :: vs, h0 :: hs, 0, _, x, _, e => by simp at e; subst e; rfl
  | v0 :: vs, h0 :: hs, i + 1, _, x, e, hi => by
    have := hcs_wait (vs := vs) (hs := hs) (i := i) x (by simpa using e) (by simpa using hi)
    rw [show (i + 1) * 2 + 1 = i * 2 + 1 + 1 + 1 by omega]
    simp only [hcs, List.set_cons_succ, this]

theorem hcs_app : ∀ {vs : List Value} {hs : List Ho} (v : Value) (h : Ho), vs.length = hs.length → hcs (vs ++ [v]) (hs ++ [h]) = hcs vs hs ++ [v, .int .i64 h.2]
  | [], [], v, h, _ => rfl
  | v0 :: vs, h0 :: hs, v, h, e => by
    have := hcs_app (vs := vs) (hs := hs) v h (by simpa using e)
    simp only [List.cons_append, hcs, this]

/-- '.slice A n c' reads as the senders hs -/
def RdH (w : World) (A : Option Addr) (n : Nat) (hs : List Ho) : Prop :=
  hs.length = n ∧ (0 < n → ∃ b off, A = some ⟨b, off, none⟩ ∧ b < w.heap.size ∧ ∀ (i : Nat) (h : Ho), hs[i]? = some h → ∃ Ai ci, w.cell? ⟨b, off + i * 2, none⟩ = some (.slice Ai h.1.length ci) ∧
    w.cell? ⟨b, off + i * 2 + 1, none⟩ = some (.int .i64 h.2) ∧ RdI w w.heap.size Ai h.1.length h.1 ∧ h.1.length ≤ ci ∧ ci ≤ 9223372036854775807)
/-- credits that are read -/
structure RdC (w : World) (A1 : Option Addr) (n1 : Nat) (A2 : Option Addr) (n2 : Nat) (c : Cr) : Prop where
  f : RdI w w.heap.size A1 n1 c.fr
  h : RdH w A2 n2 c.hs
  b1 : n1 < 1099511627776
  b2 : n2 < 1099511627776
  sh : ∀ h ∈ c.hs, h.1.length < 1099511627776
section
variable {w w' : World} {A1 A2 : Option Addr} {n n1 n2 : Nat} {c : Cr} {hs : List Ho}

theorem RdH.keep (h : RdH w A2 n hs) (hz : w.heap.size ≤ w'.heap.size) (hk : ∀ p : Addr, p.block < w.heap.size → w'.cell? p = w.cell? p) : RdH w' A2 n hs :=
  ⟨h.1, fun hn => by
    obtain ⟨b, off, e, hb, hc⟩ := h.2 hn
    refine ⟨b, off, e, by omega, fun i x hx => ?_⟩
    obtain ⟨Ai, ci, h1, h2, h3, h4, h5⟩ := hc i x hx
    exact ⟨Ai, ci, (hk ⟨b, _, none⟩ hb).trans h1, (hk ⟨b, _, none⟩ hb).trans h2, (Reads.keep h3 hk).more hz, h4, h5⟩⟩

theorem RdC.keep (h : RdC w A1 n1 A2 n2 c) (hz : w.heap.size ≤ w'.heap.size) (hk : ∀ p : Addr, p.block < w.heap.size → w'.cell? p = w.cell? p) : RdC w' A1 n1 A2 n2 c :=
  ⟨(Reads.keep h.f hk).more hz, h.h.keep hz hk, h.b1, h.b2, h.sh⟩

theorem RdC.step (h : RdC w A1 n1 A2 n2 c) (hb : Below w.heap.size w w') : RdC w' A1 n1 A2 n2 c := h.keep hb.size fun _ hp => hb.cell hp

theorem RdC.alloc (h : RdC w A1 n1 A2 n2 c) (o : Obj) : RdC (w.alloc o) A1 n1 A2 n2 c := h.step ((Below.refl _ _).alloc (Nat.le_refl _) o)

theorem RdC.drew (h : RdC w A1 n1 A2 n2 c) : RdC w.drew A1 n1 A2 n2 c := ⟨h.f, h.h, h.b1, h.b2, h.sh⟩

theorem RdC.drewN (h : RdC w A1 n1 A2 n2 c) (k : Nat) : RdC (w.drewN k) A1 n1 A2 n2 c := ⟨h.f, h.h, h.b1, h.b2, h.sh⟩
/-- a sender, read -/
theorem RdC.at_ {i : Nat} (h : RdC w A1 n1 A2 n2 c) (hi : i < n2) : ∃ b off Ai m ci, A2 = some ⟨b, off, none⟩ ∧ b < w.heap.size ∧ Hid ((c.h i).1.length = m) ∧ w.cell? ⟨b, off + i * 2, none⟩ = some (.slice Ai m ci) ∧
    w.cell? ⟨b, off + i * 2 + 1, none⟩ = some (.int .i64 (c.h i).2) ∧ Hid (RdI w w.heap.size Ai m (c.h i).1) ∧ m ≤ ci ∧ ci ≤ 9223372036854775807 ∧ m < 1099511627776 := by
  obtain ⟨b, off, e, hb, hc⟩ := h.h.2 (by omega)
  have hil : i < c.hs.length := by rw [h.h.1]; exact hi
  obtain ⟨Ai, ci, h1, h2, h3, h4, h5⟩ := hc i _ (at_h hil)
  exact ⟨b, off, Ai, _, ci, e, hb, rfl, h1, h2, h3, h4, h5, h.sh _ (List.mem_of_getElem? (at_h hil))⟩

theorem RdC.len (h : RdC w A1 n1 A2 n2 c) : c.fr.length = n1 ∧ c.hs.length = n2 := ⟨RdI.len h.f, h.h.1⟩
end

/-- credits of the call's own -/
structure OwC (w : World) (lo : Nat) (F H : Value) (vals : List Value) (c : Cr) : Prop where
  f : OwI w lo F c.fr
  h : w.ownsRow lo 33 2 H c.hs.length (hcs vals c.hs)
  len : vals.length = c.hs.length
  i : ∀ (i : Nat) (h : Ho), c.hs[i]? = some h → ∃ v, vals[i]? = some v ∧ OwI w lo v h.1
  apF : ∀ v ∈ vals, ∀ g, v.ownBlock = some g → F.ownBlock ≠ some g
  ap : ∀ (i j : Nat) (u v : Value), i < j → vals[i]? = some u → vals[j]? = some v → ∀ g, u.ownBlock = some g → v.ownBlock ≠ some g
  top : ∀ g, F.ownBlock = some g ∨ H.ownBlock = some g ∨ (∃ v ∈ vals, v.ownBlock = some g) → g < w.heap.size
/-- the blocks of credits -/
def bkC (F H : Value) (vals : List Value) (g : Nat) : Prop := F.ownBlock = some g ∨ H.ownBlock = some g ∨ ∃ v ∈ vals, v.ownBlock = some g
section
variable {w w' : World} {lo lo' : Nat} {F H : Value} {vals : List Value} {c : Cr}

theorem own_of_blk {e : TypeId} {s n : Nat} {v : Value} {xs : List Value} (h : w.ownsRow lo e s v n xs) (hb : ∀ g, v.ownBlock = some g → w'.heap[g]? = w.heap[g]?) : w'.ownsRow lo e s v n xs := by
  refine ⟨h.1, ?_⟩
  rcases h.2 with hn | ⟨g, cap, cur, e, hl, hg, hr⟩
  · exact .inl hn
  · exact .inr ⟨g, cap, cur, e, hl, (hb g (by rw [e]; rfl)).trans hg, hr⟩

theorem own_lo {e : TypeId} {s n : Nat} {v : Value} {xs : List Value} (h : w.ownsRow lo e s v n xs) (hl : lo' ≤ lo) : w.ownsRow lo' e s v n xs := by
  refine ⟨h.1, ?_⟩
  rcases h.2 with hn | ⟨g, cap, cur, e, h1, hr⟩
  · exact .inl hn
  · exact .inr ⟨g, cap, cur, e, by omega, hr⟩

theorem OwC.lt (h : OwC w lo F H vals c) {g : Nat} (hg : bkC F H vals g) : lo ≤ g ∧ g < w.heap.size := by
  rcases hg with hg | hg | ⟨v, hv, hg⟩
  · exact h.f.lt g hg
  · exact h.h.lt g hg
  · obtain ⟨k, hk, rfl⟩ := List.getElem_of_mem hv
    have hk2 : k < c.hs.length := by rw [← h.len]; exact hk
    obtain ⟨v, h1, h2⟩ := h.i k _ (List.getElem?_eq_getElem hk2)
    rw [List.getElem?_eq_getElem hk] at h1
    injection h1 with h1
    rw [h1] at hg
    exact h2.lt g hg

theorem OwC.of_blocks (h : OwC w lo F H vals c) (hz : w.heap.size ≤ w'.heap.size) (hb : ∀ g, bkC F H vals g → w'.heap[g]? = w.heap[g]?) : OwC w' lo F H vals c where
  f := own_of_block h.f fun g hg => hb g (.inl hg)
  h := own_of_blk h.h fun g hg => hb g (.inr (.inl hg))
  len := h.len
  i := fun k x hx => by
    obtain ⟨v, h1, h2⟩ := h.i k x hx
    exact ⟨v, h1, own_of_block h2 fun g hg => hb g (.inr (.inr ⟨v, List.mem_of_getElem? h1, hg⟩))⟩
  apF := h.apF
  ap := h.ap
  top := fun g hg => Nat.lt_of_lt_of_le (h.top g hg) hz

theorem OwC.step (h : OwC w lo F H vals c) (hb : Below w.heap.size w w') : OwC w' lo F H vals c := h.of_blocks hb.size fun g hg => hb.block g (h.lt hg).2

theorem OwC.drew (h : OwC w lo F H vals c) : OwC w.drew lo F H vals c := ⟨h.f, h.h, h.len, h.i, h.apF, h.ap, h.top⟩

theorem OwC.more (h : OwC w lo F H vals c) (hl : lo' ≤ lo) : OwC w lo' F H vals c where
  f := own_lo h.f hl
  h := own_lo h.h hl
  len := h.len
  i := fun k x hx => by
    obtain ⟨v, h1, h2⟩ := h.i k x hx
    exact ⟨v, h1, own_lo h2 hl⟩
  apF := h.apF
  ap := h.ap
  top := h.top

theorem OwC.kp {S : Nat → Prop} (h : OwC w lo F H vals c) (hk : Kp S w w') (hS : ∀ g, S g → g < lo ∨ w.heap.size ≤ g) : OwC w' lo F H vals c :=
  h.of_blocks hk.size fun g hg => hk.block g (h.lt hg).2 fun hs => by
    have h1 := h.lt hg
    rcases hS g hs with h2 | h2 <;> omega
/-- owned credits, read -/
theorem OwC.rd (h : OwC w lo F H vals c) (b1 : c.fr.length < 1099511627776) (b2 : c.hs.length < 1099511627776) (sh : ∀ x ∈ c.hs, x.1.length < 1099511627776) :
    ∃ A1 c1 A2 c2, F = .slice A1 c.fr.length c1 ∧ H = .slice A2 c.hs.length c2 ∧ RdC w A1 c.fr.length A2 c.hs.length c ∧ c.fr.length ≤ c1 ∧ c1 ≤ 9223372036854775807 ∧ c.hs.length ≤ c2 ∧ c2 ≤ 9223372036854775807 := by
  obtain ⟨A1, c1, e1, hr1⟩ := h.f.form
  have hcap : c.fr.length ≤ c1 ∧ c1 ≤ 9223372036854775807 := by
    rcases h.f.2 with ⟨e, h0⟩ | ⟨g, cap, cur, e, hb, hh, h1, h2, h3, h4⟩
    · rw [e1] at e; injection e with _ e2 e3; omega
    · rw [e1] at e; injection e with _ _ e3; simp only [maxLen] at h2; omega
  rcases h.h.2 with ⟨rfl, h0⟩ | ⟨g, cap, cur, rfl, hb, hh, h1, h2, h3, h4⟩
  · refine ⟨A1, c1, none, 0, e1, by rw [h0], ⟨hr1, ⟨rfl, fun hn => by omega⟩, b1, b2, sh⟩, hcap.1, hcap.2, by omega, by omega⟩
  · refine ⟨A1, c1, _, cap, e1, rfl, ⟨hr1, ⟨rfl, fun hn => ⟨g, 0, rfl, (Array.getElem?_eq_some_iff.1 hh).1, fun k x hx => ?_⟩⟩, b1, b2, sh⟩, hcap.1, hcap.2, h1, by simp only [maxLen] at h2; omega⟩
    obtain ⟨v, hv1, hv2⟩ := h.i k x hx
    have hk := (List.getElem?_eq_some_iff.1 hx).1
    obtain ⟨q1, q2⟩ := hcs_get hv1 hx
    obtain ⟨Ai, ci, e3, hr3⟩ := hv2.form
    have hcap2 : x.1.length ≤ ci ∧ ci ≤ 9223372036854775807 := by
      rcases hv2.2 with ⟨e, h0⟩ | ⟨g, cap, cur, e, hb, hh, h1, h2, h3, h4⟩
      · rw [e3] at e; injection e with _ e2 e3; omega
      · rw [e3] at e; injection e with _ _ e3; simp only [maxLen] at h2; omega
    subst e3
    refine ⟨Ai, ci, ?_, ?_, hr3, hcap2.1, hcap2.2⟩
    · rw [Nat.zero_add, h.h.cellAt (k * 2) (by omega)]; exact q1
    · rw [Nat.zero_add, h.h.cellAt (k * 2 + 1) (by omega)]; exact q2
/-- a free number stored -/
theorem OwC.setF {b n cp g : Nat} (h : OwC w lo (.slice (some ⟨b, 0, none⟩) n cp) H vals c) (hg : g < c.fr.length) (x : Int) :
    w.cell? ⟨b, g, none⟩ = some (.int .i64 (c.f g)) ∧ w.frozen? ⟨b, g, none⟩ = false ∧ OwC (w.setCell ⟨b, g, none⟩ (.int .i64 x)) lo (.slice (some ⟨b, 0, none⟩) n cp) H vals ⟨c.fr.set g x, c.hs⟩ := by
  have hl : c.fr.length = n := by
    rcases h.f.2 with ⟨e, _⟩ | ⟨g, cap, cur, e, _⟩
    · cases e
    · injection e with _ e2; exact e2.symm
  have ho : w.ownsRow lo 3 1 (.slice (some ⟨b, 0, none⟩) n cp) n (ints c.fr) := by have := h.f; rw [OwI, hl] at this; exact this
  refine ⟨?_, ho.frozenAt g, ?_⟩
  · rw [ho.cellAt g (by omega)]
    simp [ints, Cr.f, List.getElem?_eq_getElem hg]
  · have hne : ∀ q, bkC (.slice (some ⟨b, 0, none⟩) n cp) H vals q → q ≠ b → (w.setCell ⟨b, g, none⟩ (.int .i64 x)).heap[q]? = w.heap[q]? := fun q _ h2 => heap_setCell_other w ⟨b, g, none⟩ q _ h2
    refine ⟨?_, own_of_blk h.h fun q hq => hne q (.inr (.inl hq)) ?_, h.len, fun k y hy => ?_, h.apF, h.ap, fun q hq => by simpa [World.setCell] using h.top q hq⟩
    · rw [OwI, List.length_set, hl, ints, List.map_set]
      exact (ho.stored g (.int .i64 x)).1
    · intro e
      subst e
      exact own_type h.h h.f (by decide) q hq rfl
    · obtain ⟨v, h1, h2⟩ := h.i k y hy
      refine ⟨v, h1, own_of_block h2 fun q hq => hne q (.inr (.inr ⟨v, List.mem_of_getElem? h1, hq⟩)) fun e => ?_⟩
      subst e
      exact h.apF v (List.mem_of_getElem? h1) q hq rfl
/-- a sender stored whole -/
theorem OwC.setH {b n cp s : Nat} {v : Value} {zs : List Int} (h : OwC w lo F (.slice (some ⟨b, 0, none⟩) n cp) vals c) (hs : s < c.hs.length) (hv : OwI w lo v zs) (hvn : ∀ g, v.ownBlock = some g → ¬ bkC F (.slice (some ⟨b, 0, none⟩) n cp) vals g) (x : Int) :
    OwC ((w.setCell ⟨b, s * 2, none⟩ v).setCell ⟨b, s * 2 + 1, none⟩ (.int .i64 x)) lo F (.slice (some ⟨b, 0, none⟩) n cp) (vals.set s v) ⟨c.fr, c.hs.set s (zs, x)⟩ := by
  have hl : c.hs.length = n := by
    rcases h.h.2 with ⟨e, _⟩ | ⟨g, cap, cur, e, _⟩
    · cases e
    · injection e with _ e2; exact e2.symm
  have hne : ∀ q, q ≠ b → ((w.setCell ⟨b, s * 2, none⟩ v).setCell ⟨b, s * 2 + 1, none⟩ (.int .i64 x)).heap[q]? = w.heap[q]? := fun q h2 => (heap_setCell_other _ ⟨b, _, none⟩ q _ h2).trans (heap_setCell_other w ⟨b, _, none⟩ q _ h2)
  have hzz : ((w.setCell ⟨b, s * 2, none⟩ v).setCell ⟨b, s * 2 + 1, none⟩ (.int .i64 x)).heap.size = w.heap.size := by simp [World.setCell]
  have hfb : ∀ {u : Value} {us : List Int}, OwI w lo u us → ∀ q, u.ownBlock = some q → q ≠ b := fun hu q hq e => by
    subst e
    exact own_type hu h.h (by decide) q hq rfl
  have hsv : s < vals.length := by rw [h.len]; exact hs
  refine ⟨own_of_block h.f fun q hq => hne q (hfb h.f q hq), ?_, by simp [h.len], fun k y hy => ?_, fun u hu g hg => ?_, fun i j u1 u2 hij h1 h2 g hg => ?_, fun q hq => ?_⟩
  · show World.ownsRow _ lo _ 2 _ (c.hs.set s (zs, x)).length _
    rw [List.length_set]
    have hoo : w.ownsRow lo 33 2 (.slice (some ⟨b, 0, none⟩) n cp) n (hcs vals c.hs) := by have := h.h; rw [hl] at this; exact this
    have := ((hoo.stored (s * 2) v).1.stored (s * 2 + 1) (.int .i64 x)).1
    rw [hcs_set v (zs, x) h.len hs] at this
    rw [hl]; exact this
  · simp only at hy
    rw [List.getElem?_set] at hy
    by_cases e : s = k
    · subst e
      rw [if_pos rfl, if_pos hs] at hy
      injection hy with hy
      subst hy
      exact ⟨v, by rw [List.getElem?_set, if_pos rfl, if_pos hsv], own_of_block hv fun q hq => hne q (hfb hv q hq)⟩
    · rw [if_neg e] at hy
      obtain ⟨u, h1, h2⟩ := h.i k y hy
      exact ⟨u, by rw [List.getElem?_set, if_neg e]; exact h1, own_of_block h2 fun q hq => hne q (hfb h2 q hq)⟩
  · rcases List.mem_or_eq_of_mem_set hu with hu | rfl
    · exact h.apF u hu g hg
    · exact fun e => hvn g hg (.inl e)
  · rw [List.getElem?_set] at h1 h2
    by_cases e1 : s = i
    · rw [if_pos e1, if_pos hsv] at h1
      injection h1 with h1
      subst h1
      rw [if_neg (by omega)] at h2
      exact fun e => hvn g hg (.inr (.inr ⟨u2, List.mem_of_getElem? h2, e⟩))
    · rw [if_neg e1] at h1
      by_cases e2 : s = j
      · rw [if_pos e2, if_pos hsv] at h2
        injection h2 with h2
        subst h2
        exact fun e => hvn g e (.inr (.inr ⟨u1, List.mem_of_getElem? h1, hg⟩))
      · rw [if_neg e2] at h2
        exact h.ap i j u1 u2 hij h1 h2 g hg
  · rw [hzz]
    rcases hq with hq | hq | ⟨u, hu, hq⟩
    · exact h.top q (.inl hq)
    · exact h.top q (.inr (.inl hq))
    · rcases List.mem_or_eq_of_mem_set hu with hu | rfl
      · exact h.top q (.inr (.inr ⟨u, hu, hq⟩))
      · exact (hv.lt q hq).2
/-- only for what a sender waits stored -/
theorem OwC.setW {b n cp s : Nat} (h : OwC w lo F (.slice (some ⟨b, 0, none⟩) n cp) vals c) (hs : s < c.hs.length) (x : Int) :
    w.cell? ⟨b, s * 2 + 1, none⟩ = some (.int .i64 (c.h s).2) ∧ (∀ k, w.frozen? ⟨b, k, none⟩ = false) ∧ OwC (w.setCell ⟨b, s * 2 + 1, none⟩ (.int .i64 x)) lo F (.slice (some ⟨b, 0, none⟩) n cp) vals ⟨c.fr, c.hs.set s ((c.h s).1, x)⟩ := by
  have hl : c.hs.length = n := by
    rcases h.h.2 with ⟨e, _⟩ | ⟨g, cap, cur, e, _⟩
    · cases e
    · injection e with _ e2; exact e2.symm
  have hne : ∀ q, q ≠ b → (w.setCell ⟨b, s * 2 + 1, none⟩ (.int .i64 x)).heap[q]? = w.heap[q]? := fun q h2 => heap_setCell_other w ⟨b, _, none⟩ q _ h2
  have hfb : ∀ {u : Value} {us : List Int}, OwI w lo u us → ∀ q, u.ownBlock = some q → q ≠ b := fun hu q hq e => by
    subst e
    exact own_type hu h.h (by decide) q hq rfl
  have hsv : s < vals.length := by rw [h.len]; exact hs
  have hoo : w.ownsRow lo 33 2 (.slice (some ⟨b, 0, none⟩) n cp) n (hcs vals c.hs) := by have := h.h; rw [hl] at this; exact this
  refine ⟨?_, fun k => hoo.frozenAt k, own_of_block h.f fun q hq => hne q (hfb h.f q hq), ?_, by simp [h.len], fun k y hy => ?_, h.apF, h.ap, fun q hq => by simpa [World.setCell] using h.top q hq⟩
  · rw [hoo.cellAt _ (by omega)]
    exact (hcs_get (List.getElem?_eq_getElem hsv) (at_h hs)).2
  · show World.ownsRow _ lo _ 2 _ (c.hs.set s ((c.h s).1, x)).length _
    rw [List.length_set]
    have := (hoo.stored (s * 2 + 1) (.int .i64 x)).1
    rw [hcs_wait x h.len (at_h hs)] at this
    rw [hl]; exact this
  · simp only at hy
    rw [List.getElem?_set] at hy
    by_cases e : s = k
    · subst e
      rw [if_pos rfl, if_pos hs] at hy
      injection hy with hy
      subst hy
      obtain ⟨u, h1, h2⟩ := h.i s _ (at_h hs)
      exact ⟨u, h1, own_of_block h2 fun q hq => hne q (hfb h2 q hq)⟩
    · rw [if_neg e] at hy
      obtain ⟨u, h1, h2⟩ := h.i k y hy
      exact ⟨u, h1, own_of_block h2 fun q hq => hne q (hfb h2 q hq)⟩
end
end Go.Proofs.Ytfcoobebebdniaa
