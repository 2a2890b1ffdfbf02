/-
  What the draw of credits leaves: short credits in memory of its own. No condition but a reader with room.
-/
import Derived.Test.YtfcoobebebdniaaCdJ
import Derived.Test.YtfcoobebebdniaaCdK
import Derived.Test.YtfcoobebebdniaaCdS
import Derived.Test.YtfcoobebebdniaaDrawA
import Derived.Deep.RegionHeld3
import Derived.Deep.CutBlock
import Derived.Deep.RegionLaw
import Derived.Deep.DeepCutAuto
namespace Go.Proofs.Ytfcoobebebdniaa
open Go.RowKit
set_option linter.unusedVariables false
set_option linter.unusedSimpArgs false

theorem grown_farC {w wr : World} {row : Option Nat} (h : w.grownBy wr row) {p : Addr} (hp : w.heap.size ≤ p.block) (u : Value) : w.grownBy (wr.setCell p u) row :=
  ⟨h.os, h.tape, h.output, by simpa [World.setCell] using h.size, fun i hi hne => (heap_setCell_other wr p i u (by omega)).trans (h.block i hi hne)⟩

theorem grown_allocC {w wr : World} {row : Option Nat} (h : w.grownBy wr row) (o : Obj) : w.grownBy (wr.alloc o) row :=
  grown_set h (World.grownBy_alloc wr o row)

theorem Rdr.farC {w : World} {B g P : Nat} (h : Rdr w B g P) {p : Addr} (hp : g < p.block) (u : Value) : Rdr (w.setCell p u) B g P := h.keep fun k hk => heap_setCell_other w p k u (by omega)

theorem Rdr.allocC {w : World} {B g P : Nat} (h : Rdr w B g P) (o : Obj) : Rdr (w.alloc o) B g P := h.keep fun k hk => Below.heap_alloc w o k (by have := h.lt; omega)

/-- the credits that are being drawn: their box, their lists, the result's box -/
structure Ds (w wr : World) (g xb : Nat) (F H : Value) (vals : List Value) (c : Cr) : Prop where
  cs : Cs wr xb 28 #[F, H]
  ow : OwC wr (w.heap.size + 1) F H vals c
  rs : Cs wr w.heap.size 28 #[.slice none 0 0, .slice none 0 0]
  lo : w.heap.size < xb
  gr : w.grownBy wr (some g)
section
variable {w wr w' : World} {g xb : Nat} {F H F' H' : Value} {vals vals' : List Value} {c c' : Cr}

theorem Ds.below (h : Ds w wr g xb F H vals c) (hb : Below wr.heap.size wr w') : Ds w w' g xb F H vals c :=
  ⟨h.cs.step hb, h.ow.step hb, h.rs.step hb, h.lo, grown_below h.gr (hb.mono h.gr.size)⟩

theorem kp_pick (hg : w.grownBy w' (some g)) : Kp (fun b => b = g) w w' := (Kp.refl (fun b => b = g) _).grown hg (fun k e => .inr (by injection e with e; exact e.symm))

theorem Ds.pick (h : Ds w wr g xb F H vals c) (hg : wr.grownBy w' (some g)) (hl : g < w.heap.size) : Ds w w' g xb F H vals c := by
  have hk := kp_pick hg
  have := h.lo
  exact ⟨h.cs.kp hk (by omega), h.ow.kp hk (fun b hb => .inl (by omega)), h.rs.kp hk (by omega), h.lo, grown_set h.gr hg⟩

theorem Ds.put (h : Ds w wr g xb F H vals c) (ho : OwC wr (w.heap.size + 1) F' H' vals' c') :
    Ds w ((wr.setCell ⟨xb, 0, none⟩ F').setCell ⟨xb, 1, none⟩ H') g xb F' H' vals' c' := by
  have hl := h.lo
  have o1 := ho.one (p := ⟨xb, 0, none⟩) (ho.off h.cs (by decide) (by decide)) F'
  have o2 := o1.one (p := ⟨xb, 1, none⟩) (ho.off h.cs (by decide) (by decide)) H'
  exact ⟨(h.cs.set 0 F').set 1 H', o2, (h.rs.far (p := ⟨xb, 0, none⟩) (by simp; omega) F').far (p := ⟨xb, 1, none⟩) (by simp; omega) H', hl,
    grown_farC (grown_farC h.gr (Nat.le_of_lt hl) _) (Nat.le_of_lt hl) _⟩

theorem ask_vc {s g : Int} (v : Vc c) (h0 : 0 ≤ s) (h1 : s < c.hs.length) (g0 : 0 ≤ g) (g1 : g < 5) : Vc (askR c s g).1 ∧ (askR c s g).1.hs.length = c.hs.length := by
  obtain ⟨o, ok, e⟩ : ∃ o ok, askR c s g = (o, ok) := ⟨_, _, rfl⟩
  rw [e]
  cases ok with
  | true =>
    obtain ⟨S, G, q⟩ := ask_ok e
    refine ⟨q.valid, ?_⟩
    rcases q.o with ⟨-, rfl⟩ | ⟨-, rfl⟩
    · exact tak_n.1
    · simp [wai]
  | false =>
    rcases ask_no e with rfl | ⟨S, G, -, -, -, -, -, rfl, -⟩
    · exfalso
      unfold askR at e
      have a1 : sdB c s = true := sdB_true.2 ⟨v, h0, by omega⟩
      have a2 : grB g = true := grB_true.2 ⟨g0, by omega⟩
      rw [a1, a2] at e
      simp only [Bool.and_self, if_true] at e
      split at e
      · injection e with e
        have := v.n1
        rw [e] at this
        simp [cr0] at this
      · split at e <;> simp at e
    · exact ⟨v, rfl⟩

theorem give_vc {s : Int} (v : Vc c) (h0 : 0 ≤ s) (h1 : s < c.hs.length) : Vc (giveR c s).1 ∧ (giveR c s).1.hs.length = c.hs.length := by
  obtain ⟨o, ok, e⟩ : ∃ o ok, giveR c s = (o, ok) := ⟨_, _, rfl⟩
  rw [e]
  cases ok with
  | true =>
    obtain ⟨S, q⟩ := give_ok e
    exact ⟨q.valid, q.n⟩
  | false =>
    rcases give_no e with rfl | ⟨S, -, -, -, rfl⟩
    · exfalso
      unfold giveR at e
      rw [if_pos (sdB_true.2 ⟨v, h0, by omega⟩)] at e
      split at e
      · injection e with e
        have := v.n1
        rw [e] at this
        simp [cr0] at this
      · split at e <;> simp at e
        all_goals
          have := v.n1
          rw [e] at this
          simp [cr0] at this
    · exact ⟨v, rfl⟩

theorem Ds.swap {bx : Nat} {cs : Array Value} (h : Ds w wr g xb F H vals c) (hb : Cs wr bx 28 cs) (hlt : xb < bx) (ho : OwC wr (w.heap.size + 1) F' H' vals' c') :
    Ds w ((((wr.setCell ⟨bx, 0, none⟩ F').setCell ⟨bx, 1, none⟩ H').setCell ⟨xb, 0, none⟩ F').setCell ⟨xb, 1, none⟩ H') g xb F' H' vals' c' := by
  have hl := h.lo
  have hk : Kp (fun b => b = bx) wr ((wr.setCell ⟨bx, 0, none⟩ F').setCell ⟨bx, 1, none⟩ H') := ((Kp.refl (fun b => b = bx) wr).setCell (p := ⟨bx, 0, none⟩) (.inr rfl) F').setCell (p := ⟨bx, 1, none⟩) (.inr rfl) H'
  have h1 : Ds w ((wr.setCell ⟨bx, 0, none⟩ F').setCell ⟨bx, 1, none⟩ H') g xb F H vals c :=
    ⟨h.cs.kp hk (by omega), (h.ow.one (p := ⟨bx, 0, none⟩) (h.ow.off hb (by decide) (by decide)) F').one (p := ⟨bx, 1, none⟩) (h.ow.off hb (by decide) (by decide)) H', h.rs.kp hk (by omega), h.lo,
      grown_farC (grown_farC h.gr (p := ⟨bx, 0, none⟩) (by simp; omega) _) (p := ⟨bx, 1, none⟩) (by simp; omega) _⟩
  exact h1.put ((ho.one (p := ⟨bx, 0, none⟩) (ho.off hb (by decide) (by decide)) F').one (p := ⟨bx, 1, none⟩) (ho.off hb (by decide) (by decide)) H')
/-- what lies about a draw -/
structure D0 (w wr : World) (B g Q : Nat) : Prop where
  r : Rdr wr B g Q
  rs : Cs wr w.heap.size 28 #[.slice none 0 0, .slice none 0 0]
  gr : w.grownBy wr (some g)

theorem D0.pick {B Q Q' : Nat} (h : D0 w wr B g Q) (r' : Rdr w' B g Q') (q : wr.grownBy w' (some g)) (hl : g < w.heap.size) : D0 w w' B g Q' :=
  ⟨r', h.rs.kp (kp_pick q) (by omega), grown_set h.gr q⟩

theorem D0.step {B Q : Nat} (h : D0 w wr B g Q) (hb : Below wr.heap.size wr w') : D0 w w' B g Q :=
  ⟨h.r.below hb h.r.lt, h.rs.step hb, grown_below h.gr (hb.mono h.gr.size)⟩

theorem D0.own {B Q : Nat} {row : Option Nat} (h : D0 w wr B g Q) (hg : wr.grownBy w' row) (hl : g < w.heap.size) (hlo : ∀ k, row = some k → w.heap.size < k) : D0 w w' B g Q :=
  ⟨h.r.keep fun k hk => hg.block k (by have := h.r.lt; omega) (fun e => by have := hlo k e.symm; omega), grown_cs h.rs hg (fun e => by have := hlo _ e; omega),
    ⟨hg.os.trans h.gr.os, hg.tape.trans h.gr.tape, hg.output.trans h.gr.output, Nat.le_trans h.gr.size hg.size, fun i hi hne => (hg.block i (by have := h.gr.size; omega) (fun e => by have := hlo i e.symm; omega)).trans (h.gr.block i hi hne)⟩⟩

theorem D0.le {B Q Q' : Nat} (h : D0 w wr B g Q) (hq : Q ≤ Q') : D0 w wr B g Q' := ⟨h.r.le hq, h.rs, h.gr⟩
end
/-- short credits -/
structure Sc (c : Cr) : Prop where
  f : c.fr.length ≤ 5
  h : c.hs.length ≤ 6
  s : ∀ x ∈ c.hs, x.1.length ≤ 6

theorem Sc.of {c : Cr} (v : Vc c) : Sc c := ⟨by rw [v.fl]; omega, v.n6, fun x hx => by
  obtain ⟨i, hi, rfl⟩ := List.getElem_of_mem hx
  have e : c.h i = c.hs[i] := h_at (List.getElem?_eq_getElem hi)
  have := set_len (v.set i hi)
  rw [e] at this; omega⟩

theorem OwC.rdS {w : World} {lo : Nat} {F H : Value} {vals : List Value} {c : Cr} (h : OwC w lo F H vals c) (s : Sc c) :
    ∃ A1 c1 A2 c2, F = .slice A1 c.fr.length c1 ∧ H = .slice A2 c.hs.length c2 ∧ RdC w A1 c.fr.length A2 c.hs.length c := by
  obtain ⟨A1, c1, A2, c2, e1, e2, r, -⟩ := h.rd (by have := s.f; omega) (by have := s.h; omega) (fun x hx => by have := s.s x hx; omega)
  exact ⟨A1, c1, A2, c2, e1, e2, r⟩

theorem OwC.rdE {w : World} {lo n1 c1 n2 c2 : Nat} {A1 A2 : Option Addr} {vals : List Value} {c : Cr} (h : OwC w lo (.slice A1 n1 c1) (.slice A2 n2 c2) vals c) (s : Sc c) : RdC w A1 n1 A2 n2 c := by
  obtain ⟨B1, d1, B2, d2, e1, e2, r⟩ := h.rdS s
  injection e1 with a1 a2 a3
  injection e2 with b1 b2 b3
  rw [a1, a2, b1, b2]; exact r
section
variable {w w' : World} {lo lo' : Nat} {F H : Value} {vals : List Value} {c : Cr}

theorem hcs_has : ∀ {vs : List Value} {hs : List Ho} {i : Nat} {h0 : Ho} (v : Value) (zs : List Int), vs.length = hs.length → hs[i]? = some h0 → (hcs vs hs).set (i * 2) v = hcs (vs.set i v) (hs.set i (zs, h0.2))
  | [], hs, i, _, v, zs, e, hi => by
    have : hs.length = 0 := by simpa using e.symm
    have := (List.getElem?_eq_some_iff.1 hi).1
    omega
  | v0 :: vs, h0 :: hs, 0, _, v, zs, _, e => by simp at e; subst e; rfl
  | v0 :: vs, h0 :: hs, i + 1, _, v, zs, e, hi => by
    have := hcs_has (vs := vs) (hs := hs) (i := i) v zs (by simpa using e) (by simpa using hi)
    rw [show (i + 1) * 2 = i * 2 + 1 + 1 by omega]
    simp only [hcs, List.set_cons_succ, this]
/-- the set of a sender stored -/
theorem OwC.setHas {b n cp s : Nat} {v : Value} {zs : List Int} (h : OwC w lo F (.slice (some ⟨b, 0, none⟩) n cp) vals c) (hs : s < c.hs.length) (hv : OwI w lo v zs) (hvn : ∀ g, v.ownBlock = some g → ¬ bkC F (.slice (some ⟨b, 0, none⟩) n cp) vals g) :
    OwC (w.setCell ⟨b, s * 2, none⟩ v) lo F (.slice (some ⟨b, 0, none⟩) n cp) (vals.set s v) ⟨c.fr, c.hs.set s (zs, (c.h s).2)⟩ := by
  have hl : c.hs.length = n := by
    rcases h.h.2 with ⟨e, _⟩ | ⟨g, cap, cur, e, _⟩
    · cases e
    · injection e with _ e2; exact e2.symm
  have hne : ∀ q, q ≠ b → (w.setCell ⟨b, s * 2, none⟩ v).heap[q]? = w.heap[q]? := fun q h2 => heap_setCell_other w ⟨b, _, none⟩ q _ h2
  have hzz : (w.setCell ⟨b, s * 2, none⟩ v).heap.size = w.heap.size := by simp [World.setCell]
  have hfb : ∀ {u : Value} {us : List Int}, OwI w lo u us → ∀ q, u.ownBlock = some q → q ≠ b := fun hu q hq e => by
    subst e
    exact own_type hu h.h (by decide) q hq rfl
  have hsv : s < vals.length := by rw [h.len]; exact hs
  refine ⟨own_of_block h.f fun q hq => hne q (hfb h.f q hq), ?_, by simp [h.len], fun k y hy => ?_, fun u hu g hg => ?_, fun i j u1 u2 hij h1 h2 g hg => ?_, fun q hq => ?_⟩
  · show World.ownsRow _ lo _ 2 _ (c.hs.set s (zs, (c.h s).2)).length _
    rw [List.length_set]
    have hoo : w.ownsRow lo 33 2 (.slice (some ⟨b, 0, none⟩) n cp) n (hcs vals c.hs) := by have := h.h; rw [hl] at this; exact this
    have := (hoo.stored (s * 2) v).1
    rw [hcs_has v zs h.len (at_h hs)] at this
    rw [hl]; exact this
  · simp only at hy
    rw [List.getElem?_set] at hy
    by_cases e : s = k
    · subst e
      rw [if_pos rfl, if_pos hs] at hy
      injection hy with hy
      subst hy
      exact ⟨v, by rw [List.getElem?_set, if_pos rfl, if_pos hsv], own_of_block hv fun q hq => hne q (hfb hv q hq)⟩
    · rw [if_neg e] at hy
      obtain ⟨u, h1, h2⟩ := h.i k y hy
      exact ⟨u, by rw [List.getElem?_set, if_neg e]; exact h1, own_of_block h2 fun q hq => hne q (hfb h2 q hq)⟩
  · rcases List.mem_or_eq_of_mem_set hu with hu | rfl
    · exact h.apF u hu g hg
    · exact fun e => hvn g hg (.inl e)
  · rw [List.getElem?_set] at h1 h2
    by_cases e1 : s = i
    · rw [if_pos e1, if_pos hsv] at h1
      injection h1 with h1
      subst h1
      rw [if_neg (by omega)] at h2
      exact fun e => hvn g hg (.inr (.inr ⟨u2, List.mem_of_getElem? h2, e⟩))
    · rw [if_neg e1] at h1
      by_cases e2 : s = j
      · rw [if_pos e2, if_pos hsv] at h2
        injection h2 with h2
        subst h2
        exact fun e => hvn g e (.inr (.inr ⟨u1, List.mem_of_getElem? h1, hg⟩))
      · rw [if_neg e2] at h2
        exact h.ap i j u1 u2 hij h1 h2 g hg
  · rw [hzz]
    rcases hq with hq | hq | ⟨u, hu, hq⟩
    · exact h.top q (.inl hq)
    · exact h.top q (.inr (.inl hq))
    · rcases List.mem_or_eq_of_mem_set hu with hu | rfl
      · exact h.top q (.inr (.inr ⟨u, hu, hq⟩))
      · exact (hv.lt q hq).2

theorem OwC.cut0 {b n cp : Nat} (h : OwC w lo F (.slice (some ⟨b, 0, none⟩) n cp) vals c) : OwC w lo F (.slice (some ⟨b, 0, none⟩) 0 cp) [] ⟨c.fr, []⟩ where
  f := h.f
  h := by
    refine ⟨rfl, ?_⟩
    rcases h.h.2 with ⟨e, _⟩ | ⟨g, cap, cur, e, h1, h2, h3, h4, h5, h6⟩
    · cases e
    · injection e with e1 e2 e3
      injection e1 with e1
      injection e1 with e1
      exact .inr ⟨g, cap, cur, by rw [e1, e3]; rfl, h1, h2, Nat.zero_le _, h4, h5, by simp [hcs]⟩
  len := rfl
  i := fun i x hx => by simp at hx
  apF := fun v hv => by cases hv
  ap := fun i j u v _ hu => by simp at hu
  top := fun g hg => by
    rcases hg with hg | hg | ⟨v, hv, _⟩
    · exact h.top g (.inl hg)
    · exact h.top g (.inr (.inl hg))
    · cases hv

theorem OwC.formS (h : OwC w lo F H vals c) (v : Vc c) : ∃ b1 c1 b2 c2, F = .slice (some ⟨b1, 0, none⟩) c.fr.length c1 ∧ H = .slice (some ⟨b2, 0, none⟩) c.hs.length c2 := by
  have l1 := v.fl
  have l2 := v.n1
  rcases h.f.2 with ⟨e, h0⟩ | ⟨g1, cap1, cur1, e1, -⟩
  · omega
  · rcases h.h.2 with ⟨e, h0⟩ | ⟨g2, cap2, cur2, e2, -⟩
    · omega
    · exact ⟨g1, cap1, g2, cap2, e1, e2⟩
variable {wr : World} {g xb b n cp : Nat}

theorem Ds.of_set (h : Ds w wr g xb F H vals c) {p : Addr} (u : Value) (hp : bkC F H vals p.block) {F' H' : Value} {vals' : List Value} {c' : Cr} (e1 : F' = F) (e2 : H' = H) (ho : OwC (wr.setCell p u) (w.heap.size + 1) F' H' vals' c') : Ds w (wr.setCell p u) g xb F' H' vals' c' := by
  subst e1; subst e2
  have hk : Kp (fun k => k = p.block) wr (wr.setCell p u) := (Kp.refl (fun k => k = p.block) wr).setCell (.inr rfl) u
  have hl := h.ow.lt hp
  have hlo := h.lo
  exact ⟨h.cs.kp hk (fun e => h.ow.off h.cs (by decide) (by decide) (by rw [e]; exact hp)), ho, h.rs.kp hk (by omega), h.lo, grown_farC h.gr (by omega) _⟩

theorem Ds.setF {j : Nat} (h : Ds w wr g xb (.slice (some ⟨b, 0, none⟩) n cp) H vals c) (hj : j < c.fr.length) (x : Int) : Ds w (wr.setCell ⟨b, j, none⟩ (.int .i64 x)) g xb (.slice (some ⟨b, 0, none⟩) n cp) H vals ⟨c.fr.set j x, c.hs⟩ :=
  h.of_set (p := ⟨b, j, none⟩) _ (.inl rfl) rfl rfl (h.ow.setF hj x).2.2

theorem Ds.setW {s : Nat} (h : Ds w wr g xb F (.slice (some ⟨b, 0, none⟩) n cp) vals c) (hs : s < c.hs.length) (x : Int) : Ds w (wr.setCell ⟨b, s * 2 + 1, none⟩ (.int .i64 x)) g xb F (.slice (some ⟨b, 0, none⟩) n cp) vals ⟨c.fr, c.hs.set s ((c.h s).1, x)⟩ :=
  h.of_set (p := ⟨b, s * 2 + 1, none⟩) _ (.inr (.inl rfl)) rfl rfl (h.ow.setW hs x).2.2

theorem Ds.setHas {s : Nat} {v : Value} {zs : List Int} (h : Ds w wr g xb F (.slice (some ⟨b, 0, none⟩) n cp) vals c) (hs : s < c.hs.length) (hv : OwI wr (w.heap.size + 1) v zs) (hvn : ∀ g, v.ownBlock = some g → ¬ bkC F (.slice (some ⟨b, 0, none⟩) n cp) vals g) :
    Ds w (wr.setCell ⟨b, s * 2, none⟩ v) g xb F (.slice (some ⟨b, 0, none⟩) n cp) (vals.set s v) ⟨c.fr, c.hs.set s (zs, (c.h s).2)⟩ :=
  h.of_set (p := ⟨b, s * 2, none⟩) _ (.inr (.inl rfl)) rfl rfl (h.ow.setHas hs hv hvn)

theorem Ds.putH {H' : Value} {vals' : List Value} {c' : Cr} (h : Ds w wr g xb F H vals c) (ho : OwC wr (w.heap.size + 1) F H' vals' c') : Ds w (wr.setCell ⟨xb, 1, none⟩ H') g xb F H' vals' c' := by
  have hl := h.lo
  exact ⟨h.cs.set 1 H', ho.one (p := ⟨xb, 1, none⟩) (ho.off h.cs (by decide) (by decide)) H', h.rs.far (p := ⟨xb, 1, none⟩) (by simp; omega) H', hl, grown_farC h.gr (Nat.le_of_lt hl) _⟩

theorem OwC.hasAt {s : Nat} (h : OwC w lo F (.slice (some ⟨b, 0, none⟩) n cp) vals c) (hs : s < c.hs.length) : (∃ u, w.cell? ⟨b, s * 2, none⟩ = some u) ∧ w.frozen? ⟨b, s * 2, none⟩ = false := by
  have hl : c.hs.length = n := by
    rcases h.h.2 with ⟨e, _⟩ | ⟨g, cap, cur, e, _⟩
    · cases e
    · injection e with _ e2; exact e2.symm
  have hoo : w.ownsRow lo 33 2 (.slice (some ⟨b, 0, none⟩) n cp) n (hcs vals c.hs) := by have := h.h; rw [hl] at this; exact this
  have hsv : s < vals.length := by rw [h.len]; exact hs
  exact ⟨⟨_, by rw [hoo.cellAt _ (by omega)]; exact (hcs_get (List.getElem?_eq_getElem hsv) (at_h hs)).1⟩, hoo.frozenAt _⟩
/-- behind the return by the result's box -/
theorem Ds.ret {B Q : Nat} (h : Ds w wr g xb F H vals c) (hr : Rdr wr B g Q) (hg : g < w.heap.size) :
    OwC ((wr.setCell ⟨w.heap.size, 0, none⟩ F).setCell ⟨w.heap.size, 1, none⟩ H) w.heap.size F H vals c ∧ Rdr ((wr.setCell ⟨w.heap.size, 0, none⟩ F).setCell ⟨w.heap.size, 1, none⟩ H) B g Q ∧ w.grownBy ((wr.setCell ⟨w.heap.size, 0, none⟩ F).setCell ⟨w.heap.size, 1, none⟩ H) (some g) ∧ Cs ((wr.setCell ⟨w.heap.size, 0, none⟩ F).setCell ⟨w.heap.size, 1, none⟩ H) w.heap.size 28 #[F, H] :=
  ⟨((h.ow.one (p := ⟨w.heap.size, 0, none⟩) (h.ow.off h.rs (by decide) (by decide)) F).one (p := ⟨w.heap.size, 1, none⟩) (h.ow.off h.rs (by decide) (by decide)) H).more (by omega),
    (hr.farC (p := ⟨w.heap.size, 0, none⟩) (by simpa using hg) F).farC (p := ⟨w.heap.size, 1, none⟩) (by simpa using hg) H,
    grown_farC (grown_farC h.gr (p := ⟨w.heap.size, 0, none⟩) (Nat.le_refl _) _) (p := ⟨w.heap.size, 1, none⟩) (Nat.le_refl _) _, (h.rs.set 0 F).set 1 H⟩

theorem Sc.at_ {i : Nat} (h : Sc c) : (c.h i).1.length ≤ 6 := by
  by_cases hi : i < c.hs.length
  · exact h.s _ (List.mem_of_getElem? (at_h hi))
  · unfold Cr.h
    rw [List.getD_eq_getElem?_getD, List.getElem?_eq_none (by omega)]
    exact Nat.zero_le _

theorem Sc.setF {j : Nat} {x : Int} (h : Sc c) : Sc ⟨c.fr.set j x, c.hs⟩ := ⟨by simpa using h.f, h.h, h.s⟩

theorem Sc.setH {s : Nat} {y : Ho} (h : Sc c) (hy : y.1.length ≤ 6) : Sc ⟨c.fr, c.hs.set s y⟩ := ⟨h.f, by simpa using h.h, fun x hx => by
  rcases List.mem_or_eq_of_mem_set hx with hx | rfl
  · exact h.s x hx
  · exact hy⟩

theorem Sc.cut (h : Sc c) : Sc ⟨c.fr, []⟩ := ⟨h.f, Nat.zero_le _, fun x hx => by cases hx⟩
end

theorem new_of {zs : List Int} {x : Int} (hz : zs.length = 5 ∧ ∀ z ∈ zs, 0 ≤ z ∧ z < 3) (h0 : 0 ≤ x) (h1 : x < 6) : (crNew zs (1 + x)).2 = true ∧ Vc (crNew zs (1 + x)).1 := by
  have hf : frB zs = true := by
    unfold frB inB
    rw [Bool.and_eq_true, List.all_eq_true]
    exact ⟨fun z h => by have := hz.2 z h; simp; omega, by simp [hz.1]⟩
  have hi : inB (1 + x) 1 6 = true := by unfold inB; simp; omega
  unfold crNew
  rw [hf, hi]
  refine ⟨rfl, new_valid hf (by omega) (by omega)⟩
end Go.Proofs.Ytfcoobebebdniaa
