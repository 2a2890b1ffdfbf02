/-
  Contract of the model's l22Take: a credit given, in place. No condition but lengths below 2^40.
-/
import Derived.Test.YtfcoobebebdniaaCdG
import Derived.Deep.RegionLaw
import Derived.Deep.RegionHeld3
import Derived.RegionTactic
import Derived.BigRegion
namespace Go.Proofs.Ytfcoobebebdniaa
open Go.RowKit
set_option linter.unusedVariables false
set_option linter.unusedSimpArgs false

theorem own_some {w : World} {lo n sz : Nat} {e : TypeId} {v : Value} {xs : List Value} (h : w.ownsRow lo e sz v n xs) (hn : 0 < n) : ∃ b cap, v = .slice (some ⟨b, 0, none⟩) n cap ∧ lo ≤ b ∧ b < w.heap.size := by
  rcases h.2 with ⟨_, h1⟩ | ⟨g, cap, cur, e, hb, hg, _⟩
  · omega
  · exact ⟨g, cap, e, hb, (Array.getElem?_eq_some_iff.1 hg).1⟩

set_option maxHeartbeats 4000000 in
theorem l22Take_kp {w : World} {lo s g : Nat} {F H : Value} {vals : List Value} {c : Cr} (hO : OwC w lo F H vals c) (hs : s < c.hs.length) (hg : g < c.fr.length) (hlo : lo ≤ w.heap.size) (b1 : c.fr.length < 1000000) (b2 : c.hs.length < 1000000) (sh : ∀ h ∈ c.hs, h.1.length < 1000000) (hf : 0 ≤ c.f g ∧ c.f g ≤ 1000) :
    Calls Try.prog 63 #[crV F H, .int .i64 s, .int .i64 g] w fun e w' => ∃ vals', e = .returned (crV F H) ∧ OwC w' lo F H vals' (tak c s g) ∧ Below lo w w' ∧ Kp (fun b => F.ownBlock = some b ∨ H.ownBlock = some b) w w' := by
  obtain ⟨bF, cF, rfl, hF1, hF2⟩ := own_some hO.f (by omega)
  obtain ⟨bH, cH, rfl, hH1, hH2⟩ := own_some hO.h (by omega)
  obtain ⟨n1, hn1⟩ : ∃ n, c.fr.length = n := ⟨_, rfl⟩
  obtain ⟨n2, hn2⟩ : ∃ n, c.hs.length = n := ⟨_, rfl⟩
  have hn1' := hid hn1
  have hn2' := hid hn2
  obtain ⟨W, hW⟩ : ∃ W, (w.alloc (.cells #[.slice (some ⟨bF, 0, none⟩) n1 cF, .slice (some ⟨bH, 0, none⟩) n2 cH] 28)).alloc (.cells #[.slice none 0 0, .slice none 0 0] 28) = W := ⟨_, rfl⟩
  rw [hn1, hn2] at hO ⊢
  have hB := hid (show Below w.heap.size w W by rw [← hW]; exact below2 w _ _)
  have hOW := hid (show OwC W lo (.slice (some ⟨bF, 0, none⟩) n1 cF) (.slice (some ⟨bH, 0, none⟩) n2 cH) vals c by rw [← hW]; exact hO.step (below2 w _ _))
  have hC := hid (show Cs W w.heap.size 28 #[.slice (some ⟨bF, 0, none⟩) n1 cF, .slice (some ⟨bH, 0, none⟩) n2 cH] by rw [← hW]; exact (Cs.new w _ _).alloc _)
  have hZ := hid (show Cs W (w.heap.size + 1) 28 #[.slice none 0 0, .slice none 0 0] by rw [← hW]; exact Cs.new' _ _ _ (by simp))
  have hWz : w.heap.size + 1 < W.heap.size := by rw [← hW]; simp
  have hKW := hid (show Kp (fun b => (Value.slice (some ⟨bF, 0, none⟩) n1 cF).ownBlock = some b ∨ (Value.slice (some ⟨bH, 0, none⟩) n2 cH).ownBlock = some b) w W by rw [← hW]; exact ((Kp.refl _ w).alloc _).alloc _)
  replace hW := hid hW
  have hg1 : (g : Int) < (n1 : Int) := by omega
  have hg0 : (0 : Int) ≤ (g : Int) := by omega
  have hs1 : (s : Int) < (n2 : Int) := by omega
  have hs0 : (0 : Int) ≤ (s : Int) := by omega
  obtain ⟨d0, d1, -, -⟩ := hC.out.two
  obtain ⟨f0, f1, hOF⟩ := hOW.out.setF hg (c.f g - 1)
  replace hOF := hid hOF
  clear hn1 hn2 hO
  obtain ⟨y, hy⟩ : ∃ y, c.f g = y := ⟨_, rfl⟩
  rw [hy] at f0
  have hwr : IntKind.i64.wrap (y - 1) = y - 1 := IntWalk.i64_in _ (by omega)
  have hy' := hid hy
  clear hy
  go_enter Try.func63, Try.ntmps63
  go_upto_region 1 with (fail)
  rw [hW.out]
  obtain ⟨W1, hW1⟩ : ∃ W1, (W.setCell ⟨bF, g, none⟩ (.int .i64 (y - 1))).drew = W1 := ⟨_, rfl⟩
  have hO1 := hid (show OwC W1 lo (.slice (some ⟨bF, 0, none⟩) n1 cF) (.slice (some ⟨bH, 0, none⟩) n2 cH) vals ⟨c.fr.set g (c.f g - 1), c.hs⟩ by rw [← hW1, ← hy'.out]; exact hOF.out.drew)
  have hK1 := hid (show Kp (fun b => b = bF) W W1 by rw [← hW1]; exact (Kp.setCell (S := fun b => b = bF) (p := ⟨bF, g, none⟩) (Kp.refl _ W) (.inr rfl) _).drew)
  have hW1' := hid hW1
  have hbF : bF ≠ w.heap.size := by omega
  have hbF2 : bF ≠ w.heap.size + 1 := by omega
  have hC1 := hid (hC.out.kp hK1.out (fun e => hbF e.symm))
  have hZ1 := hid (hZ.out.kp hK1.out (fun e => hbF2 e.symm))
  have hz1 : w.heap.size + 1 < W1.heap.size := Nat.lt_of_lt_of_le hWz hK1.out.size
  have hB1 := hid (show Below lo w W1 from (hB.out.mono hlo).trans (hK1.out.base (by omega) (fun b e => by omega)))
  have hK1w := hid (hKW.out.then (hK1.out.mono (fun b e => .inl (by subst e; rfl))))
  clear hW1 hK1 hOF hOW hC hZ hB hKW
  go_region
  rw [hW1'.out]
  clear hW1' d0 d1 f0 f1
  -- the sender's set
  obtain ⟨A1', C1', A2', C2', e1, e2, hRd, -⟩ := hO1.out.rd (by rw [List.length_set]; omega) (show c.hs.length < 1099511627776 by omega) (fun h hh => by have := sh h hh; omega)
  injection e2 with e2 e3 e4
  subst e2
  obtain ⟨b9, off9, Ai, m, ci, e9, hbb, hm, h0, h1, hri, hmc, hci, hml⟩ := hRd.at_ (i := s) hs
  injection e9 with e9
  injection e9 with e9 e10
  subst e9; subst e10
  rw [Nat.zero_add] at h0 h1
  obtain ⟨zs, hzs⟩ : ∃ zs, (c.h s).1 = zs := ⟨_, rfl⟩
  have hri' : Hid (RdI W1 W1.heap.size Ai m zs) := hid (by rw [← hzs]; exact hri.out)
  have hzs' := hid hzs
  have hfz := fun k => (hO1.out.setW (s := s) hs 0).2.1 k
  obtain ⟨-, d1, -, -⟩ := hC1.out.two
  have KA := hid (fun X (hX : Below W1.heap.size W1 X) => And.intro ((hX.cell (p := ⟨w.heap.size, 1, none⟩) (by show w.heap.size < _; omega)).trans d1) (And.intro ((hX.cell (p := ⟨bH, s * 2, none⟩) hbb).trans h0) (And.intro ((hX.cell (p := ⟨bH, s * 2 + 1, none⟩) hbb).trans h1) (And.intro ((hX.frozen (p := ⟨bH, s * 2, none⟩) hbb).trans (hfz _)) ((hX.frozen (p := ⟨bH, s * 2 + 1, none⟩) hbb).trans (hfz _))))))
  obtain ⟨d1, h0, h1, z0, z1⟩ := KA.out _ (Below.refl _ _)
  have hBa := hid (below1 W1 (.cells #[.int .i64 g] 3))
  obtain ⟨d1a, h0a, h1a, z0a, z1a⟩ := KA.out _ hBa.out
  have hx := hid (show RdI (W1.alloc (.cells #[.int .i64 g] 3)).drew (W1.alloc (.cells #[.int .i64 g] 3)).drew.heap.size Ai m zs from (Reads.alloc hri'.out (Nat.le_refl _) _).more (by simp))
  have hyl := hid (show RdI (W1.alloc (.cells #[.int .i64 g] 3)).drew (W1.alloc (.cells #[.int .i64 g] 3)).drew.heap.size (some ⟨W1.heap.size, 0, none⟩) 1 [(g : Int)] from ⟨rfl, fun _ => ⟨_, rfl, by simp, fun j u hj => by
    match j, hj with
    | 0, hj => simp at hj; subst hj; exact (Cs.new W1 3 #[.int .i64 g]).cell 0⟩⟩)
  clear hri hm hzs hRd e1 e3 e4 hfz hri'
  go_wp2
  go_region_law (go_simp; go_at_call 77; (with_reducible refine (l1Union_any _ hx.out hyl.out (by omega) (by omega)).mono ?_); rintro e w5 ⟨v5, rfl, ho5, hb5⟩; have hb5' := hid (show Below W1.heap.size W1 w5 from hBa.out.trans ((show Below (W1.alloc (.cells #[.int .i64 g] 3)).heap.size (W1.alloc (.cells #[.int .i64 g] 3)) w5 from ⟨hb5.os, hb5.tape, hb5.output, hb5.size, hb5.block⟩).mono (by simp))); obtain ⟨d1b, h0b, h1b, z0b, z1b⟩ := KA.out _ hb5'.out; obtain ⟨A5, N5, C5, rfl, hN5⟩ := own_formN ho5)
  all_goals
    have hsz5 : W1.heap.size < w5.heap.size := by have := hb5.size; simp at this; omega
    have hO5 := hO1.out.step hb5'.out
    have hlo5 : ∀ q, (Value.slice A5 N5 C5).ownBlock = some q → W1.heap.size < q := fun q hq => by have := (ho5.lt q hq).1; simp at this; omega
    have hO9 := hid ((hO5.setH hs (own_lo ho5 (show lo ≤ _ by simp; omega)) (fun q hq hk => by have h1 := hlo5 q hq; have h2 := (hO1.out.lt hk).2; omega) (-1)))
    have hC9 := hid (((hC1.out.step hb5'.out).far (p := ⟨bH, s * 2, none⟩) (by show w.heap.size ≠ bH; omega) (.slice A5 N5 C5)).far (p := ⟨bH, s * 2 + 1, none⟩) (by show w.heap.size ≠ bH; omega) (.int .i64 (-1)))
    have hZ9 := hid (((hZ1.out.step hb5'.out).far (p := ⟨bH, s * 2, none⟩) (by show w.heap.size + 1 ≠ bH; omega) (.slice A5 N5 C5)).far (p := ⟨bH, s * 2 + 1, none⟩) (by show w.heap.size + 1 ≠ bH; omega) (.int .i64 (-1)))
    have hB9 := hid (((hB1.out.trans (hb5'.out.mono (by omega))).setCell (p := ⟨bH, s * 2, none⟩) hH1 (.slice A5 N5 C5)).setCell (p := ⟨bH, s * 2 + 1, none⟩) hH1 (.int .i64 (-1)))
    have hK9 := hid (((hK1w.out.below_ hb5'.out).setCell (p := ⟨bH, s * 2, none⟩) (.inr (.inr rfl)) (.slice A5 N5 C5)).setCell (p := ⟨bH, s * 2 + 1, none⟩) (.inr (.inr rfl)) (.int .i64 (-1)))
    have hz9 : W1.heap.size < ((w5.setCell ⟨bH, s * 2, none⟩ (.slice A5 N5 C5)).setCell ⟨bH, s * 2 + 1, none⟩ (.int .i64 (-1))).heap.size := by simpa [World.setCell] using hsz5
    have htk : Hid ((⟨(⟨c.fr.set g (c.f g - 1), c.hs⟩ : Cr).fr, (⟨c.fr.set g (c.f g - 1), c.hs⟩ : Cr).hs.set s (unionL zs [(g : Int)], -1)⟩ : Cr) = tak c s g) := hid (by unfold tak; rw [← hzs'.out])
    rw [htk.out] at hO9
    clear hO5 hsz5 hlo5
    obtain ⟨W9, hW9⟩ : ∃ W9, ((w5.setCell ⟨bH, s * 2, none⟩ (.slice A5 N5 C5)).setCell ⟨bH, s * 2 + 1, none⟩ (.int .i64 (-1))) = W9 := ⟨_, rfl⟩
    rw [hW9] at hO9 hC9 hZ9 hB9 hK9 hz9 ⊢
    clear hW9 hx hyl hBa hb5' hb5 ho5 KA hC1 hZ1 hO1 hB1 hK1w htk
    obtain ⟨e0, e1, -, -⟩ := hC9.out.two
    obtain ⟨q0, q1, q2, q3⟩ := hZ9.out.two
    have hOF := hid ((hO9.out.one (p := ⟨w.heap.size + 1, 0, none⟩) (hO9.out.off hZ9.out (by decide) (by decide)) (.slice (some ⟨bF, 0, none⟩) n1 cF)).one (p := ⟨w.heap.size + 1, 1, none⟩) (hO9.out.off hZ9.out (by decide) (by decide)) (.slice (some ⟨bH, 0, none⟩) n2 cH))
    have hBF := hid ((hB9.out.setCell (p := ⟨w.heap.size + 1, 0, none⟩) (by show lo ≤ w.heap.size + 1; omega) (.slice (some ⟨bF, 0, none⟩) n1 cF)).setCell (p := ⟨w.heap.size + 1, 1, none⟩) (by show lo ≤ w.heap.size + 1; omega) (.slice (some ⟨bH, 0, none⟩) n2 cH))
    obtain ⟨r0, r1, -, -⟩ := ((hZ9.out.set 0 (.slice (some ⟨bF, 0, none⟩) n1 cF)).set 1 (.slice (some ⟨bH, 0, none⟩) n2 cH)).two
    have hKF := hid ((hK9.out.setCell (p := ⟨w.heap.size + 1, 0, none⟩) (.inl (Nat.le_succ _)) (.slice (some ⟨bF, 0, none⟩) n1 cF)).setCell (p := ⟨w.heap.size + 1, 1, none⟩) (.inl (Nat.le_succ _)) (.slice (some ⟨bH, 0, none⟩) n2 cH))
    clear hO9 hC9 hZ9 hB9 hK9
    go_wp2
    refine bodyPost_ret (v := crV (.slice (some ⟨bF, 0, none⟩) n1 cF) (.slice (some ⟨bH, 0, none⟩) n2 cH)) (by simp [results, Try.results63, go_sem, r0, r1]) rfl ⟨_, rfl, hOF.out, hBF.out, hKF.out⟩

theorem l22Take_any {w : World} {lo s g : Nat} {F H : Value} {vals : List Value} {c : Cr} (hO : OwC w lo F H vals c) (hs : s < c.hs.length) (hg : g < c.fr.length) (hlo : lo ≤ w.heap.size) (b1 : c.fr.length < 1000000) (b2 : c.hs.length < 1000000) (sh : ∀ h ∈ c.hs, h.1.length < 1000000) (hf : 0 ≤ c.f g ∧ c.f g ≤ 1000) :
    Calls Try.prog 63 #[crV F H, .int .i64 s, .int .i64 g] w fun e w' => ∃ vals', e = .returned (crV F H) ∧ OwC w' lo F H vals' (tak c s g) ∧ Below lo w w' :=
  (l22Take_kp hO hs hg hlo b1 b2 sh hf).mono fun _ _ ⟨v, h1, h2, h3, _⟩ => ⟨v, h1, h2, h3⟩
end Go.Proofs.Ytfcoobebebdniaa
