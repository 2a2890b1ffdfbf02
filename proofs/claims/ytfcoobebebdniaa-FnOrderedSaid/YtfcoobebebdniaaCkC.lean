/-
  The draws of credits as they are called: DrawCreditsOrdered, DrawCreditsStuck. No condition.
-/
import Derived.Test.YtfcoobebebdniaaCkB
namespace Go.Proofs.Ytfcoobebebdniaa
open Go.RowKit
set_option linter.unusedVariables false
set_option linter.unusedSimpArgs false

/-- some short credits of the draw's own -/
def CrOne (w : World) (e : Ending) (w' : World) : Prop :=
  ∃ (F H : Value) (vals : List Value) (c : Cr), e = .returned (crV F H) ∧ OwC w' w.heap.size F H vals c ∧ Sc c ∧ Below w.heap.size w w'

theorem RowIs.allocC {k : IntKind} {w : World} {a : Option Addr} {len cap : Nat} {zs : List Int} (h : RowIs k w a len cap zs) (o : Obj) : RowIs k (w.alloc o) a len cap zs := by
  rcases h with h | ⟨x, rfl, hl, hm, hz, hc, hw⟩
  · exact .inl h
  · exact .inr ⟨x, rfl, hl, hm, hz, fun i hi => (World.cell?_alloc_lt w o _ (World.block_lt_of_cell? w _ (hc i hi))).trans (hc i hi), hw⟩

theorem One0.row {a : Option Addr} {len cap : Nat} {zs : List Int} {w : World} (h : RowIs .u8 w a len cap zs) : RowIs .u8 (w.alloc (.cells #[.slice none 0 0, .slice none 0 0] 28)) a len cap zs := RowIs.allocC h _
/-- behind the draw: the result's box is filled -/
theorem One0.draw {w W w1 w2 : World} {F H : Value} {vals : List Value} {c : Cr} (h : One0 w W) (hb1 : Below W.heap.size W w1) (ho : OwC w2 w1.heap.size F H vals c) (hg : w1.grownBy w2 (some W.heap.size)) :
    One0 w w2 ∧ w.heap.size ≤ w1.heap.size := by
  have h1 := h.step hb1
  have hl := h.lt
  have hz := hb1.size
  exact ⟨⟨h1.b.grown hg h1.b.size (fun k e => by injection e with e; omega), grown_cs h1.z hg (by intro e; injection e with e; omega), Nat.lt_of_lt_of_le h1.lt hg.size⟩, by omega⟩

set_option maxHeartbeats 2000000 in
theorem DrawCreditsOrdered_any {a : Option Addr} {len cap : Nat} {zs : List Int} (w : World) (h : RowIs .u8 w a len cap zs) :
    Calls Try.prog 35 #[.slice a len cap] w (CrOne w) := by
  have h0 := hid (One0.row h)
  have hT := hid (One0.new w)
  obtain ⟨w0, hw0⟩ : ∃ W, w.alloc (.cells #[.slice none 0 0, .slice none 0 0] 28) = W := ⟨_, rfl⟩
  rw [hw0] at h0 hT
  replace hw0 := hid hw0
  clear h
  go_enter Try.func35, Try.ntmps35
  go_upto_region 1 with (fail)
  rw [hw0.out]
  go_wp2_with fail
  refine (l6Open_any w0 h0.out).mono ?_
  rintro e w1 ⟨rfl, r1, hb1, hz1⟩
  have r1 := hid r1
  have hb1 := hid hb1
  clear h0 hz1
  go_wp2_with fail
  refine (l92Credits_any _ r1.out (by omega)).mono ?_
  rintro e w2 ⟨F, H, vals, c, rfl, ho, hs, -, hg⟩
  obtain ⟨h2, hle⟩ := hT.out.draw hb1.out ho hg
  obtain ⟨A1, c1, A2, c2, rfl, rfl, -⟩ := ho.rdS hs
  obtain ⟨t1, t2, t3⟩ := h2.ret ho hle
  replace t1 := hid t1
  replace t2 := hid t2
  obtain ⟨y0, y1, -, -⟩ := t3.two
  obtain ⟨z0, z1, z2, z3⟩ := h2.z.two
  clear t3 h2 hg ho r1 hb1 hT
  go_wp2
  exact bodyPost_ret (v := crV (.slice A1 c.fr.length c1) (.slice A2 c.hs.length c2)) (by simp [results, Try.results35, go_sem, y0, y1]) rfl ⟨_, _, _, _, rfl, t1.out, hs, t2.out⟩

set_option maxHeartbeats 2000000 in
theorem DrawCreditsStuck_any {a : Option Addr} {len cap : Nat} {zs : List Int} (w : World) (h : RowIs .u8 w a len cap zs) :
    Calls Try.prog 32 #[.slice a len cap] w (CrOne w) := by
  have h0 := hid (One0.row h)
  have hT := hid (One0.new w)
  obtain ⟨w0, hw0⟩ : ∃ W, w.alloc (.cells #[.slice none 0 0, .slice none 0 0] 28) = W := ⟨_, rfl⟩
  rw [hw0] at h0 hT
  replace hw0 := hid hw0
  clear h
  go_enter Try.func32, Try.ntmps32
  go_upto_region 1 with (fail)
  rw [hw0.out]
  go_wp2_with fail
  refine (l6Open_any w0 h0.out).mono ?_
  rintro e w1 ⟨rfl, r1, hb1, hz1⟩
  have r1 := hid r1
  have hb1 := hid hb1
  clear h0 hz1
  go_wp2_with fail
  refine (l92Credits_any _ r1.out (by omega)).mono ?_
  rintro e w2 ⟨F, H, vals, c, rfl, ho, hs, -, hg⟩
  obtain ⟨h2, hle⟩ := hT.out.draw hb1.out ho hg
  obtain ⟨A1, c1, A2, c2, rfl, rfl, -⟩ := ho.rdS hs
  obtain ⟨t1, t2, t3⟩ := h2.ret ho hle
  replace t1 := hid t1
  replace t2 := hid t2
  obtain ⟨y0, y1, -, -⟩ := t3.two
  obtain ⟨z0, z1, z2, z3⟩ := h2.z.two
  clear t3 h2 hg ho r1 hb1 hT
  go_wp2
  exact bodyPost_ret (v := crV (.slice A1 c.fr.length c1) (.slice A2 c.hs.length c2)) (by simp [results, Try.results32, go_sem, y0, y1]) rfl ⟨_, _, _, _, rfl, t1.out, hs, t2.out⟩
end Go.Proofs.Ytfcoobebebdniaa
