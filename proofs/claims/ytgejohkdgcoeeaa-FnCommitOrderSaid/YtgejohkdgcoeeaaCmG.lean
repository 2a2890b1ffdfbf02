/-
  Contracts of the program: copyLengthsWith, CommitLeader, CommitRepair, CommitNeeded. No condition but lengths below 2^40.
-/
import Derived.Test.YtgejohkdgcoeeaaCmF
import Derived.Deep.DeepCutAuto
namespace Go.Proofs.Ytgejohkdgcoeeaa
open Go.RowKit

theorem clOf_lit {zs : List Int} (h : lvB zs = true) : ∃ b0 b1 b2 b3 b4 b5 b6, clOf zs = [(zs.length : Int), b0, b1, b2, b3, b4, b5, b6] ∧ zs ++ List.replicate (7 - zs.length) 0 = [b0, b1, b2, b3, b4, b5, b6] := by
  have h7 := (lvB_true h).2.1
  obtain ⟨b0, b1, b2, b3, b4, b5, b6, e⟩ := seven (xs := zs ++ List.replicate (7 - zs.length) 0) (by simp; omega)
  exact ⟨b0, b1, b2, b3, b4, b5, b6, by rw [clOf_yes h, e], e⟩

theorem clv8 (m a0 a1 a2 a3 a4 a5 a6 : Int) : clv [m, a0, a1, a2, a3, a4, a5, a6] = .agg #[.int .i64 m, .int .i64 a0, .int .i64 a1, .int .i64 a2, .int .i64 a3, .int .i64 a4, .int .i64 a5, .int .i64 a6] := rfl

def clWith (zs live : List Int) : List Int := if ldB zs live then clOf zs else zeros8

theorem clWith_no {zs live : List Int} (h : ldB zs live = false) : clWith zs live = zeros8 := by simp [clWith, h]

theorem clWith_yes {zs live : List Int} (h : ldB zs live = true) : clWith zs live = clOf zs := by simp [clWith, h]

def WithPost (zs live : List Int) (w : World) (e : Ending) (w' : World) : Prop :=
  e = .returned (.tuple #[clv (clWith zs live), .bool (ldB zs live)]) ∧ Below w.heap.size w w'

theorem AtC.zero (w : World) : AtC (w.alloc (.cells (ints zeros8).toArray 43)) w.heap.size zeros8 := AtC.new w _

set_option maxHeartbeats 2000000 in
theorem copyLengthsWith_any {n m c d : Nat} {A A' : Option Addr} {zs live : List Int} (w : World) (hr : RdI w w.heap.size A n zs) (hy : RdI w w.heap.size A' m live) (hn : n < 1099511627776) (hm : m < 1099511627776) :
    Calls Try.prog 32 #[.slice A n c, .slice A' m d] w (WithPost zs live w) := by
  have hlx := hid hr.len
  have hr1 : Hid (RdI (w.alloc (.cells (ints zeros8).toArray 43)) w.heap.size A n zs) := hid (Reads.alloc hr (Nat.le_refl _) _)
  have hy1 : Hid (RdI (w.alloc (.cells (ints zeros8).toArray 43)) w.heap.size A' m live) := hid (Reads.alloc hy (Nat.le_refl _) _)
  have hZ1 := hid (AtC.zero w)
  have hB1 : Hid (Below w.heap.size w (w.alloc (.cells (ints zeros8).toArray 43))) := hid (below_one _ _)
  clear hr hy
  cases hv : lvB zs with
  | false =>
    have hv' := hid hv
    have hb := hid (ldB_no1 (live := live) hv)
    have hf := hid (clWith_no hb.out)
    have hg : Hid (clOf zs = [0, 0, 0, 0, 0, 0, 0, 0]) := hid (clOf_no hv)
    clear hv
    go_enter Try.func32, Try.ntmps32
    go_wp2_with fail
    refine (copyLengthsOf_any _ hr1.out (by simp) hn).mono ?_
    rintro e w2 ⟨he, hb2⟩
    rw [hg.out, hv'.out, clv8] at he
    subst he
    have hZ2 := hid (hZ1.out.below hb2 hZ1.out.lt)
    have hB2 := hid (hB1.out.trans (hb2.mono hB1.out.size))
    have hs2 := hB2.out.size
    have hZ3 := hid (hZ2.out.alloc (.cells (ints zeros8).toArray 43))
    have hB3 := hid (hB2.out.alloc hs2 (.cells (ints zeros8).toArray 43))
    clear hb2
    go_upto_region 2 with (fail)
    generalize hW3 : w2.alloc _ = W3
    have hZ4 : Hid (AtC W3 w.heap.size zeros8) := hid (by rw [← hW3]; exact hZ3.out)
    have hB4 : Hid (Below w.heap.size w W3) := hid (by rw [← hW3]; exact hB3.out)
    clear hW3 hZ3 hB3 hZ2 hB2
    obtain ⟨d0, d1, d2, d3, d4, d5, d6, d7⟩ := hZ4.out.eight
    obtain ⟨f0, f1, f2, f3, f4, f5, f6, f7⟩ := hZ4.out.thaw
    go_wp2
    refine bodyPost_ret (v := .tuple #[clv zeros8, .bool false]) (by simp [results, Try.results32, go_sem, d0, d1, d2, d3, d4, d5, d6, d7]) rfl ⟨?_, below_put hB4.out (Nat.le_refl _)⟩
    rw [hf.out, hb.out]
  | true =>
    have hv' := hid hv
    obtain ⟨b0, b1, b2, b3, b4, b5, b6, hg, hpad⟩ := clOf_lit hv
    rw [hlx.out] at hg hpad
    have hn7 : n ≤ 7 := by have := (lvB_true hv).2.1; rw [hlx.out] at this; exact this
    have hg' := hid hg
    clear hg hpad
    go_enter Try.func32, Try.ntmps32
    go_wp2_with fail
    refine (copyLengthsOf_any _ hr1.out (by simp) hn).mono ?_
    rintro e w2 ⟨he, hb2⟩
    rw [hg'.out, hv'.out, clv8] at he
    subst he
    have hZ2 := hid (hZ1.out.below hb2 hZ1.out.lt)
    have hB2 := hid (hB1.out.trans (hb2.mono hB1.out.size))
    have hs2 := hB2.out.size
    have hy2 : Hid (RdI w2 w.heap.size A' m live) := hid (Reads.keep hy1.out fun q hq => hb2.cell (by simp; omega))
    have hZ3 := hid (hZ2.out.alloc (.cells (ints [(n : Int), b0, b1, b2, b3, b4, b5, b6]).toArray 43))
    have hB3 := hid (hB2.out.alloc hs2 (.cells (ints [(n : Int), b0, b1, b2, b3, b4, b5, b6]).toArray 43))
    have hA3 := hid (AtC.new w2 [(n : Int), b0, b1, b2, b3, b4, b5, b6])
    have hy3 : Hid (RdI (w2.alloc (.cells (ints [(n : Int), b0, b1, b2, b3, b4, b5, b6]).toArray 43)) w.heap.size A' m live) := hid (Reads.alloc hy2.out hs2 _)
    clear hb2 hZ1 hr1 hy1 hB1
    go_upto_region 2 with (fail)
    generalize hW3 : w2.alloc _ = W3
    have hZ4 : Hid (AtC W3 w.heap.size zeros8) := hid (by rw [← hW3]; exact hZ3.out)
    have hA4 : Hid (AtC W3 w2.heap.size [(n : Int), b0, b1, b2, b3, b4, b5, b6]) := hid (by rw [← hW3]; exact hA3.out)
    have hB4 : Hid (Below w.heap.size w W3) := hid (by rw [← hW3]; exact hB3.out)
    have hy4 : Hid (RdI W3 w.heap.size A' m live) := hid (by rw [← hW3]; exact hy3.out)
    clear hW3 hZ3 hB3 hZ2 hB2 hA3 hy2 hy3
    obtain ⟨c0, c1, c2, c3, c4, c5, c6, c7⟩ := hA4.out.eight
    go_wp2_with fail
    refine (hasMajority_any (xs := [b0, b1, b2, b3, b4, b5, b6]) rfl hn7 _ hy4.out hB4.out.size hm).mono ?_
    rintro e w5 ⟨rfl, hb5⟩
    have hZ5 := hid (hZ4.out.below hb5 hZ4.out.lt)
    have hA5 := hid (hA4.out.below hb5 hA4.out.lt)
    have hB5 := hid (hB4.out.trans (hb5.mono hB4.out.size))
    clear hb5 hy4 hZ4 hA4 hB4 c0 c1 c2 c3 c4 c5 c6 c7
    obtain ⟨c0, c1, c2, c3, c4, c5, c6, c7⟩ := hA5.out.eight
    obtain ⟨d0, d1, d2, d3, d4, d5, d6, d7⟩ := hZ5.out.eight
    obtain ⟨f0, f1, f2, f3, f4, f5, f6, f7⟩ := hZ5.out.thaw
    cases hlv : liveB n live with
    | false =>
      have hb := hid (ldB_no2 (zs := zs) (live := live) (by rw [hlx.out]; exact hlv))
      have hf := hid (clWith_no hb.out)
      clear hlv hv
      go_wp2
      refine bodyPost_ret (v := .tuple #[clv zeros8, .bool false]) (by simp [results, Try.results32, go_sem, d0, d1, d2, d3, d4, d5, d6, d7]) rfl ⟨?_, below_put hB5.out (Nat.le_refl _)⟩
      rw [hf.out, hb.out]
    | true =>
      have hb := hid (ldB_yes (zs := zs) (live := live) hv (by rw [hlx.out]; exact hlv))
      have hf := hid (clWith_yes hb.out)
      clear hlv hv
      go_wp2
      refine bodyPost_ret (v := .tuple #[clv [(n : Int), b0, b1, b2, b3, b4, b5, b6], .bool true]) (by simp [results, Try.results32, go_sem, d0, d1, d2, d3, d4, d5, d6, d7]) rfl ⟨?_, below_put hB5.out (Nat.le_refl _)⟩
      rw [hf.out, hb.out, hg'.out]

set_option maxHeartbeats 2000000 in
theorem CommitLeader_impl {n m c d : Nat} {A A' : Option Addr} {zs live : List Int} (w : World) (hr : RdI w w.heap.size A n zs) (hy : RdI w w.heap.size A' m live) (hn : n < 1099511627776) (hm : m < 1099511627776) :
    Calls Try.prog 15 #[.slice A n c, .slice A' m d] w fun e w' => e = .returned (.int .i64 (ldrR zs live)) ∧ Below w.heap.size w w' := by
  have hlx := hid hr.len
  have hr1 := hid hr
  have hy1 := hid hy
  clear hr hy
  cases hb : ldB zs live with
  | false =>
    have hb' := hid hb
    have hf : Hid (clWith zs live = [0, 0, 0, 0, 0, 0, 0, 0]) := hid (clWith_no hb)
    have hg := hid (ldrR_no hb)
    clear hb
    go_enter Try.func15, Try.ntmps15
    go_wp2_with fail
    refine (copyLengthsWith_any _ hr1.out hy1.out hn hm).mono ?_
    rintro e w2 ⟨he, hb2⟩
    rw [hf.out, hb'.out, clv8] at he
    subst he
    have hB2 := hid (hb2.alloc hb2.size (.cells (ints zeros8).toArray 43))
    clear hb2
    go_wp2
    go_ret
    exact ⟨by rw [hg.out]; rfl, hB2.out⟩
  | true =>
    have hb' := hid hb
    obtain ⟨hv, hlv⟩ := ldB_both hb
    obtain ⟨b0, b1, b2, b3, b4, b5, b6, hg, hpad⟩ := clOf_lit hv
    have hn7 : n ≤ 7 := by have := (lvB_true hv).2.1; rw [hlx.out] at this; exact this
    have hf := clWith_yes hb
    rw [hlx.out] at hg hlv
    rw [hg] at hf
    have hld : Hid (ldr [b0, b1, b2, b3, b4, b5, b6] live = ldrR zs live) := hid (by rw [ldrR_yes hb, ← hpad, ldr_pad])
    have hlv' := hid hlv
    have hf' := hid hf
    clear hb hv hlv hg hpad hf
    go_enter Try.func15, Try.ntmps15
    go_wp2_with fail
    refine (copyLengthsWith_any _ hr1.out hy1.out hn hm).mono ?_
    rintro e w2 ⟨he, hb2⟩
    rw [hf'.out, hb'.out, clv8] at he
    subst he
    have hs2 := hb2.size
    have hB3 := hid (hb2.alloc hs2 (.cells (ints [(n : Int), b0, b1, b2, b3, b4, b5, b6]).toArray 43))
    have hy3 : Hid (RdI (w2.alloc (.cells (ints [(n : Int), b0, b1, b2, b3, b4, b5, b6]).toArray 43)) w.heap.size A' m live) := hid (Reads.alloc (Reads.below hy1.out hb2) hs2 _)
    clear hb2 hr1 hy1
    go_wp2_with fail
    refine (leader_any (xs := [b0, b1, b2, b3, b4, b5, b6]) rfl hn7 hlv'.out _ hy3.out hB3.out.size hm).mono ?_
    rintro e w5 ⟨rfl, hb5⟩
    have hB5 := hid (hB3.out.trans (hb5.mono hB3.out.size))
    clear hb5 hy3 hB3
    go_wp2
    go_ret
    exact ⟨by rw [← hld.out]; rfl, hB5.out⟩
end Go.Proofs.Ytgejohkdgcoeeaa
