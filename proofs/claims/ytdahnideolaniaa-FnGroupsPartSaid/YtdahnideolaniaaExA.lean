/-
  The walks of the exact laws of GroupsValid, GroupsCommon, GroupsUnion: the law returns true and writes nothing that was there. No condition.
-/
import Derived.Test.YtdahnideolaniaaOwn
import Derived.Test.YtdahnideolaniaaImplA
namespace Go.Proofs.Ytdahnideolaniaa
open Go.RowKit

/-- what the frame tells of a slice of ints that came in -/
def RowIs (k : IntKind) (w : World) (a : Option Addr) (len cap : Nat) (zs : List Int) : Prop :=
  (a = none ∧ len = 0 ∧ cap = 0 ∧ zs = []) ∨
  ∃ x, a = some x ∧ len ≤ cap ∧ cap ≤ maxLen ∧ zs.length = cap ∧ (∀ i, i < zs.length → w.cell? (x.add i) = some (.int k (zs.getD i 0))) ∧ ∀ n ∈ zs, (Lit.int k n).wf = true
theorem RowIs.rd {w : World} {a : Option Addr} {len cap : Nat} {zs : List Int} (h : RowIs .i64 w a len cap zs) : RdI w w.heap.size a len (zs.take len) ∧ len ≤ maxLen := by
  rcases h with ⟨rfl, rfl, rfl, rfl⟩ | ⟨x, rfl, hl, hm, hz, hc, _⟩
  · exact ⟨Reads.none_, by decide⟩
  · have h1 : (zs.take len).length = len := by rw [List.length_take]; omega
    refine ⟨⟨by simpa [ints] using h1, fun hn => ⟨x, rfl, ?_, fun j u hu => ?_⟩⟩, by omega⟩
    · have := World.block_lt_of_cell? w (x.add 0) (hc 0 (by omega))
      rwa [block_of_add] at this
    · have hj : j < len := by
        have := (List.getElem?_eq_some_iff.1 hu).1
        rw [ints, List.length_map, h1] at this; exact this
      rw [hc j (by omega), ← hu]
      have h2 : j < zs.length := by omega
      simp [ints, hj, h2]

set_option maxHeartbeats 1000000 in
theorem exGroupsValid {n c : Nat} {A : Option Addr} {zs : List Int} (w : World) (hr : RdI w w.heap.size A n zs) (hm : n ≤ maxLen) :
    Calls Try.prog 9 #[.slice A n c] w fun e w' => e = .returned (.bool true) ∧ Below w.heap.size w w' := by
  unfold maxLen at hm
  have hl' := hid hr.len
  have hr' := hid hr
  clear hr
  by_cases hbig : n ≤ 1048576
  · go_enter Try.func9, Try.ntmps9
    have hn : zs.length < 1099511627776 := by rw [hl'.out]; omega
    go_wp2_with fail
    refine (toIntS_any _ hr'.out (by omega)).mono ?_
    rintro e w1 ⟨v1, rfl, ho1, hb1⟩
    obtain ⟨A1, c1, rfl, hr1⟩ := ho1.rd (Nat.le_refl _)
    go_wp2_with fail
    refine (GroupsValid_spec _ hr1 hn).mono ?_
    rintro e w2 ⟨rfl, hq2⟩
    have hb2 := hb1.trans (hq2.below _)
    go_wp2_with fail
    refine (toIntS_any _ ((hr'.out.below hb2).more hb2.size) (by omega)).mono ?_
    rintro e w3 ⟨v3, rfl, ho3, hb3⟩
    obtain ⟨A3, c3, rfl, hr3⟩ := ho3.rd (Nat.le_refl _)
    have hb3' := hb2.trans (hb3.mono hb2.size)
    go_wp2_with fail
    refine (GroupsValid_impl _ hr3 hn).mono ?_
    rintro e w4 ⟨rfl, rfl⟩
    have hbb : (gvalid zs != gvalid zs) = false := by simp
    go_wp2_with fail
    refine (toIntS_any _ ((hr'.out.below hb3').more hb3'.size) (by omega)).mono ?_
    rintro e w5 ⟨v5, rfl, ho5, hb5⟩
    obtain ⟨A5, c5, rfl, hr5⟩ := ho5.rd (Nat.le_refl _)
    have hb5' := hb3'.trans (hb5.mono hb3'.size)
    go_wp2_with fail
    refine (eqIntS_any _ (hr3.below hb5) hr5 hn hn).mono ?_
    rintro e w6 ⟨rfl, hq6⟩
    have hsm : sameB zs zs = true := by simp [sameB]
    go_wp2
    go_ret
    exact ⟨rfl, hb5'.trans (hq6.below _)⟩
  · go_enter Try.func9, Try.ntmps9
    go_wp2
    go_ret
    exact ⟨rfl, Below.refl _ _⟩
end Go.Proofs.Ytdahnideolaniaa
