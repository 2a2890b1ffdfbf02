/-
  Contracts: the model's CommitRepair; the program's slices.Clone and list. No condition but lengths below 2^40.
-/
import Derived.Test.YtgejohkdgcoeeaaCmB
import Derived.BigRegion
namespace Go.Proofs.Ytgejohkdgcoeeaa
open Go.RowKit

/-- One append of a whole slice: 'out = append(out, xs...)'. -/
theorem wpList_appN {w : World} {ops : Array Oper} {rest : List Oper} {o : Oper} {a : Act} {Q : Exit → Act → World → Prop} (hgd : o.guard = none) (s x : Operand)
    (ho : o.op = .call { callee := .builtin .append, args := #[s, x], argTypes := #[23, 23] })
    (B B' : Nat) (v : Value) (zs ys : List Int) (ad : Addr) (n c : Nat) (hs : a.eval s = v) (hx : a.eval x = .slice (some ad) n c) (hown : OwI w B v zs) (hr : RdI w B' (some ad) n ys) (hn0 : 0 < n) (hB : B ≤ w.heap.size) (hz : zs.length < 1099511627776) (hn : n < 1099511627776)
    (h : ∀ v' w', OwI w' B v' (zs ++ ys) → Below B w w' → wpList Try.prog ops Q rest (a.put o.dst v') w') :
    wpList Try.prog ops Q (o :: rest) a w := by
  obtain ⟨i0, hi, hz0, hz1, hz2⟩ := info_parts info_int
  have hl : ys.length = n := hr.len
  refine wpList_append_own (P := Try.prog) w hgd s x 23 ho B 3 i0 (.int .i64 0) 1 8 Try.underlying23 hi hz0 hz1 hz2 rfl (by decide) v zs.length (ints zs) hs hown ad n c (ints ys) hx (by simp [ints, hl]) ?_ (ints_one ys) ?_ ?_ hB ?_
  · intro j u hj
    obtain ⟨ad2, e, _, hc⟩ := hr.2 hn0
    injection e with e
    subst e
    exact hc j u hj
  · unfold maxLen; omega
  · omega
  · intro v' w' hown' hg _
    refine h v' w' ?_ ?_
    · show w'.ownsRow B 3 1 v' (zs ++ ys).length (ints (zs ++ ys))
      simpa [ints, hl] using hown'
    · exact ((Below.refl B w)).grown hg (by omega) (fun k hk => (hown.lt k hk).1)

def RepPost (zs live : List Int) (w : World) (e : Ending) (w' : World) : Prop :=
  ∃ v, e = .returned (.tuple #[v, .bool (ldB zs live)]) ∧ OwI w' w.heap.size v (repR zs live) ∧ Below w.heap.size w w'

/-- an owned row by its block -/
theorem OwI.row {w : World} {B : Nat} {v : Value} {zs : List Int} (h : OwI w B v zs) (hn : 0 < zs.length) : ∃ g cap, v = .slice (some ⟨g, 0, none⟩) zs.length cap ∧ B ≤ g ∧ g < w.heap.size := by
  rcases h.2 with ⟨_, h0⟩ | ⟨g, cap, cur, e, hb, hg, _⟩
  · omega
  · exact ⟨g, cap, e, hb, (Array.getElem?_eq_some_iff.1 hg).1⟩

set_option maxHeartbeats 2000000 in
theorem CommitRepair_spec {n m c d : Nat} {A A' : Option Addr} {zs live : List Int} (w : World) (hr : RdI w w.heap.size A n zs) (hy : RdI w w.heap.size A' m live) (hn : n < 1099511627776) (hm : m < 1099511627776) :
    Calls Try.prog 20 #[.slice A n c, .slice A' m d] w (RepPost zs live w) := by
  have hlx := hid hr.len
  have hly := hid hy.len
  have hr' := hid hr
  have hy' := hid hy
  clear hr hy
  cases hb : ldB zs live with
  | false =>
    have hf := hid (repR_no hb)
    have hb' := hid hb
    have hg := hid (ldrR_no hb)
    clear hb
    go_enter Try.func20, Try.ntmps20
    go_wp2_with fail
    refine (CommitLeader_spec _ hr'.out hy'.out hn hm).mono ?_
    rw [hg.out]
    rintro e w1 ⟨rfl, q1⟩
    have hs1 : w.heap.size ≤ w1.heap.size := by rw [q1.size]; exact Nat.le_refl _
    have hB1 := hid (q1.below w.heap.size)
    go_wp2
    go_ret2
    refine ⟨_, by rw [hb'.out]; rfl, ?_, hB1.out.alloc hs1 _⟩
    rw [hf.out]; exact OwI.empty_lit w1 hs1
  | true =>
    have hf := hid (repR_yes hb)
    have hb' := hid hb
    have hg := hid (ldrR_yes hb)
    obtain ⟨hv, hlv⟩ := ldB_both hb
    obtain ⟨h1, h7, _⟩ := lvB_true hv
    rw [hlx.out] at h1 h7
    have hld := ldr_rng hlv
    rw [hlx.out] at hld
    obtain ⟨hld0, hld1⟩ := hld
    have hok := hid (liveB_ok hlv).2
    clear hb hv hlv
    obtain ⟨g, hgg⟩ := Int.eq_ofNat_of_zero_le hld0
    have hgn : g < n := by omega
    obtain ⟨ad, v, rfl, hv, hcv⟩ := RdI.at' hr'.out hgn
    have hvv : Hid (zs.getD (ldr zs live).toNat 0 = v) := hid (by rw [hgg, Int.toNat_natCast]; exact hv.out)
    have hg' : Hid (ldrR zs live = (g : Int)) := hid (by rw [hg.out, hgg])
    have hvg := hv
    clear hg hgg hld0 hld1 hv hcv
    have hgi : (0 : Int) ≤ (g : Int) := by omega
    go_enter Try.func20, Try.ntmps20
    go_wp2_with fail
    refine (CommitLeader_spec _ hr'.out hy'.out hn hm).mono ?_
    rw [hg'.out]
    rintro e w1 ⟨rfl, q1⟩
    have hs1 : w.heap.size ≤ w1.heap.size := by rw [q1.size]; exact Nat.le_refl _
    have hB1 := hid (q1.below w.heap.size)
    have hr1 := hid (q1.reads hr'.out)
    have hy1 := hid (q1.reads hy'.out)
    clear q1
    have hE0 := hid (OwI.empty_lit (B := w.heap.size) w1 hs1)
    have hr1a := hid (Reads.alloc hr1.out hs1 (.cells #[] 3))
    have hs1a : w.heap.size ≤ (w1.alloc (.cells #[] 3)).heap.size := by simp; omega
    go_wp2_with (at_builtin; refine wpList_appN rfl (.tmp 15) (.tmp 16) rfl w.heap.size w.heap.size _ [] zs ad n c rfl rfl hE0.out hr1a.out (by omega) hs1a (by decide) hn ?_; intro v2 w2 ho2 hb2)
    have hB2 := hid ((hB1.out.alloc hs1 (.cells #[] 3)).trans hb2)
    have hs2 := hB2.out.size
    have hr2 := hid (Reads.below hr'.out hB2.out)
    have hy2 := hid (Reads.below hy'.out hB2.out)
    obtain ⟨b, cap, rfl, hbl, hbs⟩ := ho2.row (by simp [hlx.out]; omega)
    rw [List.nil_append] at ho2 ⊢
    have ho2' := hid ho2
    rw [hlx.out]
    clear ho2 hb2 hr1 hy1 hB1
    go_wp2
    go_loopw [8] (fun i wr => ∃ k : Nat, k ≤ m ∧ i = .int .i64 k ∧ Hid (wr.ownsRow w.heap.size 3 1 (.slice (some ⟨b, 0, none⟩) n cap) n (ints (setAll v zs (live.take k)))) ∧ Hid (RdI wr w.heap.size (some ad) n zs) ∧ Hid (RdI wr w.heap.size A' m live) ∧ Hid (Below w.heap.size w wr)) (fun i _ => m - (intOf i).toNat)
    case atStart => exact ⟨0, by omega, rfl, hid (by have := ho2'.out; rw [OwI, hlx.out] at this; exact this), hr2, hy2, hB2⟩
    case round =>
      obtain ⟨k, hk, rfl, hown, hr3, hy3, hB3⟩ := hrel
      by_cases hlt : k < m
      · obtain ⟨ad2, z, rfl, hz, hc⟩ := RdI.at' hy3.out hlt
        have hzr := okLv_rng (hok.out k (by rw [hly.out]; exact hlt))
        rw [hz.out] at hzr
        obtain ⟨hzr0, hzr1⟩ := hzr
        rw [hlx.out] at hzr1
        have hs := hid (setAll_succ (v := v) (zs := zs) (by rw [hly.out]; exact hlt) hz.out)
        clear hz
        obtain ⟨j, rfl⟩ := Int.eq_ofNat_of_zero_le hzr0
        have hjn : j < n := by omega
        obtain ⟨ad3, v', e3, hv3, hcv⟩ := RdI.at' hr3.out hgn
        injection e3 with e3
        subst e3
        have hvv2 : v' = v := hv3.out.symm.trans hvg.out
        subst hvv2
        have hcell : wr.cell? ⟨b, j, none⟩ = some (.int .i64 ((setAll v' zs (live.take k)).getD j 0)) := by
          rw [hown.out.cellAt j (by omega)]
          have : j < (setAll v' zs (live.take k)).length := by rw [setAll_len, hlx.out]; exact hjn
          simp [this]
        have hfr : wr.frozen? ⟨b, j, none⟩ = false := hown.out.frozenAt j
        have hst := hid (hown.out.stored j (.int .i64 v'))
        go_wp2
        go_region
        go_wp2
        go_roundw
        case rel =>
          refine ⟨k + 1, by omega, by go_num, hid ?_, hid (Reads.keep hr3.out fun q hq => ?_), hid (Reads.keep hy3.out fun q hq => ?_), hid (hB3.out.setCell (p := ⟨b, j, none⟩) hbl _ |> fun h => h.drew)⟩
          · rw [hs.out, Int.toNat_natCast, ints, List.map_set]; exact hst.out.1
          · exact World.cell?_setCell_other wr ⟨b, j, none⟩ q _ (fun e => by subst e; exact absurd hq (by simp; omega))
          · exact World.cell?_setCell_other wr ⟨b, j, none⟩ q _ (fun e => by subst e; exact absurd hq (by simp; omega))
        case measure => simp [intOf]; omega
      · have hfin : Hid (OwI wr w.heap.size (.slice (some ⟨b, 0, none⟩) n cap) (repR zs live)) := hid (by
          have h := hown.out
          rw [List.take_of_length_le (l := live) (by rw [hly.out]; omega)] at h
          have e : setAll v zs live = repR zs live := by rw [hf.out, rep, hvv.out]
          rw [e] at h
          have e2 : (repR zs live).length = n := by rw [hf.out, rep_len, hlx.out]
          rw [OwI, e2]; exact h)
        go_wp2
        go_ret2
        exact ⟨_, by rw [hb'.out]; rfl, hfin.out, hB3.out⟩
end Go.Proofs.Ytgejohkdgcoeeaa
