/-
  Slices of stamps that a call owns; one append to such a slice; the draw of stamps. No condition.
-/
import Derived.Test.YtmnkamonkmoapaaSmD
import Derived.Test.YtmnkamonkmoapaaStG
namespace Go.Proofs.Ytmnkamonkmoapaa
open Go.RowKit

theorem info_st : (Try.prog.info? 24).map (fun i => (i.zero, i.size, i.bytes)) = some (some (.agg #[.int .i64 0, .int .i64 0]), 2, 16) := by kernel_rfl
/-- the cells of a list of stamps -/
def stc : List St → List Value
  | [] => []
  | x :: l => .int .i64 x.1 :: .int .i64 x.2 :: stc l

theorem stc_len (l : List St) : (stc l).length = l.length * 2 := by
  induction l with
  | nil => rfl
  | cons x l ih => simp [stc, ih]; omega

theorem stc_app (l m : List St) : stc (l ++ m) = stc l ++ stc m := by
  induction l with
  | nil => rfl
  | cons x l ih => simp [stc, ih]

theorem stc_one (l : List St) : ∀ u ∈ stc l, u.oneCell' = true := by
  induction l with
  | nil => intro u hu; cases hu
  | cons x l ih =>
    intro u hu
    rcases List.mem_cons.1 hu with rfl | hu
    · rfl
    · rcases List.mem_cons.1 hu with rfl | hu
      · rfl
      · exact ih u hu

theorem stc_get : ∀ (l : List St) (j : Nat) (x : St), l[j]? = some x → (stc l)[j * 2]? = some (.int .i64 x.1) ∧ (stc l)[j * 2 + 1]? = some (.int .i64 x.2)
  | [], j, x, h => by simp at h
  | y :: l, 0, x, h => by simp at h; subst h; exact ⟨rfl, rfl⟩
  | y :: l, j + 1, x, h => by
    have := stc_get l j x (by simpa using h)
    rw [show (j + 1) * 2 = j * 2 + 1 + 1 by omega]
    exact this

/-- v is a slice of stamps of the call's own -/
abbrev OwS (w : World) (B : Nat) (v : Value) (zs : List St) : Prop := w.ownsRow B 24 2 v zs.length (stc zs)
section
variable {w w' : World} {B B' : Nat} {v : Value} {zs : List St}

theorem OwS.form (h : OwS w B v zs) : ∃ A c, v = .slice A zs.length c ∧ RdS w A zs.length zs ∧ zs.length ≤ c ∧ c ≤ 9223372036854775807 := by
  rcases h.2 with ⟨rfl, h0⟩ | ⟨g, cap, cur, rfl, hb, hh, hn, hm, hs, ht⟩
  · have hz : zs = [] := List.eq_nil_of_length_eq_zero h0
    subst hz
    exact ⟨none, 0, rfl, ⟨rfl, fun h => absurd h (by simp)⟩, Nat.le_refl _, by omega⟩
  · refine ⟨_, cap, rfl, ⟨rfl, fun _ => ⟨g, 0, rfl, (h.lt g rfl).2, fun j x hx => ?_⟩⟩, hn, by unfold maxLen at hm; omega⟩
    have hx2 := stc_get zs j x hx
    have e0 := h.cells (g := g) rfl (j * 2) _ hx2.1
    have e1 := h.cells (g := g) rfl (j * 2 + 1) _ hx2.2
    have a0 : ∀ k, (⟨g, 0, none⟩ : Addr).add k = ⟨g, 0 + k, none⟩ := fun k => by
      unfold Addr.add; by_cases hk : k = 0
      · subst hk; rfl
      · simp [hk]
    rw [a0] at e0 e1
    exact ⟨e0, by rw [Nat.add_assoc]; exact e1⟩

theorem OwS.of_block (h : OwS w B v zs) (hb : ∀ g, v.ownBlock = some g → w'.heap[g]? = w.heap[g]?) : OwS w' B v zs := by
  refine ⟨h.1, ?_⟩
  rcases h.2 with hn | ⟨g, cap, cur, e, hl, hg, hr⟩
  · exact .inl hn
  · exact .inr ⟨g, cap, cur, e, hl, (hb g (by rw [e]; rfl)).trans hg, hr⟩

theorem OwS.below (h : OwS w B v zs) (hb : Below w.heap.size w w') : OwS w' B v zs := h.of_block fun g hg => hb.block g (h.lt g hg).2

theorem OwS.pick {g : Nat} (h : OwS w B v zs) (hg : w.grownBy w' (some g)) (hl : g < B) : OwS w' B v zs :=
  h.of_block fun k hk => hg.block k (h.lt k hk).2 (fun e => by
    have e' : k = g := by injection e
    have := (h.lt k hk).1
    omega)

theorem OwS.more (h : OwS w B v zs) (hB : B' ≤ B) : OwS w B' v zs := by
  refine ⟨h.1, ?_⟩
  rcases h.2 with hn | ⟨g, cap, cur, e, hb, hr⟩
  · exact .inl hn
  · exact .inr ⟨g, cap, cur, e, Nat.le_trans hB hb, hr⟩

theorem OwS.empty_lit (w : World) (hB : B ≤ w.heap.size) : OwS (w.alloc (.cells #[] 24)) B (.slice (some ⟨w.heap.size, 0, none⟩) 0 0) [] :=
  World.ownsRow_lit w #[] 0 hB (by decide) rfl
end

/-- One append of one stamp: 'out = append(out, x)'. The literal's block lies already. -/
theorem wpList_appSt {w : World} {ops : Array Oper} {rest : List Oper} {o : Oper} {a : Act} {Q : Exit → Act → World → Prop} (hgd : o.guard = none) (s x : Operand)
    (ho : o.op = .call { callee := .builtin .append, args := #[s, x], argTypes := #[31, 31] })
    (B : Nat) (t k : Int) (v : Value) (zs : List St) (hs : a.eval s = v) (hx : a.eval x = .slice (some ⟨w.heap.size, 0, none⟩) 1 1) (hown : OwS w B v zs) (hB : B ≤ w.heap.size) (hn : zs.length < 1099511627776)
    (h : ∀ v' w', OwS w' B v' (zs ++ [(t, k)]) → Below B w w' → wpList Try.prog ops Q rest (a.put o.dst v') w') :
    wpList Try.prog ops Q (o :: rest) a (w.alloc (.cells #[.int .i64 t, .int .i64 k] 24)) := by
  obtain ⟨i0, hi, hz0, hz1, hz2⟩ := info_parts info_st
  refine wpList_append_own (P := Try.prog) _ hgd s x 31 ho B 24 i0 (.agg #[.int .i64 0, .int .i64 0]) 2 16 Try.underlying31 hi hz0 hz1 hz2 rfl (by decide) v zs.length (stc zs) hs (hown.alloc _) ⟨w.heap.size, 0, none⟩ 1 1 [.int .i64 t, .int .i64 k] hx rfl ?_ ?_ ?_ ?_ ?_ ?_
  · intro j u hj
    match j, hj with
    | 0, hj => simp at hj; subst hj; simp [Addr.add]
    | 1, hj => simp at hj; subst hj; simp [Addr.add]
  · intro u hu; simp at hu; rcases hu with rfl | rfl <;> rfl
  · unfold maxLen; omega
  · omega
  · simp; omega
  · intro v' w' hown' hg _
    refine h v' w' ?_ ?_
    · show w'.ownsRow B 24 2 v' (zs ++ [(t, k)]).length (stc (zs ++ [(t, k)]))
      rw [stc_app, List.length_append]
      exact hown'
    · exact ((Below.refl B w).alloc hB _).grown hg (by simp; omega) (fun k hk => (hown.lt k hk).1)

def DrawSt (w : World) (e : Ending) (w' : World) : Prop :=
  ∃ (v : Value) (zs : List St), e = .returned v ∧ OwS w' w.heap.size v zs ∧ zs.length ≤ 13 ∧ Below w.heap.size w w'

set_option maxHeartbeats 2000000 in
theorem DrawStampMax_any {a : Option Addr} {len cap : Nat} {zs : List Int} (w : World) (h : RowIs .u8 w a len cap zs) :
    Calls Try.prog 18 #[.slice a len cap] w (DrawSt w) := by
  have h' := hid h
  clear h
  go_enter Try.func18, Try.ntmps18
  go_wp2_with fail
  refine (l6Open_any _ h'.out).mono ?_
  rintro e w0 ⟨rfl, r0, b0, s0⟩
  have r0' := hid (r0.allocs (.cells #[] 24))
  have B0 := hid (b0.alloc (o := .cells #[] 24) b0.size)
  have o0 := hid (OwS.empty_lit (B := w.heap.size + 1) w0 (by omega))
  have z0 : w.heap.size + 1 ≤ (w0.alloc (.cells #[] 24)).heap.size := by simp; omega
  clear r0 b0 s0
  go_wp2_with fail
  refine (pick_any 6 _ r0'.out (by omega) (by omega) (by omega)).mono ?_
  rintro e w1 ⟨x, rfl, hx0, hx1, r1, q1, s1⟩
  have o1 := hid (o0.out.pick q1 (by omega))
  have B1 := hid (B0.out.grown q1 (by omega) (fun j hj => by injection hj with hj; omega))
  have z1 := q1.size
  clear q1 s1 r0' B0 o0
  go_wp2_with fail
  refine (pick_any 16 _ r1 (by omega) (by omega) (by omega)).mono ?_
  rintro e w2 ⟨y, rfl, hy0, hy1, r2, q2, s2⟩
  have o2 := hid (o1.out.pick q2 (by omega))
  have B2 := hid (B1.out.grown q2 (by omega) (fun j hj => by injection hj with hj; omega))
  have z2 := q2.size
  clear q2 s2 r1 B1 o1
  go_upto_if 14 with (fail)
  go_cut [5] (fun n wx => ∃ m : Nat, n = .int .i64 m ∧ m ≤ 13 ∧ Rdr wx w.heap.size w.heap.size 3 ∧ OwS wx (w.heap.size + 1) (.slice (some ⟨w0.heap.size, 0, none⟩) 0 0) [] ∧ Below w.heap.size w wx ∧ w.heap.size + 1 ≤ wx.heap.size)
  case first =>
    by_cases hy : y = 0
    · subst hy
      go_wp2_with fail
      refine (pick_any 3 _ r2 (by omega) (by omega) (by omega)).mono ?_
      rintro e w3 ⟨z, rfl, hz0, hz1, r3, q3, s3⟩
      have o3 := hid (o2.out.pick q3 (by omega))
      have B3 := hid (B2.out.grown q3 (by omega) (fun j hj => by injection hj with hj; omega))
      have z3 := q3.size
      clear q3 s3
      go_wp2
      go_meet
      exact ⟨(11 + z).toNat, by rw [Int.toNat_of_nonneg (by omega)], by omega, r3, o3.out, B3.out, by omega⟩
    · have hy' : (y == 0) = false := by rw [beq_eq_false_iff_ne]; exact hy
      clear hy
      go_wp2
      go_meet
      exact ⟨x.toNat, by rw [Int.toNat_of_nonneg hx0], by omega, r2.le (by omega), o2.out, B2.out, by omega⟩
  case rest =>
    clear r2 o2 B2 hx0 hx1 hy0 hy1 z0 z1 z2
    obtain ⟨m, rfl, hm, rd, ho, hB, hz⟩ := hcut
    have rd' := hid rd
    have ho' := hid ho
    have hB' := hid hB
    clear rd ho hB
    go_wp2
    go_loopw [4, 6] (fun o i wr => ∃ (k : Nat) (zss : List St), k ≤ m ∧ i = .int .i64 k ∧ OwS wr (w.heap.size + 1) o zss ∧ Hid (zss.length = k) ∧ Rdr wr w.heap.size w.heap.size (3 + 4 * k) ∧ Below w.heap.size w wr ∧ w.heap.size + 1 ≤ wr.heap.size) (fun _ i _ => m - (intOf i).toNat)
    case atStart => exact ⟨0, [], by omega, rfl, ho'.out, rfl, rd'.out, hB'.out, hz⟩
    case round =>
      obtain ⟨k, zss, hk, rfl, hown, hzl, hrd, hbel, hz3⟩ := hrel
      by_cases hlt : k < m
      · have hown' := hid hown
        have hbel' := hid hbel
        have hzk : zss.length < 1099511627776 := by rw [hzl.out]; omega
        clear hown hbel
        go_wp2_with fail
        refine (l91Stamp_any _ hrd (by omega)).mono ?_
        rintro e w3 ⟨t, g, rfl, r3, q3⟩
        have ho3 := hown'.out.pick q3 (by omega)
        have hB3 := hid (hbel'.out.grown q3 (by omega) (fun j hj => by injection hj with hj; omega))
        have hsz3 := Nat.le_trans hz3 q3.size
        have r3' := hid r3
        clear q3 hrd r3
        go_wp2_with (at_builtin; refine wpList_appSt rfl (.tmp 23) (.tmp 26) rfl (w.heap.size + 1) t g _ zss rfl rfl ho3 hsz3 hzk ?_; intro v' w4 hown4 hbel4)
        have hz4 := hbel4.size
        have hB4 := hid (hB3.out.trans (hbel4.mono (by omega)))
        go_roundw
        case rel => exact ⟨k + 1, _, by omega, by go_num, hown4, hid (by simp [hzl.out]), (r3'.out.below hbel4 (by omega)).le (by omega), hB4.out, by omega⟩
        case measure => simp [intOf]; omega
      · go_wp2
        go_ret
        exact ⟨_, zss, rfl, hown.more (by omega), by rw [hzl.out]; omega, hbel⟩
end Go.Proofs.Ytmnkamonkmoapaa
