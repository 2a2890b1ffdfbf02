/-
  The values of a state as a map: what the library makes of a slice, one map laid into another, and the state back. No condition but valid states.
-/
import Derived.Test.YteagmkhpfmiaiaaSoN
import Derived.Test.YteagmkhpfmiaiaaSoS
import Derived.Test.YteagmkhpfmiaiaaLl
import Derived.Laws.IdiomRangeMap
namespace Go.Proofs.Yteagmkhpfmiaiaa
open Go.RowKit Go.Shelf
set_option linter.unusedVariables false
set_option linter.unusedSimpArgs false
attribute [local go_sem] Oper.semAt_some

set_option maxHeartbeats 4000000 in
set_option maxRecDepth 100000 in
theorem Copy_any {bd bs nd ns : Nat} {F : Int → Int} {G : Int → Option Int} (w : World) (hd : MapF w bd nd F) (hs : MapG w bs ns G) (hne : bd ≠ bs) (hroom : nd + ns < 1099511627776) :
    Calls Try.prog 76 #[.map (some bd), .map (some bs)] w fun e w' => e = .returned (.tuple #[]) ∧ MapF w' bd (nd + ns) (fun k => (G k).getD (F k)) ∧ w.grownBy w' (some bd) := by
  obtain ⟨Dd, od, hD⟩ := hd
  obtain ⟨Ds, os, hS⟩ := hs
  have hbd := od.lt
  have hbs := os.lt
  have hsl := os.size_le
  have hD' := hid hD
  have hS' := hid hS
  clear hD hS
  go_enter Try.func76, Try.ntmps76
  go_wp2_with (first
    | (at_range; refine wpList_range_own _ rfl _ 59 rfl 3 3 keyI Try.underlying59 (plainElem Try.prog 3) bs ns _ rfl os ?_; intro w0 hrg0 hg0 hs0)
    | go_in)
  go_frame
  go_loopw [8] (fun _ wr => ∃ (left : Lit → Bool) (cnt : Nat) (Dout : DataW Unit), wr.ranges Try.prog 3 (plainElem Try.prog 3) bs w.heap.size ns Ds left cnt ∧ cnt ≤ Maps.size Ds ∧
      wr.ownsMap Try.prog 3 (plainElem Try.prog 3) bd (nd + (Maps.size Ds - cnt)) Dout ∧ Hid (Maps.Merged Dout Dd Ds left) ∧ w.grownBy wr (some bd))
    (fun _ wr => wr.rangeLeft bs w.heap.size)
  case atStart =>
    exact ⟨_, _, Dd, hrg0, Nat.le_refl _, (od.kept hg0 (by simp)).mono (by omega), hid (Maps.merged_start Dd Ds), hg0.but _⟩
  case round =>
    obtain ⟨left, cnt, Dout, hrg, hcs, hout, hM, hgw⟩ := hrel
    go_wp2_with (first
      | (at_next; refine wpList_next_ranges_ii _ rfl _ rfl 3 3 .i64 .i64 keyI Try.underlying3 Try.underlying3 bs w.heap.size ns _ _ _ rfl hrg ?_ ?_)
      | go_in)
    · intro hc0 hl0
      have hMo := hid (hM.out.2)
      go_wp2
      go_end0
      refine ⟨rfl, ⟨Dout, hout.mono (by omega), fun k h0 h1 => ?_⟩, hgw⟩
      rw [hMo.out, hl0, (hS'.out k h0 h1).1, (hS'.out k h0 h1).2, hD'.out k h0 h1]
      cases hG : G k <;> simp [hG]
    · intro x c w1 cnt1 hwx hwc hlx hat hrg1 hlt hg1 hs1 hen
      have hout1 := hout.kept hg1 (fun e => by have := Option.some.inj e; omega)
      have hkx : keyOf Try.prog 3 (.int .i64 x) = some (.int .i64 x) := Maps.keyOf_int_mk Try.underlying3 hwx
      go_wp2_with (first
        | (at_mapUpdate; refine wpList_mapUpdate_own _ rfl _ _ _ 59 rfl 3 3 keyI Try.underlying59 (plainElem Try.prog 3) bd _ _ rfl hout1 (by unfold maxLen; omega) _ _ _ rfl rfl hkx _ [] (plainElem_int Try.underlying3 hwc) ?_; intro w2 hout2 hg2; go_frame)
        | go_in)
      have hrg2 := hrg1.kept hg2 (fun e => hne (Option.some.inj e).symm) (fun e => by have := Option.some.inj e; omega)
      go_roundw
      case rel =>
        exact ⟨_, cnt1, _, hrg2, by omega, hout2.mono (by omega), hid (Maps.merged_step hM.out hout.isMap (keyI.key hkx) hat), (hgw.andThen hg1 (fun j hj => .inl (by cases hj; exact Nat.le_refl _))).andThen hg2 (fun j hj => .inr hj)⟩
      case measure => rw [hrg2.left_eq, hrg.left_eq]; exact hlt

set_option maxHeartbeats 1000000 in
theorem All_any (A : Option Addr) (n c : Nat) (w : World) :
    Calls Try.prog 74 #[.slice A n c] w fun e w' => e = .returned (.func (.func 84) #[] #[.pointer (some ⟨w.heap.size, 0, none⟩)]) ∧ w' = w.alloc (.cells #[.slice A n c] 23) := by
  have hmf : ∀ (fn : Fn) (first cap : Array Value) (w : World), (Instr.makeFunc fn first cap).run Try.prog w = .ok (.func fn first cap) w := fun _ _ _ _ => rfl
  go_enter Try.func74, Try.ntmps74
  go_wp2
  go_ret
  exact ⟨rfl, rfl⟩

set_option maxRecDepth 100000 in
set_option maxHeartbeats 2000000 in
theorem All_seq {n0 e P0 m p c nn : Nat} {A : Option Addr} {zs : List Int} (w : World) (hn : 3 ≤ nn) (hn0 : n0 ≤ w.heap.size) (hp : p < n0) (hpe : p ≠ e) (hP : P0 ≤ n0) (hPe : P0 ≤ e) (hc : w.cell? ⟨p, 0, none⟩ = some (.slice A m c)) (hr : RdI w P0 A m zs) (hm : m < 1099511627776) :
    SeqN nn 84 #[.pointer (some ⟨p, 0, none⟩)] (fun k => #[.int .i64 (k : Int), .int .i64 (zs.getD k 0)]) m n0 e w := fun l J Jx W hW hY h0 => by
  have hB0 : Hid (KeepX n0 e w W) := hid (KeepX.of_below (hW.mono hn0))
  have hr1 := hid (hB0.out.reads hr hP hPe)
  have hc1 := (hB0.out.cell (p := ⟨p, 0, none⟩) hp hpe).trans hc
  clear hr hc hW hB0
  have hY' := hid hY
  clear hY
  refine callsIn_of_wp Try.func84 rfl trivial ?_ rfl
  simp only [Try.ntmps84, List.size_toArray, List.length_cons, List.length_nil, Nat.reduceAdd, Nat.reduceSub, Array.replicate_succ, Array.replicate_zero, List.push_toArray, List.append_toArray, List.nil_append, List.cons_append]
  gi_wp2
  gi_loopw [7] (fun i wr => ∃ k : Nat, k ≤ m ∧ i = .int .i64 k ∧ J k wr ∧ Hid (KeepX n0 e W wr)) (fun i _ => m - (intOf i).toNat)
  case atStart => exact ⟨0, Nat.zero_le _, rfl, h0, hid (KeepX.refl _ _ _)⟩
  case round =>
    obtain ⟨k, hk, rfl, hJs, hB⟩ := hrel
    by_cases hlt : k < m
    · obtain ⟨ad, z, rfl, hz, hc⟩ := RdI.at' (hB.out.reads hr1.out hP hPe) hlt
      obtain ⟨fn, tmps, assign, body, hy, hR⟩ := hY'.out k wr hlt hJs
      rw [hz.out] at hy
      clear hz
      gi_wp2
      refine ⟨(fun _ => by omega), hR.mono ?_⟩
      rintro r W3 (⟨rfl, hJ3, hk3⟩ | ⟨rfl, hJx3⟩)
      · have hB3 := hid (hB.out.trans hk3)
        clear hk3 hc hy
        gi_wp2
        go_roundw
        case rel => exact ⟨k + 1, by omega, by go_num, hJ3, hB3⟩
        case measure => simp [intOf]; omega
      · clear hc hy
        gi_wp2
        refine bodyPost_ret (results_none rfl _ _ _) rfl ?_
        exact ⟨⟨_, rfl⟩, .inr ⟨k, hlt, hJx3⟩⟩
    · obtain rfl : k = m := by omega
      gi_wp2
      go_end0
      exact ⟨⟨_, rfl⟩, .inl hJs⟩

theorem SeqN.later {n g : Nat} {lb : Array Value} {args : Nat → Array Value} {N n0 e : Nat} {w w' : World} (h : SeqN n g lb args N n0 e w) (hb : Below w.heap.size w w') : SeqN n g lb args N n0 e w' :=
  fun l J Jx W hW hY h0 => h l J Jx W (hb.trans (hW.mono hb.size)) hY h0

/-- the first k values -/
def firstF (zs : List Int) (k : Nat) : Int → Int := fun i => if 0 ≤ i ∧ i < k then atS zs i else 0

set_option maxRecDepth 100000 in
set_option maxHeartbeats 4000000 in
theorem Insert_any {gf n0 b : Nat} {lb : Array Value} {zs : List Int} (w : World) (eg : Enters Try.prog gf) (hseq : SeqN 4 gf lb (fun k => #[.int .i64 (k : Int), .int .i64 (zs.getD k 0)]) 15 n0 b w) (hn0 : n0 ≤ w.heap.size) (hb : b < n0)
    (hM : MapF w b 0 (fun _ => 0)) (hv : vst zs = true) :
    Calls Try.prog 83 #[.map (some b), .func (.func gf) #[] lb] w fun r w' => r = .returned (.tuple #[]) ∧ MapF w' b 15 (atS zs) ∧ Below b w w' := by
  have hbw : b ≤ w.heap.size := by omega
  have bS := Boxed.new w 59 (.map (some b))
  have hB0 : Below b w (w.alloc (.cells #[.map (some b)] 59)) := (Below.refl b w).alloc hbw _
  have hM0 := hM.alloc (.cells #[.map (some b)] 59)
  have hseq' := hid (hseq.later (below1 w (.cells #[.map (some b)] 59)))
  refine (callsIn_wide (n := 5)).1 ?_
  refine callsIn_of_wp_marks Try.func83 rfl trivial ?_ rfl
  simp only [Try.ntmps83, List.size_toArray, List.length_cons, List.length_nil, Nat.reduceAdd, Nat.reduceSub, Array.replicate_succ, Array.replicate_zero, List.push_toArray, List.append_toArray, List.nil_append, List.cons_append]
  gi_wp2
  refine wpIn_rangeN (gf := gf) (lb := lb) (n0 := n0) (e := b) rfl eg hseq'.out (by simp; omega) (fun _ => rfl)
    (fun k W => (W.cell? ⟨w.heap.size, 0, none⟩ = some (.map (some b)) ∧ MapF W b k (firstF zs k)) ∧ Below b w W)
    (fun _ _ => False)
    (OwnFrom.and (fun s A B row hs hg hr => ⟨cell_kept hs.1 hg (fun r e => (hr r e).2), hs.2.grown hg (fun e => by have := (hr _ e).1; simp at this; omega)⟩) (ownFrom_below hbw (by simp; omega)))
    (fun _ _ _ _ hs _ _ => hs)
    ⟨⟨bS.cell, hM0.congr (fun k h0 h1 => by unfold firstF; rw [if_neg (by omega)])⟩, hB0⟩
    (fun k a' _ => a' = { tmps := #[.map (some b), .func (.func gf) #[] lb, .pointer (some ⟨w.heap.size, 0, none⟩), undef, .int .i64 (k : Int), .int .i64 (zs.getD k 0), .func (.func gf) #[] lb, .int .i64 (k : Int), .int .i64 (zs.getD k 0), undef, undef, undef], defers := [] })
    (fun _ _ _ _ _ _ hs _ _ => hs) ?assign ?body ?done ?stop
  case assign =>
    intro k l W K hk hi hK
    obtain ⟨x, hx⟩ : ∃ x, zs.getD k 0 = x := ⟨_, rfl⟩
    rw [hx] at hK ⊢
    clear hx hk
    gi_wp2
    exact hK _ _ (KeepsFrom.refl _ _) (KeepX.refl _ _ _) hi rfl
  case body =>
    rintro k l a' W hk ⟨⟨hc, hMk⟩, hB⟩ rfl
    obtain ⟨x, hx⟩ : ∃ x, zs.getD k 0 = x := ⟨_, rfl⟩
    have hxa := amt_true.1 ((vst_true.1 hv).2 k hk)
    rw [hx] at hxa ⊢
    have hwf : (Lit.int .i64 x).wf = true := WalkArith.wf_i64 (by omega)
    have hk0 : (0 : Int) ≤ (k : Int) := by omega
    have hk14 : (k : Int) ≤ 14 := by omega
    have hk40 : k < 1099511627776 := by omega
    have hx' := hid hx
    have hM' := hid hMk
    clear hx hMk
    gi_wp2_with (gi_at_mapUpdate; refine wpListIn_putF rfl (.tmp 9) (.tmp 10) (.tmp 11) rfl (b := b) (n := k) (F := firstF zs k) (k := (k : Int)) (z := x) rfl rfl rfl hM'.out hk0 hk14 hk40 hwf ?_; intro w1 hM1 hg1)
    have hWs : w.heap.size < W.heap.size := World.block_lt_of_cell? W _ hc
    have hbW : b < W.heap.size := hM'.out.lt
    obtain ⟨D, ⟨es, ck, hh, _⟩, _⟩ := hM'.out
    refine ⟨KeepsFrom.of_grownBy hg1 (fun j e => by cases e; simp; omega), (KeepX.refl n0 b W).grown hg1 (by omega) (fun k e => by injection e with e; exact .inr e.symm), ⟨cell_kept hc hg1 (fun r e => by cases e; exact ⟨_, hh, rfl⟩), ?_⟩, hB.grown hg1 (by omega) (fun k e => by injection e with e; omega)⟩
    refine hM1.congr fun i h0 h1 => ?_
    unfold firstF
    by_cases e : i = (k : Int)
    · subst e
      rw [if_pos rfl, if_pos (by omega), ← hx'.out]; simp [atS]
    · rw [if_neg e]
      by_cases e2 : i < (k : Int)
      · rw [if_pos ⟨h0, e2⟩, if_pos ⟨h0, by omega⟩]
      · rw [if_neg (fun h => e2 h.2), if_neg (fun h => e2 (by omega))]
  case done =>
    rintro D W hD ⟨⟨hc, hMk⟩, hB⟩ hK
    gi_wp2
    refine ⟨by simp, .inl ⟨_, _, rfl, run_takeDeferred hK, ?_⟩⟩
    refine ⟨_, results_none rfl _ _ _, rfl, ?_, hB.trans (belowK_b (w := w) hbw W D _ _ (by simp at hD; omega) hK rfl rfl)⟩
    have hm := hMk.grown (grownBy_putObj' W D (.deferred none)) (fun e => by injection e with e; simp at hD; omega)
    exact hm.congr fun i h0 h1 => by unfold firstF; rw [if_pos (by omega)]
  case stop =>
    rintro D k W _ _ h _
    exact h.elim

set_option maxHeartbeats 1000000 in
theorem Collect_any {gf : Nat} {lb : Array Value} {zs : List Int} (w : World) (eg : Enters Try.prog gf) (hseq : SeqN 4 gf lb (fun k => #[.int .i64 (k : Int), .int .i64 (zs.getD k 0)]) 15 (w.heap.size + 1) w.heap.size (w.alloc (.map #[] 0))) (hv : vst zs = true) :
    Calls Try.prog 73 #[.func (.func gf) #[] lb] w fun r w' => r = .returned (.map (some w.heap.size)) ∧ MapF w' w.heap.size 15 (atS zs) ∧ Below w.heap.size w w' := by
  have hmm := @run_makeMap Try.prog
  have hM0 := hid (MapF.made w)
  have hb0 := hid (below1 w (.map #[] 0))
  obtain ⟨u0, hu0⟩ : ∃ W, w.alloc (.map #[] 0) = W := ⟨_, rfl⟩
  have hz : u0.heap.size = w.heap.size + 1 := by rw [← hu0]; simp
  rw [hu0] at hM0 hb0 hseq
  obtain ⟨b, hb⟩ : ∃ b, w.heap.size = b := ⟨_, rfl⟩
  rw [hb] at hM0 hseq hz
  have hI := hid (Insert_any u0 eg hseq (by omega) (by omega) hM0.out hv)
  replace hu0 := hid hu0
  clear hseq hz
  go_enter Try.func73, Try.ntmps73
  go_upto_region 2 with (fail)
  rw [hu0.out]
  try rw [hb]
  replace hb := hid hb
  go_wp2_with fail
  refine hI.out.mono ?_
  rintro r w2 ⟨rfl, hM2, hb2⟩
  have hM2' := hid hM2
  have hb2' := hid hb2
  clear hM2 hb2
  go_wp2
  go_ret
  exact ⟨by rw [hb.out]; rfl, by rw [hb.out]; exact hM2'.out, hb0.out.trans (by rw [hb.out]; exact hb2'.out)⟩

/-- a state as a new map -/
def ValPost (w : World) (zs : List Int) (e : Ending) (w' : World) : Prop := ∃ b, e = .returned (.map (some b)) ∧ w.heap.size ≤ b ∧ MapF w' b 15 (atS zs) ∧ Below w.heap.size w w'

set_option maxHeartbeats 1000000 in
theorem valuesOf_any {A : Option Addr} {c : Nat} {zs : List Int} (w : World) (hr : RdI w w.heap.size A 15 zs) (hv : vst zs = true) :
    Calls Try.prog 45 #[.slice A 15 c] w (ValPost w zs) := by
  have hb0 := below1 w (.cells #[.slice A 15 c] 23)
  have hr2 := (hr.below hb0).more hb0.size
  have hc0 := Bx.new w 23 (.slice A 15 c)
  obtain ⟨u0, hu0⟩ : ∃ W, w.alloc (.cells #[.slice A 15 c] 23) = W := ⟨_, rfl⟩
  have hz : u0.heap.size = w.heap.size + 1 := by rw [← hu0]; simp
  rw [hu0] at hb0 hr2 hc0
  obtain ⟨p, hp⟩ : ∃ p, w.heap.size = p := ⟨_, rfl⟩
  rw [hp] at hc0 hz
  have hm := below1 u0 (.map #[] 0)
  have hS : SeqN 4 84 #[.pointer (some ⟨p, 0, none⟩)] (fun k => #[.int .i64 (k : Int), .int .i64 (zs.getD k 0)]) 15 (u0.heap.size + 1) u0.heap.size (u0.alloc (.map #[] 0)) :=
    All_seq (P0 := u0.heap.size) _ (by decide) (by simp) (by omega) (by omega) (by omega) (Nat.le_refl _) ((hc0.below hm).cell) (hr2.below hm) (by decide)
  have hC := hid (Collect_any u0 (enters_of Try.func84 (by kernel_rfl) rfl) hS hv)
  have hb0' := hid hb0
  have hu0' := hid hu0
  have hp' := hid hp
  clear hS hm hc0 hr2 hz hb0 hu0
  go_enter Try.func45, Try.ntmps45
  go_wp2_with fail
  refine (All_any _ _ _ _).mono ?_
  rintro e w1 ⟨rfl, rfl⟩
  rw [hu0'.out]
  try rw [hp'.out]
  clear hp
  go_wp2_with fail
  refine hC.out.mono ?_
  rintro r w2 ⟨rfl, hM2, hb2⟩
  have hM2' := hid hM2
  have hb2' := hid hb2
  clear hM2 hb2
  go_wp2
  go_ret
  exact ⟨_, rfl, hb0'.out.size, hM2'.out, hb0'.out.trans (hb2'.out.mono hb0'.out.size)⟩

set_option maxRecDepth 100000 in
set_option maxHeartbeats 1000000 in
theorem stateOf_any {b n : Nat} {F : Int → Int} (w : World) (hM : MapF w b n F) :
    Calls Try.prog 47 #[.map (some b)] w (NewI w (tab F)) := by
  have hM' := hid hM
  clear hM
  go_enter Try.func47, Try.ntmps47
  go_wp2
  go_loopw [3, 6] (fun o i wr => ∃ k : Nat, k ≤ 15 ∧ i = .int .i64 k ∧ OwI wr w.heap.size o ((grps k).map F) ∧ Hid (Below w.heap.size w wr)) (fun _ i _ => 15 - (intOf i).toNat)
  case atStart => exact ⟨0, by omega, rfl, OwI.empty_lit w (Nat.le_refl _), hid (below1 w _)⟩
  case round =>
    obtain ⟨k, hk, rfl, hown, hbe⟩ := hrel
    have hsz := hbe.out.size
    have hMr := hid (hM'.out.step hbe.out)
    have hll : ((grps k).map F).length < 1099511627776 := by simp [grps]; omega
    by_cases hlt : k < 15
    · have hlI : (k : Int) < 15 := by omega
      have hk0 : (0 : Int) ≤ (k : Int) := by omega
      have hk14 : (k : Int) ≤ 14 := by omega
      have hN := hid (tab_snoc F k)
      obtain ⟨y, hy⟩ : ∃ y, F k = y := ⟨_, rfl⟩
      rw [hy] at hN
      have hy' := hid hy
      clear hy
      go_wp2_with (first
        | (at_lookup; refine wpList_lookF rfl (.tmp 10) (.tmp 11) rfl (k := (k : Int)) rfl rfl hMr.out hk0 hk14 ?_; rw [hy'.out])
        | (at_builtin; refine wpList_app1 rfl (.tmp 9) (.tmp 13) rfl w.heap.size y _ _ rfl rfl hown hsz hll ?_; intro v' w1 hown' hbel'))
      go_roundw
      case rel => exact ⟨k + 1, by omega, by go_num, by rw [hN.out]; exact hown', hid (hbe.out.trans hbel')⟩
      case measure => simp [intOf]; omega
    · obtain rfl : k = 15 := by omega
      have ho : OwI wr w.heap.size u3 (tab F) := hown
      obtain ⟨A9, c9, rfl, -⟩ := ho.cut (tab_len F)
      clear hown
      go_wp2
      go_ret
      exact ⟨_, rfl, ho, hbe.out⟩
end Go.Proofs.Yteagmkhpfmiaiaa
