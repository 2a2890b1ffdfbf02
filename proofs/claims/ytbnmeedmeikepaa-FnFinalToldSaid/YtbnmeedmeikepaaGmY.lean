/-
  Contract of the program's finalIndex. No condition but a valid group and lengths below 2^40.
-/
import Derived.Test.YtbnmeedmeikepaaGmW
namespace Go.Proofs.Ytbnmeedmeikepaa
open Go.RowKit
set_option linter.unusedVariables false
set_option linter.unusedSimpArgs false

theorem plI_snoc {l : List En} {m : Int} {x : En} (h : x.1 ≠ m) : plI (l ++ [x]) m = plI l m := by
  rcases pla_cases l m with ⟨k, y, _, h2, h3, h4, h5, h6⟩ | ⟨_, h2, h3⟩
  · rw [h2]
    refine (plI_hit (x := y) ?_ h5 (fun j z hj hz => ?_)).2
    · rw [List.getElem?_append_left h3]; exact h4
    · rw [List.getElem?_append_left (by omega)] at hz
      exact h6 j z hj hz
  · rw [h2]
    refine (plI_miss (fun e he => ?_)).2
    rcases List.mem_append.1 he with he | he
    · exact h3 e he
    · rw [List.mem_singleton.1 he]; exact h

theorem plI_new {id ck : Int} {l : List En} {k : Nat} {x : En} (h : LsOk id ck l) (hx : l[k]? = some x) : plI (l.take (k + 1)) x.1 = k := by
  refine (plI_hit (x := x) ?_ rfl (fun j z hj hz e => ?_)).2
  · rw [List.getElem?_take_of_lt (by omega)]; exact hx
  · rw [List.getElem?_take_of_lt (by omega)] at hz
    obtain ⟨h1, e1⟩ := List.getElem?_eq_some_iff.1 hx
    obtain ⟨h2, e2⟩ := List.getElem?_eq_some_iff.1 hz
    have := (List.pairwise_iff_getElem.1 h.2 j k h2 h1 hj).2
    rw [e1, e2] at this
    exact this e

theorem lessM_bw {W : World} {a b c d : Int} {r : Bool} (h : lexB a b c d = r) (x : BW W) : Calls Try.prog 55 #[two a b, two c d] x.wd fun e w'' => e = .returned (.bool r) ∧ ∃ y : BW W, w'' = y.wd := BW.call x (lessM_as h _)

set_option maxRecDepth 100000 in
set_option maxHeartbeats 4000000 in
theorem finalIndex_as {n c : Nat} {A : Option Addr} {P D : List En} {id ck m st sg r : Int} (hv : Vd ⟨id, ck, P, D⟩) (hR : fxR ⟨id, ck, P, D⟩ m (st, sg) = r) (w : World) (hr : RdE w w.heap.size A n P) (hn : n < 1099511627776) :
    Calls Try.prog 35 #[.slice A n c, .int .i64 m, two st sg] w fun e w' => e = .returned (.int .i64 r) ∧ Below w.heap.size w w' := by
  have hl' := hid hr.len
  have hr' := hid hr
  have hS0 := hid (Cs.new w 29 #[.int .i64 st, .int .i64 sg])
  have hB0 := hid (below1 w (.cells #[.int .i64 st, .int .i64 sg] 29))
  have hv' := hid hv
  have hR' := hid hR
  clear hr hv hR
  go_enter Try.func35, Try.ntmps35
  go_wp2
  go_loopw [7, 12] (fun x i wr => ∃ (k : Nat) (p : Int), k ≤ n ∧ i = .int .i64 k ∧ x = .int .i64 p ∧ Hid (p = plI (P.take k) m) ∧ Hid (∀ y ∈ P.take k, y.1 ≠ m → y.2.1 ≠ (st, sg)) ∧ Hid (Cs wr w.heap.size 29 #[.int .i64 st, .int .i64 sg]) ∧ Hid (Below w.heap.size w wr)) (fun _ i _ => n - (intOf i).toNat)
  case atStart => exact ⟨0, -1, Nat.zero_le _, rfl, rfl, hid (by rw [List.take_zero]; rfl), hid (fun y hy => by rw [List.take_zero] at hy; cases hy), hS0, hB0⟩
  case round =>
    obtain ⟨k, p, hk, rfl, rfl, hp, hno, hS, hB⟩ := hrel
    by_cases hlt : k < n
    · obtain ⟨b, off, mx, tx, kx, fx, rfl, hx, hb, d0, d1, d2, d3⟩ := (hr'.out.below hB.out).at_ hlt
      have hB3 := hid (hB.out.alloc hB.out.size (.cells #[.int .i64 mx, .int .i64 tx, .int .i64 kx, .bool fx] 34))
      have hS3 := hid (hS.out.alloc (.cells #[.int .i64 mx, .int .i64 tx, .int .i64 kx, .bool fx] 34))
      obtain ⟨s0, s1, -, -⟩ := hS.out.two
      have hz := hS.out.lt
      have hmem : Hid (((mx, (tx, kx), fx) : En) ∈ P) := hid (List.mem_of_getElem? hx.out)
      have htk := hid (take_snocE hx.out)
      by_cases hm : mx = m
      · subst hm
        have hp2 : Hid (((k : Nat) : Int) = plI (P.take (k + 1)) mx) := hid (plI_new hv'.out.P hx.out).symm
        have hno2 : Hid (∀ y ∈ P.take (k + 1), y.1 ≠ mx → y.2.1 ≠ (st, sg)) := hid (fun y hy h1 => by
          rw [htk.out] at hy
          rcases List.mem_append.1 hy with hy | hy
          · exact hno.out y hy h1
          · rw [List.mem_singleton.1 hy] at h1; exact absurd rfl h1)
        go_wp2
        go_roundw
        case rel => exact ⟨k + 1, (k : Int), by omega, by go_num, rfl, hp2, hno2, hS3, hB3⟩
        case measure => simp [intOf]; omega
      · have hmb : (mx == m) = false := by simp [hm]
        by_cases hs : tx = st ∧ kx = sg
        · obtain ⟨rfl, rfl⟩ := hs
          obtain rfl : r = -1 := by
            rw [← hR'.out]
            unfold fxR
            rw [fx_taken hv'.out (y := (mx, (tx, kx), fx)) hmem.out hm rfl]; rfl
          go_wp2
          go_ret
          exact ⟨rfl, hB3.out⟩
        · have hp2 : Hid (p = plI (P.take (k + 1)) m) := hid (by rw [htk.out, plI_snoc (x := (mx, (tx, kx), fx)) hm]; exact hp.out)
          have hno2 : Hid (∀ y ∈ P.take (k + 1), y.1 ≠ m → y.2.1 ≠ (st, sg)) := hid (fun y hy h1 => by
            rw [htk.out] at hy
            rcases List.mem_append.1 hy with hy | hy
            · exact hno.out y hy h1
            · rw [List.mem_singleton.1 hy]
              intro e
              simp only [Prod.mk.injEq] at e
              exact hs e)
          by_cases hst : tx = st
          · subst hst
            have hks : (kx == sg) = false := by simp; exact fun e => hs ⟨rfl, e⟩
            go_wp2
            go_roundw
            case rel => exact ⟨k + 1, p, by omega, by go_num, rfl, hp2, hno2, hS3, hB3⟩
            case measure => simp [intOf]; omega
          · have hts : (tx == st) = false := by simp [hst]
            go_wp2
            go_roundw
            case rel => exact ⟨k + 1, p, by omega, by go_num, rfl, hp2, hno2, hS3, hB3⟩
            case measure => simp [intOf]; omega
    · obtain rfl : k = n := by omega
      have hT : Hid (P.take k = P) := hid (List.take_of_length_le (by rw [hl'.out]; omega))
      have S0 : ∀ x : BW wr, x.wd.cell? ⟨w.heap.size, 0, none⟩ = some (.int .i64 st) := fun x => x.cell hS.out.two.1
      have S1 : ∀ x : BW wr, x.wd.cell? ⟨w.heap.size, 1, none⟩ = some (.int .i64 sg) := fun x => x.cell hS.out.two.2.1
      rcases pla_cases P m with ⟨q, x, p1, p2, p3, p4, p5, -⟩ | ⟨-, p2, p3⟩
      · obtain rfl : p = (q : Int) := by rw [hp.out, hT.out]; exact p2
        have hqn : q < k := by rw [← hl'.out]; exact p3
        obtain ⟨b, off, mx, tx, kx, fx, rfl, hx, hb, d0, d1, d2, d3⟩ := (hr'.out.below hB.out).at_ hqn
        have ex : x = (mx, (tx, kx), fx) := by have := p4.symm.trans hx.out; injection this
        subst ex
        have hfx := fx_at hv'.out (m := m) (s := (st, sg)) p4 p5 (by rw [← hT.out]; exact hno.out)
        have q0 : (0 : Int) ≤ (q : Int) := by omega
        have q1 : (q : Int) < (k : Int) := by omega
        have qd : decide ((q : Int) < 0) = false := decide_eq_false (by omega)
        have C1 : ∀ x : BW wr, x.wd.cell? ⟨b, off + q * 4 + 1, none⟩ = some (.int .i64 tx) := fun x => x.cell d1
        have C2 : ∀ x : BW wr, x.wd.cell? ⟨b, off + q * 4 + 2, none⟩ = some (.int .i64 kx) := fun x => x.cell d2
        have C3 : ∀ x : BW wr, x.wd.cell? ⟨b, off + q * 4 + 3, none⟩ = some (.bool fx) := fun x => x.cell d3
        cases fx with
        | true =>
          obtain rfl : r = -1 := by
            rw [← hR'.out]
            unfold fxR
            rw [hfx]; rfl
          clear p1 p2 p3 p4 p5 hfx d0 d1 d2 d3 hx hR'
          go_wp2_with fail
          refine wp_region_below (by kernel_rfl) (by kernel_rfl) ?_
          repeat (go_big_quiet_step (fail))
          refine wpQuiet_nil ?_
          intro w1 hb1
          have hB1 := hid (hB.out.trans (hb1.mono hB.out.size))
          clear hb1 S0 S1 C1 C2 C3
          go_wp2
          go_ret
          exact ⟨rfl, hB1.out⟩
        | false =>
          cases hL : lexB st sg tx kx with
          | true =>
            obtain rfl : r = -1 := by
              rw [← hR'.out]
              unfold fxR
              rw [hfx]
              have : ltS (st, sg) (tx, kx) = true := hL
              simp [this]
            have hL' := hid hL
            clear p1 p2 p3 p4 p5 hfx d0 d1 d2 d3 hx hR' hL
            go_wp2_with fail
            refine wp_region_below (by kernel_rfl) (by kernel_rfl) ?_
            repeat (go_big_quiet_step ((go_at_call 55; exact lessM_bw hL'.out _)))
            refine wpQuiet_nil ?_
            intro w1 hb1
            have hB1 := hid (hB.out.trans (hb1.mono hB.out.size))
            clear hb1 S0 S1 C1 C2 C3
            go_wp2
            go_ret
            exact ⟨rfl, hB1.out⟩
          | false =>
            obtain rfl : r = (q : Int) := by
              rw [← hR'.out]
              unfold fxR
              rw [hfx]
              have : ltS (st, sg) (tx, kx) = false := hL
              simp [this, p2]
            have hL' := hid hL
            clear p1 p2 p3 p4 p5 hfx d0 d1 d2 d3 hx hR' hL
            go_wp2_with fail
            refine wp_region_below (by kernel_rfl) (by kernel_rfl) ?_
            repeat (go_big_quiet_step ((go_at_call 55; exact lessM_bw hL'.out _)))
            refine wpQuiet_nil ?_
            intro w1 hb1
            have hB1 := hid (hB.out.trans (hb1.mono hB.out.size))
            clear hb1 S0 S1 C1 C2 C3
            go_wp2
            go_ret
            exact ⟨rfl, hB1.out⟩
      · obtain rfl : p = -1 := by rw [hp.out, hT.out]; exact p2
        obtain rfl : r = -1 := by
          rw [← hR'.out]
          unfold fxR
          rw [fx_miss p2]; rfl
        clear p2 p3 hR'
        go_wp2_with fail
        refine wp_region_below (by kernel_rfl) (by kernel_rfl) ?_
        repeat (go_big_quiet_step (fail))
        refine wpQuiet_nil ?_
        intro w1 hb1
        have hB1 := hid (hB.out.trans (hb1.mono hB.out.size))
        clear hb1 S0 S1
        go_wp2
        go_ret
        exact ⟨rfl, hB1.out⟩
end Go.Proofs.Ytbnmeedmeikepaa
