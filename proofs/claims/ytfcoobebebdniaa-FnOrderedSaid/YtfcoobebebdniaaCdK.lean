/-
  Contracts of the model's CreditsNew and CreditsOrdered. No condition but lengths below 2^40.
-/
import Derived.Test.YtfcoobebebdniaaCdI
import Derived.Test.YtfcoobebebdniaaCdD
import Derived.Deep.QuietTactic
namespace Go.Proofs.Ytfcoobebebdniaa
open Go.RowKit
set_option linter.unusedVariables false
set_option linter.unusedSimpArgs false

/-- the one box of a call that makes credits: the result -/
structure One0 (w W : World) : Prop where
  b : Below w.heap.size w W
  z : Cs W w.heap.size 28 #[.slice none 0 0, .slice none 0 0]
  lt : w.heap.size < W.heap.size

theorem One0.new (w : World) : One0 w (w.alloc (.cells #[.slice none 0 0, .slice none 0 0] 28)) := ⟨below1 w _, Cs.new w _ _, by simp⟩

theorem One0.step {w W W' : World} (h : One0 w W) (hb : Below W.heap.size W W') : One0 w W' := ⟨h.b.trans (hb.mono (by have := h.lt; omega)), h.z.step hb, Nat.lt_of_lt_of_le h.lt hb.size⟩

theorem One0.ret {w W : World} {F' H' : Value} {vals : List Value} {c' : Cr} {lo : Nat} (h : One0 w W) (hO : OwC W lo F' H' vals c') (hlo : w.heap.size ≤ lo) :
    OwC ((W.setCell ⟨w.heap.size, 0, none⟩ F').setCell ⟨w.heap.size, 1, none⟩ H') w.heap.size F' H' vals c' ∧ Below w.heap.size w ((W.setCell ⟨w.heap.size, 0, none⟩ F').setCell ⟨w.heap.size, 1, none⟩ H') ∧
    Cs ((W.setCell ⟨w.heap.size, 0, none⟩ F').setCell ⟨w.heap.size, 1, none⟩ H') w.heap.size 28 #[F', H'] :=
  ⟨((hO.one (p := ⟨w.heap.size, 0, none⟩) (hO.off h.z (by decide) (by decide)) F').one (p := ⟨w.heap.size, 1, none⟩) (hO.off h.z (by decide) (by decide)) H').more hlo,
    (h.b.setCell (p := ⟨w.heap.size, 0, none⟩) (Nat.le_refl _) F').setCell (p := ⟨w.heap.size, 1, none⟩) (Nat.le_refl _) H', (h.z.set 0 F').set 1 H'⟩

theorem wpList_appHo' {w : World} {ops : Array Oper} {rest : List Oper} {o : Oper} {a : Act} {Q : Exit → Act → World → Prop} (hgd : o.guard = none) (s x : Operand)
    (ho : o.op = .call { callee := .builtin .append, args := #[s, x], argTypes := #[26, 26] })
    (lo : Nat) (A : Option Addr) (m ci : Nat) (z : Int) (H : Value) (n : Nat) (xs : List Value) {b : Nat} (hb : w.heap.size = b) (hs : a.eval s = H) (hx : a.eval x = .slice (some ⟨b, 0, none⟩) 1 1) (hown : w.ownsRow lo 33 2 H n xs) (hB : lo ≤ w.heap.size) (hn : n < 1099511627776)
    (h : ∀ H' w', w'.ownsRow lo 33 2 H' (n + 1) (xs ++ [.slice A m ci, .int .i64 z]) → w.grownBy w' H.ownBlock → wpList Try.prog ops Q rest (a.put o.dst H') w') :
    wpList Try.prog ops Q (o :: rest) a (w.alloc (.cells #[.slice A m ci, .int .i64 z] 33)) := by
  subst hb
  exact wpList_appHo hgd s x ho lo A m ci z H n xs hs hx hown hB hn h

set_option maxHeartbeats 4000000 in
theorem CreditsNew_spec {A : Option Addr} {n c : Nat} {fr : List Int} (s : Int) (w : World) (hr : RdI w w.heap.size A n fr) (hn : n < 1099511627776) :
    Calls Try.prog 18 #[.slice A n c, .int .i64 s] w (CrPost2 (crNew fr s) w) := by
  obtain ⟨W, hW⟩ : ∃ W, w.alloc (.cells #[.slice none 0 0, .slice none 0 0] 28) = W := ⟨_, rfl⟩
  have hT := hid (show One0 w W by rw [← hW]; exact One0.new w)
  have hR := hid (show RdI W w.heap.size A n fr by rw [← hW]; exact Reads.alloc hr (Nat.le_refl _) _)
  have hl := hid hr.len
  replace hW := hid hW
  clear hr
  cases hf : frB fr with
  | false =>
    have hno : Hid (crNew fr s = (cr0, false)) := hid (by unfold crNew; rw [hf]; rfl)
    have hf' := hid hf
    clear hf
    obtain ⟨ro, rb, rc⟩ := hT.out.ret (OwC.zero W w.heap.size) (Nat.le_refl _)
    replace ro := hid ro
    replace rb := hid rb
    obtain ⟨y0, y1, -, -⟩ := rc.two
    obtain ⟨z0, z1, z2, z3⟩ := hT.out.z.two
    clear rc
    go_enter Try.func18, Try.ntmps18
    go_upto_region 1 with (fail)
    rw [hW.out]
    go_wp2_with (go_at_call 41; (with_reducible refine (l22Free_as hf'.out _ hR.out hn).mono ?_); rintro e w1 ⟨rfl, rfl⟩)
    refine bodyPost_ret (v := .tuple #[crV (.slice none 0 0) (.slice none 0 0), .bool false]) (by simp [results, Try.results18, go_sem, y0, y1]) rfl ?_
    rw [hno.out]
    exact ⟨_, _, _, rfl, ro.out, rb.out⟩
  | true =>
    have hf' := hid hf
    cases hi : inB s 1 6 with
    | false =>
      have hno : Hid (crNew fr s = (cr0, false)) := hid (by unfold crNew; rw [hf, hi]; rfl)
      have hi' := hid hi
      clear hf hi
      obtain ⟨ro, rb, rc⟩ := hT.out.ret (OwC.zero W w.heap.size) (Nat.le_refl _)
      replace ro := hid ro
      replace rb := hid rb
      obtain ⟨y0, y1, -, -⟩ := rc.two
      obtain ⟨z0, z1, z2, z3⟩ := hT.out.z.two
      clear rc
      go_enter Try.func18, Try.ntmps18
      go_upto_region 1 with (fail)
      rw [hW.out]
      go_wp2_with (first | (go_at_call 41; (with_reducible refine (l22Free_as hf'.out _ hR.out hn).mono ?_); rintro e w1 ⟨rfl, rfl⟩) | (go_at_call 42; (with_reducible refine (l6In_as hi'.out _).mono ?_); rintro e w1 ⟨rfl, rfl⟩))
      refine bodyPost_ret (v := .tuple #[crV (.slice none 0 0) (.slice none 0 0), .bool false]) (by simp [results, Try.results18, go_sem, y0, y1]) rfl ?_
      rw [hno.out]
      exact ⟨_, _, _, rfl, ro.out, rb.out⟩
    | true =>
      obtain ⟨s1, s6⟩ := inB_true.1 hi
      obtain ⟨S, rfl⟩ := Int.eq_ofNat_of_zero_le (show 0 ≤ s by omega)
      have hyes : Hid (crNew fr (S : Int) = (⟨fr, List.replicate S ([], -1)⟩, true)) := hid (by unfold crNew; rw [hf, hi]; rfl)
      have hi' := hid hi
      have hS6 : S ≤ 6 := by omega
      have hlit := hid (OwI.lit0 W rfl)
      have hF2 := hid (show RdI (W.alloc (.cells #[] 3)) w.heap.size A n fr from Reads.alloc hR.out hT.out.b.size _)
      have hlt := hT.out.lt
      clear hf hi s1 s6
      go_enter Try.func18, Try.ntmps18
      go_upto_region 1 with (fail)
      rw [hW.out]
      go_wp2_with (first | (go_at_call 41; (with_reducible refine (l22Free_as hf'.out _ hR.out hn).mono ?_); rintro e w1 ⟨rfl, rfl⟩) | (go_at_call 42; (with_reducible refine (l6In_as hi'.out _).mono ?_); rintro e w1 ⟨rfl, rfl⟩) | (at_builtin; refine wpList_appH2 rfl (.tmp 17) (.tmp 18) rfl (B := W.heap.size) (v := .slice (some ⟨W.heap.size, 0, none⟩) 0 0) (zs := []) rfl rfl hlit.out hF2.out (by simp) (by simp; omega) ?_; intro v1 w1 hv1 hg1 hk1; rw [List.nil_append] at hv1; obtain ⟨B1, C1, rfl, -⟩ := hv1.form))
      have hb1 := hid (show Below W.heap.size W w1 from ((below1 W (.cells #[] 3)).grown hg1 (by simp) (fun k h => by injection h with h; simp only at h; omega)))
      have hz1 := hb1.out.size
      obtain ⟨W4, hW4⟩ : ∃ W4, w1.alloc (.cells #[.slice B1 fr.length C1, .slice none 0 0] 28) = W4 := ⟨_, rfl⟩
      have hb4 := hid (show Below W.heap.size W W4 by rw [← hW4]; exact hb1.out.alloc hz1 _)
      have hO4 := hid (show OwC W4 W.heap.size (.slice B1 fr.length C1) (.slice none 0 0) [] ⟨fr, List.replicate 0 ([], -1)⟩ by
        rw [← hW4]
        exact OwC.nil (own_of_block hv1 fun g hg => Below.heap_alloc w1 _ g (hv1.lt g hg).2))
      have hU4 := hid (show Cs W4 w1.heap.size 28 #[.slice B1 fr.length C1, .slice none 0 0] by rw [← hW4]; exact Cs.new w1 _ _)
      have hW4' := hid hW4
      clear hlit hF2 hg1 hk1 hv1 hW4 hb1
      rw [hW4'.out]
      go_wp2
      go_loopw [7] (fun i wr => ∃ (k : Nat) (H : Value) (vals : List Value), k ≤ S ∧ i = .int .i64 k ∧ Hid (OwC wr W.heap.size (.slice B1 fr.length C1) H vals ⟨fr, List.replicate k ([], -1)⟩) ∧ Hid (Cs wr w1.heap.size 28 #[.slice B1 fr.length C1, H]) ∧ Hid (Below W.heap.size W wr)) (fun i _ => S - (intOf i).toNat)
      case atStart => exact ⟨0, _, [], Nat.zero_le _, rfl, hO4, hU4, hb4⟩
      case round =>
        clear hO4 hU4 hb4
        obtain ⟨k, H, vals, hk, rfl, hO, hU, hb⟩ := hrel
        have hbz := hb.out.size
        have hUl := hU.out.lt
        by_cases hlt2 : k < S
        · have i0 : (0 : Int) ≤ (k : Int) := by omega
          have i1 : (k : Int) < (S : Int) := by omega
          have hU5 := hid (show Cs (wr.alloc (.cells #[] 3)) w1.heap.size 28 #[.slice B1 fr.length C1, H] from hU.out.alloc _)
          have hO5 := hid (show OwC (wr.alloc (.cells #[] 3)) W.heap.size (.slice B1 fr.length C1) H vals ⟨fr, List.replicate k ([], -1)⟩ from hO.out.step (below1 wr _))
          have hb5 := hid (show Below W.heap.size W (wr.alloc (.cells #[] 3)) from hb.out.alloc hbz _)
          obtain ⟨y0, y1, -, -⟩ := hU.out.two
          have hkn : Hid ((List.replicate k (([], -1) : Ho)).length = k) := hid (by simp)
          have hrep : Hid (List.replicate (k + 1) (([], -1) : Ho) = List.replicate k ([], -1) ++ [([], -1)]) := hid (by rw [List.replicate_succ'])
          have hH5 := hid (show World.ownsRow (wr.alloc (.cells #[] 3)) W.heap.size 33 2 H k (hcs vals (List.replicate k ([], -1))) from by have := hO5.out.h; rw [hkn.out] at this; exact this)
          have hsz5 : (wr.alloc (.cells #[] 3)).heap.size = wr.heap.size + 1 := by simp
          go_wp2_with (at_builtin; refine wpList_appHo' rfl (.tmp 27) (.tmp 30) rfl W.heap.size (some ⟨wr.heap.size, 0, none⟩) 0 0 (-1) H k (hcs vals (List.replicate k ([], -1))) hsz5 rfl rfl hH5.out (by omega) (by omega) ?_; intro H8 w8 hH8 hg8; obtain ⟨A8, N8, C8, rfl, hN8⟩ := own_formN hH8; have hU8 := hid (show Cs w8 w1.heap.size 28 #[.slice B1 fr.length C1, H] from grown_cs hU5.out hg8 (cs_type hU5.out hO5.out.h (by decide))); obtain ⟨-, u1, -, -⟩ := hU8.out.two; have u2 := hU8.out.frozen 1)
          have hO8 := hid (hO5.out.app (v := .slice (some ⟨wr.heap.size, 0, none⟩) 0 0) (zs := []) (x := -1) (own_lo (OwI.lit0 wr rfl) (by omega)) (fun g hg hbk => by injection hg with hg; simp only at hg; have := (hO.out.lt hbk).2; omega) (by rw [hkn.out]; exact hH8) hg8)
          have hb8 := hid (hb5.out.grown hg8 (by omega) (fun g hg => (hO5.out.lt (.inr (.inl hg))).1))
          rw [← hrep.out] at hO8
          obtain ⟨W9, hW9⟩ : ∃ W9, w8.setCell ⟨w1.heap.size, 1, none⟩ (.slice A8 N8 C8) = W9 := ⟨_, rfl⟩
          have hO9 := hid (show OwC W9 W.heap.size (.slice B1 fr.length C1) (.slice A8 N8 C8) (vals ++ [.slice (some ⟨wr.heap.size, 0, none⟩) 0 0]) ⟨fr, List.replicate (k + 1) ([], -1)⟩ by rw [← hW9]; exact hO8.out.one (p := ⟨w1.heap.size, 1, none⟩) (hO8.out.off hU8.out (by decide) (by decide)) _)
          have hU9 := hid (show Cs W9 w1.heap.size 28 #[.slice B1 fr.length C1, .slice A8 N8 C8] by rw [← hW9]; exact hU8.out.set 1 _)
          have hb9 := hid (show Below W.heap.size W W9 by rw [← hW9]; exact hb8.out.setCell (p := ⟨w1.heap.size, 1, none⟩) hz1 _)
          rw [hW9]
          clear hU5 hO5 hb5 hO8 hU8 hb8 y0 y1 u1 u2 hH8 hg8 hW9 hH5
          go_wp2
          go_roundw
          case rel => exact ⟨k + 1, _, _, by omega, by go_num, hO9, hU9, hb9⟩
          case measure => simp [intOf]; omega
        · obtain rfl : k = S := by omega
          obtain ⟨u0, u1, -, -⟩ := hU.out.two
          have hTr := hid (hT.out.step hb.out)
          obtain ⟨z0, z1, z2, z3⟩ := hTr.out.z.two
          have hkk : ¬ ((k : Int) < (k : Int)) := by omega
          obtain ⟨A9, N9, C9, e9, hN9⟩ := own_formN hO.out.h
          subst e9
          obtain ⟨ro, rb, rc⟩ := hTr.out.ret hO.out hT.out.b.size
          replace ro := hid ro
          replace rb := hid rb
          obtain ⟨r0, r1, -, -⟩ := rc.two
          clear rc hO hU hb
          go_wp2
          refine bodyPost_ret (v := .tuple #[crV (.slice B1 fr.length C1) (.slice A9 N9 C9), .bool true]) (by simp [results, Try.results18, go_sem, r0, r1]) rfl ?_
          rw [hyes.out]
          exact ⟨_, _, _, rfl, ro.out, rb.out⟩

set_option maxHeartbeats 4000000 in
theorem CreditsOrdered_spec {A1 A2 : Option Addr} {n1 n2 c1 c2 : Nat} {c : Cr} (w : World) (hr : RdC w A1 n1 A2 n2 c) :
    Calls Try.prog 36 #[crV (.slice A1 n1 c1) (.slice A2 n2 c2)] w fun e w' => e = .returned (.bool (orB c)) ∧ Below w.heap.size w w' := by
  obtain ⟨W, hW⟩ : ∃ W, w.alloc (.cells #[.slice A1 n1 c1, .slice A2 n2 c2] 28) = W := ⟨_, rfl⟩
  have hB := hid (show Below w.heap.size w W by rw [← hW]; exact below1 w _)
  have hC := hid (show Cs W w.heap.size 28 #[.slice A1 n1 c1, .slice A2 n2 c2] by rw [← hW]; exact Cs.new w _ _)
  have hR := hid (show RdC W A1 n1 A2 n2 c by rw [← hW]; exact hr.alloc _)
  have l2' := hid hr.len.2
  have b2 := hr.b2
  replace hW := hid hW
  clear hr
  obtain ⟨d0, d1, -, -⟩ := hC.out.two
  cases hv : crB c with
  | false =>
    have hno : Hid (orB c = false) := hid (by unfold orB; rw [hv]; rfl)
    have hv' := hid hv
    clear hv
    go_enter Try.func36, Try.ntmps36
    go_upto_region 1 with (fail)
    rw [hW.out]
    go_wp2_with fail
    refine (CreditsValid_as hv'.out _ hR.out).mono ?_
    rintro e w1 ⟨rfl, hb⟩
    have hb' := hid (hB.out.trans (hb.mono hB.out.size))
    clear hb
    go_wp2
    go_ret
    exact ⟨ret_bool hno.out.symm, hb'.out⟩
  | true =>
    have hyes : Hid (orB c = c.hs.all ohB) := hid (by unfold orB; rw [hv]; rfl)
    have hv' := hid hv
    clear hv
    go_enter Try.func36, Try.ntmps36
    go_upto_region 1 with (fail)
    rw [hW.out]
    go_wp2_with fail
    refine (CreditsValid_as hv'.out _ hR.out).mono ?_
    rintro e w1 ⟨rfl, hb⟩
    have hb1 := hid (hB.out.trans (hb.mono hB.out.size))
    have hC1 := hid (hC.out.step hb)
    have hR1 := hid (hR.out.step hb)
    clear hb d0 d1 hB hC hR
    go_wp2
    go_loopw [3] (fun i wr => ∃ k : Nat, k ≤ n2 ∧ i = .int .i64 k ∧ Hid (Below w1.heap.size w1 wr) ∧ Hid (∀ j, j < k → ohB (c.h j) = true)) (fun i _ => n2 - (intOf i).toNat)
    case atStart => exact ⟨0, Nat.zero_le _, rfl, hid (Below.refl _ _), hid (fun j h => by omega)⟩
    case round =>
      obtain ⟨k, hk, rfl, hbr, hall⟩ := hrel
      obtain ⟨d0, d1, -, -⟩ := (hC1.out.step hbr.out).two
      have hRw := hid (hR1.out.step hbr.out)
      have hBw := hid (hb1.out.trans (hbr.out.mono hb1.out.size))
      by_cases hlt : k < n2
      · have hkl : k < c.hs.length := by rw [l2'.out]; exact hlt
        have i0 : (0 : Int) ≤ (k : Int) := by omega
        have i1 : (k : Int) < (n2 : Int) := by omega
        obtain ⟨b, off, Ai, m, ci, rfl, hb, hm, e0, e1, hri, hmc, hci, hml⟩ := hRw.out.at_ hlt
        obtain ⟨x, hx⟩ : ∃ x, (c.h k).2 = x := ⟨_, rfl⟩
        obtain ⟨zs, hzs⟩ : ∃ zs, (c.h k).1 = zs := ⟨_, rfl⟩
        have hhk : Hid (c.h k = (zs, x)) := hid (by rw [← hx, ← hzs])
        rw [hx] at e1
        rw [hzs] at hm hri
        obtain ⟨W2, hW2⟩ : ∃ W2, wr.alloc (.cells #[.slice Ai m ci, .int .i64 x] 33) = W2 := ⟨_, rfl⟩
        have hC2 := hid (show Cs W2 wr.heap.size 33 #[.slice Ai m ci, .int .i64 x] by rw [← hW2]; exact Cs.new wr _ _)
        have hbr2 := hid (show Below w1.heap.size w1 W2 by rw [← hW2]; exact hbr.out.alloc hbr.out.size _)
        have hri2 := hid (show RdI W2 wr.heap.size Ai m zs by rw [← hW2]; exact Reads.alloc hri.out (Nat.le_refl _) _)
        obtain ⟨p0, p1, -, -⟩ := hC2.out.two
        have hBw2 := hid (hb1.out.trans (hbr2.out.mono hb1.out.size))
        have hbq := hid (fun (q : Nat) => show Below w1.heap.size w1 (W2.drewN q) from ⟨hbr2.out.os, hbr2.out.tape, hbr2.out.output, hbr2.out.size, hbr2.out.block⟩)
        have hBq := hid (fun (q : Nat) => show Below w.heap.size w (W2.drewN q) from ⟨hBw2.out.os, hBw2.out.tape, hBw2.out.output, hBw2.out.size, hBw2.out.block⟩)
        replace hW2 := hid hW2
        clear hx hzs hri hRw hbr hBw
        by_cases h0 : 0 ≤ x
        · by_cases hm0 : m = 0
          · have R : Hid (ohB (c.h k) = true) := hid (by rw [hhk.out]; unfold ohB; simp [hm.out, hm0])
            subst hm0
            go_upto_region 7 with (fail)
            rw [hW2.out]
            clear d0 d1 e0 e1
            go_quiet (fail)
            go_wp2
            go_roundw
            case rel => exact ⟨k + 1, by omega, by go_num, hid (hbq.out _), hid (fun j hj => by
                  by_cases e : j = k
                  · subst e; exact R.out
                  · exact hall.out j (by omega))⟩
            case measure => simp [intOf]; omega
          · obtain ⟨q, rfl⟩ : ∃ q, m = q + 1 := ⟨m - 1, by omega⟩
            obtain ⟨ad, y, e9, hy, hcy⟩ := RdI.at' hri2.out (show q < q + 1 by omega)
            subst e9
            have g0 : (0 : Int) < ((q + 1 : Nat) : Int) := by omega
            have hwq : IntKind.i64.wrap (((q + 1 : Nat) : Int) - 1) = (q : Int) := by rw [IntWalk.i64_in _ (by omega)]; omega
            have q0 : (0 : Int) ≤ (q : Int) := by omega
            have q1 : (q : Int) < ((q + 1 : Nat) : Int) := by omega
            have hlast : Hid (ohB (c.h k) = !decide (x < y)) := hid (by
              rw [hhk.out]; unfold ohB
              simp only [hm.out, Nat.add_sub_cancel, hy.out, h0, decide_true, Bool.true_and]
              simp)
            clear hm0 hy
            by_cases hxy : x < y
            · have R : Hid (ohB (c.h k) = false) := hid (by rw [hlast.out]; simp [hxy])
              have hno := hid (show c.hs.all ohB = false by rw [List.all_eq_false]; exact ⟨_, List.mem_of_getElem? (at_h hkl), by rw [R.out]; simp⟩)
              go_upto_region 7 with (fail)
              rw [hW2.out]
              clear d0 d1 e0 e1
              go_quiet (fail)
              go_wp2
              go_ret
              exact ⟨ret_bool (by rw [hyes.out, hno.out]), hBq.out _⟩
            · have R : Hid (ohB (c.h k) = true) := hid (by rw [hlast.out]; simp [hxy])
              go_upto_region 7 with (fail)
              rw [hW2.out]
              clear d0 d1 e0 e1
              go_quiet (fail)
              go_wp2
              go_roundw
              case rel => exact ⟨k + 1, by omega, by go_num, hid (hbq.out _), hid (fun j hj => by
                    by_cases e : j = k
                    · subst e; exact R.out
                    · exact hall.out j (by omega))⟩
              case measure => simp [intOf]; omega
        · have R : Hid (ohB (c.h k) = true) := hid (by rw [hhk.out]; unfold ohB; simp [h0])
          go_upto_region 7 with (fail)
          rw [hW2.out]
          clear d0 d1 e0 e1
          go_quiet (fail)
          go_wp2
          go_roundw
          case rel => exact ⟨k + 1, by omega, by go_num, hid (hbq.out _), hid (fun j hj => by
                by_cases e : j = k
                · subst e; exact R.out
                · exact hall.out j (by omega))⟩
          case measure => simp [intOf]; omega
      · obtain rfl : k = n2 := by omega
        have hyes2 := hid (show c.hs.all ohB = true by
          rw [List.all_eq_true]
          intro x hx
          obtain ⟨j, hj, rfl⟩ := List.getElem_of_mem hx
          have e : c.h j = c.hs[j] := h_at (List.getElem?_eq_getElem hj)
          rw [← e]
          exact hall.out j (by rw [l2'.out] at hj; exact hj))
        have hkn : ¬ ((k : Int) < (k : Int)) := by omega
        go_wp2
        go_ret
        exact ⟨ret_bool (by rw [hyes.out, hyes2.out]), hBw.out⟩
end Go.Proofs.Ytfcoobebebdniaa
