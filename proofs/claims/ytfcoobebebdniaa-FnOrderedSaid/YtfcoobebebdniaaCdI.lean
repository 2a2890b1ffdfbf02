/-
  Contract of the model's CreditsAsk. No condition but lengths below 2^40.
-/
import Derived.Test.YtfcoobebebdniaaCdH
import Derived.Test.YtfcoobebebdniaaCdC
namespace Go.Proofs.Ytfcoobebebdniaa
open Go.RowKit
set_option linter.unusedVariables false
set_option linter.unusedSimpArgs false

/-- credits and whether it succeeded -/
def CrPost2 (r : Cr × Bool) (w : World) (e : Ending) (w' : World) : Prop := ∃ F H vals, e = .returned (.tuple #[crV F H, .bool r.2]) ∧ OwC w' w.heap.size F H vals r.1 ∧ Below w.heap.size w w'

theorem OwC.zero (w : World) (lo : Nat) : OwC w lo (.slice none 0 0) (.slice none 0 0) [] cr0 := OwC.nil (World.ownsRow_nil w _ _ _)

theorem CreditsValid_as {A1 A2 : Option Addr} {n1 n2 c1 c2 : Nat} {c : Cr} {r : Bool} (h : crB c = r) (w : World) (hr : RdC w A1 n1 A2 n2 c) :
    Calls Try.prog 34 #[crV (.slice A1 n1 c1) (.slice A2 n2 c2)] w fun e w' => e = .returned (.bool r) ∧ Below w.heap.size w w' := by
  subst h; exact CreditsValid_spec w hr

theorem l1Group_as {n : Int} {r : Bool} (h : grB n = r) (w : World) : Calls Try.prog 60 #[.int .i64 n] w fun e w' => e = .returned (.bool r) ∧ w = w' := by
  subst h; exact l1Group_any n w
/-- the two boxes of a call on credits: the argument, the result -/
structure Two0 (w W : World) (F H : Value) : Prop where
  b : Below w.heap.size w W
  a : Cs W w.heap.size 28 #[F, H]
  z : Cs W (w.heap.size + 1) 28 #[.slice none 0 0, .slice none 0 0]
  lt : w.heap.size + 1 < W.heap.size

theorem Two0.new (w : World) (F H : Value) : Two0 w ((w.alloc (.cells #[F, H] 28)).alloc (.cells #[.slice none 0 0, .slice none 0 0] 28)) F H :=
  ⟨below2 w _ _, (Cs.new w _ _).alloc _, Cs.new' _ _ _ (by simp), by simp⟩

theorem Two0.step {w W W' : World} {F H : Value} (h : Two0 w W F H) (hb : Below W.heap.size W W') : Two0 w W' F H :=
  ⟨h.b.trans (hb.mono (by have := h.lt; omega)), h.a.step hb, h.z.step hb, Nat.lt_of_lt_of_le h.lt hb.size⟩
/-- behind a return of owned credits by the result's box -/
theorem Two0.ret {w W : World} {F H F' H' : Value} {vals : List Value} {c' : Cr} {lo : Nat} (h : Two0 w W F H) (hO : OwC W lo F' H' vals c') (hlo : w.heap.size ≤ lo) :
    OwC ((W.setCell ⟨w.heap.size + 1, 0, none⟩ F').setCell ⟨w.heap.size + 1, 1, none⟩ H') w.heap.size F' H' vals c' ∧ Below w.heap.size w ((W.setCell ⟨w.heap.size + 1, 0, none⟩ F').setCell ⟨w.heap.size + 1, 1, none⟩ H') ∧
    Cs ((W.setCell ⟨w.heap.size + 1, 0, none⟩ F').setCell ⟨w.heap.size + 1, 1, none⟩ H') (w.heap.size + 1) 28 #[F', H'] :=
  ⟨((hO.one (p := ⟨w.heap.size + 1, 0, none⟩) (hO.off h.z (by decide) (by decide)) F').one (p := ⟨w.heap.size + 1, 1, none⟩) (hO.off h.z (by decide) (by decide)) H').more hlo,
    (h.b.setCell (p := ⟨w.heap.size + 1, 0, none⟩) (by simp) F').setCell (p := ⟨w.heap.size + 1, 1, none⟩) (by simp) H', (h.z.set 0 F').set 1 H'⟩

theorem Two0.stepB {w W W' : World} {F H : Value} {B : Nat} (h : Two0 w W F H) (hb : Below B W W') (hB : w.heap.size + 1 < B) : Two0 w W' F H :=
  ⟨h.b.trans (hb.mono (by omega)), h.a.below hb (by omega), h.z.below hb hB, Nat.lt_of_lt_of_le h.lt hb.size⟩
section
variable {c : Cr} {S G : Nat}

theorem ask_w (h : sdB c (S : Int) = true) (hg : grB (G : Int) = true) (hw : 0 ≤ (c.h S).2) : askR c S G = (c, false) := by
  unfold askR; rw [h, hg]; simp only [Int.toNat_natCast]; rw [if_pos (show (true && true) = true from rfl), if_pos (.inl hw)]

theorem ask_h (h : sdB c (S : Int) = true) (hg : grB (G : Int) = true) (hw : hasB (c.h S).1 (G : Int) = true) : askR c S G = (c, false) := by
  unfold askR; rw [h, hg]; simp only [Int.toNat_natCast]; rw [if_pos (show (true && true) = true from rfl), if_pos (.inr hw)]

theorem ask_t (h : sdB c (S : Int) = true) (hg : grB (G : Int) = true) (hw : ¬ 0 ≤ (c.h S).2) (hh : hasB (c.h S).1 (G : Int) = false) (h0 : 0 < c.f G) : askR c S G = (tak c S G, true) := by
  unfold askR; rw [h, hg]; simp only [Int.toNat_natCast]; rw [if_pos (show (true && true) = true from rfl), if_neg (by rw [hh]; simpa using hw), if_pos h0]

theorem ask_q (h : sdB c (S : Int) = true) (hg : grB (G : Int) = true) (hw : ¬ 0 ≤ (c.h S).2) (hh : hasB (c.h S).1 (G : Int) = false) (h0 : ¬ 0 < c.f G) : askR c S G = (⟨c.fr, c.hs.set S ((c.h S).1, (G : Int))⟩, true) := by
  unfold askR; rw [h, hg]; simp only [Int.toNat_natCast]; rw [if_pos (show (true && true) = true from rfl), if_neg (by rw [hh]; simpa using hw), if_neg h0]
end

set_option maxHeartbeats 4000000 in
theorem CreditsAsk_spec {A1 A2 : Option Addr} {n1 n2 c1 c2 : Nat} {c : Cr} (s g : Int) (w : World) (hr : RdC w A1 n1 A2 n2 c) :
    Calls Try.prog 25 #[crV (.slice A1 n1 c1) (.slice A2 n2 c2), .int .i64 s, .int .i64 g] w (CrPost2 (askR c s g) w) := by
  obtain ⟨W, hW⟩ : ∃ W, (w.alloc (.cells #[.slice A1 n1 c1, .slice A2 n2 c2] 28)).alloc (.cells #[.slice none 0 0, .slice none 0 0] 28) = W := ⟨_, rfl⟩
  have hT := hid (show Two0 w W (.slice A1 n1 c1) (.slice A2 n2 c2) by rw [← hW]; exact Two0.new w _ _)
  have hR := hid (show RdC W A1 n1 A2 n2 c by rw [← hW]; exact (hr.alloc _).alloc _)
  obtain ⟨l1, l2⟩ := hr.len
  have l1' := hid l1
  have l2' := hid l2
  have b2 := hr.b2
  replace hW := hid hW
  clear hr l1 l2
  obtain ⟨d0, d1, -, -⟩ := hT.out.a.two
  have hw2 : IntKind.i64.wrap ((n2 : Int) - 1) = (n2 : Int) - 1 := IntWalk.i64_in _ (by omega)
  cases hv : crB c with
  | false =>
    have hno : Hid (askR c s g = (cr0, false)) := hid (by unfold askR sdB; rw [hv]; rfl)
    have hv' := hid hv
    clear hv
    go_enter Try.func25, Try.ntmps25
    go_upto_region 1 with (fail)
    rw [hW.out]
    go_wp2_with fail
    refine (CreditsValid_as hv'.out _ hR.out).mono ?_
    rintro e w1 ⟨rfl, hb1⟩
    have hT1 := hid (hT.out.step hb1)
    obtain ⟨z0, z1, z2, z3⟩ := hT1.out.z.two
    obtain ⟨ro, rb, rc⟩ := hT1.out.ret (OwC.zero w1 w.heap.size) (Nat.le_refl _)
    replace ro := hid ro
    replace rb := hid rb
    obtain ⟨y0, y1, -, -⟩ := rc.two
    clear hb1 d0 d1 rc
    go_wp2
    refine bodyPost_ret (v := .tuple #[crV (.slice none 0 0) (.slice none 0 0), .bool false]) (by simp [results, Try.results25, go_sem, y0, y1]) rfl ?_
    rw [hno.out]
    exact ⟨_, _, _, rfl, ro.out, rb.out⟩
  | true =>
    have hv' := hid hv
    have v := hid (crB_true.1 hv)
    cases hin : inB s 0 ((n2 : Int) - 1) with
    | false =>
      have hno : Hid (askR c s g = (cr0, false)) := hid (by unfold askR sdB; rw [hv, l2'.out, hin]; rfl)
      have hin' := hid hin
      clear hv hin
      go_enter Try.func25, Try.ntmps25
      go_upto_region 1 with (fail)
      rw [hW.out]
      go_wp2_with fail
      refine (CreditsValid_as hv'.out _ hR.out).mono ?_
      rintro e w1 ⟨rfl, hb1⟩
      have hT1 := hid (hT.out.step hb1)
      obtain ⟨z0, z1, z2, z3⟩ := hT1.out.z.two
      obtain ⟨ro, rb, rc⟩ := hT1.out.ret (OwC.zero w1 w.heap.size) (Nat.le_refl _)
      replace ro := hid ro
      replace rb := hid rb
      obtain ⟨y0, y1, -, -⟩ := rc.two
      clear hb1 d0 d1 rc
      obtain ⟨d0, d1, -, -⟩ := hT1.out.a.two
      go_wp2_with (go_at_call 42; (with_reducible refine (l6In_as hin'.out _).mono ?_); rintro e w2 ⟨rfl, rfl⟩)
      refine bodyPost_ret (v := .tuple #[crV (.slice none 0 0) (.slice none 0 0), .bool false]) (by simp [results, Try.results25, go_sem, y0, y1]) rfl ?_
      rw [hno.out]
      exact ⟨_, _, _, rfl, ro.out, rb.out⟩
    | true =>
      have hin' := hid hin
      have hsd : sdB c s = true := by unfold sdB; rw [hv, l2'.out, hin]; rfl
      cases hg : grB g with
      | false =>
        have hno : Hid (askR c s g = (cr0, false)) := hid (by unfold askR; rw [hg, Bool.and_false]; rfl)
        have hg' := hid hg
        clear hv hin hg hsd
        go_enter Try.func25, Try.ntmps25
        go_upto_region 1 with (fail)
        rw [hW.out]
        go_wp2_with fail
        refine (CreditsValid_as hv'.out _ hR.out).mono ?_
        rintro e w1 ⟨rfl, hb1⟩
        have hT1 := hid (hT.out.step hb1)
        obtain ⟨z0, z1, z2, z3⟩ := hT1.out.z.two
        obtain ⟨ro, rb, rc⟩ := hT1.out.ret (OwC.zero w1 w.heap.size) (Nat.le_refl _)
        replace ro := hid ro
        replace rb := hid rb
        obtain ⟨y0, y1, -, -⟩ := rc.two
        clear hb1 d0 d1 rc
        obtain ⟨d0, d1, -, -⟩ := hT1.out.a.two
        go_wp2_with (first | (go_at_call 42; (with_reducible refine (l6In_as hin'.out _).mono ?_); rintro e w2 ⟨rfl, rfl⟩) | (go_at_call 60; (with_reducible refine (l1Group_as hg'.out _).mono ?_); rintro e w2 ⟨rfl, rfl⟩))
        refine bodyPost_ret (v := .tuple #[crV (.slice none 0 0) (.slice none 0 0), .bool false]) (by simp [results, Try.results25, go_sem, y0, y1]) rfl ?_
        rw [hno.out]
        exact ⟨_, _, _, rfl, ro.out, rb.out⟩
      | true =>
        have hg' := hid hg
        obtain ⟨h1, h2⟩ := grB_true.1 hg
        obtain ⟨h3, h4⟩ := inB_true.1 hin
        obtain ⟨S, rfl⟩ := Int.eq_ofNat_of_zero_le h3
        obtain ⟨G, rfl⟩ := Int.eq_ofNat_of_zero_le h1
        have hsd' := hid hsd
        have hS2 : S < n2 := by omega
        have hS : S < c.hs.length := by rw [l2'.out]; exact hS2
        have hG5 : G < 5 := by omega
        have hn5 : n1 = 5 := by rw [← l1'.out]; exact v.out.fl
        have hG : G < c.fr.length := by rw [l1'.out]; omega
        have s0 : (0 : Int) ≤ (S : Int) := by omega
        have s1 : (S : Int) < (n2 : Int) := by omega
        have g0 : (0 : Int) ≤ (G : Int) := by omega
        have g1 : (G : Int) < (n1 : Int) := by omega
        have hn1 : n1 < 1000000 := by omega
        have hn2 : n2 < 1000000 := by have := v.out.n6; rw [l2'.out] at this; omega
        replace hn5 := hid hn5
        clear hv hin hg hsd h1 h2 h3 h4
        go_enter Try.func25, Try.ntmps25
        go_upto_region 1 with (fail)
        rw [hW.out]
        go_wp2_with fail
        refine (CreditsValid_as hv'.out _ hR.out).mono ?_
        rintro e w1 ⟨rfl, hb1⟩
        have hT1 := hid (hT.out.step hb1)
        have hR1 := hid (hR.out.step hb1)
        clear hb1 d0 d1
        obtain ⟨d0, d1, -, -⟩ := hT1.out.a.two
        go_wp2_with (first | (go_at_call 42; (with_reducible refine (l6In_as hin'.out _).mono ?_); rintro e w2 ⟨rfl, rfl⟩) | (go_at_call 60; (with_reducible refine (l1Group_as hg'.out _).mono ?_); rintro e w2 ⟨rfl, rfl⟩))
        refine (l22Copy_any _ hR1.out hn1).mono ?_
        rintro e w3 ⟨F3, H3, vals3, rfl, hO3, hb3⟩
        have hT3 := hid (hT1.out.step hb3)
        have hR3 := hid (hR1.out.step hb3)
        have hlo := hT1.out.lt
        have hz3 := hb3.size
        obtain ⟨bF, cF, rfl, hF1, hF2⟩ := own_some hO3.f (by rw [l1'.out, hn5.out]; omega)
        obtain ⟨bH, cH, rfl, hH1, hH2⟩ := own_some hO3.h (by rw [l2'.out]; omega)
        rw [l1'.out, l2'.out] at hO3
        rw [l1'.out, l2'.out]
        obtain ⟨W4, hW4⟩ : ∃ W4, w3.alloc (.cells #[.slice (some ⟨bF, 0, none⟩) n1 cF, .slice (some ⟨bH, 0, none⟩) n2 cH] 28) = W4 := ⟨_, rfl⟩
        have hb4 : Below w3.heap.size w3 W4 := by rw [← hW4]; exact below1 w3 _
        have hT4 := hid (hT3.out.step hb4)
        have hR4 := hid (hR3.out.step hb4)
        have hO4 := hid (hO3.step hb4)
        have hU4 := hid (show Cs W4 w3.heap.size 28 #[.slice (some ⟨bF, 0, none⟩) n1 cF, .slice (some ⟨bH, 0, none⟩) n2 cH] by rw [← hW4]; exact Cs.new w3 _ _)
        have hz4 : w3.heap.size < W4.heap.size := by rw [← hW4]; simp
        have hW4' := hid hW4
        clear hb4 hW4 hO3 hb3 d0 d1 hT1 hT3 hR1 hR3
        go_upto_region 4 with (fail)
        rw [hW4'.out]
        clear hW4'
        obtain ⟨d0, d1, -, -⟩ := hT4.out.a.two
        obtain ⟨u0, u1, -, -⟩ := hU4.out.two
        obtain ⟨z0, z1, z2, z3⟩ := hT4.out.z.two
        obtain ⟨b, off, Ai, m, ci, rfl, hbb, hm, e0, e1, hri, hmc, hci, hml⟩ := hR4.out.at_ hS2
        obtain ⟨x, hx⟩ : ∃ x, (c.h S).2 = x := ⟨_, rfl⟩
        rw [hx] at e1
        by_cases hx0 : 0 ≤ x
        · have hq := hid (ask_w hsd'.out hg'.out (by rw [hx]; exact hx0))
          obtain ⟨ro, rb, rc⟩ := hT4.out.ret hO4.out (by omega)
          replace ro := hid ro
          replace rb := hid rb
          obtain ⟨y0, y1, -, -⟩ := rc.two
          clear rc hx
          go_wp2
          refine bodyPost_ret (v := .tuple #[crV (.slice (some ⟨bF, 0, none⟩) n1 cF) (.slice (some ⟨bH, 0, none⟩) n2 cH), .bool false]) (by simp [results, Try.results25, go_sem, y0, y1]) rfl ?_
          rw [hq.out]
          exact ⟨_, _, _, rfl, ro.out, rb.out⟩
        · have hxn := hid (show ¬ 0 ≤ (c.h S).2 by rw [hx]; exact hx0)
          cases hh : hasB (c.h S).1 (G : Int) with
          | true =>
            have hq := hid (ask_h hsd'.out hg'.out hh)
            have hh' := hid hh
            obtain ⟨ro, rb, rc⟩ := hT4.out.ret hO4.out (by omega)
            replace ro := hid ro
            replace rb := hid rb
            obtain ⟨y0, y1, -, -⟩ := rc.two
            clear rc hx hh
            go_wp2_with (go_at_call 62; (with_reducible refine (l1Has_cas hh'.out _ hri.out hml).mono ?_); rintro e w5 ⟨rfl, rfl⟩)
            refine bodyPost_ret (v := .tuple #[crV (.slice (some ⟨bF, 0, none⟩) n1 cF) (.slice (some ⟨bH, 0, none⟩) n2 cH), .bool false]) (by simp [results, Try.results25, go_sem, y0, y1]) rfl ?_
            rw [hq.out]
            exact ⟨_, _, _, rfl, ro.out, rb.out⟩
          | false =>
            have hh' := hid hh
            obtain ⟨f0, f1, -⟩ := hO4.out.setF hG 0
            obtain ⟨y, hy⟩ : ∃ y, c.f G = y := ⟨_, rfl⟩
            rw [hy] at f0
            by_cases hy0 : 0 < y
            · have hq := hid (ask_t hsd'.out hg'.out hxn.out hh (by rw [hy]; exact hy0))
              have htk := hid (l22Take_any hO4.out hS hG (by omega) (by rw [l1'.out]; exact hn1) (by rw [l2'.out]; exact hn2) (fun h hh => by
                obtain ⟨i, hi, rfl⟩ := List.getElem_of_mem hh
                have e : c.h i = c.hs[i] := h_at (List.getElem?_eq_getElem hi)
                have := set_len (v.out.set i hi)
                rw [e] at this; omega) (by have := v.out.fr G hG5; omega))
              clear hx hh hy
              go_wp2_with (first | (go_at_call 62; (with_reducible refine (l1Has_cas hh'.out _ hri.out hml).mono ?_); rintro e w5 ⟨rfl, rfl⟩) | fail)
              refine htk.out.mono ?_
              rintro e w6 ⟨vals6, rfl, hO6, hb6⟩
              have hT6 := hid (hT4.out.stepB hb6 (by omega))
              obtain ⟨ro, rb, rc⟩ := hT6.out.ret hO6 (by omega)
              replace ro := hid ro
              replace rb := hid rb
              obtain ⟨y0, y1, -, -⟩ := rc.two
              obtain ⟨z0, z1, z2, z3⟩ := hT6.out.z.two
              clear rc hO6 hb6
              go_wp2
              refine bodyPost_ret (v := .tuple #[crV (.slice (some ⟨bF, 0, none⟩) n1 cF) (.slice (some ⟨bH, 0, none⟩) n2 cH), .bool true]) (by simp [results, Try.results25, go_sem, y0, y1]) rfl ?_
              rw [hq.out]
              exact ⟨_, _, _, rfl, ro.out, rb.out⟩
            · have hq := hid (ask_q hsd'.out hg'.out hxn.out hh (by rw [hy]; exact hy0))
              obtain ⟨k0, k1, hO7⟩ := hO4.out.setW hS (G : Int)
              have k2 := k1 (S * 2 + 1)
              rw [hx] at k0
              have hT7 := hid (hT4.out.stepB (W' := W4.setCell ⟨bH, S * 2 + 1, none⟩ (.int .i64 (G : Int))) ((Below.refl w1.heap.size W4).setCell (p := ⟨bH, S * 2 + 1, none⟩) hH1 _) hlo)
              have hU7 := hU4.out.far (p := ⟨bH, S * 2 + 1, none⟩) (by show w3.heap.size ≠ bH; omega) (.int .i64 (G : Int))
              obtain ⟨W7, hW7⟩ : ∃ W7, W4.setCell ⟨bH, S * 2 + 1, none⟩ (.int .i64 (G : Int)) = W7 := ⟨_, rfl⟩
              rw [hW7] at hO7 hT7 hU7
              have hW7' := hid hW7
              obtain ⟨ro, rb, rc⟩ := hT7.out.ret hO7 (by omega)
              replace ro := hid ro
              replace rb := hid rb
              obtain ⟨y0, y1, -, -⟩ := rc.two
              obtain ⟨q0, q1, q2, q3⟩ := hT7.out.z.two
              obtain ⟨p0, p1, -, -⟩ := hU7.two
              clear rc hO7 hx hh hy hW7 k1 hU7
              go_upto_region 9 with (go_at_call 62; (with_reducible refine (l1Has_cas hh'.out _ hri.out hml).mono ?_); rintro e w5 ⟨rfl, rfl⟩)
              rw [hW7'.out]
              clear hW7' d0 d1 u0 u1 z0 z1 z2 z3 e0 e1 f0 f1 k0 k2
              go_wp2
              refine bodyPost_ret (v := .tuple #[crV (.slice (some ⟨bF, 0, none⟩) n1 cF) (.slice (some ⟨bH, 0, none⟩) n2 cH), .bool true]) (by simp [results, Try.results25, go_sem, y0, y1]) rfl ?_
              rw [hq.out]
              exact ⟨_, _, _, rfl, ro.out, rb.out⟩
end Go.Proofs.Ytfcoobebebdniaa
