/-
  Contract of the program's CreditsAsk. No condition but lengths below 2^40.
-/
import Derived.Test.YtgeihcbiahnnaaaCeI
namespace Go.Proofs.Ytgeihcbiahnnaaa
open Go.RowKit
set_option linter.unusedVariables false
set_option linter.unusedSimpArgs false

set_option maxHeartbeats 400000 in
theorem hasSender_any {A1 A2 : Option Addr} {n1 n2 c1 c2 : Nat} (s : Int) (w : World) :
    Calls Try.prog 48 #[crV (.slice A1 n1 c1) (.slice A2 n2 c2), .int .i64 s] w fun e w' => e = .returned (.bool (inB s 0 ((n2 : Int) - 1))) ∧ Below w.heap.size w w' := by
  have hB := hid (below1 w (.cells #[.slice A1 n1 c1, .slice A2 n2 c2] 25))
  by_cases h0 : 0 ≤ s
  · by_cases h9 : s < (n2 : Int)
    · have R := hid (show inB s 0 ((n2 : Int) - 1) = true from inB_true.2 ⟨by omega, by omega⟩)
      go_enter Try.func48, Try.ntmps48
      go_wp2
      go_ret
      exact ⟨by rw [R.out]; rfl, hB.out⟩
    · have R := hid (show inB s 0 ((n2 : Int) - 1) = false by rw [Bool.eq_false_iff]; intro e; have := inB_true.1 e; omega)
      go_enter Try.func48, Try.ntmps48
      go_wp2
      go_ret
      exact ⟨by rw [R.out]; rfl, hB.out⟩
  · have R := hid (show inB s 0 ((n2 : Int) - 1) = false by rw [Bool.eq_false_iff]; intro e; have := inB_true.1 e; omega)
    go_enter Try.func48, Try.ntmps48
    go_wp2
    go_ret
    exact ⟨by rw [R.out]; rfl, hB.out⟩

theorem hasSender_as {A1 A2 : Option Addr} {n1 n2 c1 c2 : Nat} {s : Int} {r : Bool} (h : inB s 0 ((n2 : Int) - 1) = r) (w : World) :
    Calls Try.prog 48 #[crV (.slice A1 n1 c1) (.slice A2 n2 c2), .int .i64 s] w fun e w' => e = .returned (.bool r) ∧ Below w.heap.size w w' := by
  subst h; exact hasSender_any s w
/-- the argument's box holds other credits from now on -/
theorem Two0.put {w W : World} {F H F' H' : Value} (h : Two0 w W F H) : Two0 w ((W.setCell ⟨w.heap.size, 0, none⟩ F').setCell ⟨w.heap.size, 1, none⟩ H') F' H' :=
  ⟨(h.b.setCell (p := ⟨w.heap.size, 0, none⟩) (Nat.le_refl _) F').setCell (p := ⟨w.heap.size, 1, none⟩) (Nat.le_refl _) H', (h.a.set 0 F').set 1 H',
    (h.z.far (p := ⟨w.heap.size, 0, none⟩) (by simp) F').far (p := ⟨w.heap.size, 1, none⟩) (by simp) H', by simpa [World.setCell] using h.lt⟩
/-- a sender's slot: its slice, owned, and its cells -/
theorem OwC.slotQ {w : World} {lo b n cp s : Nat} {F : Value} {vals : List Value} {c : Cr} (h : OwC w lo F (.slice (some ⟨b, 0, none⟩) n cp) vals c) (hs : s < c.hs.length) :
    ∃ A m ci, Hid ((c.h s).1.length = m) ∧ RdI w w.heap.size A m (c.h s).1 ∧ w.cell? ⟨b, s * 2, none⟩ = some (.slice A m ci) ∧ w.cell? ⟨b, s * 2 + 1, none⟩ = some (.int .i64 (c.h s).2) ∧ (∀ k, w.frozen? ⟨b, k, none⟩ = false) := by
  obtain ⟨k0, k1, -⟩ := h.setW hs 0
  obtain ⟨v, h1, h2⟩ := h.i s _ (at_h hs)
  obtain ⟨A, ci, e, hr⟩ := h2.form
  have hl : c.hs.length = n := by
    rcases h.h.2 with ⟨e, _⟩ | ⟨g, cap, cur, e, _⟩
    · cases e
    · injection e with _ e2; exact e2.symm
  have hoo : w.ownsRow lo 49 2 (.slice (some ⟨b, 0, none⟩) n cp) n (hcs vals c.hs) := by have := h.h; rw [hl] at this; exact this
  subst e
  refine ⟨A, _, ci, rfl, hr, ?_, k0, k1⟩
  rw [hoo.cellAt _ (by omega)]
  exact (hcs_get h1 (at_h hs)).1

set_option maxHeartbeats 8000000 in
theorem CreditsAsk_impl {A1 A2 : Option Addr} {n1 n2 c1 c2 : Nat} {c : Cr} (s g : Int) (w : World) (hr : RdC w A1 n1 A2 n2 c) :
    Calls Try.prog 22 #[crV (.slice A1 n1 c1) (.slice A2 n2 c2), .int .i64 s, .int .i64 g] w (CrPost2 (askR c s g) w) := by
  obtain ⟨W, hW⟩ : ∃ W, (w.alloc (.cells #[.slice A1 n1 c1, .slice A2 n2 c2] 25)).alloc (.cells #[.slice none 0 0, .slice none 0 0] 25) = W := ⟨_, rfl⟩
  have hT := hid (show Two0 w W (.slice A1 n1 c1) (.slice A2 n2 c2) by rw [← hW]; exact Two0.new w _ _)
  have hR := hid (show RdC W A1 n1 A2 n2 c by rw [← hW]; exact (hr.alloc _).alloc _)
  obtain ⟨l1, l2⟩ := hr.len
  have l1' := hid l1
  have l2' := hid l2
  have b2 := hr.b2
  replace hW := hid hW
  clear hr l1 l2
  obtain ⟨d0, d1, -, -⟩ := hT.out.a.two
  cases hv : crB c with
  | false =>
    have hno : Hid (askR c s g = (cr0, false)) := hid (by unfold askR sdB; rw [hv]; rfl)
    have hv' := hid hv
    clear hv
    go_enter Try.func22, Try.ntmps22
    go_upto_region 1 with (fail)
    rw [hW.out]
    go_wp2_with fail
    refine (CreditsValid_ias hv'.out _ hR.out).mono ?_
    rintro e w1 ⟨rfl, hb1⟩
    have hT1 := hid (hT.out.step hb1)
    obtain ⟨z0, z1, z2, z3⟩ := hT1.out.z.two
    obtain ⟨ro, rb, rc⟩ := hT1.out.ret (OwC.zero w1 w.heap.size) (Nat.le_refl _)
    replace ro := hid ro
    replace rb := hid rb
    obtain ⟨y0, y1, -, -⟩ := rc.two
    clear rc
    clear hb1 d0 d1
    obtain ⟨d0, d1, -, -⟩ := hT1.out.a.two
    go_wp2
    refine bodyPost_ret (v := .tuple #[crV (.slice none 0 0) (.slice none 0 0), .bool false]) (by simp [results, Try.results22, go_sem, y0, y1]) rfl ?_
    rw [hno.out]
    exact ⟨_, _, _, rfl, ro.out, rb.out⟩
  | true =>
    have hv' := hid hv
    have v := hid (crB_true.1 hv)
    cases hin : inB s 0 ((n2 : Int) - 1) with
    | false =>
      have hno : Hid (askR c s g = (cr0, false)) := hid (by unfold askR sdB; rw [hv, l2'.out, hin]; rfl)
      have hin' := hid hin
      clear hv hin
      go_enter Try.func22, Try.ntmps22
      go_upto_region 1 with (fail)
      rw [hW.out]
      go_wp2_with fail
      refine (CreditsValid_ias hv'.out _ hR.out).mono ?_
      rintro e w1 ⟨rfl, hb1⟩
      have hT1 := hid (hT.out.step hb1)
      clear hb1 d0 d1
      obtain ⟨d0, d1, -, -⟩ := hT1.out.a.two
      go_wp2_with fail
      refine (hasSender_as hin'.out _).mono ?_
      rintro e w2 ⟨rfl, hb2⟩
      have hT2 := hid (hT1.out.step hb2)
      obtain ⟨z0, z1, z2, z3⟩ := hT2.out.z.two
      obtain ⟨ro, rb, rc⟩ := hT2.out.ret (OwC.zero w2 w.heap.size) (Nat.le_refl _)
      replace ro := hid ro
      replace rb := hid rb
      obtain ⟨y0, y1, -, -⟩ := rc.two
      clear rc
      clear hb2 d0 d1
      obtain ⟨d0, d1, -, -⟩ := hT2.out.a.two
      go_wp2
      refine bodyPost_ret (v := .tuple #[crV (.slice none 0 0) (.slice none 0 0), .bool false]) (by simp [results, Try.results22, go_sem, y0, y1]) rfl ?_
      rw [hno.out]
      exact ⟨_, _, _, rfl, ro.out, rb.out⟩
    | true =>
      have hin' := hid hin
      have hsd : sdB c s = true := by unfold sdB; rw [hv, l2'.out, hin]; rfl
      cases hg : grB g with
      | false =>
        have hno : Hid (askR c s g = (cr0, false)) := hid (by unfold askR; rw [hg, Bool.and_false]; rfl)
        have hg' := hid hg
        clear hv hin hg hsd
        go_enter Try.func22, Try.ntmps22
        go_upto_region 1 with (fail)
        rw [hW.out]
        go_wp2_with fail
        refine (CreditsValid_ias hv'.out _ hR.out).mono ?_
        rintro e w1 ⟨rfl, hb1⟩
        have hT1 := hid (hT.out.step hb1)
        clear hb1 d0 d1
        obtain ⟨d0, d1, -, -⟩ := hT1.out.a.two
        go_wp2_with fail
        refine (hasSender_as hin'.out _).mono ?_
        rintro e w2 ⟨rfl, hb2⟩
        have hT2 := hid (hT1.out.step hb2)
        obtain ⟨z0, z1, z2, z3⟩ := hT2.out.z.two
        obtain ⟨ro, rb, rc⟩ := hT2.out.ret (OwC.zero w2 w.heap.size) (Nat.le_refl _)
        replace ro := hid ro
        replace rb := hid rb
        obtain ⟨y0, y1, -, -⟩ := rc.two
        clear rc
        clear hb2 d0 d1
        obtain ⟨d0, d1, -, -⟩ := hT2.out.a.two
        go_wp2_with (go_at_call 49; (with_reducible refine (groupExists_as hg'.out _).mono ?_); rintro e w3 ⟨rfl, rfl⟩)
        refine bodyPost_ret (v := .tuple #[crV (.slice none 0 0) (.slice none 0 0), .bool false]) (by simp [results, Try.results22, go_sem, y0, y1]) rfl ?_
        rw [hno.out]
        exact ⟨_, _, _, rfl, ro.out, rb.out⟩
      | true =>
        have hg' := hid hg
        obtain ⟨h1, h2⟩ := grB_true.1 hg
        obtain ⟨h3, h4⟩ := inB_true.1 hin
        obtain ⟨S, rfl⟩ := Int.eq_ofNat_of_zero_le h3
        obtain ⟨G, rfl⟩ := Int.eq_ofNat_of_zero_le h1
        have hsd' := hid hsd
        have hS2 : S < n2 := by omega
        have hS : S < c.hs.length := by rw [l2'.out]; exact hS2
        have hG5 : G < 5 := by omega
        have hn5 : n1 = 5 := by rw [← l1'.out]; exact v.out.fl
        have hG : G < c.fr.length := by rw [l1'.out]; omega
        have s0 : (0 : Int) ≤ (S : Int) := by omega
        have s1 : (S : Int) < (n2 : Int) := by omega
        have g0 : (0 : Int) ≤ (G : Int) := by omega
        have g1 : (G : Int) < (n1 : Int) := by omega
        have hn1 : n1 < 1000000 := by omega
        have hn2 : n2 < 1000000 := by have := v.out.n6; rw [l2'.out] at this; omega
        replace hn5 := hid hn5
        clear hv hin hg hsd h1 h2 h3 h4
        go_enter Try.func22, Try.ntmps22
        go_upto_region 1 with (fail)
        rw [hW.out]
        go_wp2_with fail
        refine (CreditsValid_ias hv'.out _ hR.out).mono ?_
        rintro e w1 ⟨rfl, hb1⟩
        have hT1 := hid (hT.out.step hb1)
        have hR1 := hid (hR.out.step hb1)
        clear hb1 d0 d1
        obtain ⟨d0, d1, -, -⟩ := hT1.out.a.two
        go_wp2_with fail
        refine (hasSender_as hin'.out _).mono ?_
        rintro e w2 ⟨rfl, hb2⟩
        have hT2 := hid (hT1.out.step hb2)
        have hR2 := hid (hR1.out.step hb2)
        clear hb2 d0 d1
        obtain ⟨d0, d1, -, -⟩ := hT2.out.a.two
        go_wp2_with (go_at_call 49; (with_reducible refine (groupExists_as hg'.out _).mono ?_); rintro e w3 ⟨rfl, rfl⟩)
        refine (copied_any _ hR2.out hn1).mono ?_
        rintro e w3 ⟨F3, H3, vals3, rfl, hO3, hb3⟩
        have hT3 := hid (hT2.out.step hb3)
        have hlo := hT2.out.lt
        have hz3 := hb3.size
        obtain ⟨bF, cF, rfl, hF1, hF2⟩ := own_some hO3.f (by rw [l1'.out, hn5.out]; omega)
        obtain ⟨bH, cH, rfl, hH1, hH2⟩ := own_some hO3.h (by rw [l2'.out]; omega)
        rw [l1'.out, l2'.out] at hO3
        rw [l1'.out, l2'.out]
        obtain ⟨e0, e1, e2, e3⟩ := hT3.out.a.two
        go_upto_region 4 with (fail)
        obtain ⟨W4, hW4⟩ : ∃ W4, ((w3.setCell ⟨w.heap.size, 0, none⟩ (.slice (some ⟨bF, 0, none⟩) n1 cF)).setCell ⟨w.heap.size, 1, none⟩ (.slice (some ⟨bH, 0, none⟩) n2 cH)) = W4 := ⟨_, rfl⟩
        rw [hW4]
        have hT4 := hid (show Two0 w W4 (.slice (some ⟨bF, 0, none⟩) n1 cF) (.slice (some ⟨bH, 0, none⟩) n2 cH) by rw [← hW4]; exact hT3.out.put)
        have hO4 := hid (show OwC W4 w2.heap.size (.slice (some ⟨bF, 0, none⟩) n1 cF) (.slice (some ⟨bH, 0, none⟩) n2 cH) vals3 c by
          rw [← hW4]
          have hfar : ¬ bkC (.slice (some ⟨bF, 0, none⟩) n1 cF) (.slice (some ⟨bH, 0, none⟩) n2 cH) vals3 w.heap.size := fun hk => by have := (hO3.lt hk).1; omega
          exact (hO3.one (p := ⟨w.heap.size, 0, none⟩) hfar _).one (p := ⟨w.heap.size, 1, none⟩) hfar _)
        have hz4 : w3.heap.size ≤ W4.heap.size := by rw [← hW4]; simp [World.setCell]
        obtain ⟨A5, m5, c5, hm5, hr5, k0, k1, -⟩ := hO4.out.slotQ hS
        obtain ⟨x, hx⟩ : ∃ x, (c.h S).2 = x := ⟨_, rfl⟩
        obtain ⟨zs, hzs⟩ : ∃ zs, (c.h S).1 = zs := ⟨_, rfl⟩
        rw [hx] at k1
        rw [hzs] at hm5 hr5
        have hx' := hid hx
        have hzs' := hid hzs
        have hset := hid (show setB zs = true by rw [← hzs]; exact v.out.set S hS)
        have hml : m5 < 1099511627776 := by rw [← hm5.out]; have := set_len hset.out; omega
        have hk0 := hid k0
        obtain ⟨u0, u1, -, -⟩ := hT4.out.a.two
        clear hW4 hO3 hb3 e0 e1 e2 e3 d0 d1 hT1 hT2 hT3 hR1 hR2 hx hzs
        obtain ⟨W5, hW5⟩ : ∃ W5, W4.alloc (.cells #[.slice A5 m5 c5, .int .i64 x] 49) = W5 := ⟨_, rfl⟩
        have hb5 : Below W4.heap.size W4 W5 := by rw [← hW5]; exact below1 W4 _
        have hT5 := hid (hT4.out.step hb5)
        have hO5 := hid (hO4.out.step hb5)
        have hE5 := hid (show Cs W5 W4.heap.size 49 #[.slice A5 m5 c5, .int .i64 x] by rw [← hW5]; exact Cs.new W4 _ _)
        have hr5' := hid (show RdI W5 W4.heap.size A5 m5 zs by rw [← hW5]; exact Reads.alloc hr5 (Nat.le_refl _) _)
        have hz5 : W4.heap.size < W5.heap.size := by rw [← hW5]; simp
        have hb5' := hid hb5
        have hW5' := hid hW5
        clear hb5 hW5 hr5 hT4 hO4
        go_upto_region 5 with (fail)
        rw [hW5'.out]
        clear hW5' k0 k1 u0 u1
        obtain ⟨p0, p1, -, -⟩ := hE5.out.two
        by_cases hx0 : 0 ≤ x
        · have hq := hid (ask_w hsd'.out hg'.out (by rw [hx'.out]; exact hx0))
          have hw1 := hid (show decide (0 ≤ x) = true by simp [hx0])
          clear hx0
          go_wp2_with fail
          refine (waits_as hw1.out _).mono ?_
          rintro e w6 ⟨rfl, hb6⟩
          have hT6 := hid (hT5.out.step hb6)
          have hO6 := hid (hO5.out.step hb6)
          clear hb6 p0 p1
          obtain ⟨u0, u1, -, -⟩ := hT6.out.a.two
          obtain ⟨z0, z1, z2, z3⟩ := hT6.out.z.two
          obtain ⟨ro, rb, rc⟩ := hT6.out.ret hO6.out (by omega)
          replace ro := hid ro
          replace rb := hid rb
          obtain ⟨y0, y1, -, -⟩ := rc.two
          clear rc
          go_wp2
          refine bodyPost_ret (v := .tuple #[crV (.slice (some ⟨bF, 0, none⟩) n1 cF) (.slice (some ⟨bH, 0, none⟩) n2 cH), .bool false]) (by simp [results, Try.results22, go_sem, y0, y1]) rfl ?_
          rw [hq.out]
          exact ⟨_, _, _, rfl, ro.out, rb.out⟩
        · have hw1 := hid (show decide (0 ≤ x) = false by simp; omega)
          cases hh : hasB zs (G : Int) with
          | true =>
            have hq := hid (ask_h hsd'.out hg'.out (by rw [hzs'.out]; exact hh))
            have hh' := hid hh
            clear hh hx0
            go_wp2_with fail
            refine (waits_as hw1.out _).mono ?_
            rintro e w6 ⟨rfl, hb6⟩
            have hT6 := hid (hT5.out.step hb6)
            have hO6 := hid (hO5.out.step hb6)
            have hE6 := hid (hE5.out.step hb6)
            have hr6 := hid (Reads.below hr5'.out (hb6.mono (by omega)))
            clear hb6 p0 p1
            obtain ⟨p0, p1, -, -⟩ := hE6.out.two
            obtain ⟨u0, u1, -, -⟩ := hT6.out.a.two
            obtain ⟨z0, z1, z2, z3⟩ := hT6.out.z.two
            obtain ⟨ro, rb, rc⟩ := hT6.out.ret hO6.out (by omega)
            replace ro := hid ro
            replace rb := hid rb
            obtain ⟨y0, y1, -, -⟩ := rc.two
            clear rc
            go_wp2_with (go_at_call 52; (with_reducible refine (ContainsI_as hh'.out _ hr6.out hml).mono ?_); rintro e w7 ⟨rfl, rfl⟩)
            refine bodyPost_ret (v := .tuple #[crV (.slice (some ⟨bF, 0, none⟩) n1 cF) (.slice (some ⟨bH, 0, none⟩) n2 cH), .bool false]) (by simp [results, Try.results22, go_sem, y0, y1]) rfl ?_
            rw [hq.out]
            exact ⟨_, _, _, rfl, ro.out, rb.out⟩
          | false =>
            have hh' := hid hh
            have hxn := hid (show ¬ 0 ≤ (c.h S).2 by rw [hx'.out]; exact hx0)
            have hhn := hid (show hasB (c.h S).1 (G : Int) = false by rw [hzs'.out]; exact hh)
            clear hh hx0
            go_wp2_with fail
            refine (waits_as hw1.out _).mono ?_
            rintro e w6 ⟨rfl, hb6⟩
            have hT6 := hid (hT5.out.step hb6)
            have hO6 := hid (hO5.out.step hb6)
            have hE6 := hid (hE5.out.step hb6)
            have hr6 := hid (Reads.below hr5'.out (hb6.mono (by omega)))
            have hz6 := hb6.size
            have hb46 := hid (hb5'.out.trans (hb6.mono (by omega)))
            clear hb6 p0 p1 hT5 hO5 hE5 hr5'
            obtain ⟨p0, p1, -, -⟩ := hE6.out.two
            obtain ⟨u0, u1, -, -⟩ := hT6.out.a.two
            obtain ⟨y, hy⟩ : ∃ y, c.f G = y := ⟨_, rfl⟩
            obtain ⟨f0, f1, hOF⟩ := hO6.out.setF hG (c.f G - 1)
            rw [hy] at f0 hOF
            have hyb := v.out.fr G hG5
            rw [hy] at hyb
            have hy' := hid hy
            clear hy
            by_cases hy0 : y = 0
            · have hq := hid (ask_q hsd'.out hg'.out (by have := hxn.out; omega) hhn.out (by rw [hy'.out]; omega))
              have hyb0 : (y == 0) = true := by simp [hy0]
              obtain ⟨k0, k1, hO7⟩ := hO6.out.setW hS (G : Int)
              have k2 := k1 (S * 2 + 1)
              rw [hx'.out] at k0
              have hT7 := hid (hT6.out.stepB (W' := w6.setCell ⟨bH, S * 2 + 1, none⟩ (.int .i64 (G : Int))) ((Below.refl w2.heap.size w6).setCell (p := ⟨bH, S * 2 + 1, none⟩) hH1 _) hlo)
              obtain ⟨W7, hW7⟩ : ∃ W7, w6.setCell ⟨bH, S * 2 + 1, none⟩ (.int .i64 (G : Int)) = W7 := ⟨_, rfl⟩
              rw [hW7] at hO7 hT7
              have hW7' := hid hW7
              obtain ⟨ro, rb, rc⟩ := hT7.out.ret hO7 (by omega)
              replace ro := hid ro
              replace rb := hid rb
              obtain ⟨y0, y1, -, -⟩ := rc.two
              clear rc
              obtain ⟨q0, q1, q2, q3⟩ := hT7.out.z.two
              obtain ⟨r0, r1, -, -⟩ := hT7.out.a.two
              clear hO7 hOF hW7 k1
              go_upto_region 9 with (go_at_call 52; (with_reducible refine (ContainsI_as hh'.out _ hr6.out hml).mono ?_); rintro e w7 ⟨rfl, rfl⟩)
              rw [hW7'.out]
              clear hW7' u0 u1 f0 f1 k0 k2 p0 p1
              go_wp2
              refine bodyPost_ret (v := .tuple #[crV (.slice (some ⟨bF, 0, none⟩) n1 cF) (.slice (some ⟨bH, 0, none⟩) n2 cH), .bool true]) (by simp [results, Try.results22, go_sem, y0, y1]) rfl ?_
              rw [hq.out]
              exact ⟨_, _, _, rfl, ro.out, rb.out⟩
            · have hq := hid (ask_t hsd'.out hg'.out (by have := hxn.out; omega) hhn.out (by rw [hy'.out]; omega))
              have hyb0 : (y == 0) = false := by simp [hy0]
              have hwy : IntKind.i64.wrap (y - 1) = y - 1 := IntWalk.i64_in _ (by omega)
              obtain ⟨W7, hW7⟩ : ∃ W7, w6.setCell ⟨bF, G, none⟩ (.int .i64 (y - 1)) = W7 := ⟨_, rfl⟩
              have hO7 := hid (show OwC W7 w2.heap.size (.slice (some ⟨bF, 0, none⟩) n1 cF) (.slice (some ⟨bH, 0, none⟩) n2 cH) vals3 ⟨c.fr.set G (y - 1), c.hs⟩ by rw [← hW7]; exact hOF)
              have hk7 : Below w2.heap.size w6 W7 := by rw [← hW7]; exact (Below.refl w2.heap.size w6).setCell (p := ⟨bF, G, none⟩) hF1 _
              have hT7 := hid (hT6.out.stepB hk7 hlo)
              have hE7 := hid (show Cs W7 W4.heap.size 49 #[.slice A5 m5 c5, .int .i64 x] by rw [← hW7]; exact hE6.out.far (p := ⟨bF, G, none⟩) (by show W4.heap.size ≠ bF; omega) _)
              have hz7 := hid (show W7.heap.size = w6.heap.size by rw [← hW7]; simp [World.setCell])
              obtain ⟨A7, m7, c7, hm7, hr7, k0, k1, k2⟩ := hO7.out.slotQ (s := S) hS
              obtain ⟨-, u1', -, -⟩ := hT7.out.a.two
              have KA := hid (fun X (hX : Below W7.heap.size W7 X) => And.intro ((hX.cell (p := ⟨w.heap.size, 1, none⟩) (World.block_lt_of_cell? W7 _ u1')).trans u1') (And.intro ((hX.cell (p := ⟨bH, S * 2, none⟩) (World.block_lt_of_cell? W7 _ k0)).trans k0) (And.intro ((hX.cell (p := ⟨bH, S * 2 + 1, none⟩) (World.block_lt_of_cell? W7 _ k1)).trans k1) (And.intro ((hX.frozen (p := ⟨bH, S * 2, none⟩) (World.block_lt_of_cell? W7 _ k0)).trans (k2 _)) ((hX.frozen (p := ⟨bH, S * 2 + 1, none⟩) (World.block_lt_of_cell? W7 _ k1)).trans (k2 _))))))
              obtain ⟨j1, a0, a1, t0, t1⟩ := KA.out _ (Below.refl _ _)
              obtain ⟨p0', p1', -, -⟩ := hE7.out.two
              have hcell7 : W7.cell? ⟨bH, S * 2, none⟩ = some (.slice A5 m5 c5) := by
                rw [← hW7]
                exact (World.cell?_of_block (heap_setCell_other w6 ⟨bF, G, none⟩ bH _ (fun e => own_type hO6.out.f hO6.out.h (by decide) bF rfl (by show some bH = some bF; rw [e])))).trans ((hb46.out.cell (p := ⟨bH, S * 2, none⟩) (show bH < W4.heap.size by omega)).trans hk0.out)
              rw [k0] at hcell7
              injection hcell7 with hcell7
              injection hcell7 with q1 q2 q3
              subst q1; subst q2; subst q3
              have hr7' := hid (show RdI W7.drew W7.drew.heap.size A7 m7 zs from (by rw [← hzs'.out]; exact hr7 : RdI W7 W7.heap.size A7 m7 zs))
              have hW7' := hid hW7
              clear hOF hW7 hk7 k0 k1 k2 u1' hm7 hr7 hO6 hT6 hE6
              go_upto_region 11 with (go_at_call 52; (with_reducible refine (ContainsI_as hh'.out _ hr6.out hml).mono ?_); rintro e w7 ⟨rfl, rfl⟩)
              rw [hW7'.out]
              clear hW7' u0 u1 f0 f1 p0 p1
              go_region_law (go_simp; go_at_call 53; (with_reducible refine (Hold_with_any _ _ hr7'.out hml hset.out hg'.out).mono ?_); rintro e w8 ⟨A8, N8, C8, rfl, ho8, hb8⟩; have hb8' := hid (show Below W7.heap.size W7 w8 from ⟨hb8.os, hb8.tape, hb8.output, hb8.size, hb8.block⟩); obtain ⟨j1b, a0b, a1b, t0b, t1b⟩ := KA.out _ hb8'.out)
              all_goals
                have hsz8 : W7.heap.size ≤ w8.heap.size := hb8'.out.size
                have hlo8 : ∀ q, (Value.slice A8 N8 C8).ownBlock = some q → W7.heap.size ≤ q := fun q hq => (ho8.lt q hq).1
                have hO9 := hid ((hO7.out.step hb8'.out).setH (s := S) hS (own_lo ho8 (show w2.heap.size ≤ W7.heap.size by have := hz7.out; omega)) (fun q hq hk => by have h1 := hlo8 q hq; have h2 := (hO7.out.lt hk).2; omega) (-1))
                have hT9 := hid ((hT7.out.step hb8'.out).stepB (((Below.refl w2.heap.size w8).setCell (p := ⟨bH, S * 2, none⟩) hH1 (.slice A8 N8 C8)).setCell (p := ⟨bH, S * 2 + 1, none⟩) hH1 (.int .i64 (-1))) hlo)
                have htk : Hid ((⟨(⟨c.fr.set G (y - 1), c.hs⟩ : Cr).fr, (⟨c.fr.set G (y - 1), c.hs⟩ : Cr).hs.set S (unionL zs [(G : Int)], -1)⟩ : Cr) = tak c S G) := hid (by unfold tak; rw [hzs'.out, hy'.out])
                rw [htk.out] at hO9
                obtain ⟨W9, hW9⟩ : ∃ W9, ((w8.setCell ⟨bH, S * 2, none⟩ (.slice A8 N8 C8)).setCell ⟨bH, S * 2 + 1, none⟩ (.int .i64 (-1))) = W9 := ⟨_, rfl⟩
                rw [hW9] at hO9 hT9 ⊢
                clear hW9 hb8 hb8' ho8 hlo8 htk KA hO7 hT7 hE7 hsz8 j1b a0b a1b t0b t1b
                obtain ⟨q0, q1, q2, q3⟩ := hT9.out.z.two
                obtain ⟨r0, r1, -, -⟩ := hT9.out.a.two
                obtain ⟨ro, rb, rc⟩ := hT9.out.ret hO9.out (by omega)
                replace ro := hid ro
                replace rb := hid rb
                obtain ⟨y0, y1, -, -⟩ := rc.two
                clear rc
                go_wp2
                refine bodyPost_ret (v := .tuple #[crV (.slice (some ⟨bF, 0, none⟩) n1 cF) (.slice (some ⟨bH, 0, none⟩) n2 cH), .bool true]) (by simp [results, Try.results22, go_sem, y0, y1]) rfl ?_
                rw [hq.out]
                exact ⟨_, _, _, rfl, ro.out, rb.out⟩
end Go.Proofs.Ytgeihcbiahnnaaa
