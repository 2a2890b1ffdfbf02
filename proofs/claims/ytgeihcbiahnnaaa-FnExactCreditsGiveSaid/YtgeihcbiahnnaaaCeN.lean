/-
  Contract of the program's CreditsGive. No condition but lengths below 2^40.
-/
import Derived.Test.YtgeihcbiahnnaaaCeL
namespace Go.Proofs.Ytgeihcbiahnnaaa
open Go.RowKit
set_option linter.unusedVariables false
set_option linter.unusedSimpArgs false

/-- a sender's slot: its slice, owned, and its cells -/
theorem OwC.slotO {w : World} {lo b n cp s : Nat} {F : Value} {vals : List Value} {c : Cr} (h : OwC w lo F (.slice (some ⟨b, 0, none⟩) n cp) vals c) (hs : s < c.hs.length) :
    ∃ A m ci, Hid ((c.h s).1.length = m) ∧ Hid (vals[s]? = some (.slice A m ci)) ∧ Hid (w.ownsRow lo 3 1 (.slice A m ci) m (ints (c.h s).1)) ∧ w.cell? ⟨b, s * 2, none⟩ = some (.slice A m ci) ∧ w.cell? ⟨b, s * 2 + 1, none⟩ = some (.int .i64 (c.h s).2) ∧ (∀ k, w.frozen? ⟨b, k, none⟩ = false) := by
  obtain ⟨k0, k1, -⟩ := h.setW hs 0
  obtain ⟨v, h1, h2⟩ := h.i s _ (at_h hs)
  obtain ⟨A, ci, e, hr⟩ := h2.form
  have hl : c.hs.length = n := by
    rcases h.h.2 with ⟨e, _⟩ | ⟨g, cap, cur, e, _⟩
    · cases e
    · injection e with _ e2; exact e2.symm
  have hoo : w.ownsRow lo 49 2 (.slice (some ⟨b, 0, none⟩) n cp) n (hcs vals c.hs) := by have := h.h; rw [hl] at this; exact this
  subst e
  refine ⟨A, _, ci, rfl, h1, h2, ?_, k0, k1⟩
  rw [hoo.cellAt _ (by omega)]
  exact (hcs_get h1 (at_h hs)).1

theorem own_rd {w : World} {lo m ci : Nat} {A : Option Addr} {zs : List Int} (h : w.ownsRow lo 3 1 (.slice A m ci) m (ints zs)) : RdI w w.heap.size A m zs := by
  have hl : zs.length = m := by have := h.1; simpa [ints] using this
  subst hl
  exact (Ow.of (show OwI w lo (.slice A zs.length ci) zs from h)).rdAt (Nat.le_refl _)

theorem OkC.sv {B : Int} {n G : Nat} {d : Cr} (h : OkC B n d) (hG : G < 5) : OkC (B + 1) n (sv1 d G) := by
  unfold sv1
  cases hf : fw d (G : Int) with
  | none => exact h.inc hG
  | some i =>
    obtain ⟨hi, -, -⟩ := fw_some hf
    refine ⟨h.fl, by simp [h.hn], fun g hg => by have := h.f g hg; exact ⟨this.1, by show d.f g ≤ _; omega⟩, fun k hk => ?_⟩
    have e : Cr.h ⟨d.fr, d.hs.set i (unionL (d.h i).1 [(G : Int)], -1)⟩ k = if k = i then (unionL (d.h i).1 [(G : Int)], -1) else d.h k := getD_set hi
    rw [e]
    split
    · exact unionL_set _ _
    · exact h.s k hk

set_option maxHeartbeats 16000000 in
theorem CreditsGive_impl {A1 A2 : Option Addr} {n1 n2 c1 c2 : Nat} {c : Cr} (s : Int) (w : World) (hr : RdC w A1 n1 A2 n2 c) :
    Calls Try.prog 24 #[crV (.slice A1 n1 c1) (.slice A2 n2 c2), .int .i64 s] w (CrPost2 (giveR c s) w) := by
  obtain ⟨W, hW⟩ : ∃ W, (w.alloc (.cells #[.slice A1 n1 c1, .slice A2 n2 c2] 25)).alloc (.cells #[.slice none 0 0, .slice none 0 0] 25) = W := ⟨_, rfl⟩
  have hT := hid (show Two0 w W (.slice A1 n1 c1) (.slice A2 n2 c2) by rw [← hW]; exact Two0.new w _ _)
  have hR := hid (show RdC W A1 n1 A2 n2 c by rw [← hW]; exact (hr.alloc _).alloc _)
  obtain ⟨l1, l2⟩ := hr.len
  have l1' := hid l1
  have l2' := hid l2
  have b2 := hr.b2
  replace hW := hid hW
  clear hr l1 l2
  obtain ⟨d0, d1, -, -⟩ := hT.out.a.two
  cases hv : crB c with
  | false =>
    have hno : Hid (giveR c s = (cr0, false)) := hid (by unfold giveR sdB; rw [hv]; rfl)
    have hv' := hid hv
    clear hv
    go_enter Try.func24, Try.ntmps24
    go_upto_region 1 with (fail)
    rw [hW.out]
    go_wp2_with fail
    refine (CreditsValid_ias hv'.out _ hR.out).mono ?_
    rintro e w1 ⟨rfl, hb1⟩
    have hT1 := hid (hT.out.step hb1)
    obtain ⟨z0, z1, z2, z3⟩ := hT1.out.z.two
    obtain ⟨ro, rb, rc⟩ := hT1.out.ret (OwC.zero w1 w.heap.size) (Nat.le_refl _)
    replace ro := hid ro
    replace rb := hid rb
    obtain ⟨y0, y1, -, -⟩ := rc.two
    clear rc
    clear hb1 d0 d1
    obtain ⟨d0, d1, -, -⟩ := hT1.out.a.two
    go_wp2
    refine bodyPost_ret (v := .tuple #[crV (.slice none 0 0) (.slice none 0 0), .bool false]) (by simp [results, Try.results24, go_sem, y0, y1]) rfl ?_
    rw [hno.out]
    exact ⟨_, _, _, rfl, ro.out, rb.out⟩
  | true =>
    have hv' := hid hv
    have v := hid (crB_true.1 hv)
    cases hin : inB s 0 ((n2 : Int) - 1) with
    | false =>
      have hno : Hid (giveR c s = (cr0, false)) := hid (by unfold giveR sdB; rw [hv, l2'.out, hin]; rfl)
      have hin' := hid hin
      clear hv hin
      go_enter Try.func24, Try.ntmps24
      go_upto_region 1 with (fail)
      rw [hW.out]
      go_wp2_with fail
      refine (CreditsValid_ias hv'.out _ hR.out).mono ?_
      rintro e w1 ⟨rfl, hb1⟩
      have hT1 := hid (hT.out.step hb1)
      clear hb1 d0 d1
      obtain ⟨d0, d1, -, -⟩ := hT1.out.a.two
      go_wp2_with fail
      refine (hasSender_as hin'.out _).mono ?_
      rintro e w2 ⟨rfl, hb2⟩
      have hT2 := hid (hT1.out.step hb2)
      obtain ⟨z0, z1, z2, z3⟩ := hT2.out.z.two
      obtain ⟨ro, rb, rc⟩ := hT2.out.ret (OwC.zero w2 w.heap.size) (Nat.le_refl _)
      replace ro := hid ro
      replace rb := hid rb
      obtain ⟨y0, y1, -, -⟩ := rc.two
      clear rc
      clear hb2 d0 d1
      obtain ⟨d0, d1, -, -⟩ := hT2.out.a.two
      go_wp2
      refine bodyPost_ret (v := .tuple #[crV (.slice none 0 0) (.slice none 0 0), .bool false]) (by simp [results, Try.results24, go_sem, y0, y1]) rfl ?_
      rw [hno.out]
      exact ⟨_, _, _, rfl, ro.out, rb.out⟩
    | true =>
      have hin' := hid hin
      have hsd : sdB c s = true := by unfold sdB; rw [hv, l2'.out, hin]; rfl
      obtain ⟨h3, h4⟩ := inB_true.1 hin
      obtain ⟨S, rfl⟩ := Int.eq_ofNat_of_zero_le h3
      have hsd' := hid hsd
      have hS2 : S < n2 := by omega
      have hS : S < c.hs.length := by rw [l2'.out]; exact hS2
      have hn5 : n1 = 5 := by rw [← l1'.out]; exact v.out.fl
      have s0 : (0 : Int) ≤ (S : Int) := by omega
      have s1 : (S : Int) < (n2 : Int) := by omega
      have hn1 : n1 < 1000000 := by omega
      have hn2 : n2 < 1000000 := by have := v.out.n6; rw [l2'.out] at this; omega
      replace hn5 := hid hn5
      clear hv hin hsd h3 h4
      go_enter Try.func24, Try.ntmps24
      go_upto_region 1 with (fail)
      rw [hW.out]
      go_wp2_with fail
      refine (CreditsValid_ias hv'.out _ hR.out).mono ?_
      rintro e w1 ⟨rfl, hb1⟩
      have hT1 := hid (hT.out.step hb1)
      have hR1 := hid (hR.out.step hb1)
      clear hb1 d0 d1
      obtain ⟨d0, d1, -, -⟩ := hT1.out.a.two
      go_wp2_with fail
      refine (hasSender_as hin'.out _).mono ?_
      rintro e w2 ⟨rfl, hb2⟩
      have hT2 := hid (hT1.out.step hb2)
      have hR2 := hid (hR1.out.step hb2)
      clear hb2 d0 d1
      obtain ⟨d0, d1, -, -⟩ := hT2.out.a.two
      go_wp2_with fail
      refine (copied_any _ hR2.out hn1).mono ?_
      rintro e w3 ⟨F3, H3, vals3, rfl, hO3, hb3⟩
      have hT3 := hid (hT2.out.step hb3)
      have hlo := hT2.out.lt
      have hz3 := hb3.size
      obtain ⟨bF, cF, rfl, hF1, hF2⟩ := own_some hO3.f (by rw [l1'.out, hn5.out]; omega)
      obtain ⟨bH, cH, rfl, hH1, hH2⟩ := own_some hO3.h (by rw [l2'.out]; omega)
      rw [l1'.out, l2'.out] at hO3
      rw [l1'.out, l2'.out]
      obtain ⟨e0, e1, e2, e3⟩ := hT3.out.a.two
      go_upto_region 4 with (fail)
      obtain ⟨W4, hW4⟩ : ∃ W4, ((w3.setCell ⟨w.heap.size, 0, none⟩ (.slice (some ⟨bF, 0, none⟩) n1 cF)).setCell ⟨w.heap.size, 1, none⟩ (.slice (some ⟨bH, 0, none⟩) n2 cH)) = W4 := ⟨_, rfl⟩
      rw [hW4]
      have hT4 := hid (show Two0 w W4 (.slice (some ⟨bF, 0, none⟩) n1 cF) (.slice (some ⟨bH, 0, none⟩) n2 cH) by rw [← hW4]; exact hT3.out.put)
      have hO4 := hid (show OwC W4 w2.heap.size (.slice (some ⟨bF, 0, none⟩) n1 cF) (.slice (some ⟨bH, 0, none⟩) n2 cH) vals3 c by
        rw [← hW4]
        have hfar : ¬ bkC (.slice (some ⟨bF, 0, none⟩) n1 cF) (.slice (some ⟨bH, 0, none⟩) n2 cH) vals3 w.heap.size := fun hk => by have := (hO3.lt hk).1; omega
        exact (hO3.one (p := ⟨w.heap.size, 0, none⟩) hfar _).one (p := ⟨w.heap.size, 1, none⟩) hfar _)
      have hz4 : w3.heap.size ≤ W4.heap.size := by rw [← hW4]; simp [World.setCell]
      obtain ⟨A5, m5, c5, hm5, hv5, ho5, k0, k1, -⟩ := hO4.out.slotO hS
      obtain ⟨x, hx⟩ : ∃ x, (c.h S).2 = x := ⟨_, rfl⟩
      obtain ⟨zs, hzs⟩ : ∃ zs, (c.h S).1 = zs := ⟨_, rfl⟩
      rw [hx] at k1
      rw [hzs] at hm5 ho5
      have hx' := hid hx
      have hzs' := hid hzs
      have hset := hid (show setB zs = true by rw [← hzs]; exact v.out.set S hS)
      have hml : m5 ≤ 5 := by rw [← hm5.out]; exact set_len hset.out
      obtain ⟨u0, u1, -, -⟩ := hT4.out.a.two
      have hb5lt := hid (fun g (hg : (Value.slice A5 m5 c5).ownBlock = some g) => (ho5.out.lt g hg))
      have hb5ne := hid (fun g (hg : (Value.slice A5 m5 c5).ownBlock = some g) => (show g ≠ bF ∧ g ≠ bH from ⟨fun e => hO4.out.apF _ (List.mem_of_getElem? hv5.out) g hg (by rw [e]; rfl), fun e => own_type ho5.out hO4.out.h (by decide) g hg (by rw [e]; rfl)⟩))
      clear hW4 hO3 hb3 e0 e1 e2 e3 d0 d1 hT1 hT2 hT3 hR1 hR2 hx hzs
      obtain ⟨W5, hW5⟩ : ∃ W5, W4.alloc (.cells #[.slice A5 m5 c5, .int .i64 x] 49) = W5 := ⟨_, rfl⟩
      have hb5 : Below W4.heap.size W4 W5 := by rw [← hW5]; exact below1 W4 _
      have hT5 := hid (hT4.out.step hb5)
      have hO5 := hid (hO4.out.step hb5)
      have hE5 := hid (show Cs W5 W4.heap.size 49 #[.slice A5 m5 c5, .int .i64 x] by rw [← hW5]; exact Cs.new W4 _ _)
      have hS5 := hid (own_of_blk ho5.out fun g hg => hb5.block g (ho5.out.lt g hg).2)
      have hz5 : W4.heap.size < W5.heap.size := by rw [← hW5]; simp
      have hW5' := hid hW5
      clear hb5 hW5 ho5 hT4 hO4
      go_upto_region 5 with (fail)
      rw [hW5'.out]
      clear hW5' k0 k1 u0 u1
      obtain ⟨p0, p1, -, -⟩ := hE5.out.two
      by_cases hx0 : 0 ≤ x
      · have hq := hid (giv_w hsd'.out (by rw [hx'.out]; exact .inl hx0))
        have hw1 := hid (show decide (0 ≤ x) = true by simp [hx0])
        clear hx0
        go_wp2_with fail
        refine (waits_as hw1.out _).mono ?_
        rintro e w6 ⟨rfl, hb6⟩
        have hT6 := hid (hT5.out.step hb6)
        have hO6 := hid (hO5.out.step hb6)
        clear hb6 p0 p1
        obtain ⟨u0, u1, -, -⟩ := hT6.out.a.two
        obtain ⟨z0, z1, z2, z3⟩ := hT6.out.z.two
        obtain ⟨ro, rb, rc⟩ := hT6.out.ret hO6.out (by omega)
        replace ro := hid ro
        replace rb := hid rb
        obtain ⟨y0, y1, -, -⟩ := rc.two
        clear rc
        go_wp2
        refine bodyPost_ret (v := .tuple #[crV (.slice (some ⟨bF, 0, none⟩) n1 cF) (.slice (some ⟨bH, 0, none⟩) n2 cH), .bool false]) (by simp [results, Try.results24, go_sem, y0, y1]) rfl ?_
        rw [hq.out]
        exact ⟨_, _, _, rfl, ro.out, rb.out⟩
      · have hw1 := hid (show decide (0 ≤ x) = false by simp; omega)
        have hxn := hid (show (c.h S).2 < 0 by rw [hx'.out]; omega)
        clear hx0
        by_cases hm0 : m5 = 0
        · have hq := hid (giv_w hsd'.out (by rw [hzs'.out, hm5.out]; exact .inr hm0))
          have hmb : ((m5 : Int) == 0) = true := by simp [hm0]
          have hmi : (m5 : Int) = 0 := by omega
          clear hm0
          go_wp2_with fail
          refine (waits_as hw1.out _).mono ?_
          rintro e w6 ⟨rfl, hb6⟩
          have hT6 := hid (hT5.out.step hb6)
          have hO6 := hid (hO5.out.step hb6)
          have hE6 := hid (hE5.out.step hb6)
          clear hb6 p0 p1
          obtain ⟨p0, p1, -, -⟩ := hE6.out.two
          obtain ⟨u0, u1, -, -⟩ := hT6.out.a.two
          obtain ⟨z0, z1, z2, z3⟩ := hT6.out.z.two
          obtain ⟨ro, rb, rc⟩ := hT6.out.ret hO6.out (by omega)
          replace ro := hid ro
          replace rb := hid rb
          obtain ⟨y0, y1, -, -⟩ := rc.two
          clear rc
          go_wp2
          refine bodyPost_ret (v := .tuple #[crV (.slice (some ⟨bF, 0, none⟩) n1 cF) (.slice (some ⟨bH, 0, none⟩) n2 cH), .bool false]) (by simp [results, Try.results24, go_sem, y0, y1]) rfl ?_
          rw [hq.out]
          exact ⟨_, _, _, rfl, ro.out, rb.out⟩
        · have hmb : ((m5 : Int) == 0) = false := by simp [hm0]
          have hmi : ¬ ((m5 : Int) = 0) := by omega
          have hcond := hid (show ¬ (0 ≤ (c.h S).2 ∨ (c.h S).1.length = 0) by rw [hzs'.out, hm5.out]; have := hxn.out; omega)
          have hgs := hid (setB_true.1 hset.out)
          cases hf : fulB c zs with
          | true =>
            have hq := hid (giv_f hsd'.out hcond.out (by rw [hzs'.out]; exact hf))
            have hf' := hid hf
            clear hf hm0
            go_wp2_with fail
            refine (waits_as hw1.out _).mono ?_
            rintro e w6 ⟨rfl, hb6⟩
            have hT6 := hid (hT5.out.step hb6)
            have hO6 := hid (hO5.out.step hb6)
            have hE6 := hid (hE5.out.step hb6)
            have hS6 := hid (own_of_blk hS5.out fun g hg => hb6.block g (hS5.out.lt g hg).2)
            clear hb6 p0 p1
            obtain ⟨p0, p1, -, -⟩ := hE6.out.two
            obtain ⟨u0, u1, -, -⟩ := hT6.out.a.two
            go_wp2_with fail
            refine (full_as hf'.out _ ((Ow.of hO6.out.f).rdAt (Nat.le_refl _)) (own_rd hS6.out) (by omega) hgs.out.2 hn5.out (fun g hg => (v.out.fr g hg).2)).mono ?_
            rintro e w7 ⟨rfl, hb7⟩
            have hT7 := hid (hT6.out.step hb7)
            have hO7 := hid (hO6.out.step hb7)
            clear hb7 u0 u1 p0 p1
            obtain ⟨u0, u1, -, -⟩ := hT7.out.a.two
            obtain ⟨z0, z1, z2, z3⟩ := hT7.out.z.two
            obtain ⟨ro, rb, rc⟩ := hT7.out.ret hO7.out (by omega)
            replace ro := hid ro
            replace rb := hid rb
            obtain ⟨y0, y1, -, -⟩ := rc.two
            clear rc
            go_wp2
            refine bodyPost_ret (v := .tuple #[crV (.slice (some ⟨bF, 0, none⟩) n1 cF) (.slice (some ⟨bH, 0, none⟩) n2 cH), .bool false]) (by simp [results, Try.results24, go_sem, y0, y1]) rfl ?_
            rw [hq.out]
            exact ⟨_, _, _, rfl, ro.out, rb.out⟩
          | false =>
            have hq := hid (show giveR c (S : Int) = (giveTo c S zs, true) by rw [giv_t hsd'.out hcond.out (by rw [hzs'.out]; exact hf), hzs'.out])
            have hf' := hid hf
            clear hf hm0 hcond
            go_wp2_with fail
            refine (waits_as hw1.out _).mono ?_
            rintro e w6 ⟨rfl, hb6⟩
            have hT6 := hid (hT5.out.step hb6)
            have hO6 := hid (hO5.out.step hb6)
            have hE6 := hid (hE5.out.step hb6)
            have hS6 := hid (own_of_blk hS5.out fun g hg => hb6.block g (hS5.out.lt g hg).2)
            have hz6 := hb6.size
            clear hb6 p0 p1
            obtain ⟨p0, p1, -, -⟩ := hE6.out.two
            obtain ⟨u0, u1, -, -⟩ := hT6.out.a.two
            go_wp2_with fail
            refine (full_as hf'.out _ ((Ow.of hO6.out.f).rdAt (Nat.le_refl _)) (own_rd hS6.out) (by omega) hgs.out.2 hn5.out (fun g hg => (v.out.fr g hg).2)).mono ?_
            rintro e w7 ⟨rfl, hb7⟩
            have hT7 := hid (hT6.out.step hb7)
            have hO7 := hid (hO6.out.step hb7)
            have hE7 := hid (hE6.out.step hb7)
            have hS7 := hid (own_of_blk hS6.out fun g hg => hb7.block g (hS6.out.lt g hg).2)
            have hz7 := hb7.size
            clear hb7 u0 u1 p0 p1 hT5 hT6 hO5 hO6 hE5 hE6 hS5 hS6 hf'
            obtain ⟨p0, p1, -, -⟩ := hE7.out.two
            obtain ⟨u0, u1, -, -⟩ := hT7.out.a.two
            obtain ⟨Ax, mx, cx, k0, k1, k2, k3⟩ := hO7.out.hole hS
            obtain ⟨W8, hW8⟩ : ∃ W8, ((w7.setCell ⟨bH, S * 2, none⟩ (.slice none 0 0)).setCell ⟨bH, S * 2 + 1, none⟩ (.int .i64 (-1))) = W8 := ⟨_, rfl⟩
            have hO8 := hid (show OwC W8 w2.heap.size (.slice (some ⟨bF, 0, none⟩) n1 cF) (.slice (some ⟨bH, 0, none⟩) n2 cH) (vals3.set S (.slice none 0 0)) (giveTo c S (zs.take 0)) by
              rw [← hW8]
              exact hO7.out.setH hS (v := .slice none 0 0) (zs := []) (World.ownsRow_nil _ _ _ _) (fun q hq => by cases hq) (-1))
            have hk8 : Kp (fun b => b = bH) w7 W8 := by rw [← hW8]; exact ((Kp.refl (fun b => b = bH) w7).setCell (p := ⟨bH, S * 2, none⟩) (.inr rfl) _).setCell (p := ⟨bH, S * 2 + 1, none⟩) (.inr rfl) _
            have hT8 := hid (hT7.out.stepB (hk8.base (B := w2.heap.size) (by omega) (fun b e => by omega)) hlo)
            have hE8 := hid (hE7.out.kp hk8 (fun e => by omega))
            have hS8 := hid (own_of_blk hS7.out fun g hg => hk8.block g (hS7.out.lt g hg).2 (hb5ne.out g hg).2)
            have hz8 := hk8.size
            have hW8' := hid hW8
            clear hW8 hk8 hT7 hO7 hE7 hS7
            go_upto_region 8 with (fail)
            rw [hW8'.out]
            clear hW8' u0 u1 p0 p1 k0 k1 k2 k3
            obtain ⟨u0, u1, -, -⟩ := hT8.out.a.two
            have hlen0 := hid (show (giveTo c S (zs.take 0)).hs.length = n2 by simp [giveTo, clr]; exact l2'.out)
            have hok := hid (show OkC (9 + ((0 : Nat) : Int)) n2 (giveTo c S (zs.take 0)) from by
              have := (OkC.of v.out).clr (S := S) hS
              rw [l2'.out] at this
              simpa [giveTo] using this)
            obtain ⟨Ar, cr, Br, dr, er1, er2, hRd, -⟩ := hO8.out.rd (by rw [hok.out.fl]; omega) (by rw [hlen0.out]; omega) (fun h hh => by have := hok.out.short h hh; omega)
            injection er2 with er2 er3 er4
            subst er2
            rw [hlen0.out] at hRd
            have hRd' := hid hRd
            clear er1 er3 er4 hRd
            go_wp2_with fail
            refine (waitLine_any _ hRd'.out).mono ?_
            rintro e w9 ⟨ns, x0, rfl, hx0, hL, hin0, hb9⟩
            have hT9 := hid (hT8.out.step hb9)
            have hO9 := hid (hO8.out.step hb9)
            have hE9 := hid (hE8.out.step hb9)
            have hS9 := hid (own_of_blk hS8.out fun g hg => hb9.block g (hS8.out.lt g hg).2)
            have hz9 := hb9.size
            have hL9 := hid hL
            have hx9 := hid hx0
            have hin9 := hid hin0
            clear hb9 u0 u1 hT8 hO8 hE8 hS8 hL hx0 hin0 hRd'
            obtain ⟨p0, p1, -, -⟩ := hE9.out.two
            go_wp2
            go_loopw [54] (fun i wr => ∃ (j : Nat) (vals : List Value) (ns : List Wn) (xx : Wn), j ≤ m5 ∧ i = .int .i64 j ∧ Hid (xx.b = x0.b) ∧ Hid (ns[0]? = some xx) ∧ Hid (Ln wr W8.heap.size ns) ∧ Hid (inL ns = gl (giveTo c S (zs.take j)).h (wtB (giveTo c S (zs.take j))) (giveTo c S (zs.take j)).hs.length) ∧ Hid (OwC wr w2.heap.size (.slice (some ⟨bF, 0, none⟩) n1 cF) (.slice (some ⟨bH, 0, none⟩) n2 cH) vals (giveTo c S (zs.take j))) ∧ Hid (Two0 w wr (.slice (some ⟨bF, 0, none⟩) n1 cF) (.slice (some ⟨bH, 0, none⟩) n2 cH)) ∧ Hid (wr.ownsRow w2.heap.size 3 1 (.slice A5 m5 c5) m5 (ints zs)) ∧ Hid (OkC (9 + (j : Int)) n2 (giveTo c S (zs.take j))) ∧ w9.heap.size ≤ wr.heap.size) (fun i _ => m5 - (intOf i).toNat)
            case atStart => exact ⟨0, _, ns, x0, Nat.zero_le _, rfl, hid rfl, hx9, hL9, hin9, hO9, hT9, hS9, hok, Nat.le_refl _⟩
            case round =>
              clear hL9 hx9 hin9 hO9 hT9 hS9 hok hE9 p0 p1
              obtain ⟨j, vals, ns, xx, hj, rfl, hxb, hx0, hL, hin, hO, hT, hSo, hok, hwz⟩ := hrel
              obtain ⟨d, hd⟩ : ∃ d, giveTo c S (zs.take j) = d := ⟨_, rfl⟩
              rw [hd] at hin hO hok
              have hd' := hid hd
              by_cases hjm : j < m5
              · obtain ⟨G, hzg, hG5⟩ : ∃ G : Nat, zs[j]? = some (G : Int) ∧ G < 5 := by
                  have hkl : j < zs.length := by rw [hm5.out]; exact hjm
                  have := hgs.out.2 _ (List.getElem_mem hkl)
                  exact ⟨zs[j].toNat, by rw [List.getElem?_eq_getElem hkl]; congr 1; omega, by omega⟩
                obtain ⟨ad, z, e9, hz, hcz⟩ := RdI.at' (own_rd hSo.out) hjm
                subst e9
                have hzG : z = (G : Int) := by
                  have := hz.out
                  rw [List.getD_eq_getElem?_getD, hzg] at this
                  exact this.symm
                subst hzG
                have hzero := hid (show ∀ k, k < d.hs.length → (d.h k).2 = (G : Int) → d.f G = 0 by rw [← hd]; exact give_zero v.out hS hxn.out hgs.out hzg hG5)
                have hnext := hid (show giveTo c S (zs.take (j + 1)) = sv1 d G by rw [giveTo_snoc hzg, hd]; exact serv_sv1 hok.out.fl hG5 hzero.out)
                have i0 : (0 : Int) ≤ (j : Int) := by omega
                have i1 : (j : Int) < (m5 : Int) := by omega
                have g0 : (0 : Int) ≤ (G : Int) := by omega
                have g1 : (G : Int) < (n1 : Int) := by rw [hn5.out]; omega
                have hxb' := hxb.out
                clear hz hd hzg
                go_upto_region 12 with (fail)
                go_wp2_with fail
                rw [← hxb']
                refine (takeFor_any (G : Int) _ hL.out hx0.out).mono ?_
                rintro e wa (⟨k, y, y1, y2, y3, rfl, y4, y5, y6⟩ | ⟨y1, rfl, y4, y6⟩)
                · obtain ⟨I, hyI, hI, hfw, hine⟩ := line_some hin.out y1 y2 y3
                  have hsv := hid (show sv1 d G = ⟨d.fr, d.hs.set I (unionL (d.h I).1 [(G : Int)], -1)⟩ by unfold sv1; rw [hfw])
                  have hI2 : I < n2 := by rw [← hok.out.hn]; exact hI
                  have hokn := hid ((hok.out.sv hG5).cast (show (9 + (j : Int) + 1) = 9 + ((j + 1 : Nat) : Int) by omega))
                  have hbk := hid (fun (b : Nat) (cs : Array Value) (hc : Cs wr b 66 cs) => hO.out.off hc (by decide) (by decide))
                  have hLblk := hid (fun g (hg : bkC (.slice (some ⟨bF, 0, none⟩) n1 cF) (.slice (some ⟨bH, 0, none⟩) n2 cH) vals g) (hs : LnS ns g) => by
                    obtain ⟨q, z, hz, e⟩ := hs
                    exact hbk.out z.b _ (hL.out.nd q z hz) (e ▸ hg))
                  have hOa := hid (hO.out.of_blocks y6.size fun g hg => y6.block g (hO.out.lt hg).2 (hLblk.out g hg))
                  have hTa := hid (hT.out.stepB (y6.base (B := W8.heap.size) (by omega) (fun b hb => by obtain ⟨q, z, hz, e⟩ := hb; rw [e]; exact hL.out.lo q z hz)) (by omega))
                  have hSa := hid (own_of_blk hSo.out fun g hg => y6.block g (hSo.out.lt g hg).2 (fun hb => by
                    obtain ⟨q, z, hz, e⟩ := hb
                    exact cs_type (hL.out.nd q z hz) hSo.out (by decide) (e ▸ hg)))
                  have hza : w9.heap.size ≤ wa.heap.size := Nat.le_trans hwz y6.size
                  have hLa := hid y4
                  have h0a := hid (show (ns.eraseIdx (k + 1))[0]? = some xx by rw [erase_low (by omega)]; exact hx0.out)
                  have hinn := hid (show inL (ns.eraseIdx (k + 1)) = gl (sv1 d G).h (wtB (sv1 d G)) (sv1 d G).hs.length by
                    have e1 := hine (unionL (d.h I).1 [(G : Int)])
                    rw [hsv.out]
                    simp only [List.length_set]
                    exact e1)
                  obtain ⟨A7, m7, c7, hm7, -, ho7, k0, k1, k2⟩ := hOa.out.slotO hI
                  have hr7' := hid (show RdI wa.drew wa.drew.heap.size A7 m7 (d.h I).1 from own_rd ho7.out)
                  have hml7 : m7 < 1099511627776 := by rw [← hm7.out]; have := set_len (hok.out.s I hI2); omega
                  have hset7 := hid (hok.out.s I hI2)
                  obtain ⟨u0, u1, -, -⟩ := hTa.out.a.two
                  have qy0 := y5.cell 0
                  rw [hyI] at qy0
                  have qy0 : wa.cell? ⟨y.b, 0, none⟩ = some (.int .i64 (I : Int)) := qy0
                  have I0 : (0 : Int) ≤ (I : Int) := by omega
                  have I1 : (I : Int) < (n2 : Int) := by omega
                  have hgG := hid (show grB (G : Int) = true from grB_true.2 ⟨by omega, by omega⟩)
                  have KA := hid (fun X (hX : Below wa.heap.size wa X) => And.intro ((hX.cell (p := ⟨w.heap.size, 1, none⟩) (World.block_lt_of_cell? wa _ u1)).trans u1) (And.intro ((hX.cell (p := ⟨y.b, 0, none⟩) (World.block_lt_of_cell? wa _ qy0)).trans qy0) (And.intro ((hX.cell (p := ⟨bH, I * 2, none⟩) (World.block_lt_of_cell? wa _ k0)).trans k0) (And.intro ((hX.cell (p := ⟨bH, I * 2 + 1, none⟩) (World.block_lt_of_cell? wa _ k1)).trans k1) (And.intro ((hX.frozen (p := ⟨bH, I * 2, none⟩) (World.block_lt_of_cell? wa _ k0)).trans (k2 _)) ((hX.frozen (p := ⟨bH, I * 2 + 1, none⟩) (World.block_lt_of_cell? wa _ k1)).trans (k2 _)))))))
                  obtain ⟨j1, jy, a0, a1, t0, t1⟩ := KA.out _ (Below.refl _ _)
                  clear y1 y2 y3 y4 y5 y6 hO hT hSo hL hin hfw hine hbk hLblk k0 k1 k2 u0 u1 qy0 ho7 hyI hcz
                  go_upto_region 14 with (fail)
                  go_region_law (go_simp; go_at_call 53; (with_reducible refine (Hold_with_any _ _ hr7'.out hml7 hset7.out hgG.out).mono ?_); rintro e wb ⟨A8, N8, C8, rfl, ho8, hb8⟩; have hb8' := hid (show Below wa.heap.size wa wb from ⟨hb8.os, hb8.tape, hb8.output, hb8.size, hb8.block⟩); obtain ⟨j1b, jyb, a0b, a1b, t0b, t1b⟩ := KA.out _ hb8'.out)
                  all_goals
                    have hsz8 : wa.heap.size ≤ wb.heap.size := hb8'.out.size
                    have hlo8 : ∀ q, (Value.slice A8 N8 C8).ownBlock = some q → wa.heap.size ≤ q := fun q hq => (ho8.lt q hq).1
                    have hOb := hOa.out.step hb8'.out
                    have hO9 := hid (hOb.setH (s := I) hI (own_lo ho8 (show w2.heap.size ≤ wa.heap.size by omega)) (fun q hq hk => by have h1 := hlo8 q hq; have h2 := (hOa.out.lt hk).2; omega) (-1))
                    have hk9 : Kp (fun b => b = bH) wb ((wb.setCell ⟨bH, I * 2, none⟩ (.slice A8 N8 C8)).setCell ⟨bH, I * 2 + 1, none⟩ (.int .i64 (-1))) := ((Kp.refl (fun b => b = bH) wb).setCell (p := ⟨bH, I * 2, none⟩) (.inr rfl) _).setCell (p := ⟨bH, I * 2 + 1, none⟩) (.inr rfl) _
                    have hT9 := hid ((hTa.out.step hb8'.out).stepB (hk9.base (B := w2.heap.size) (by omega) (fun b e => by omega)) hlo)
                    have hLb := hLa.out.step hb8'.out
                    have hL9 := hid (hLb.kp hk9 (fun q z hz e => cs_type (hLb.nd q z hz) hOb.h (by decide) (by rw [e]; rfl)))
                    have hSb := own_of_blk hSa.out fun g hg => hb8'.out.block g (hSa.out.lt g hg).2
                    have hS9 := hid (own_of_blk hSb fun g hg => hk9.block g (hSb.lt g hg).2 (hb5ne.out g hg).2)
                    have hzf := hk9.size
                    rw [show (⟨d.fr, d.hs.set I (unionL (d.h I).1 [(G : Int)], -1)⟩ : Cr) = sv1 d G from hsv.out.symm] at hO9
                    obtain ⟨W9, hW9⟩ : ∃ W9, ((wb.setCell ⟨bH, I * 2, none⟩ (.slice A8 N8 C8)).setCell ⟨bH, I * 2 + 1, none⟩ (.int .i64 (-1))) = W9 := ⟨_, rfl⟩
                    rw [hW9] at hO9 hT9 hL9 hS9 hzf ⊢
                    clear hW9 hb8 hb8' ho8 hlo8 KA hOa hTa hLa hSa hk9 hOb hLb hSb j1b jyb a0b a1b t0b t1b
                    go_wp2
                    go_roundw
                    case rel => exact ⟨j + 1, _, _, xx, by omega, by go_num, hxb, h0a, hL9, hid (by rw [hnext.out]; exact hinn.out), hid (by rw [hnext.out]; exact hO9.out), hT9, hS9, hid (by rw [hnext.out]; exact hokn.out), by omega⟩
                    case measure => simp [intOf]; omega
                · have hfw := line_none hin.out y1
                  have hsv := hid (show sv1 d G = inc d G by unfold sv1; rw [hfw])
                  have hokn := hid ((hok.out.sv hG5).cast (show (9 + (j : Int) + 1) = 9 + ((j + 1 : Nat) : Int) by omega))
                  have hbk := hid (fun (b : Nat) (cs : Array Value) (hc : Cs wr b 66 cs) => hO.out.off hc (by decide) (by decide))
                  have hLblk := hid (fun g (hg : bkC (.slice (some ⟨bF, 0, none⟩) n1 cF) (.slice (some ⟨bH, 0, none⟩) n2 cH) vals g) (hs : LnS ns g) => by
                    obtain ⟨q, z, hz, e⟩ := hs
                    exact hbk.out z.b _ (hL.out.nd q z hz) (e ▸ hg))
                  have hOa := hid (hO.out.of_blocks y6.size fun g hg => y6.block g (hO.out.lt hg).2 (hLblk.out g hg))
                  have hTa := hid (hT.out.stepB (y6.base (B := W8.heap.size) (by omega) (fun b hb => by obtain ⟨q, z, hz, e⟩ := hb; rw [e]; exact hL.out.lo q z hz)) (by omega))
                  have hSa := hid (own_of_blk hSo.out fun g hg => y6.block g (hSo.out.lt g hg).2 (fun hb => by
                    obtain ⟨q, z, hz, e⟩ := hb
                    exact cs_type (hL.out.nd q z hz) hSo.out (by decide) (e ▸ hg)))
                  have hza : w9.heap.size ≤ wa.heap.size := Nat.le_trans hwz y6.size
                  have hinn := hid (show inL ns = gl (sv1 d G).h (wtB (sv1 d G)) (sv1 d G).hs.length by rw [hsv.out]; exact hin.out)
                  have hGl : G < d.fr.length := by rw [hok.out.fl]; exact hG5
                  obtain ⟨yy, hyy⟩ : ∃ yy, d.f G = yy := ⟨_, rfl⟩
                  obtain ⟨f0, f1, hOF⟩ := hOa.out.setF hGl (d.f G + 1)
                  rw [hyy] at f0
                  have hyb := hok.out.f G hG5
                  rw [hyy] at hyb
                  have hwy : IntKind.i64.wrap (yy + 1) = yy + 1 := IntWalk.i64_in _ (by omega)
                  have hOF' := hid (show OwC (wa.setCell ⟨bF, G, none⟩ (.int .i64 (yy + 1))) w2.heap.size (.slice (some ⟨bF, 0, none⟩) n1 cF) (.slice (some ⟨bH, 0, none⟩) n2 cH) vals (sv1 d G) by rw [hsv.out, ← hyy]; exact hOF)
                  have hk9 : Kp (fun b => b = bF) wa (wa.setCell ⟨bF, G, none⟩ (.int .i64 (yy + 1))) := (Kp.refl (fun b => b = bF) wa).setCell (p := ⟨bF, G, none⟩) (.inr rfl) _
                  have hT9 := hid (hTa.out.stepB (hk9.base (B := w2.heap.size) (by omega) (fun b e => by omega)) hlo)
                  have hL9 := hid (y4.kp hk9 (fun q z hz e => cs_type (y4.nd q z hz) hOa.out.f (by decide) (by rw [e]; rfl)))
                  have hS9 := hid (own_of_blk hSa.out fun g hg => hk9.block g (hSa.out.lt g hg).2 (hb5ne.out g hg).1)
                  have hzf := hk9.size
                  obtain ⟨u0, u1, -, -⟩ := hTa.out.a.two
                  clear y1 y4 y6 hO hT hSo hL hin hfw hbk hLblk hOF hyy hk9 hcz
                  go_wp2
                  go_roundw
                  case rel => exact ⟨j + 1, _, _, xx, by omega, by go_num, hxb, hx0, hL9, hid (by rw [hnext.out]; exact hinn.out), hid (by rw [hnext.out]; exact hOF'.out), hT9, hS9, hid (by rw [hnext.out]; exact hokn.out), by omega⟩
                  case measure => simp [intOf]; omega
              · obtain rfl : j = m5 := by omega
                have hjj : ¬ ((j : Int) < (j : Int)) := by omega
                have hfin := hid (show giveTo c S zs = d by rw [← hd, List.take_of_length_le (by rw [hm5.out]; omega)])
                obtain ⟨u0, u1, -, -⟩ := hT.out.a.two
                obtain ⟨z0, z1, z2, z3⟩ := hT.out.z.two
                obtain ⟨ro, rb, rc⟩ := hT.out.ret hO.out (by omega)
                replace ro := hid ro
                replace rb := hid rb
                obtain ⟨y0, y1, -, -⟩ := rc.two
                clear rc hd
                go_wp2
                refine bodyPost_ret (v := .tuple #[crV (.slice (some ⟨bF, 0, none⟩) n1 cF) (.slice (some ⟨bH, 0, none⟩) n2 cH), .bool true]) (by simp [results, Try.results24, go_sem, y0, y1]) rfl ?_
                rw [hq.out, hfin.out]
                exact ⟨_, _, _, rfl, ro.out, rb.out⟩
end Go.Proofs.Ytgeihcbiahnnaaa
