/-
  The walks of the laws FnStampMax and FnStampMaxOrder. No condition.
-/
import Derived.Test.YtmnkamonkmoapaaSmE
namespace Go.Proofs.Ytmnkamonkmoapaa
open Go.RowKit

theorem stL_ge {zs : List St} {m m2 t g : Int} (hok : maxOk zs = true) (hm : maxR zs = (m, m2)) (hx : (t, g) ∈ zs) : stL m m2 t g = false := by
  have h := maxR_ge hok hx
  rw [hm] at h
  have : lexB m m2 t g = false := h
  simp [stL, this]

theorem mem_take_succ {zs : List St} {k : Nat} {x y : St} (hx : zs[k]? = some x) : y ∈ zs.take (k + 1) ↔ (y ∈ zs.take k ∨ y = x) := by
  rw [List.take_add_one, hx]; simp


set_option maxHeartbeats 2000000 in
theorem lawStampMax {a : Option Addr} {len cap : Nat} {zb : List Int} (w : World) (h : RowIs .u8 w a len cap zb) :
    Calls Try.prog 5 #[.slice a len cap] w fun e w' => e = .returned (.bool true) ∧ Below w.heap.size w w' := by
  have hl : len ≤ 9223372036854775807 := by
    rcases h with ⟨rfl, rfl, rfl, rfl⟩ | ⟨x, rfl, hl, hm, _⟩
    · omega
    · unfold maxLen at hm; omega
  by_cases hbig : 1048576 < len
  · clear h
    go_enter Try.func5, Try.ntmps5
    go_wp2
    go_ret
    exact ⟨rfl, Below.refl _ _⟩
  · have h' := hid h
    clear h
    go_enter Try.func5, Try.ntmps5
    go_wp2_with fail
    refine (DrawStampMax_any w h'.out).mono ?_
    rintro e w1 ⟨v, zs, rfl, ho, hl, hb1⟩
    have hw1 := hb1.size
    have hB1 := hid hb1
    clear hb1
    obtain ⟨A, c, rfl, hr, hc, hc2⟩ := ho.form
    obtain ⟨n, hn⟩ : ∃ n, zs.length = n := ⟨_, rfl⟩
    rw [hn] at hr hc hl ⊢
    have hnl : n < 1099511627776 := by omega
    have hr := hid hr
    have hn := hid hn
    clear ho
    obtain ⟨m, m2, hm⟩ : ∃ m m2, maxR zs = (m, m2) := ⟨_, _, rfl⟩
    have hm1 := hid (show (maxR zs).1 = m by rw [hm])
    have hm2 := hid (show (maxR zs).2 = m2 by rw [hm])
    have hm := hid hm
    obtain ⟨ok, hok⟩ : ∃ ok, maxOk zs = ok := ⟨_, rfl⟩
    have hok := hid hok
    go_wp2_with fail
    refine (StampMax_impl _ hr.out hnl hc hc2).mono ?_
    unfold MaxPost
    rw [hm1.out, hm2.out, hok.out]
    rintro e w2 ⟨rfl, hb2⟩
    have hz2 := hb2.size
    have r2 := hid ((hr.out.below hb2).below (below1 w2 (.cells #[.int .i64 m, .int .i64 m2] 24)))
    have B2 := hid ((hB1.out.trans (hb2.mono hw1)).alloc (o := .cells #[.int .i64 m, .int .i64 m2] 24) (by omega))
    have V2 := hid (hb2.alloc (o := .cells #[.int .i64 m, .int .i64 m2] 24) (by omega))
    have P2 := hid (At2.new w2 24 m m2)
    have hz2' : w2.heap.size < (w2.alloc (.cells #[.int .i64 m, .int .i64 m2] 24)).heap.size := by simp
    clear hb2
    go_wp2_with fail
    refine (StampMax_spec _ r2.out hnl).mono ?_
    unfold MaxPost
    rw [hm1.out, hm2.out, hok.out]
    rintro e w3 ⟨rfl, hb3⟩
    have hz3 := hb3.size
    have B3 := hid ((B2.out.trans (hb3.mono (by omega))).alloc (o := .cells #[.int .i64 m, .int .i64 m2] 24) (by omega))
    have V3 := hid ((V2.out.trans (hb3.mono (by omega))).alloc (o := .cells #[.int .i64 m, .int .i64 m2] 24) (by omega))
    have P3 := hid ((P2.out.below hb3 hz2').alloc (.cells #[.int .i64 m, .int .i64 m2] 24))
    have Q3 := hid (At2.new w3 24 m m2)
    have hz3' : w2.heap.size < w3.heap.size := by omega
    clear hb3 r2 P2 V2 B2
    cases ok with
    | false =>
      obtain ⟨x0, x1, _, _⟩ := P3.out.cells
      obtain ⟨y0, y1, _, _⟩ := Q3.out.cells
      go_wp2
      go_ret
      exact ⟨rfl, B3.out⟩
    | true =>
      obtain ⟨x0, x1, x2, x3⟩ := P3.out.cells
      obtain ⟨y0, y1, _, _⟩ := Q3.out.cells
      have hge : Hid (∀ t g, (t, g) ∈ zs → stL m m2 t g = false) := hid (fun t g hx => stL_ge hok.out hm.out hx)
      have hin : Hid ((m, m2) ∈ zs) := hid (by rw [← hm.out]; exact maxR_mem hok.out)
      go_wp2
      clear x0 x1 x2 x3 y0 y1
      go_loopw [8, 9] (fun f i wr => ∃ (k : Nat) (fb : Bool), k ≤ n ∧ i = .int .i64 k ∧ f = .bool fb ∧ Hid (fb = true ↔ (m, m2) ∈ zs.take k) ∧ Hid (At2 wr w2.heap.size 24 m m2) ∧ Hid (Below w1.heap.size w1 wr)) (fun _ i _ => n - (intOf i).toNat)
      case atStart => exact ⟨0, false, by omega, rfl, rfl, hid (by simp), P3, V3⟩
      case round =>
        obtain ⟨k, fb, hk, rfl, rfl, hfb, hp, hV⟩ := hrel
        have hzV := hV.out.size
        by_cases hlt : k < n
        · have hrr := hid (hr.out.below hV.out)
          obtain ⟨b, off, t, g, rfl, hx, hb, d0, d1⟩ := hrr.out.at_ hlt
          have hlt2 : Hid (stL m m2 t g = false) := hid (hge.out t g (List.mem_of_getElem? hx.out))
          have hms := mem_take_succ (y := (m, m2)) hx.out
          obtain ⟨x0, x1, x2, x3⟩ := hp.out.cells
          have i0 : (0 : Int) ≤ (k : Int) := by omega
          have i1 : (k : Int) < (n : Int) := by omega
          have hpl := hp.out.lt
          have next : ∃ fb2 : Bool, (fb || (t == m && g == m2)) = fb2 ∧ Hid (fb2 = true ↔ (m, m2) ∈ zs.take (k + 1)) := by
            refine ⟨_, rfl, hid ?_⟩
            rw [hms, ← hfb.out, Bool.or_eq_true, Bool.and_eq_true, beq_iff_eq, beq_iff_eq, Prod.mk.injEq]
            constructor
            · rintro (h | h)
              · exact .inl h
              · exact .inr ⟨h.1.symm, h.2.symm⟩
            · rintro (h | h)
              · exact .inl h
              · exact .inr ⟨h.1.symm, h.2.symm⟩
          obtain ⟨fb2, hfe, hf2⟩ := next
          have hfe := hid hfe
          clear hms
          go_upto_region 12 with (fail)
          go_cut [8] (fun f wx => f = .bool fb2 ∧ Hid (Qt wr wx))
          case first =>
            cases fb with
            | true =>
              have hf3 : Hid (fb2 = true) := hid (by rw [← hfe.out]; rfl)
              go_quiet (fail)
              go_wp2
              go_meet
              exact ⟨by rw [hf3.out], hid ((Qt.refl wr).drewN _)⟩
            | false =>
              by_cases e1 : t = m
              · subst e1
                by_cases e2 : g = m2
                · subst e2
                  have hf3 : Hid (fb2 = true) := hid (by rw [← hfe.out]; simp)
                  go_quiet (fail)
                  go_wp2
                  go_meet
                  exact ⟨by rw [hf3.out], hid ((Qt.refl wr).drewN _)⟩
                · have hf3 : Hid (fb2 = false) := hid (by rw [← hfe.out]; simp [e2])
                  have e3 : (g == m2) = false := by rw [beq_eq_false_iff_ne]; exact e2
                  clear e2
                  go_quiet (fail)
                  go_wp2
                  go_meet
                  exact ⟨by rw [hf3.out], hid ((Qt.refl wr).drewN _)⟩
              · have hf3 : Hid (fb2 = false) := hid (by rw [← hfe.out]; simp [e1])
                have e3 : (t == m) = false := by rw [beq_eq_false_iff_ne]; exact e1
                clear e1
                go_quiet (fail)
                go_wp2
                go_meet
                exact ⟨by rw [hf3.out], hid ((Qt.refl wr).drewN _)⟩
          case rest =>
            obtain ⟨rfl, hq⟩ := hcut
            have hbq := hq.out.below wr.heap.size
            have q0 : wc.drew.cell? ⟨b, off + k * 2, none⟩ = some (.int .i64 t) := (hbq.cell (p := ⟨b, off + k * 2, none⟩) hb).trans d0
            have q1 : wc.drew.cell? ⟨b, off + k * 2 + 1, none⟩ = some (.int .i64 g) := (hbq.cell (p := ⟨b, off + k * 2 + 1, none⟩) hb).trans d1
            have q2 : wc.drew.cell? ⟨w2.heap.size, 0, none⟩ = some (.int .i64 m) := (hbq.cell (p := ⟨w2.heap.size, 0, none⟩) hpl).trans x0
            have q3 : wc.drew.cell? ⟨w2.heap.size, 1, none⟩ = some (.int .i64 m2) := (hbq.cell (p := ⟨w2.heap.size, 1, none⟩) hpl).trans x1
            have Q := hid (And.intro q0 (And.intro q1 (And.intro q2 q3)))
            have hbd : b < wc.drew.heap.size := by have := hbq.size; show b < wc.heap.size; omega
            have hpd : w2.heap.size < wc.drew.heap.size := by have := hbq.size; show w2.heap.size < wc.heap.size; omega
            have hp' : Hid (At2 wc.drew w2.heap.size 24 m m2) := hid ((hp.out.below hbq hpl).drew)
            have hzc : w1.heap.size ≤ wc.drew.heap.size := by have := hbq.size; show w1.heap.size ≤ wc.heap.size; omega
            have hV' : Hid (Below w1.heap.size w1 wc.drew) := hid ((hV.out.trans (hbq.mono hzV)).drew)
            clear q0 q1 q2 q3 d0 d1 x0 x1 x2 x3 hbq hfe
            go_wp2_with fail
            go_region_held3 (fun w' => w'.cell? ⟨b, off + k * 2, none⟩ = some (.int .i64 t) ∧ w'.cell? ⟨b, off + k * 2 + 1, none⟩ = some (.int .i64 g) ∧ w'.cell? ⟨w2.heap.size, 0, none⟩ = some (.int .i64 m) ∧ w'.cell? ⟨w2.heap.size, 1, none⟩ = some (.int .i64 m2))
              (first | with_reducible exact ⟨Q.out.1, Q.out.2.1, Q.out.2.2.1, Q.out.2.2.2⟩ | with_reducible exact ⟨Q2.out.1, Q2.out.2.1, Q2.out.2.2.1, Q2.out.2.2.2⟩)
              (first | (go_at_call 15; (with_reducible refine (StampLess_impl _ _ _ _ _).mono ?_); rw [hlt2.out]; rintro e w5 ⟨rfl, hb5⟩; have Q2 := hid (And.intro ((hb5.cell (p := ⟨b, off + k * 2, none⟩) hbd).trans Q.out.1) (And.intro ((hb5.cell (p := ⟨b, off + k * 2 + 1, none⟩) hbd).trans Q.out.2.1) (And.intro ((hb5.cell (p := ⟨w2.heap.size, 0, none⟩) hpd).trans Q.out.2.2.1) ((hb5.cell (p := ⟨w2.heap.size, 1, none⟩) hpd).trans Q.out.2.2.2))))))
            have V5 := hid (hV'.out.trans (hb5.mono hzc))
            have P5 := hid (hp'.out.below hb5 hpd)
            clear hb5
            go_wp2
            go_roundw
            case rel => exact ⟨k + 1, fb2, by omega, by go_num, rfl, hf2, P5, V5⟩
            case measure => simp [intOf]; omega
        · have hfin : fb = true := hfb.out.2 (by rw [List.take_of_length_le (by rw [hn.out]; omega)]; exact hin.out)
          subst hfin
          have B4 := hid (hB1.out.trans (hV.out.mono hw1))
          go_wp2
          go_ret
          exact ⟨rfl, B4.out⟩
end Go.Proofs.Ytmnkamonkmoapaa
