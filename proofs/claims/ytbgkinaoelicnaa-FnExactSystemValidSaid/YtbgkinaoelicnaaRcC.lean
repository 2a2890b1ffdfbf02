/-
  Contracts of SystemValid, of the model and of the program, and of eqGroupS at equal groups. No condition but lengths below 2^40.
-/
import Derived.Test.YtbgkinaoelicnaaRcB
import Derived.Test.YtbgkinaoelicnaaMgJ
import Derived.Test.YtbgkinaoelicnaaMgF
import Derived.Test.YtbgkinaoelicnaaMgC
namespace Go.Proofs.Ytbgkinaoelicnaa
open Go.RowKit
set_option linter.unusedVariables false
set_option linter.unusedSimpArgs false

theorem RdGs.atb {w : World} {b n k : Nat} {gs : List Ge} (h : RdGs w (some ⟨b, 0, none⟩) n gs) (hk : k < n) :
    ∃ id ck A1 n1 c1 A2 n2 c2 P D, Hid (gs[k]? = some ⟨id, ck, A1, n1, c1, A2, n2, c2, P, D⟩) ∧ Hid (RdG w A1 n1 c1 A2 n2 c2 P D) ∧ b < w.heap.size ∧
      w.cell? ⟨b, k * 4, none⟩ = some (.int .i64 id) ∧ w.cell? ⟨b, k * 4 + 1, none⟩ = some (.int .i64 ck) ∧ w.cell? ⟨b, k * 4 + 2, none⟩ = some (.slice A1 n1 c1) ∧ w.cell? ⟨b, k * 4 + 3, none⟩ = some (.slice A2 n2 c2) := by
  obtain ⟨b', id, ck, A1, n1, c1, A2, n2, c2, P, D, e, h1, h2, h3, h4⟩ := h.at_ hk
  injection e with e
  injection e with e
  subst e
  exact ⟨id, ck, A1, n1, c1, A2, n2, c2, P, D, h1, h2, h3, h4⟩

set_option maxHeartbeats 4000000 in
theorem eqGroupS_same {n c c' : Nat} {A A' : Option Addr} {gs ks : List Ge} (w : World) (h : RdGs w A n gs) (k : RdGs w A' n ks) (he : gs.map Ge.gp = ks.map Ge.gp) (hn : n < 1099511627776) :
    Calls Try.prog 8 #[.slice A n c, .slice A' n c'] w fun e w' => e = .returned (.bool true) ∧ Below w.heap.size w w' := by
  have h' := hid h
  have k' := hid k
  have he' := hid he
  clear h k he
  go_enter Try.func8, Try.ntmps8
  go_wp2
  go_loopw [5] (fun i wr => ∃ j : Nat, j ≤ n ∧ i = .int .i64 j ∧ Hid (Below w.heap.size w wr)) (fun i _ => n - (intOf i).toNat)
  case atStart => exact ⟨0, by omega, rfl, hid (Below.refl _ _)⟩
  case round =>
    obtain ⟨j, hj, rfl, hB⟩ := hrel
    have hsz := hB.out.size
    by_cases hlt : j < n
    · obtain ⟨b, id, ck, A1, n1, c1, A2, n2, c2, P, D, rfl, hx, hr, hb, d0, d1, d2, d3⟩ := (h'.out.below hB.out).at_ hlt
      obtain ⟨b2, id2, ck2, B1, m1, e1, B2, m2, e2, P2, D2, rfl, hx2, hr2, hb2, f0, f1, f2, f3⟩ := (k'.out.below hB.out).at_ hlt
      have e : (⟨id, ck, P, D⟩ : Gp) = ⟨id2, ck2, P2, D2⟩ := by
        have h9 : (gs.map Ge.gp)[j]? = (ks.map Ge.gp)[j]? := by rw [he'.out]
        rw [List.getElem?_map, List.getElem?_map, hx.out, hx2.out] at h9
        injection h9
      injection e with g1 g2 g3 g4
      subst g1; subst g2; subst g3; subst g4
      obtain rfl : n1 = m1 := hr.out.rp.len.symm.trans hr2.out.rp.len
      obtain rfl : n2 = m2 := hr.out.rd.len.symm.trans hr2.out.rd.len
      have i0 : (0 : Int) ≤ (j : Int) := by omega
      have i1 : (j : Int) < (n : Int) := by omega
      have C0 : ∀ x : BW wr, x.wd.cell? ⟨b, j * 4, none⟩ = some (.int .i64 id) := fun x => x.cell d0
      have C1 : ∀ x : BW wr, x.wd.cell? ⟨b, j * 4 + 1, none⟩ = some (.int .i64 ck) := fun x => x.cell d1
      have C2 : ∀ x : BW wr, x.wd.cell? ⟨b, j * 4 + 2, none⟩ = some (.slice A1 n1 c1) := fun x => x.cell d2
      have C3 : ∀ x : BW wr, x.wd.cell? ⟨b, j * 4 + 3, none⟩ = some (.slice A2 n2 c2) := fun x => x.cell d3
      have D0 : ∀ x : BW wr, x.wd.cell? ⟨b2, j * 4, none⟩ = some (.int .i64 id) := fun x => x.cell f0
      have D1 : ∀ x : BW wr, x.wd.cell? ⟨b2, j * 4 + 1, none⟩ = some (.int .i64 ck) := fun x => x.cell f1
      have D2 : ∀ x : BW wr, x.wd.cell? ⟨b2, j * 4 + 2, none⟩ = some (.slice B1 n1 e1) := fun x => x.cell f2
      have D3 : ∀ x : BW wr, x.wd.cell? ⟨b2, j * 4 + 3, none⟩ = some (.slice B2 n2 e2) := fun x => x.cell f3
      clear d0 d1 d2 d3 f0 f1 f2 f3 hx hx2
      go_wp2_with fail
      refine wp_region_below (by kernel_rfl) (by kernel_rfl) ?_
      repeat (go_big_quiet_step ((go_at_call 16; exact BW.call _ (eqGroup_same _ _ _ (BW.rde _ hr.out.rp) (BW.rde _ hr.out.rd) (BW.rde _ hr2.out.rp) (BW.rde _ hr2.out.rd) hr.out.h1 hr.out.h2))))
      refine wpQuiet_nil ?_
      intro w1 hb1
      have B5 := hid (hB.out.trans (hb1.mono hsz))
      clear hb1
      go_wp2
      go_roundw
      case rel => exact ⟨j + 1, by omega, by go_num, B5⟩
      case measure => simp [intOf]; omega
    · go_wp2
      go_ret
      exact ⟨rfl, hB.out⟩

theorem sys_no {gs : List Gp} {R : Bool} (hR : R = true ↔ Sys gs) (h : ¬ Sys gs) : R = false := by
  cases R with
  | false => rfl
  | true => exact absurd (hR.1 rfl) h

theorem ge_mem {gs : List Ge} {k : Nat} {g : Ge} (h : gs[k]? = some g) : g.gp ∈ gs.map Ge.gp := List.mem_map_of_mem (List.mem_of_getElem? h)

theorem ge_get {gs : List Ge} {k : Nat} {g : Ge} (h : gs[k]? = some g) : (gs.map Ge.gp)[k]? = some g.gp := by rw [List.getElem?_map, h]; rfl

set_option maxRecDepth 100000 in
set_option maxHeartbeats 8000000 in
theorem SystemValid_spec {n c : Nat} {A : Option Addr} {gs : List Ge} {R : Bool} (hR : R = true ↔ Sys (gs.map Ge.gp)) (w : World) (h : RdGs w A n gs) (hn : n < 1099511627776) :
    Calls Try.prog 5 #[.slice A n c] w fun e w' => e = .returned (.bool R) ∧ Below w.heap.size w w' := by
  have hlen := hid h.len
  by_cases h5 : n = 5
  · subst h5
    obtain ⟨b, rfl, hb0, _⟩ := h.cells (by omega)
    have h' := hid h
    have hR' := hid hR
    clear h hR hn
    go_enter Try.func5, Try.ntmps5
    go_wp2
    go_loopw [3] (fun i wr => ∃ k : Nat, k ≤ 5 ∧ i = .int .i64 k ∧ Hid (∀ (j : Nat) (g : Gp), j < k → (gs.map Ge.gp)[j]? = some g → Vd g ∧ g.id = (j : Int)) ∧ Hid (Below w.heap.size w wr)) (fun i _ => 5 - (intOf i).toNat)
    case atStart => exact ⟨0, by omega, rfl, hid (fun j g hj => by omega), hid (Below.refl _ _)⟩
    case round =>
      obtain ⟨k, hk, rfl, hall, hB⟩ := hrel
      have hsz := hB.out.size
      by_cases hlt : k < 5
      · obtain ⟨id, ck, A1, n1, c1, A2, n2, c2, P, D, hx, hr, hb, q0, q1, q2, q3⟩ := (h'.out.below hB.out).atb hlt
        have i0 : (0 : Int) ≤ (k : Int) := by omega
        have i1 : (k : Int) < ((5 : Nat) : Int) := by omega
        have i5 : (k : Int) < 5 := by omega
        cases hv : vdB ⟨id, ck, P, D⟩ with
        | false =>
          have hno := hid (sys_no hR'.out (fun hs => by
            have := (hs.2.1 k _ (ge_get hx.out)).1
            rw [← vdB_true] at this
            exact absurd (this.symm.trans hv) (by simp)))
          have hv' := hid hv
          clear hv
          go_wp2_with fail
          refine (GroupValidS_as hv'.out _ hr.out).mono ?_
          rintro e w2 ⟨rfl, hb2⟩
          have B2 := hid (hB.out.trans (hb2.mono hsz))
          clear hb2 q0 q1 q2 q3
          go_wp2
          go_ret
          exact ⟨by rw [hno.out]; rfl, B2.out⟩
        | true =>
          have hvd := hid (vdB_true.1 hv)
          have hv' := hid hv
          clear hv
          go_wp2_with fail
          refine (GroupValidS_as hv'.out _ hr.out).mono ?_
          rintro e w2 ⟨rfl, hb2⟩
          have B2 := hid (hB.out.trans (hb2.mono hsz))
          have q0' : w2.cell? ⟨b, k * 4, none⟩ = some (.int .i64 id) := (hb2.cell (p := ⟨b, k * 4, none⟩) hb).trans q0
          clear hb2 q0 q1 q2 q3
          by_cases hid9 : id = (k : Int)
          · subst hid9
            go_wp2
            go_roundw
            case rel => exact ⟨k + 1, by omega, by go_num, hid (fun j g hj hg => by
                by_cases e : j = k
                · subst e
                  rw [ge_get hx.out] at hg
                  injection hg with hg
                  subst hg
                  exact ⟨hvd.out, rfl⟩
                · exact hall.out j g (by omega) hg), B2⟩
            case measure => simp [intOf]; omega
          · have hno := hid (sys_no hR'.out (fun hs => hid9 (hs.2.1 k _ (ge_get hx.out)).2))
            have hne : (id != (k : Int)) = true := by simp [hid9]
            go_wp2
            go_ret
            exact ⟨by rw [hno.out]; rfl, B2.out⟩
      · have hvs := hid (show ∀ (j : Nat) (g : Gp), (gs.map Ge.gp)[j]? = some g → Vd g ∧ g.id = (j : Int) from fun j g hg => hall.out j g (by
          have := (List.getElem?_eq_some_iff.1 hg).1
          rw [List.length_map, hlen.out] at this; omega) hg)
        have hk5 : ¬ ((k : Int) < 5) := by omega
        clear hall
        go_wp2
        go_loopw [4] (fun i wr => ∃ m : Nat, m ≤ 12 ∧ i = .int .i64 m ∧ Hid (∀ m' : Int, 0 ≤ m' → m' < (m : Int) → MsgOk (gs.map Ge.gp) m') ∧ Hid (Below w.heap.size w wr)) (fun i _ => 12 - (intOf i).toNat)
        case atStart => exact ⟨0, by omega, rfl, hid (fun m' h1 h2 => by omega), hB⟩
        case round =>
          clear hB hsz hk hlt hk5
          obtain ⟨m, hm, rfl, hmsg, hB⟩ := hrel
          by_cases hmlt : m < 12
          · have hm12 : (m : Int) < 12 := by omega
            go_wp2
            go_loopw [5] (fun i wr => ∃ k : Nat, k ≤ 5 ∧ i = .int .i64 k ∧ Hid (∀ (j : Nat) (a : Gp), j < k → (gs.map Ge.gp)[j]? = some a → (stA a m).2 = true → (stA a m).1.2.2 = true → ∀ b ∈ gs.map Ge.gp, PrOk (stA a m) (stA b m)) ∧ Hid (Below w.heap.size w wr)) (fun i _ => 5 - (intOf i).toNat)
            case atStart => exact ⟨0, by omega, rfl, hid (fun j a hj => by omega), hB⟩
            case round =>
              clear hB
              obtain ⟨k, hk, rfl, hrow, hB⟩ := hrel
              have hsz := hB.out.size
              by_cases hlt : k < 5
              · obtain ⟨id, ck, A1, n1, c1, A2, n2, c2, P, D, hx, hr, hb, q0, q1, q2, q3⟩ := (h'.out.below hB.out).atb hlt
                have i0 : (0 : Int) ≤ (k : Int) := by omega
                have i1 : (k : Int) < ((5 : Nat) : Int) := by omega
                have i5 : (k : Int) < 5 := by omega
                obtain ⟨am, at_, ag, af, ab, hst⟩ : ∃ am at_ ag af ab, Hid (stA ⟨id, ck, P, D⟩ (m : Int) = ((am, (at_, ag), af), ab)) := ⟨_, _, _, _, _, hid rfl⟩
                go_wp2_with fail
                refine (l11Stamp_as hst.out _ hr.out).mono ?_
                rintro e w2 ⟨rfl, hb2⟩
                have B2 := hid (hB.out.trans (hb2.mono hsz))
                have z2 := hb2.size
                clear hb2 q0 q1 q2 q3
                go_upto_region 15 with (fail)
                obtain ⟨w3, hw3⟩ : ∃ W, w2.alloc (.cells #[.int .i64 am, .int .i64 at_, .int .i64 ag, .bool af] 40) = W := ⟨_, rfl⟩
                rw [hw3]
                have K3 := hid (show Cs w3 w2.heap.size 40 #[.int .i64 am, .int .i64 at_, .int .i64 ag, .bool af] by rw [← hw3]; exact Cs.new _ _ _)
                have B3 := hid (show Below w.heap.size w w3 by rw [← hw3]; exact B2.out.alloc (by omega) _)
                clear hw3
                have hsz2 : w.heap.size ≤ w2.heap.size := by omega
                go_wp2_with fail
                go_loopw [8] (fun i wr => ∃ j : Nat, j ≤ 5 ∧ i = .int .i64 j ∧ Hid (0 < j → ab = true ∧ af = true) ∧ Hid (∀ (i : Nat) (b : Gp), i < j → (gs.map Ge.gp)[i]? = some b → PrOk ((am, (at_, ag), af), ab) (stA b m)) ∧ Hid (Cs wr w2.heap.size 40 #[.int .i64 am, .int .i64 at_, .int .i64 ag, .bool af]) ∧ Hid (Below w.heap.size w wr)) (fun i _ => 5 - (intOf i).toNat)
                case atStart => exact ⟨0, by omega, rfl, hid (fun h => by omega), hid (fun i b hi => by omega), K3, B3⟩
                case round =>
                  clear hB hsz B2 K3 B3
                  obtain ⟨j, hj, rfl, hyes, hcol, hK, hB⟩ := hrel
                  obtain ⟨y0, y1, y2, y3⟩ := hK.out.four
                  by_cases hjl : j < 5
                  · have j5 : (j : Int) < 5 := by omega
                    by_cases hgo : ab = true ∧ af = true
                    · obtain ⟨rfl, rfl⟩ := hgo
                      obtain ⟨id2, ck2, B1, m1, d1, B2, m2, d2, P2, D2, hx2, hr2, hb2, p0, p1, p2, p3⟩ := (h'.out.below hB.out).atb hjl
                      have j0 : (0 : Int) ≤ (j : Int) := by omega
                      have j1 : (j : Int) < ((5 : Nat) : Int) := by omega
                      obtain ⟨bm, bt, bg, bf, bb, hst2⟩ : ∃ am at_ ag af ab, Hid (stA ⟨id2, ck2, P2, D2⟩ (m : Int) = ((am, (at_, ag), af), ab)) := ⟨_, _, _, _, _, hid rfl⟩
                      have hcolS : Hid (PrOk ((am, (at_, ag), true), true) ((bm, (bt, bg), bf), bb) → ∀ (i : Nat) (b : Gp), i < j + 1 → (gs.map Ge.gp)[i]? = some b → PrOk ((am, (at_, ag), true), true) (stA b m)) := hid (fun hp i b hi hbi => by
                        by_cases e : i = j
                        · subst e
                          rw [ge_get hx2.out] at hbi
                          injection hbi with hbi
                          subst hbi
                          have : stA (Ge.gp ⟨id2, ck2, B1, m1, d1, B2, m2, d2, P2, D2⟩) (m : Int) = _ := hst2.out
                          rw [this]; exact hp
                        · exact hcol.out i b (by omega) hbi)
                      have hbad : Hid (¬ PrOk ((am, (at_, ag), true), true) ((bm, (bt, bg), bf), bb) → R = false) := hid (fun hp => sys_no hR'.out (fun hs => hp (by
                        have h1 := hs.2.2 (m : Int) (by omega) (by omega) _ (ge_mem hx.out)
                        have e1 : stA (Ge.gp ⟨id, ck, A1, n1, c1, A2, n2, c2, P, D⟩) (m : Int) = _ := hst.out
                        have e2 : stA (Ge.gp ⟨id2, ck2, B1, m1, d1, B2, m2, d2, P2, D2⟩) (m : Int) = _ := hst2.out
                        rw [e1] at h1
                        have h2 := h1 rfl rfl _ (ge_mem hx2.out)
                        rw [e2] at h2
                        exact h2)))
                      have hszr := hB.out.size
                      go_wp2_with fail
                      refine (l11Stamp_as hst2.out _ hr2.out).mono ?_
                      rintro e w4 ⟨rfl, hb4⟩
                      have B4 := hid (hB.out.trans (hb4.mono hszr))
                      have K4 := hid (hK.out.step hb4)
                      have z4 := hb4.size
                      clear hb4 p0 p1 p2 p3 y0 y1 y2 y3
                      go_upto_region 19 with (fail)
                      obtain ⟨w5, hw5⟩ : ∃ W, w4.alloc (.cells #[.int .i64 bm, .int .i64 bt, .int .i64 bg, .bool bf] 40) = W := ⟨_, rfl⟩
                      rw [hw5]
                      have K5 := hid (show Cs w5 w4.heap.size 40 #[.int .i64 bm, .int .i64 bt, .int .i64 bg, .bool bf] by rw [← hw5]; exact Cs.new _ _ _)
                      have K5a := hid (show Cs w5 w2.heap.size 40 #[.int .i64 am, .int .i64 at_, .int .i64 ag, .bool true] by rw [← hw5]; exact K4.out.alloc _)
                      have B5 := hid (show Below w.heap.size w w5 by rw [← hw5]; exact B4.out.alloc (by omega) _)
                      clear hw5 K4 B4
                      obtain ⟨y0, y1, y2, y3⟩ := K5a.out.four
                      obtain ⟨v0, v1, v2, v3⟩ := K5.out.four
                      cases bb with
                      | false =>
                        have hc2 := hid (hcolS.out (fun h => by cases h))
                        go_wp2
                        go_roundw
                        case rel => exact ⟨j + 1, by omega, by go_num, hid (fun _ => by simp), hc2, K5a, B5⟩
                        case measure => simp [intOf]; omega
                      | true =>
                        cases bf with
                        | true =>
                          by_cases he : bt = at_ ∧ bg = ag
                          · obtain ⟨rfl, rfl⟩ := he
                            have hc2 := hid (hcolS.out (fun _ => ⟨fun _ => rfl, fun h => by cases h⟩))
                            go_wp2
                            go_roundw
                            case rel => exact ⟨j + 1, by omega, by go_num, hid (fun _ => by simp), hc2, K5a, B5⟩
                            case measure => simp [intOf]; omega
                          · have hno := hid (hbad.out (fun hp => he (by
                              have := (hp rfl).1 rfl
                              simp only [Prod.mk.injEq] at this
                              exact this)))
                            by_cases he1 : bt = at_
                            · subst he1
                              have he2 : (bg == ag) = false := by rw [beq_eq_false_iff_ne]; exact fun h => he ⟨rfl, h⟩
                              go_wp2
                              go_ret
                              exact ⟨by rw [hno.out]; rfl, B5.out⟩
                            · have he2 : (bt == at_) = false := by rw [beq_eq_false_iff_ne]; exact he1
                              go_wp2
                              go_ret
                              exact ⟨by rw [hno.out]; rfl, B5.out⟩
                        | false =>
                          cases hlx : lexB at_ ag bt bg with
                          | false =>
                            have hc2 := hid (hcolS.out (fun _ => ⟨(fun h => by cases h), fun _ => hlx⟩))
                            have hlx' := hid hlx
                            clear hlx
                            go_wp2_with fail
                            refine (l2Less_as hlx'.out _).mono ?_
                            rintro e w6 ⟨rfl, hb6⟩
                            have K6 := hid (K5a.out.step hb6)
                            have B6 := hid (B5.out.trans (hb6.mono B5.out.size))
                            clear hb6 y0 y1 y2 y3 v0 v1 v2 v3
                            go_wp2
                            go_roundw
                            case rel => exact ⟨j + 1, by omega, by go_num, hid (fun _ => by simp), hc2, K6, B6⟩
                            case measure => simp [intOf]; omega
                          | true =>
                            have hno := hid (hbad.out (fun hp => by
                              have h9 := (hp rfl).2 rfl
                              have h8 : lexB at_ ag bt bg = false := h9
                              rw [hlx] at h8; cases h8))
                            have hlx' := hid hlx
                            clear hlx
                            go_wp2_with fail
                            refine (l2Less_as hlx'.out _).mono ?_
                            rintro e w6 ⟨rfl, hb6⟩
                            have B6 := hid (B5.out.trans (hb6.mono B5.out.size))
                            clear hb6 y0 y1 y2 y3 v0 v1 v2 v3
                            go_wp2
                            go_ret
                            exact ⟨by rw [hno.out]; rfl, B6.out⟩
                    · have hrow2 := hid (show ∀ (j : Nat) (a : Gp), j < k + 1 → (gs.map Ge.gp)[j]? = some a → (stA a m).2 = true → (stA a m).1.2.2 = true → ∀ b ∈ gs.map Ge.gp, PrOk (stA a m) (stA b m) from fun j a hj ha h1 h2 => by
                        by_cases e : j = k
                        · subst e
                          rw [ge_get hx.out] at ha
                          injection ha with ha
                          subst ha
                          have e1 : stA (Ge.gp ⟨id, ck, A1, n1, c1, A2, n2, c2, P, D⟩) (m : Int) = _ := hst.out
                          rw [e1] at h1 h2
                          exact absurd ⟨h1, h2⟩ hgo
                        · exact hrow.out j a (by omega) ha h1 h2)
                      rcases (show ab = false ∨ (ab = true ∧ af = false) by cases ab <;> cases af <;> simp_all) with rfl | ⟨rfl, rfl⟩
                      · go_wp2
                        go_roundw
                        case rel => exact ⟨k + 1, by omega, by go_num, hrow2, hB⟩
                        case measure => simp [intOf]; omega
                      · go_wp2
                        go_roundw
                        case rel => exact ⟨k + 1, by omega, by go_num, hrow2, hB⟩
                        case measure => simp [intOf]; omega
                  · obtain rfl : j = 5 := by omega
                    have hrow2 := hid (show ∀ (j : Nat) (a : Gp), j < k + 1 → (gs.map Ge.gp)[j]? = some a → (stA a m).2 = true → (stA a m).1.2.2 = true → ∀ b ∈ gs.map Ge.gp, PrOk (stA a m) (stA b m) from fun j a hj ha h1 h2 => by
                      by_cases e : j = k
                      · subst e
                        rw [ge_get hx.out] at ha
                        injection ha with ha
                        subst ha
                        have e1 : stA (Ge.gp ⟨id, ck, A1, n1, c1, A2, n2, c2, P, D⟩) (m : Int) = _ := hst.out
                        rw [e1]
                        intro b hb9
                        obtain ⟨i, hi, hbi⟩ := List.getElem_of_mem hb9
                        refine hcol.out i b ?_ (by rw [List.getElem?_eq_getElem hi, hbi])
                        rw [List.length_map, hlen.out] at hi; exact hi
                      · exact hrow.out j a (by omega) ha h1 h2)
                    go_wp2
                    go_roundw
                    case rel => exact ⟨k + 1, by omega, by go_num, hrow2, hB⟩
                    case measure => simp [intOf]; omega
              · have hm2 := hid (show ∀ m' : Int, 0 ≤ m' → m' < ((m + 1 : Nat) : Int) → MsgOk (gs.map Ge.gp) m' from fun m' h1 h2 => by
                  by_cases e : m' = (m : Int)
                  · subst e
                    intro a ha g1 g2
                    obtain ⟨i, hi, hai⟩ := List.getElem_of_mem ha
                    refine hrow.out i a ?_ (by rw [List.getElem?_eq_getElem hi, hai]) g1 g2
                    rw [List.length_map, hlen.out] at hi; omega
                  · exact hmsg.out m' h1 (by omega))
                have hk5 : ¬ ((k : Int) < 5) := by omega
                go_wp2
                go_roundw
                case rel => exact ⟨m + 1, by omega, by go_num, hm2, hB⟩
                case measure => simp [intOf]; omega
          · have hyes := hid (show R = true from hR'.out.2 ⟨by rw [List.length_map]; exact hlen.out, hvs.out, fun m' h1 h2 => hmsg.out m' h1 (by omega)⟩)
            have hm12 : ¬ ((m : Int) < 12) := by omega
            go_wp2
            go_ret
            exact ⟨by rw [hyes.out]; rfl, hB.out⟩
  · have hno := hid (sys_no hR (fun hs => h5 (by rw [← hlen.out, ← hs.1, List.length_map])))
    have hne : ((n : Int) != 5) = true := by simp; omega
    clear h hR
    go_enter Try.func5, Try.ntmps5
    go_wp2
    go_ret
    exact ⟨by rw [hno.out]; rfl, Below.refl _ _⟩
end Go.Proofs.Ytbgkinaoelicnaa
