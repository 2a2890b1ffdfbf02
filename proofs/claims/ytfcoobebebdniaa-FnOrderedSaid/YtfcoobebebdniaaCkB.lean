/-
  What the draw of credits leaves: the walk of l92Credits. No condition but a reader with room.
-/
import Derived.Test.YtfcoobebebdniaaCkA
namespace Go.Proofs.Ytfcoobebebdniaa
open Go.RowKit
set_option linter.unusedVariables false
set_option linter.unusedSimpArgs false

def CrDraw (B g P : Nat) (w : World) (e : Ending) (w' : World) : Prop :=
  ∃ (F H : Value) (vals : List Value) (c : Cr), e = .returned (crV F H) ∧ OwC w' w.heap.size F H vals c ∧ Sc c ∧ Rdr w' B g (P + 150) ∧ w.grownBy w' (some g)

set_option maxRecDepth 100000 in
set_option maxHeartbeats 16000000 in
theorem l92Credits_any {B g P : Nat} (w : World) (h : Rdr w B g P) (hP : P ≤ 800000) :
    Calls Try.prog 53 #[.pointer (some ⟨g, 0, none⟩)] w (CrDraw B g P w) := by
  have hgl := h.lt
  obtain ⟨W, hW⟩ : ∃ W, (w.alloc (.cells #[.slice none 0 0, .slice none 0 0] 28)).alloc (.cells #[] 3) = W := ⟨_, rfl⟩
  have hD := hid (show D0 w W B g P by rw [← hW]; exact ⟨(h.allocC _).allocC _, (Cs.new w _ _).alloc _, grown_allocC (World.grownBy_alloc w _ _) _⟩)
  have hO := hid (show OwI W (w.heap.size + 1) (.slice (some ⟨w.heap.size + 1, 0, none⟩) 0 0) [] by rw [← hW]; exact own_lo (OwI.lit0 (w.alloc (.cells #[.slice none 0 0, .slice none 0 0] 28)) (by simp)) (by simp))
  replace hW := hid hW
  clear h
  go_enter Try.func53, Try.ntmps53
  go_upto_region 2 with (fail)
  rw [hW.out]
  go_upto_block 0 with (fail)
  go_cut [3] (fun v wx => ∃ (zs : List Int), Hid (OwI wx (w.heap.size + 1) v zs) ∧ Hid (zs.length = 5 ∧ ∀ z ∈ zs, 0 ≤ z ∧ z < 3) ∧ Hid (D0 w wx B g (P + 5)))
  case first =>
    go_wp2_with fail
    go_loopw [3, 4] (fun v x wr => ∃ (k : Nat) (zs : List Int), k ≤ 5 ∧ x = .int .i64 k ∧ Hid (OwI wr (w.heap.size + 1) v zs) ∧ Hid (zs.length = k ∧ ∀ z ∈ zs, 0 ≤ z ∧ z < 3) ∧ Hid (D0 w wr B g (P + k))) (fun _ x _ => 5 - (intOf x).toNat)
    case atStart => exact ⟨0, [], by omega, rfl, hO, hid ⟨rfl, by simp⟩, hD⟩
    case round =>
      clear hD hO
      obtain ⟨k, zs, hk, rfl, hO, hz, hD⟩ := hrel
      by_cases hk5 : k < 5
      · have k1 : (k : Int) < 5 := by omega
        go_wp2_with fail
        refine (pick_any 3 _ hD.out.r (by omega) (by omega) (by omega)).mono ?_
        rintro e w5 ⟨x, rfl, hx0, hx1, r5, q5, -⟩
        have hO5 := hO.out.pick q5 (by omega)
        have hD5 := hD.out.pick r5 q5 hgl
        have hsz := hD5.gr.size
        have hlt5 := hD5.rs.lt
        have hoo := hid (own_of_block (w' := w5.alloc (.cells #[.int .i64 x] 3)) hO5 fun g hg => Below.heap_alloc w5 _ g (hO5.lt g hg).2)
        have hlit := hid (show RdI (w5.alloc (.cells #[.int .i64 x] 3)) (w5.heap.size + 1) (some ⟨w5.heap.size, 0, none⟩) 1 [x] from ⟨rfl, fun _ => ⟨_, rfl, by simp, fun j u hj => by
          match j, hj with
          | 0, hj => simp at hj; subst hj; exact (Cs.new w5 3 #[.int .i64 x]).cell 0⟩⟩)
        have hDa := hid (hD5.step (below1 w5 (.cells #[.int .i64 x] 3)))
        have hzl := hz.out.1
        clear hO hD r5 q5 hO5 hD5
        go_wp2_with (at_builtin; refine wpList_appH2 rfl (.tmp 18) (.tmp 21) rfl (B := w.heap.size + 1) rfl rfl hoo.out hlit.out (by simp; omega) (by omega) ?_; intro v1 w3 hv1 hg1 hk1)
        have hDb := hid (hDa.out.own hg1 hgl (fun k e => by have := (hoo.out.lt k e).1; omega))
        have hv1 := hid hv1
        have hz1 := hid (show (zs ++ [x]).length = k + 1 ∧ ∀ z ∈ zs ++ [x], 0 ≤ z ∧ z < 3 from ⟨by simp [hzl], fun z h => by
          rcases List.mem_append.1 h with h | h
          · exact hz.out.2 z h
          · simp at h; omega⟩)
        clear hoo hlit hDa hg1 hk1 hz hzl
        go_wp2
        go_roundw
        case rel => exact ⟨k + 1, _, by omega, by go_num, hv1, hz1, hDb⟩
        case measure => simp [intOf]; omega
      · obtain rfl : k = 5 := by omega
        go_wp2
        go_meet
        exact ⟨zs, hO, hz, hD⟩
  case rest =>
    obtain ⟨zs, hO, hz, hD⟩ := hcut
    obtain ⟨W1, rfl⟩ : ∃ W, W = wc := ⟨_, rfl⟩
    obtain ⟨A, cc, e, -⟩ := hO.out.form
    subst e
    go_wp2_with fail
    refine (pick_any 6 _ hD.out.r (by omega) (by omega) (by omega)).mono ?_
    rintro e w2 ⟨x, rfl, hx0, hx1, r2, q2, -⟩
    have hD2 := hid (hD.out.pick r2 q2 hgl)
    have hO2 := hid (hO.out.pick q2 (by omega))
    have hrd := hid (show RdI w2 w2.heap.size A zs.length zs by obtain ⟨A9, c9, e9, h9⟩ := hO2.out.form; injection e9 with e91 e92 e93; rw [e91]; exact h9)
    have hw : IntKind.i64.wrap (1 + x) = 1 + x := IntWalk.i64_in _ (by omega)
    have hn5 : zs.length < 1099511627776 := by have := hz.out.1; omega
    obtain ⟨hok, hvc⟩ := new_of hz.out hx0 hx1
    have hvc := hid hvc
    have hsz2 := hD2.out.gr.size
    have hlt2 := hD2.out.rs.lt
    clear hD hO r2 q2 hz
    go_wp2_with fail
    refine (CreditsNew_spec (1 + x) _ hrd.out hn5).mono ?_
    rintro e w3 ⟨F, H, vals, rfl, o3, hb3⟩
    have hz3 := hb3.size
    have hD3 := hid (hD2.out.step hb3)
    have o3 := hid (o3.more (show w.heap.size + 1 ≤ w2.heap.size by omega))
    rw [hok]
    obtain ⟨c, hc⟩ : ∃ c, (crNew zs (1 + x)).1 = c := ⟨_, rfl⟩
    rw [hc] at o3 hvc
    clear hc hD2 hO2 hrd hb3 hok
    obtain ⟨A1, c1, A2, c2, rfl, rfl, -⟩ := o3.out.rdS (Sc.of hvc.out)
    obtain ⟨n1, hn1⟩ : ∃ n, c.fr.length = n := ⟨_, rfl⟩
    obtain ⟨n2, hn2⟩ : ∃ n, c.hs.length = n := ⟨_, rfl⟩
    rw [hn1, hn2] at o3 ⊢
    clear hn1 hn2
    go_upto_region 7 with (fail)
    obtain ⟨u0, hu0⟩ : ∃ W, w3.alloc (.cells #[.slice A1 n1 c1, .slice A2 n2 c2] 28) = W := ⟨_, rfl⟩
    rw [hu0]
    have hbb : Below w3.heap.size w3 u0 := by rw [← hu0]; exact below1 _ _
    have hD0 := hid (hD3.out.step hbb)
    have hG0 := hid (show Ds w u0 g w3.heap.size (.slice A1 n1 c1) (.slice A2 n2 c2) vals c from ⟨by rw [← hu0]; exact Cs.new _ _ _, o3.out.step hbb, hD0.out.rs, by omega, hD0.out.gr⟩)
    obtain ⟨xb, hxb⟩ : ∃ b, w3.heap.size = b := ⟨_, rfl⟩
    rw [hxb] at hG0
    try rw [hxb]
    clear hu0 hbb hxb hD3 o3
    go_wp2_with fail
    refine (pick_any 2 _ hD0.out.r (by omega) (by omega) (by omega)).mono ?_
    rintro e u1 ⟨x7, rfl, hx70, hx71, r1, q1, -⟩
    have hG1 := hid (hG0.out.pick q1 hgl)
    have hR1 := hid (r1.le (show P + 5 + 1 + 1 ≤ P + 7 + 4 * 0 by omega))
    clear q1 r1 hG0 hD0
    go_upto_region 8 with (fail)
    obtain ⟨b7, hb7⟩ : ∃ b, (x7 == 0) = b := ⟨_, rfl⟩
    rw [hb7]
    clear hb7 hx70 hx71
    go_upto_block 2 with (fail)
    go_cut [8] (fun v wx => ∃ (F H : Value) (vals : List Value) (c : Cr), Hid (Ds w wx g xb F H vals c) ∧ Hid (Vc c) ∧ Hid (Rdr wx B g (P + 100)))
    case first =>
      go_wp2_with fail
      go_loopw [8] (fun v wr => ∃ (k : Nat) (F H : Value) (vals : List Value) (c : Cr), v = .int .i64 (k : Int) ∧ k ≤ 20 ∧ Hid (Ds w wr g xb F H vals c) ∧ Hid (Vc c) ∧ Hid (Rdr wr B g (P + 7 + 4 * k))) (fun v _ => 20 - (intOf v).toNat)
      case atStart => exact ⟨0, _, _, _, _, rfl, by omega, hG1, hvc, hR1⟩
      case round =>
        clear hG1 hvc hR1
        obtain ⟨k, F, H, vals, c, rfl, hk, hG, hv, hR⟩ := hrel
        obtain ⟨A1, c1, A2, c2, rfl, rfl, -⟩ := hG.out.ow.rdS (Sc.of hv.out)
        obtain ⟨n1, hn1⟩ : ∃ n, c.fr.length = n := ⟨_, rfl⟩
        obtain ⟨n2, hn2⟩ : ∃ n, c.hs.length = n := ⟨_, rfl⟩
        rw [hn1, hn2] at hG
        have hn21 : 1 ≤ n2 := by rw [← hn2]; exact hv.out.n1
        have hn26 : n2 ≤ 6 := by rw [← hn2]; exact hv.out.n6
        go_wp2_with fail
        refine (pick_any 20 _ hR.out (by omega) (by omega) (by omega)).mono ?_
        rintro e w5 ⟨x5, rfl, hx50, hx51, r5, q5, -⟩
        have hG5 := hid (hG.out.pick q5 hgl)
        have hR5 := hid r5
        clear q5 r5 hG hR
        obtain ⟨d0, d1, -, -⟩ := hG5.out.cs.two
        by_cases hkx : (k : Int) < x5
        · go_wp2_with fail
          refine (pick_any (n2 : Int) _ hR5.out (by omega) (by omega) (by omega)).mono ?_
          rintro e w6 ⟨xi, rfl, hi0, hi1, r6, q6, -⟩
          have hG6 := hid (hG5.out.pick q6 hgl)
          have hR6 := hid r6
          obtain ⟨i, rfl⟩ := Int.eq_ofNat_of_zero_le hi0
          have hin : i < n2 := by omega
          clear q6 r6 hG5 hR5 d0 d1
          go_wp2_with fail
          refine (pick_any 5 _ hR6.out (by omega) (by omega) (by omega)).mono ?_
          rintro e w7 ⟨y, rfl, hy0, hy1, r7, q7, -⟩
          have hG7 := hid (hG6.out.pick q7 hgl)
          have hR7 := hid r7
          clear q7 r7 hG6 hR6
          obtain ⟨d0, d1, -, -⟩ := hG7.out.cs.two
          cases b7 with
          | false =>
            have hGa := hid (hG7.out.below (below1 w7 (.cells #[.slice A1 n1 c1, .slice A2 n2 c2] 28)))
            have hBa := hid (Cs.new w7 28 #[.slice A1 n1 c1, .slice A2 n2 c2])
            have hRa := hid (hR7.out.allocC (.cells #[.slice A1 n1 c1, .slice A2 n2 c2] 28))
            have hxb : xb < w7.heap.size := hG7.out.cs.lt
            have hgb : g < w7.heap.size := hR7.out.lt
            have hlo := hG7.out.lo
            go_upto_region 16 with (fail)
            obtain ⟨uA, huA⟩ : ∃ W, w7.alloc (.cells #[.slice A1 n1 c1, .slice A2 n2 c2] 28) = W := ⟨_, rfl⟩
            rw [huA] at hGa hBa hRa
            rw [huA]
            obtain ⟨bx, hbx⟩ : ∃ b, w7.heap.size = b := ⟨_, rfl⟩
            rw [hbx] at hBa hxb hgb
            try rw [hbx]
            clear hG7 hR7 huA hbx
            go_wp2_with fail
            refine (pick_any 5 _ hRa.out (by omega) (by omega) (by omega)).mono ?_
            rintro e u2 ⟨x2, rfl, hx20, hx21, r2, q2, -⟩
            have hG2 := hid (hGa.out.pick q2 hgl)
            have hB2 := hid (hBa.out.kp (kp_pick q2) (by omega))
            have hR2 := hid r2
            have hz2 := hG2.out.gr.size
            have hlt2 := hG2.out.rs.lt
            have hrd := hid (hG2.out.ow.rdE (Sc.of hv.out))
            clear q2 r2 hGa hBa hRa
            clear d0 d1
            obtain ⟨d0, d1, -, -⟩ := hG2.out.cs.two
            by_cases h2 : x2 = 0
            · subst h2
              go_wp2_with fail
              refine (CreditsGive_spec (i : Int) _ hrd.out).mono ?_
              rintro e u3 ⟨F', H', vals', rfl, o3, hb3⟩
              obtain ⟨v3, l3⟩ := give_vc hv.out (s := (i : Int)) (by omega) (by omega)
              obtain ⟨r, hr⟩ : ∃ r, giveR c (i : Int) = r := ⟨_, rfl⟩
              rw [hr] at o3 v3
              try rw [hr]
              have v3 := hid v3
              have hz3 := hb3.size
              obtain ⟨B1, f1, B2, f2, rfl, rfl, -⟩ := o3.rdS (Sc.of v3.out)
              obtain ⟨m1, hm1⟩ : ∃ n, r.1.fr.length = n := ⟨_, rfl⟩
              obtain ⟨m2, hm2⟩ : ∃ n, r.1.hs.length = n := ⟨_, rfl⟩
              rw [hm1, hm2] at o3
              try rw [hm1, hm2]
              clear hm1 hm2
              have hG3 := hid (hG2.out.below hb3)
              have hB3 := hid (hB2.out.step hb3)
              have hR3 := hid (hR2.out.below hb3 hR2.out.lt)
              have o3 := hid (o3.more (show w.heap.size + 1 ≤ u2.heap.size by omega))
              have hG4 := hid (hG3.out.swap hB3.out hxb o3.out)
              have hR4 := hid (((((hR3.out.farC (p := ⟨bx, 0, none⟩) (by simp; omega) (.slice B1 m1 f1)).farC (p := ⟨bx, 1, none⟩) (by simp; omega) (.slice B2 m2 f2)).farC (p := ⟨xb, 0, none⟩) (by simp; omega) (.slice B1 m1 f1)).farC (p := ⟨xb, 1, none⟩) (by simp; omega) (.slice B2 m2 f2)).le (show P + 7 + 4 * k + 1 + 1 + 1 + 1 ≤ P + 7 + 4 * (k + 1) by omega))
              obtain ⟨mc0, mc1, mf0, mf1⟩ := hB3.out.two
              obtain ⟨x0, x1, xf0, xf1⟩ := hG3.out.cs.two
              clear hG3 hR3 hb3 hG2 hB2 hR2 o3 l3 d0 d1 hrd
              go_wp2
              go_roundw
              case rel => exact ⟨k + 1, _, _, _, _, by go_num, by omega, hG4, v3, hR4⟩
              case measure => simp [intOf]; omega
            · have h2' : (x2 == 0) = false := by simp [h2]
              go_wp2_with fail
              refine (CreditsAsk_spec (i : Int) y _ hrd.out).mono ?_
              rintro e u3 ⟨F', H', vals', rfl, o3, hb3⟩
              obtain ⟨v3, l3⟩ := ask_vc hv.out (s := (i : Int)) (g := y) (by omega) (by omega) (by omega) (by omega)
              obtain ⟨r, hr⟩ : ∃ r, askR c (i : Int) y = r := ⟨_, rfl⟩
              rw [hr] at o3 v3
              try rw [hr]
              have v3 := hid v3
              have hz3 := hb3.size
              obtain ⟨B1, f1, B2, f2, rfl, rfl, -⟩ := o3.rdS (Sc.of v3.out)
              obtain ⟨m1, hm1⟩ : ∃ n, r.1.fr.length = n := ⟨_, rfl⟩
              obtain ⟨m2, hm2⟩ : ∃ n, r.1.hs.length = n := ⟨_, rfl⟩
              rw [hm1, hm2] at o3
              try rw [hm1, hm2]
              clear hm1 hm2
              have hG3 := hid (hG2.out.below hb3)
              have hB3 := hid (hB2.out.step hb3)
              have hR3 := hid (hR2.out.below hb3 hR2.out.lt)
              have o3 := hid (o3.more (show w.heap.size + 1 ≤ u2.heap.size by omega))
              have hG4 := hid (hG3.out.swap hB3.out hxb o3.out)
              have hR4 := hid (((((hR3.out.farC (p := ⟨bx, 0, none⟩) (by simp; omega) (.slice B1 m1 f1)).farC (p := ⟨bx, 1, none⟩) (by simp; omega) (.slice B2 m2 f2)).farC (p := ⟨xb, 0, none⟩) (by simp; omega) (.slice B1 m1 f1)).farC (p := ⟨xb, 1, none⟩) (by simp; omega) (.slice B2 m2 f2)).le (show P + 7 + 4 * k + 1 + 1 + 1 + 1 ≤ P + 7 + 4 * (k + 1) by omega))
              obtain ⟨mc0, mc1, mf0, mf1⟩ := hB3.out.two
              obtain ⟨x0, x1, xf0, xf1⟩ := hG3.out.cs.two
              clear hG3 hR3 hb3 hG2 hB2 hR2 o3 l3 d0 d1 hrd
              go_wp2
              go_roundw
              case rel => exact ⟨k + 1, _, _, _, _, by go_num, by omega, hG4, v3, hR4⟩
              case measure => simp [intOf]; omega
          | true =>
            have hRd := hid (hG7.out.ow.rdE (Sc.of hv.out))
            obtain ⟨b, off, Ai, m, ci, rfl, hb, hm5, e0, e1, hri, hmc, hci, hml⟩ := hRd.out.at_ hin
            cases m with
            | zero =>
              have hm0 : ((0 : Nat) : Int) = 0 := rfl
              clear hRd hri hm5
              have hGa := hid (hG7.out.below (below1 w7 (.cells #[.slice A1 n1 c1, .slice (some ⟨b, off, none⟩) n2 c2] 28)))
              have hBa := hid (Cs.new w7 28 #[.slice A1 n1 c1, .slice (some ⟨b, off, none⟩) n2 c2])
              have hRa := hid (hR7.out.allocC (.cells #[.slice A1 n1 c1, .slice (some ⟨b, off, none⟩) n2 c2] 28))
              have hxb : xb < w7.heap.size := hG7.out.cs.lt
              have hgb : g < w7.heap.size := hR7.out.lt
              have hlo := hG7.out.lo
              go_upto_region 16 with (fail)
              obtain ⟨uA, huA⟩ : ∃ W, w7.alloc (.cells #[.slice A1 n1 c1, .slice (some ⟨b, off, none⟩) n2 c2] 28) = W := ⟨_, rfl⟩
              rw [huA] at hGa hBa hRa
              rw [huA]
              obtain ⟨bx, hbx⟩ : ∃ b, w7.heap.size = b := ⟨_, rfl⟩
              rw [hbx] at hBa hxb hgb
              try rw [hbx]
              clear hG7 hR7 huA hbx
              go_wp2_with fail
              refine (pick_any 5 _ hRa.out (by omega) (by omega) (by omega)).mono ?_
              rintro e u2 ⟨x2, rfl, hx20, hx21, r2, q2, -⟩
              have hG2 := hid (hGa.out.pick q2 hgl)
              have hB2 := hid (hBa.out.kp (kp_pick q2) (by omega))
              have hR2 := hid r2
              have hz2 := hG2.out.gr.size
              have hlt2 := hG2.out.rs.lt
              have hrd := hid (hG2.out.ow.rdE (Sc.of hv.out))
              clear q2 r2 hGa hBa hRa
              clear d0 d1
              obtain ⟨d0, d1, -, -⟩ := hG2.out.cs.two
              by_cases h2 : x2 = 0
              · subst h2
                go_wp2_with fail
                refine (CreditsGive_spec (i : Int) _ hrd.out).mono ?_
                rintro e u3 ⟨F', H', vals', rfl, o3, hb3⟩
                obtain ⟨v3, l3⟩ := give_vc hv.out (s := (i : Int)) (by omega) (by omega)
                obtain ⟨r, hr⟩ : ∃ r, giveR c (i : Int) = r := ⟨_, rfl⟩
                rw [hr] at o3 v3
                try rw [hr]
                have v3 := hid v3
                have hz3 := hb3.size
                obtain ⟨B1, f1, B2, f2, rfl, rfl, -⟩ := o3.rdS (Sc.of v3.out)
                obtain ⟨m1, hm1⟩ : ∃ n, r.1.fr.length = n := ⟨_, rfl⟩
                obtain ⟨m2, hm2⟩ : ∃ n, r.1.hs.length = n := ⟨_, rfl⟩
                rw [hm1, hm2] at o3
                try rw [hm1, hm2]
                clear hm1 hm2
                have hG3 := hid (hG2.out.below hb3)
                have hB3 := hid (hB2.out.step hb3)
                have hR3 := hid (hR2.out.below hb3 hR2.out.lt)
                have o3 := hid (o3.more (show w.heap.size + 1 ≤ u2.heap.size by omega))
                have hG4 := hid (hG3.out.swap hB3.out hxb o3.out)
                have hR4 := hid (((((hR3.out.farC (p := ⟨bx, 0, none⟩) (by simp; omega) (.slice B1 m1 f1)).farC (p := ⟨bx, 1, none⟩) (by simp; omega) (.slice B2 m2 f2)).farC (p := ⟨xb, 0, none⟩) (by simp; omega) (.slice B1 m1 f1)).farC (p := ⟨xb, 1, none⟩) (by simp; omega) (.slice B2 m2 f2)).le (show P + 7 + 4 * k + 1 + 1 + 1 + 1 ≤ P + 7 + 4 * (k + 1) by omega))
                obtain ⟨mc0, mc1, mf0, mf1⟩ := hB3.out.two
                obtain ⟨x0, x1, xf0, xf1⟩ := hG3.out.cs.two
                clear hG3 hR3 hb3 hG2 hB2 hR2 o3 l3 d0 d1 hrd
                go_wp2
                go_roundw
                case rel => exact ⟨k + 1, _, _, _, _, by go_num, by omega, hG4, v3, hR4⟩
                case measure => simp [intOf]; omega
              · have h2' : (x2 == 0) = false := by simp [h2]
                go_wp2_with fail
                refine (CreditsAsk_spec (i : Int) y _ hrd.out).mono ?_
                rintro e u3 ⟨F', H', vals', rfl, o3, hb3⟩
                obtain ⟨v3, l3⟩ := ask_vc hv.out (s := (i : Int)) (g := y) (by omega) (by omega) (by omega) (by omega)
                obtain ⟨r, hr⟩ : ∃ r, askR c (i : Int) y = r := ⟨_, rfl⟩
                rw [hr] at o3 v3
                try rw [hr]
                have v3 := hid v3
                have hz3 := hb3.size
                obtain ⟨B1, f1, B2, f2, rfl, rfl, -⟩ := o3.rdS (Sc.of v3.out)
                obtain ⟨m1, hm1⟩ : ∃ n, r.1.fr.length = n := ⟨_, rfl⟩
                obtain ⟨m2, hm2⟩ : ∃ n, r.1.hs.length = n := ⟨_, rfl⟩
                rw [hm1, hm2] at o3
                try rw [hm1, hm2]
                clear hm1 hm2
                have hG3 := hid (hG2.out.below hb3)
                have hB3 := hid (hB2.out.step hb3)
                have hR3 := hid (hR2.out.below hb3 hR2.out.lt)
                have o3 := hid (o3.more (show w.heap.size + 1 ≤ u2.heap.size by omega))
                have hG4 := hid (hG3.out.swap hB3.out hxb o3.out)
                have hR4 := hid (((((hR3.out.farC (p := ⟨bx, 0, none⟩) (by simp; omega) (.slice B1 m1 f1)).farC (p := ⟨bx, 1, none⟩) (by simp; omega) (.slice B2 m2 f2)).farC (p := ⟨xb, 0, none⟩) (by simp; omega) (.slice B1 m1 f1)).farC (p := ⟨xb, 1, none⟩) (by simp; omega) (.slice B2 m2 f2)).le (show P + 7 + 4 * k + 1 + 1 + 1 + 1 ≤ P + 7 + 4 * (k + 1) by omega))
                obtain ⟨mc0, mc1, mf0, mf1⟩ := hB3.out.two
                obtain ⟨x0, x1, xf0, xf1⟩ := hG3.out.cs.two
                clear hG3 hR3 hb3 hG2 hB2 hR2 o3 l3 d0 d1 hrd
                go_wp2
                go_roundw
                case rel => exact ⟨k + 1, _, _, _, _, by go_num, by omega, hG4, v3, hR4⟩
                case measure => simp [intOf]; omega
            | succ q =>
              obtain ⟨ad, z, rfl, hz, hc⟩ := RdI.at' hri.out (show q < q + 1 by omega)
              have hzm : 0 ≤ z ∧ z < 5 := by
                have h1 := (setB_true.1 (hv.out.set i (by omega))).2 z (by
                  have hl := hm5.out
                  rw [← hz.out, List.getD_eq_getElem?_getD, List.getElem?_eq_getElem (show q < (c.h i).1.length by rw [hl]; exact Nat.lt_succ_self q)]
                  exact List.getElem_mem _)
                omega
              have hw2 : IntKind.i64.wrap (((q + 1 : Nat) : Int) - 1) = (q : Int) := by rw [IntWalk.i64_in _ (by omega)]; omega
              have hpos : ((q + 1 : Nat) : Int) > 0 := by omega
              have hw3 : IntKind.i64.wrap (q : Int) = (q : Int) := IntWalk.i64_in _ (by omega)
              have q0 : (0 : Int) ≤ (q : Int) := by omega
              have q2 : (q : Int) < (q : Int) + 1 := by omega
              have q1 : (q : Int) < ((q + 1 : Nat) : Int) := by omega
              clear hri hRd
              clear hm5
              go_wp2_with fail
              refine wp_region_still_tail 18 (by kernel_rfl) (by kernel_rfl) ?_
              simp only [List.take_succ_cons, List.take_zero, List.drop_succ_cons, List.drop_zero]
              refine StillR.of ?_
              iterate 18 (refine StillR.step (fun K hK => ?_); go_simp; refine hK _ ?_; clear hK K)
              refine StillR.nil ?_
              change wpList _ _ _ _ _ w7.drew
              go_upto_region 15 with (fail)
              obtain ⟨ym, hym⟩ : ∃ ym, (if y < z then z else y) = ym := ⟨_, rfl⟩
              have hyb : 0 ≤ ym ∧ ym < 5 := by rw [← hym]; split <;> omega
              have ym0 := hyb.1
              have ym1 := hyb.2
              rw [hym]
              clear hym hyb hzm hz hc e0 e1 q0 q1 q2 hw2 hw3 hpos
              have hG8 := hid (hG7.out.below (Below.refl _ w7).drew)
              have hR8 := hid (show Rdr w7.drew B g (P + 7 + 4 * k + 1 + 1 + 1) from hR7.out)
              clear hG7 hR7 d0 d1
              obtain ⟨w8, hw8⟩ : ∃ W, w7.drew = W := ⟨_, rfl⟩
              rw [hw8] at hG8 hR8
              rw [hw8]
              clear hw8
              have hG7 := hid hG8.out
              have hR7 := hid hR8.out
              clear hG8 hR8
              obtain ⟨d0, d1, -, -⟩ := hG7.out.cs.two
              have hGa := hid (hG7.out.below (below1 w8 (.cells #[.slice A1 n1 c1, .slice (some ⟨b, off, none⟩) n2 c2] 28)))
              have hBa := hid (Cs.new w8 28 #[.slice A1 n1 c1, .slice (some ⟨b, off, none⟩) n2 c2])
              have hRa := hid (hR7.out.allocC (.cells #[.slice A1 n1 c1, .slice (some ⟨b, off, none⟩) n2 c2] 28))
              have hxb : xb < w8.heap.size := hG7.out.cs.lt
              have hgb : g < w8.heap.size := hR7.out.lt
              have hlo := hG7.out.lo
              go_upto_region 16 with (fail)
              obtain ⟨uA, huA⟩ : ∃ W, w8.alloc (.cells #[.slice A1 n1 c1, .slice (some ⟨b, off, none⟩) n2 c2] 28) = W := ⟨_, rfl⟩
              rw [huA] at hGa hBa hRa
              rw [huA]
              obtain ⟨bx, hbx⟩ : ∃ b, w8.heap.size = b := ⟨_, rfl⟩
              rw [hbx] at hBa hxb hgb
              try rw [hbx]
              clear hG7 hR7 huA hbx
              go_wp2_with fail
              refine (pick_any 5 _ hRa.out (by omega) (by omega) (by omega)).mono ?_
              rintro e u2 ⟨x2, rfl, hx20, hx21, r2, q2, -⟩
              have hG2 := hid (hGa.out.pick q2 hgl)
              have hB2 := hid (hBa.out.kp (kp_pick q2) (by omega))
              have hR2 := hid r2
              have hz2 := hG2.out.gr.size
              have hlt2 := hG2.out.rs.lt
              have hrd := hid (hG2.out.ow.rdE (Sc.of hv.out))
              clear q2 r2 hGa hBa hRa
              clear d0 d1
              obtain ⟨d0, d1, -, -⟩ := hG2.out.cs.two
              by_cases h2 : x2 = 0
              · subst h2
                go_wp2_with fail
                refine (CreditsGive_spec (i : Int) _ hrd.out).mono ?_
                rintro e u3 ⟨F', H', vals', rfl, o3, hb3⟩
                obtain ⟨v3, l3⟩ := give_vc hv.out (s := (i : Int)) (by omega) (by omega)
                obtain ⟨r, hr⟩ : ∃ r, giveR c (i : Int) = r := ⟨_, rfl⟩
                rw [hr] at o3 v3
                try rw [hr]
                have v3 := hid v3
                have hz3 := hb3.size
                obtain ⟨B1, f1, B2, f2, rfl, rfl, -⟩ := o3.rdS (Sc.of v3.out)
                obtain ⟨m1, hm1⟩ : ∃ n, r.1.fr.length = n := ⟨_, rfl⟩
                obtain ⟨m2, hm2⟩ : ∃ n, r.1.hs.length = n := ⟨_, rfl⟩
                rw [hm1, hm2] at o3
                try rw [hm1, hm2]
                clear hm1 hm2
                have hG3 := hid (hG2.out.below hb3)
                have hB3 := hid (hB2.out.step hb3)
                have hR3 := hid (hR2.out.below hb3 hR2.out.lt)
                have o3 := hid (o3.more (show w.heap.size + 1 ≤ u2.heap.size by omega))
                have hG4 := hid (hG3.out.swap hB3.out hxb o3.out)
                have hR4 := hid (((((hR3.out.farC (p := ⟨bx, 0, none⟩) (by simp; omega) (.slice B1 m1 f1)).farC (p := ⟨bx, 1, none⟩) (by simp; omega) (.slice B2 m2 f2)).farC (p := ⟨xb, 0, none⟩) (by simp; omega) (.slice B1 m1 f1)).farC (p := ⟨xb, 1, none⟩) (by simp; omega) (.slice B2 m2 f2)).le (show P + 7 + 4 * k + 1 + 1 + 1 + 1 ≤ P + 7 + 4 * (k + 1) by omega))
                obtain ⟨mc0, mc1, mf0, mf1⟩ := hB3.out.two
                obtain ⟨x0, x1, xf0, xf1⟩ := hG3.out.cs.two
                clear hG3 hR3 hb3 hG2 hB2 hR2 o3 l3 d0 d1 hrd
                go_wp2
                go_roundw
                case rel => exact ⟨k + 1, _, _, _, _, by go_num, by omega, hG4, v3, hR4⟩
                case measure => simp [intOf]; omega
              · have h2' : (x2 == 0) = false := by simp [h2]
                go_wp2_with fail
                refine (CreditsAsk_spec (i : Int) ym _ hrd.out).mono ?_
                rintro e u3 ⟨F', H', vals', rfl, o3, hb3⟩
                obtain ⟨v3, l3⟩ := ask_vc hv.out (s := (i : Int)) (g := ym) (by omega) (by omega) (by exact ym0) (by exact ym1)
                obtain ⟨r, hr⟩ : ∃ r, askR c (i : Int) ym = r := ⟨_, rfl⟩
                rw [hr] at o3 v3
                try rw [hr]
                have v3 := hid v3
                have hz3 := hb3.size
                obtain ⟨B1, f1, B2, f2, rfl, rfl, -⟩ := o3.rdS (Sc.of v3.out)
                obtain ⟨m1, hm1⟩ : ∃ n, r.1.fr.length = n := ⟨_, rfl⟩
                obtain ⟨m2, hm2⟩ : ∃ n, r.1.hs.length = n := ⟨_, rfl⟩
                rw [hm1, hm2] at o3
                try rw [hm1, hm2]
                clear hm1 hm2
                have hG3 := hid (hG2.out.below hb3)
                have hB3 := hid (hB2.out.step hb3)
                have hR3 := hid (hR2.out.below hb3 hR2.out.lt)
                have o3 := hid (o3.more (show w.heap.size + 1 ≤ u2.heap.size by omega))
                have hG4 := hid (hG3.out.swap hB3.out hxb o3.out)
                have hR4 := hid (((((hR3.out.farC (p := ⟨bx, 0, none⟩) (by simp; omega) (.slice B1 m1 f1)).farC (p := ⟨bx, 1, none⟩) (by simp; omega) (.slice B2 m2 f2)).farC (p := ⟨xb, 0, none⟩) (by simp; omega) (.slice B1 m1 f1)).farC (p := ⟨xb, 1, none⟩) (by simp; omega) (.slice B2 m2 f2)).le (show P + 7 + 4 * k + 1 + 1 + 1 + 1 ≤ P + 7 + 4 * (k + 1) by omega))
                obtain ⟨mc0, mc1, mf0, mf1⟩ := hB3.out.two
                obtain ⟨x0, x1, xf0, xf1⟩ := hG3.out.cs.two
                clear hG3 hR3 hb3 hG2 hB2 hR2 o3 l3 d0 d1 hrd
                go_wp2
                go_roundw
                case rel => exact ⟨k + 1, _, _, _, _, by go_num, by omega, hG4, v3, hR4⟩
                case measure => simp [intOf]; omega
        · go_wp2
          go_meet
          exact ⟨_, _, _, _, hG5, hv, hid (hR5.out.le (by omega))⟩
    case rest =>
      clear hG1 hvc hR1
      obtain ⟨F, H, vals, c, hG, hv, hR⟩ := hcut
      obtain ⟨W2, rfl⟩ : ∃ W, W = wc := ⟨_, rfl⟩
      obtain ⟨b1, c1, b2, c2, rfl, rfl⟩ := hG.out.ow.formS hv.out
      obtain ⟨n1, hn1⟩ : ∃ n, c.fr.length = n := ⟨_, rfl⟩
      obtain ⟨n2, hn2⟩ : ∃ n, c.hs.length = n := ⟨_, rfl⟩
      rw [hn1, hn2] at hG
      have hn15 : n1 = 5 := by rw [← hn1]; exact hv.out.fl
      have hn21 : 1 ≤ n2 := by rw [← hn2]; exact hv.out.n1
      have hn26 : n2 ≤ 6 := by rw [← hn2]; exact hv.out.n6
      subst hn15
      obtain ⟨d0, d1, df0, df1⟩ := hG.out.cs.two
      go_wp2_with fail
      refine (pick_any (n2 : Int) _ hR.out (by omega) (by omega) (by omega)).mono ?_
      rintro e w5 ⟨xi, rfl, hi0, hi1, r5, q5, -⟩
      have hG5 := hid (hG.out.pick q5 hgl)
      have hR5 := hid r5
      obtain ⟨i, rfl⟩ := Int.eq_ofNat_of_zero_le hi0
      have hin : i < n2 := by omega
      clear q5 r5 hG hR d0 d1 df0 df1
      go_wp2_with fail
      refine (pick_any 20 _ hR5.out (by omega) (by omega) (by omega)).mono ?_
      rintro e w6 ⟨x6, rfl, h60, h61, r6, q6, -⟩
      have hG6 := hid (hG5.out.pick q6 hgl)
      have hR6 := hid r6
      have hsc := hid (Sc.of hv.out)
      obtain ⟨d0, d1, df0, df1⟩ := hG6.out.cs.two
      obtain ⟨z0, z1, zf0, zf1⟩ := hG6.out.rs.two
      clear q6 r6 hG5 hR5
      go_upto_block 4 with (fail)
      go_cut [8] (fun v wx => ∃ (F H : Value) (vals : List Value) (c : Cr), Hid (Ds w wx g xb F H vals c) ∧ Hid (Sc c) ∧ Hid (Rdr wx B g (P + 140)))
      case first =>
        have hlo := hG6.out.lo
        have GD := hid (hG6.out.below (Below.refl _ w6).drew)
        have RD := hid (show Rdr w6.drew B g (P + 100 + 1 + 1) from hR6.out)
        have hPP := hid (show P + 100 + 1 + 1 + 1 ≤ 900000 by omega)
        by_cases s0 : x6 = 0
        · subst s0
          go_upto_region 23 with (fail)
          have k0 := GD.out.cs.two.1
          go_region_held3 (fun X => X.cell? ⟨xb, 0, none⟩ = some (.slice (some ⟨b1, 0, none⟩) 5 c1))
            (first | with_reducible exact k0 | with_reducible exact k1 | with_reducible exact d0 | with_reducible exact k2 | with_reducible exact k3 | go_keep)
            (first | (go_at_call 38; (with_reducible refine (pick_any 5 _ RD.out (by have := hPP.out; omega) (by decide) (by decide)).mono ?_); rintro e X1 ⟨x1, rfl, h10, h11, r1, q1, -⟩; have G1 := hid (GD.out.pick q1 hgl); have r1 := hid r1; have k1 := G1.out.cs.two.1; obtain ⟨j, rfl⟩ := Int.eq_ofNat_of_zero_le h10; have j0 : (0 : Int) ≤ (j : Int) := (by omega); have j1 : (j : Int) < ((5 : Nat) : Int) := (by omega); have j2 : j < 5 := (by omega); clear q1) | (go_at_call 38; (with_reducible refine (pick_any 12 _ r1.out (by have := hPP.out; omega) (by decide) (by decide)).mono ?_); rintro e X2 ⟨x2, rfl, h20, h21, r2, q2, -⟩; have G2 := hid (G1.out.pick q2 hgl); have r2 := hid r2; have k2 := G2.out.cs.two.1; have hw1 : IntKind.i64.wrap (x2 - 1) = x2 - 1 := IntWalk.i64_in _ (by omega); obtain ⟨fc, fz, -⟩ := G2.out.ow.setF (g := j) (by omega) 0; have k3 := (G2.out.setF (j := j) (by omega) (x2 - 1)).cs.two.1; clear q2))
          all_goals
            go_wp2_with fail
            go_meet
            exact ⟨_, _, _, _, hid (G2.out.setF (by omega) (x2 - 1)), hid hsc.out.setF, hid ((r2.out.farC (p := ⟨b1, j, none⟩) (by have := (G2.out.ow.lt (.inl rfl : bkC _ _ _ b1)).1; simp; omega) _).le (by omega))⟩
        · have s0' : (x6 == 0) = false := by simp [s0]
          by_cases s1 : x6 = 1
          · subst s1
            go_upto_region 25 with (fail)
            have k0 := GD.out.cs.two.2.1
            go_region_held3 (fun X => X.cell? ⟨xb, 1, none⟩ = some (.slice (some ⟨b2, 0, none⟩) n2 c2))
              (first | with_reducible exact k0 | with_reducible exact k1 | with_reducible exact d1 | with_reducible exact k2 | go_keep)
              (first | (go_at_call 38; (with_reducible refine (pick_any 7 _ RD.out (by have := hPP.out; omega) (by decide) (by decide)).mono ?_); rintro e X1 ⟨x1, rfl, h10, h11, r1, q1, -⟩; have G1 := hid (GD.out.pick q1 hgl); have r1 := hid r1; have k1 := G1.out.cs.two.2.1; have hw1 : IntKind.i64.wrap (x1 - 2) = x1 - 2 := IntWalk.i64_in _ (by omega); obtain ⟨fc, fz, -⟩ := G1.out.ow.setW (s := i) (by omega) 0; have k2 := (G1.out.setW (s := i) (by omega) (x1 - 2)).cs.two.2.1; have fz1 := fz (i * 2 + 1); have j0 : (0 : Int) ≤ (i : Int) := (by omega); have j1 : (i : Int) < (n2 : Int) := (by omega); clear q1 fz))
            all_goals
              go_wp2_with fail
              go_meet
              exact ⟨_, _, _, _, hid (G1.out.setW (by omega) (x1 - 2)), hid (hsc.out.setH hsc.out.at_), hid ((r1.out.farC (p := ⟨b2, i * 2 + 1, none⟩) (by have := (G1.out.ow.lt (.inr (.inl rfl) : bkC _ _ _ b2)).1; simp; omega) _).le (by omega))⟩
          · have s1' : (x6 == 1) = false := by simp [s1]
            by_cases s2 : x6 = 2
            · subst s2
              go_upto_region 27 with (fail)
              have k0 := GD.out.cs.two.2.1
              go_region_held3 (fun X => X.cell? ⟨xb, 1, none⟩ = some (.slice (some ⟨b2, 0, none⟩) n2 c2))
                (first | with_reducible exact k0 | with_reducible exact k1 | with_reducible exact d1 | with_reducible exact k2 | go_keep)
                (first | (go_at_call 72; (with_reducible refine (l91Set_any _ RD.out (by have := hPP.out; omega)).mono ?_); rintro e X1 ⟨v1, zs1, rfl, ho1, hl1, r1, q1⟩; have G1 := hid (GD.out.pick q1 hgl); have r1 := hid r1; have k1 := G1.out.cs.two.2.1; obtain ⟨Av, cv, rfl, -⟩ := ho1.form; have hz6 := GD.out.gr.size; have hvn := hid (fun q (hq : (Value.slice Av zs1.length cv).ownBlock = some q) (hb : bkC (.slice (some ⟨b1, 0, none⟩) 5 c1) (.slice (some ⟨b2, 0, none⟩) n2 c2) vals q) => (by have := (ho1.lt q hq).1; have := (GD.out.ow.lt hb).2; omega : False)); have ho2 := hid (ho1.more (show w.heap.size + 1 ≤ w6.drew.heap.size by have := GD.out.rs.lt; omega)); obtain ⟨⟨fu, fc⟩, fz⟩ := G1.out.ow.hasAt (s := i) (by omega); have k2 := (G1.out.setHas (s := i) (by omega) ho2.out hvn.out).cs.two.2.1; have j0 : (0 : Int) ≤ (i : Int) := (by omega); have j1 : (i : Int) < (n2 : Int) := (by omega); clear q1 ho1))
              all_goals
                go_wp2_with fail
                go_meet
                exact ⟨_, _, _, _, hid (G1.out.setHas (by omega) ho2.out hvn.out), hid (hsc.out.setH hl1), hid ((r1.out.farC (p := ⟨b2, i * 2, none⟩) (by have := (G1.out.ow.lt (.inr (.inl rfl) : bkC _ _ _ b2)).1; simp; omega) _).le (by omega))⟩
            · have s2' : (x6 == 2) = false := by simp [s2]
              by_cases s3 : x6 = 3
              · subst s3
                have hG7 := hid (hG6.out.putH hG6.out.ow.cut0)
                go_wp2
                go_meet
                exact ⟨_, _, _, _, hG7, hid hsc.out.cut, hid ((hR6.out.farC (p := ⟨xb, 1, none⟩) (by simp; omega) _).le (by omega))⟩
              · have s3' : (x6 == 3) = false := by simp [s3]
                go_wp2
                go_meet
                exact ⟨_, _, _, _, hG6, hsc, hid (hR6.out.le (by omega))⟩
      case rest =>
        clear hG6 hR6 hsc d0 d1 df0 df1 z0 z1 zf0 zf1
        obtain ⟨F, H, vals, c, hG, hs, hR⟩ := hcut
        obtain ⟨W3, rfl⟩ : ∃ W, W = wc := ⟨_, rfl⟩
        obtain ⟨A1, c1, A2, c2, rfl, rfl, -⟩ := hG.out.ow.rdS hs.out
        obtain ⟨n1, hn1⟩ : ∃ n, c.fr.length = n := ⟨_, rfl⟩
        obtain ⟨n2, hn2⟩ : ∃ n, c.hs.length = n := ⟨_, rfl⟩
        rw [hn1, hn2] at hG
        obtain ⟨d0, d1, -, -⟩ := hG.out.cs.two
        obtain ⟨z0, z1, zf0, zf1⟩ := hG.out.rs.two
        obtain ⟨t1, t2, t3, t4⟩ := hG.out.ret hR.out hgl
        obtain ⟨y0, y1, -, -⟩ := t4.two
        replace t1 := hid t1
        replace t2 := hid t2
        replace t3 := hid t3
        clear t4 hG hR
        go_wp2
        refine bodyPost_ret (v := crV (.slice A1 n1 c1) (.slice A2 n2 c2)) (by simp [results, Try.results53, go_sem, y0, y1]) rfl ?_
        exact ⟨_, _, _, _, rfl, t1.out, hs.out, t2.out.le (by omega), t3.out⟩
end Go.Proofs.Ytfcoobebebdniaa
