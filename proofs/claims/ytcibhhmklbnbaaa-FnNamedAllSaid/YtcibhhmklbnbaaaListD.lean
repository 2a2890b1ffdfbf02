/-
  Contract of spec.GroupsLinked: five rounds over all sets. No condition but lengths below 2^40.
-/
import Derived.Test.YtcibhhmklbnbaaaListC
namespace Go.Proofs.Ytcibhhmklbnbaaa
open Go.RowKit

theorem OwI.below {w w' : World} {lo : Nat} {v : Value} {zs : List Int} (h : OwI w lo v zs) (hb : Below w.heap.size w w') : OwI w' lo v zs :=
  own_of_block h fun g hg => hb.block g (h.lt g hg).2

set_option maxHeartbeats 2000000 in
theorem GroupsLinked_spec {n c : Nat} {A : Option Addr} {zss : List (List Int)} (x : Int) (w : World) (hr : RdL w w.heap.size A n zss) (hn : n < 1099511627776) (hsh : Short zss) :
    Calls Try.prog 19 #[.slice A n c, .int .i64 x] w (NewI w (linkedR zss x)) := by
  have hl' := hid hr.1
  have hsh' := hid hsh
  have hr' := hid hr
  clear hr hsh
  cases h1 : setsB zss with
  | false =>
    go_enter Try.func19, Try.ntmps19
    go_wp2_with (go_at_call 34; (with_reducible refine (l1Sets_any _ hr'.out hn hsh'.out).mono ?_); rw [h1]; rintro e w1 ⟨rfl, hq1⟩)
    go_ret
    exact ⟨_, rfl, by rw [linkedR_no1 h1]; exact OwI.empty_lit w1 (Nat.le_of_eq hq1.size.symm), (hq1.below _).alloc (Nat.le_of_eq hq1.size.symm) _⟩
  | true =>
    cases h2 : grB x with
    | false =>
      go_enter Try.func19, Try.ntmps19
      go_wp2_with (first
        | (go_at_call 34; (with_reducible refine (l1Sets_any _ hr'.out hn hsh'.out).mono ?_); rw [h1]; rintro e w1 ⟨rfl, hq1⟩)
        | (go_at_call 35; (with_reducible refine (l1Group_any _ _).mono ?_); rw [h2]; rintro e w2 ⟨rfl, rfl⟩))
      go_ret
      exact ⟨_, rfl, by rw [linkedR_no2 h2]; exact OwI.empty_lit w1 (Nat.le_of_eq hq1.size.symm), (hq1.below _).alloc (Nat.le_of_eq hq1.size.symm) _⟩
    | true =>
      have hp32 := pow_lt32 h2
      have hml : Hid ((masks zss).length = n) := hid (by rw [masks, List.length_map, hl'.out])
      have hml32 := hid (masks_lt h1)
      have h1' := hid h1
      go_enter Try.func19, Try.ntmps19
      go_wp2_with (first
        | (go_at_call 34; (with_reducible refine (l1Sets_any _ hr'.out hn hsh'.out).mono ?_); rw [h1]; rintro e w1 ⟨rfl, hq1⟩)
        | (go_at_call 35; (with_reducible refine (l1Group_any _ _).mono ?_); rw [h2]; rintro e w2 ⟨rfl, rfl⟩))
      have hs1 := Nat.le_of_eq hq1.size.symm
      have hb1 := hid ((hq1.below w.heap.size).alloc hs1 (.cells #[.int .i64 x] 3))
      have ho1 : Hid (OwI (w1.alloc (.cells #[.int .i64 x] 3)) w.heap.size (.slice (some ⟨w1.heap.size, 0, none⟩) 1 1) (elemsM (passes (masks zss) 0 (2 ^ x.toNat)))) := hid (by
        show OwI _ _ _ (elemsM (2 ^ x.toNat))
        rw [elemsM_pow h2]; exact OwI.one_lit w1 hs1 x)
      clear hq1 h1
      go_loopw [5, 6] (fun o i wr => ∃ r : Nat, r ≤ 5 ∧ i = .int .i64 r ∧ OwI wr w.heap.size o (elemsM (passes (masks zss) r (2 ^ x.toNat))) ∧ Below w.heap.size w wr) (fun _ i _ => 5 - (intOf i).toNat)
      case atStart => exact ⟨0, by omega, rfl, ho1.out, hb1.out⟩
      case round =>
        obtain ⟨r, hr5, rfl, hown, hbel⟩ := hrel
        obtain ⟨wo, rfl⟩ : ∃ wo : World, wo = wr := ⟨_, rfl⟩
        by_cases hlt : r < 5
        · obtain ⟨s, hs⟩ : ∃ s, passes (masks zss) r (2 ^ x.toNat) = s := ⟨_, rfl⟩
          rw [hs] at hown
          have hs32 : s < 32 := by rw [← hs]; exact passes_lt hml32.out r hp32
          have hs' := hid hs
          have hown' := hid hown
          have hbel' := hid hbel
          clear hs hown hbel
          have hd5 : decide ((r : Int) < 5) = true := by simp; omega
          go_wp2
          go_loopw [5, 7] (fun o i wr => ∃ k t : Nat, k ≤ n ∧ i = .int .i64 k ∧ t < 32 ∧ Hid (t = pass ((masks zss).take k) s) ∧ OwI wr w.heap.size o (elemsM t) ∧ Below w.heap.size w wr) (fun _ i _ => n - (intOf i).toNat)
          case atStart => exact ⟨0, s, by omega, rfl, hs32, hid rfl, hown'.out, hbel'.out⟩
          case round =>
            obtain ⟨k, t, hk, rfl, ht, hp, hown, hbel⟩ := hrel
            have hsz := hbel.size
            by_cases hkn : k < n
            · obtain ⟨ad, Ai, m, ci, zs, rfl, hz, hm, hc, hri⟩ := RdL.at' (hr'.out.below hbel) hkn
              have hv : gvalid zs = true := by rw [← hz.out]; exact setsB_get h1'.out (by rw [hl'.out]; exact hkn)
              have hzl : zs.length < 1099511627776 := by
                have := hsh'.out k (by rw [hl'.out]; exact hkn)
                rw [hz.out] at this; exact this
              obtain rfl : zs.length = m := hm.out
              have hri' := hid hri
              clear hri
              have hpt := hid (pass_take (ms := masks zss) (s := s) (k := k) (by rw [hml.out]; exact hkn))
              have hmk : (masks zss).getD k 0 = mk zs := by
                have : k < zss.length := by rw [hl'.out]; exact hkn
                rw [← hz.out]; simp [masks, this]
              have hun := hid (unionL_step ht hv)
              have hadB : ad.block < wr.heap.size := by have := World.block_lt_of_cell? wr _ hc; rwa [block_of_add] at this
              obtain ⟨Ao, co, rfl, hro⟩ := hown.form
              have hel := elemsM_len t
              have hel2 := elemsM_len (t ||| mk zs)
              have hw : IntKind.i64.wrap (((elemsM t).length : Int) + (zs.length : Int)) = ((elemsM t).length : Int) + (zs.length : Int) := IntWalk.i64_in _ (by omega)
              by_cases hzz : t &&& mk zs = 0
              · have hle := union_same ht hv hzz
                have hst := hid (stepM_no hzz)
                clear hzz
                go_wp2_with fail
                go_region_held3 (fun w' => w'.cell? (ad.add k) = some (.slice Ai zs.length ci)) (first | go_keep | exact (hbel2.cell (by rw [block_of_add]; exact hadB)).trans hc)
                  ((go_at_call 25; refine (l1Union_any wr.drew hro.drew (Reads.drew (Reads.more hri'.out hsz)) (by omega) hzl).mono ?_; rintro e w2 ⟨v, rfl, hown2, hbel2⟩; rw [hun.out] at hown2; obtain ⟨A2, c2, rfl, _⟩ := hown2.form))
                have hb2 := hid (hbel.trans ((show Below wr.heap.size wr w2 from (Below.refl _ wr).drew.trans hbel2).mono hsz))
                have ho2 := hid (OwI.below hown (show Below wr.heap.size wr w2 from (Below.refl _ wr).drew.trans hbel2))
                have hle' : ((elemsM t).length : Int) + (zs.length : Int) ≤ ((elemsM (t ||| mk zs)).length : Int) := by omega
                clear hown2 hbel2 hw
                go_wp2
                go_roundw
                case rel => exact ⟨k + 1, t, by omega, by go_num, ht, hid (by rw [hpt.out, hmk, ← hp.out, hst.out]), ho2.out, hb2.out⟩
                case measure => simp [intOf]; omega
              · have hle := union_less ht hv hzz
                have hst := hid (stepM_yes hzz)
                clear hzz
                go_wp2_with fail
                go_region_held3 (fun w' => w'.cell? (ad.add k) = some (.slice Ai zs.length ci)) (first | go_keep | exact (hbel2.cell (by rw [block_of_add]; exact hadB)).trans hc)
                  ((go_at_call 25; refine (l1Union_any wr.drew hro.drew (Reads.drew (Reads.more hri'.out hsz)) (by omega) hzl).mono ?_; rintro e w2 ⟨v, rfl, hown2, hbel2⟩; rw [hun.out] at hown2; obtain ⟨A2, c2, rfl, _⟩ := hown2.form))
                have hbw : Below wr.heap.size wr w2 := (Below.refl _ wr).drew.trans hbel2
                have hb2 := hid (hbel.trans (hbw.mono hsz))
                have hc2 : w2.cell? (ad.add k) = some (.slice Ai zs.length ci) := (hbw.cell (by rw [block_of_add]; exact hadB)).trans hc
                have hro2 := hid (Reads.more (Reads.below hro hbw) hbw.size)
                have hri2 := hid (Reads.more (Reads.below (Reads.more hri'.out hsz) hbw) hbw.size)
                have hle' : ((elemsM (t ||| mk zs)).length : Int) < ((elemsM t).length : Int) + (zs.length : Int) := by omega
                have hsz2 := hb2.out.size
                clear hown2 hbel2 hw hbw
                go_wp2_with fail
                refine (l1Union_any w2 hro2.out hri2.out (by omega) hzl).mono ?_
                rintro e w3 ⟨v, rfl, hown3, hbel3⟩
                rw [hun.out] at hown3
                go_wp2
                go_roundw
                case rel => exact ⟨k + 1, t ||| mk zs, by omega, by go_num, union_lt32 ht (mk_lt hv), hid (by rw [hpt.out, hmk, ← hp.out, hst.out]), hown3.more hsz2, hb2.out.trans (hbel3.mono hsz2)⟩
                case measure => simp [intOf]; omega
            · have hkn' : k = n := by omega
              have hfin := hid (show t = passes (masks zss) (r + 1) (2 ^ x.toNat) by rw [hp.out, List.take_of_length_le (by rw [hml.out]; omega), passes_succ, hs'.out])
              clear hkn'
              go_wp2
              go_roundw
              case rel => exact ⟨r + 1, by omega, by go_num, by rw [← hfin.out]; exact hown, hbel⟩
              case measure => simp [intOf]; omega
        · have hfin := hid (show passes (masks zss) r (2 ^ x.toNat) = linkM zss x by rw [show r = 5 by omega]; rfl)
          go_wp2
          go_ret
          exact ⟨_, rfl, by rw [linkedR_yes h1'.out h2, ← hfin.out]; exact hown, hbel⟩

end Go.Proofs.Ytcibhhmklbnbaaa
