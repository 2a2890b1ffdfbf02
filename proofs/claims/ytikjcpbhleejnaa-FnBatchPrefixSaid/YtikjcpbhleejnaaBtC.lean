/-
  Contracts of the model's BatchFits and BatchOf. No condition but lengths below 2^40.
-/
import Derived.Test.YtikjcpbhleejnaaBtB
namespace Go.Proofs.Ytikjcpbhleejnaa
open Go.RowKit

theorem fitR_no {xs cut : List Int} {B M : Int} (h : bvB xs B M = false) : fitR xs B M cut = false := by simp [fitR, h]

theorem fitR_yes {xs cut : List Int} {B M : Int} (h : bvB xs B M = true) : fitR xs B M cut = fitL B M xs cut := by simp [fitR, h]

theorem fitL_nil {xs : List Int} {a n : Nat} {B M : Int} (hn : xs.length = n) (ha : a ≤ n) : fitL B M (xs.drop a) [] = ((a : Int) == (n : Int)) := by
  rw [fitL, Bool.eq_iff_iff]
  simp
  omega

theorem fitL_off {xs cs : List Int} {B M c : Int} (h : inB c 1 M = false) : fitL B M xs (c :: cs) = false := by simp [fitL, h]

theorem fitL_over {xs cs : List Int} {B M : Int} {y a n : Nat} (hn : xs.length = n) (ha : a ≤ n) (h : ¬ a + y ≤ n) : fitL B M (xs.drop a) ((y : Int) :: cs) = false := by
  have : decide ((y : Int) ≤ (xs.drop a).length) = false := by rw [decide_eq_false_iff_not, List.length_drop]; omega
  simp only [fitL, this, Bool.and_false, Bool.false_and]

theorem fitL_heavy {xs cs : List Int} {B M s : Int} {y : Nat} (h1 : tot (xs.take y) = s) (h : B < s) : fitL B M xs ((y : Int) :: cs) = false := by
  have : decide (tot (xs.take y) ≤ B) = false := by rw [decide_eq_false_iff_not]; omega
  simp only [fitL, Int.toNat_natCast, this, Bool.and_false, Bool.false_and]

theorem fitL_on {xs cs : List Int} {B M s : Int} {y a n : Nat} (hn : xs.length = n) (hy : inB (y : Int) 1 M = true) (h1 : tot ((xs.drop a).take y) = s) (h : s ≤ B) (ha : a + y ≤ n) : fitL B M (xs.drop a) ((y : Int) :: cs) = fitL B M (xs.drop (a + y)) cs := by
  have e1 : decide ((y : Int) ≤ (xs.drop a).length) = true := by rw [decide_eq_true_eq, List.length_drop]; omega
  have e2 : decide (tot ((xs.drop a).take y) ≤ B) = true := by rw [decide_eq_true_eq]; omega
  simp only [fitL, Int.toNat_natCast, e1, e2, hy, Bool.and_self, Bool.true_and, List.drop_drop]

set_option maxHeartbeats 4000000 in
theorem BatchFits_spec {P P' n c m c' : Nat} {A A' : Option Addr} {zs cut : List Int} (B M : Int) (w : World) (hr : RdI w P A n zs) (hy : RdI w P' A' m cut) (hn : n < 1099511627776) (hm : m < 1099511627776) :
    Calls Try.prog 18 #[.slice A n c, .int .i64 B, .int .i64 M, .slice A' m c'] w fun e w' => e = .returned (.bool (fitR zs B M cut)) ∧ w = w' := by
  have hl' := hid hr.len
  have hr' := hid hr
  have hly := hid hy.len
  have hy' := hid hy
  clear hr hy
  cases hv : bvB zs B M with
  | false =>
    have hv' := hid hv
    clear hv
    go_enter Try.func18, Try.ntmps18
    go_wp2_with (go_at_call 15; (with_reducible refine (BatchesValid_spec _ _ _ hr'.out hn).mono ?_); rw [hv'.out]; rintro e w1 ⟨rfl, rfl⟩)
    go_ret
    exact ⟨by rw [fitR_no hv'.out]; rfl, rfl⟩
  | true =>
    have hv' := hid hv
    obtain ⟨p1, p2, p3, p4, p5, p6, p7⟩ := bvB_true hv
    have p1 := hid p1
    have p2 := hid p2
    rw [hl'.out] at p3
    clear hv
    go_enter Try.func18, Try.ntmps18
    go_wp2_with (go_at_call 15; (with_reducible refine (BatchesValid_spec _ _ _ hr'.out hn).mono ?_); rw [hv'.out]; rintro e w1 ⟨rfl, rfl⟩)
    go_loop [9, 10] (fun q i => ∃ k a : Nat, k ≤ m ∧ i = .int .i64 k ∧ q = .int .i64 a ∧ a ≤ n ∧ Hid (fitL B M (zs.drop a) (cut.drop k) = fitL B M zs cut)) (fun _ i => m - (intOf i).toNat)
    case atStart => exact ⟨0, 0, by omega, rfl, rfl, by omega, hid rfl⟩
    case round =>
      obtain ⟨k, a, hk, rfl, rfl, ha, hinv⟩ := hrel
      by_cases hlt : k < m
      · obtain ⟨ad, z, rfl, hz, hc⟩ := RdI.at' hy'.out hlt
        have hdr := hid (drop_cons (by rw [hly.out]; exact hlt) hz.out)
        clear hz
        cases hg : inB z 1 M with
        | false =>
          have hg' := hid hg
          have hbad := hid (show fitR zs B M cut = false by rw [fitR_yes hv'.out, ← hinv.out, hdr.out, fitL_off hg])
          clear hg hdr hinv
          go_wp2_with (go_at_call 25; (with_reducible refine (l6In_any _ _ _ _).mono ?_); rw [hg'.out]; rintro e w' ⟨rfl, rfl⟩)
          go_ret
          exact ⟨by rw [hbad.out]; rfl, rfl⟩
        | true =>
          have hg' := hid hg
          obtain ⟨hz1, hzM⟩ := inB_true.1 hg
          obtain ⟨y, rfl⟩ := Int.eq_ofNat_of_zero_le (show 0 ≤ z by omega)
          clear hg
          by_cases hov : a + y ≤ n
          · go_wp2_with (go_at_call 25; (with_reducible refine (l6In_any _ _ _ _).mono ?_); rw [hg'.out]; rintro e w' ⟨rfl, rfl⟩)
            go_loop [11, 12] (fun s j => ∃ (b : Nat) (t : Int), b ≤ y ∧ j = .int .i64 ((a + b : Nat) : Int) ∧ s = .int .i64 t ∧ 0 ≤ t ∧ t ≤ 99 * b ∧ Hid (tot ((zs.drop a).take b) = t)) (fun _ j => a + y - (intOf j).toNat)
            case atStart => exact ⟨0, 0, by omega, by simp, rfl, by omega, by omega, hid (by simp [tot])⟩
            case round =>
              obtain ⟨b, t, hb, rfl, rfl, ht0, ht1, ht⟩ := hrel
              by_cases hlb : b < y
              · obtain ⟨ad2, x, rfl, hx, hcx⟩ := RdI.at' hr'.out (show a + b < n by omega)
                have hmem := getD_mem' (zs := zs) (i := a + b) (by rw [hl'.out]; omega)
                rw [hx.out] at hmem
                have hx1 := p1.out x hmem
                have hx2 := p2.out x hmem
                have hs := hid (tot_take_succ (xs := zs.drop a) (k := b) (z := x) (by rw [List.length_drop, hl'.out]; omega) (by rw [← hx.out]; simp [List.getElem?_drop]))
                rw [ht.out] at hs
                clear hx hmem
                have hlt2 : ((a + b : Nat) : Int) < (a : Int) + (y : Int) := by omega
                go_wp2
                go_round
                case rel => exact ⟨b + 1, t + x, by omega, by go_num, rfl, by omega, by omega, hs⟩
                case measure => simp [intOf]; omega
              · have hby : b = y := by omega
                subst hby
                by_cases hB : B < t
                · have hbad := hid (show fitR zs B M cut = false by rw [fitR_yes hv'.out, ← hinv.out, hdr.out, fitL_heavy ht.out hB])
                  clear hdr hinv
                  go_wp2
                  go_ret
                  exact ⟨by rw [hbad.out]; rfl, rfl⟩
                · have hon := hid (show fitL B M (zs.drop (a + b)) (cut.drop (k + 1)) = fitL B M zs cut by
                    rw [← hinv.out, hdr.out, fitL_on hl'.out hg'.out ht.out (by omega) hov])
                  clear hdr hinv
                  go_wp2
                  go_round
                  case rel => exact ⟨k + 1, a + b, by omega, by go_num, by go_num, hov, hon⟩
                  case measure => simp [intOf]; omega
          · have hbad := hid (show fitR zs B M cut = false by rw [fitR_yes hv'.out, ← hinv.out, hdr.out, fitL_over hl'.out ha hov])
            clear hdr hinv
            go_wp2_with (go_at_call 25; (with_reducible refine (l6In_any _ _ _ _).mono ?_); rw [hg'.out]; rintro e w' ⟨rfl, rfl⟩)
            go_ret
            exact ⟨by rw [hbad.out]; rfl, rfl⟩
      · have hkn : cut.drop k = [] := List.drop_eq_nil_of_le (by rw [hly.out]; omega)
        have hfin := hid (show fitR zs B M cut = ((a : Int) == (n : Int)) by rw [fitR_yes hv'.out, ← hinv.out, hkn, fitL_nil hl'.out ha])
        clear hinv hkn
        go_wp2
        go_ret
        exact ⟨by rw [hfin.out]; rfl, rfl⟩

theorem ofR_big {cut : List Int} {x : Int} {m : Nat} (hm : cut.length = m) (h : ¬ m ≤ 20) : ofR cut x = -1 := by rw [ofR, hm, if_neg h]

theorem ofR_small {cut : List Int} {x : Int} {m : Nat} (hm : cut.length = m) (h : m ≤ 20) : ofR cut x = ofL x cut 0 0 := by rw [ofR, hm, if_pos h]

end Go.Proofs.Ytikjcpbhleejnaa
