/-
  Contracts of the model's functions of batches: BatchesValid, BatchCut, BatchFits, BatchOf. No condition but lengths below 2^40.
-/
import Derived.Test.YtikjcpbhleejnaaBtA
import Derived.Test.YtikjcpbhleejnaaExA
namespace Go.Proofs.Ytikjcpbhleejnaa
open Go.RowKit

set_option maxHeartbeats 1000000 in
theorem BatchesValid_spec {P n c : Nat} {A : Option Addr} {zs : List Int} (B M : Int) (w : World) (hr : RdI w P A n zs) (hn : n < 1099511627776) :
    Calls Try.prog 15 #[.slice A n c, .int .i64 B, .int .i64 M] w fun e w' => e = .returned (.bool (bvB zs B M)) ∧ w = w' := by
  have hl' := hid hr.len
  have hr' := hid hr
  clear hr
  go_enter Try.func15, Try.ntmps15
  go_wp2
  go_loop [7] (fun i => ∃ k : Nat, k ≤ n ∧ i = .int .i64 k ∧ Hid (∀ j, j < k → itB B (zs.getD j 0) = true)) (fun i => n - (intOf i).toNat)
  case atStart => exact ⟨0, Nat.zero_le _, rfl, hid (fun j h => by omega)⟩
  case round =>
    obtain ⟨k, hk, rfl, hall⟩ := hrel
    by_cases hlt : k < n
    · obtain ⟨ad, z, rfl, hz, hc⟩ := RdI.at' hr'.out hlt
      cases hg : inB z 1 B with
      | true =>
        have hg' := hid hg
        clear hg
        go_wp2_with (go_at_call 25; (with_reducible refine (l6In_any _ _ _ _).mono ?_); rw [hg'.out]; rintro e w' ⟨rfl, rfl⟩)
        go_round
        case rel => exact ⟨k + 1, by omega, by go_num, hid (fun j hj => by
            by_cases e : j = k
            · subst e; rw [hz.out]; exact hg'.out
            · exact hall.out j (by omega))⟩
        case measure => simp [intOf]; omega
      | false =>
        have hbad := hid (bvB_bad (M := M) (i := k) (by rw [hl'.out]; exact hlt) (show itB B (zs.getD k 0) = false by rw [hz.out]; exact hg))
        have hg' := hid hg
        clear hg
        go_wp2_with (go_at_call 25; (with_reducible refine (l6In_any _ _ _ _).mono ?_); rw [hg'.out]; rintro e w' ⟨rfl, rfl⟩)
        go_ret
        exact ⟨by rw [hbad.out]; rfl, rfl⟩
    · have hfin := hid (bvB_fin (xs := zs) (B := B) (M := M) (fun i hi => hall.out i (by rw [hl'.out] at hi; omega)))
      by_cases h20 : n ≤ 20
      · have h20' := hid h20
        cases hB : inB B 1 99 with
        | false =>
          have hB' := hid hB
          clear hB
          go_wp2_with (go_at_call 25; (with_reducible refine (l6In_any _ _ _ _).mono ?_); rw [hB'.out]; rintro e w' ⟨rfl, rfl⟩)
          go_ret
          exact ⟨ret_bool (by rw [hfin.out, hB'.out]; simp), rfl⟩
        | true =>
          have hB' := hid hB
          clear hB
          go_wp2_with (first
            | (go_at_call 25; (with_reducible refine (l6In_any B 1 99 _).mono ?_); rw [hB'.out]; rintro e w' ⟨rfl, rfl⟩)
            | (go_at_call 25; (with_reducible refine (l6In_any M 1 20 _).mono ?_); rintro e w' ⟨rfl, rfl⟩))
          go_ret
          exact ⟨ret_bool (by rw [hfin.out, hB'.out, hl'.out, decide_eq_true h20'.out]; rfl), rfl⟩
      · have h20' := hid h20
        go_wp2
        go_ret
        exact ⟨ret_bool (by rw [hfin.out, hl'.out, decide_eq_false h20'.out]; rfl), rfl⟩

/-- a call hands back a new slice of ints; nothing that lay has turned -/
def NewL (w : World) (xs : List Int) (e : Ending) (w' : World) : Prop := ∃ v, e = .returned v ∧ OwI w' w.heap.size v xs ∧ Below w.heap.size w w'

set_option maxHeartbeats 2000000 in
theorem BatchCut_spec {n c : Nat} {A : Option Addr} {zs : List Int} (B M : Int) (w : World) (hr : RdI w w.heap.size A n zs) (hn : n < 1099511627776) :
    Calls Try.prog 13 #[.slice A n c, .int .i64 B, .int .i64 M] w (NewL w (cutR zs B M)) := by
  have hl' := hid hr.len
  have he := hid (OwI.empty_lit w (Nat.le_refl w.heap.size))
  have hb0 := hid ((Below.refl w.heap.size w).alloc (Nat.le_refl _) (.cells #[] 3))
  have hr1 := hid (hr.alloc (Nat.le_refl _) (.cells #[] 3))
  have hr' := hid hr
  clear hr
  cases hv : bvB zs B M with
  | false =>
    have hv' := hid hv
    clear hv
    go_enter Try.func13, Try.ntmps13
    go_wp2_with (go_at_call 15; (with_reducible refine (BatchesValid_spec _ _ _ hr1.out hn).mono ?_); rw [hv'.out]; rintro e w1 ⟨rfl, rfl⟩)
    go_ret
    exact ⟨_, rfl, by rw [cutR_no hv'.out]; exact he.out, hb0.out⟩
  | true =>
    have hv' := hid hv
    obtain ⟨p1, p2, p3, p4, p5, p6, p7⟩ := bvB_true hv
    have p1 := hid p1
    have p2 := hid p2
    rw [hl'.out] at p3
    clear hv
    go_enter Try.func13, Try.ntmps13
    go_wp2_with (go_at_call 15; (with_reducible refine (BatchesValid_spec _ _ _ hr1.out hn).mono ?_); rw [hv'.out]; rintro e w1 ⟨rfl, rfl⟩)
    go_loopw [7, 8, 9, 10] (fun o s q i wr => ∃ (k d : Nat) (t : Int) (os : List Int), k ≤ n ∧ i = .int .i64 k ∧ q = .int .i64 d ∧ s = .int .i64 t ∧ d ≤ k ∧ 0 ≤ t ∧ t ≤ B ∧ os.length ≤ k ∧ Hid (os ++ gcut B M (zs.drop k) d t = gcut B M zs 0 0) ∧ OwI wr w.heap.size o os ∧ Below w.heap.size w wr) (fun _ _ _ i _ => n - (intOf i).toNat)
    case atStart => exact ⟨0, 0, 0, [], by omega, rfl, rfl, rfl, by omega, by omega, by omega, by simp, hid (by simp), he.out, hb0.out⟩
    case round =>
      obtain ⟨k, d, t, os, hk, rfl, rfl, rfl, hd, ht0, ht1, hol, hinv, hown, hbel⟩ := hrel
      have hsz := hbel.size
      by_cases hlt : k < n
      · obtain ⟨ad, z, rfl, hz, hc⟩ := RdI.at' (hr'.out.below hbel) hlt
        have hcell : ∀ w2, Below w.heap.size w w2 → w2.cell? (ad.add k) = some (.int .i64 z) := fun w2 h2 => by
          obtain ⟨ad2, z2, e, hz2, hc2⟩ := RdI.at' (hr'.out.below h2) hlt
          injection e with e
          subst e
          rw [hc2, ← hz2.out, hz.out]
        have hcell' := hid hcell
        clear hcell
        have hmem := getD_mem' (zs := zs) (i := k) (by rw [hl'.out]; exact hlt)
        rw [hz.out] at hmem
        have hz1 := p1.out z hmem
        have hz2 := p2.out z hmem
        have hdr := hid (drop_cons (by rw [hl'.out]; exact hlt) hz.out)
        clear hz hmem
        by_cases ha : B < t + z
        · have hcut := hid (show (os ++ [(d : Int)]) ++ gcut B M (zs.drop (k + 1)) 1 z = gcut B M zs 0 0 by
            rw [← hinv.out, hdr.out, gcut_cut (.inl ha), List.append_assoc]; rfl)
          clear hinv hdr
          go_wp2_with (at_builtin; refine wpList_app1 rfl (.tmp 37) (.tmp 39) rfl w.heap.size d _ _ rfl rfl hown hsz (by omega) ?_; intro v' w1 hown' hbel'; have hc' := hcell'.out w1 (hbel.trans hbel'))
          go_roundw
          case rel => exact ⟨k + 1, 1, z, os ++ [(d : Int)], by omega, by go_num, rfl, by go_num, by omega, by omega, by omega, by simp; omega, hcut, hown', hbel.trans hbel'⟩
          case measure => simp [intOf]; omega
        · by_cases hb : (d : Int) = M
          · have hb' : ((d : Int) == M) = true := by simpa using hb
            have hcut := hid (show (os ++ [(d : Int)]) ++ gcut B M (zs.drop (k + 1)) 1 z = gcut B M zs 0 0 by
              rw [← hinv.out, hdr.out, gcut_cut (.inr hb), List.append_assoc]; rfl)
            clear hinv hdr hb
            go_wp2_with (at_builtin; refine wpList_app1 rfl (.tmp 37) (.tmp 39) rfl w.heap.size d _ _ rfl rfl hown hsz (by omega) ?_; intro v' w1 hown' hbel'; have hc' := hcell'.out w1 (hbel.trans hbel'))
            go_roundw
            case rel => exact ⟨k + 1, 1, z, os ++ [(d : Int)], by omega, by go_num, rfl, by go_num, by omega, by omega, by omega, by simp; omega, hcut, hown', hbel.trans hbel'⟩
            case measure => simp [intOf]; omega
          · have hb' : ((d : Int) == M) = false := by simpa using hb
            have hcut := hid (show os ++ gcut B M (zs.drop (k + 1)) ((d + 1 : Nat) : Int) (t + z) = gcut B M zs 0 0 by
              rw [← hinv.out, hdr.out, gcut_on (by omega)]; rfl)
            clear hinv hdr hb
            go_wp2
            go_roundw
            case rel => exact ⟨k + 1, d + 1, t + z, os, by omega, by go_num, by go_num, by go_num, by omega, by omega, by omega, by omega, hcut, hown, hbel⟩
            case measure => simp [intOf]; omega
      · have hkn : zs.drop k = [] := List.drop_eq_nil_of_le (by rw [hl'.out]; omega)
        have hfin := hid (show os ++ gcut B M [] d t = cutR zs B M by rw [← hkn, hinv.out, cutR_yes hv'.out])
        clear hinv hkn
        by_cases hd0 : 0 < d
        · have hf := hid (show os ++ [(d : Int)] = cutR zs B M by
            rw [← hfin.out]; simp [gcut, hd0])
          clear hfin
          go_wp2_with (at_builtin; refine wpList_app1 rfl (.tmp 51) (.tmp 53) rfl w.heap.size d _ _ rfl rfl hown hsz (by omega) ?_; intro v' w1 hown' hbel')
          go_ret
          exact ⟨_, rfl, by rw [← hf.out]; exact hown', hbel.trans hbel'⟩
        · have hf := hid (show os = cutR zs B M by
            rw [← hfin.out]; simp [gcut]; omega)
          clear hfin
          go_wp2
          go_ret
          exact ⟨_, rfl, by rw [← hf.out]; exact hown, hbel⟩
end Go.Proofs.Ytikjcpbhleejnaa
