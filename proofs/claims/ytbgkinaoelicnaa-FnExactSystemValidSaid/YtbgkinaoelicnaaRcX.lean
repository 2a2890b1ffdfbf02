/-
  The walk of the exact law of SystemValid: the law returns true and writes nothing that was there. No condition.
-/
import Derived.Test.YtbgkinaoelicnaaRcD
namespace Go.Proofs.Ytbgkinaoelicnaa
open Go.RowKit
set_option linter.unusedVariables false
set_option linter.unusedSimpArgs false

theorem rdgs_of {w : World} {lo b n : Nat} {ys gs : List Ge} (hlo : lo ≤ b) (ho : OwC w lo (.slice (some ⟨b, 0, none⟩) n n) ys) (hl : ys.length = n) (hg : gs.length = n)
    (hm : ∀ (j : Nat) (x : Ge), gs[j]? = some x → ∃ y, ys[j]? = some y ∧ MadeG w (b + 1) x y) (hs : ∀ g ∈ gs, g.n1 < 1099511627776 ∧ g.n2 < 1099511627776) :
    RdGs w (some ⟨b, 0, none⟩) n ys ∧ ys.map Ge.gp = gs.map Ge.gp := by
  have hy : ∀ y ∈ ys, ∃ x ∈ gs, MadeG w (b + 1) x y := by
    intro y hy
    obtain ⟨j, hj, e⟩ := List.getElem_of_mem hy
    have hjg : j < gs.length := by omega
    obtain ⟨y', h1, h2⟩ := hm j gs[j] (List.getElem?_eq_getElem hjg)
    rw [List.getElem?_eq_getElem hj] at h1
    injection h1 with h1
    exact ⟨gs[j], List.getElem_mem hjg, by rw [← e, h1]; exact h2⟩
  refine ⟨OwGs.rd (lo := lo) (c := n) ⟨ho, hl, fun y hy9 => ?_⟩ (fun y hy9 => ?_), ?_⟩
  · obtain ⟨x, _, hx⟩ := hy y hy9
    exact hx.2.2.2.more (by omega)
  · obtain ⟨x, hx, h1⟩ := hy y hy9
    have := hs x hx
    rw [h1.2.1, h1.2.2.1]; exact this
  · apply List.ext_getElem?
    intro i
    rw [List.getElem?_map, List.getElem?_map]
    by_cases hi : i < n
    · have hig : i < gs.length := by omega
      obtain ⟨y, h1, h2⟩ := hm i gs[i] (List.getElem?_eq_getElem hig)
      rw [h1, List.getElem?_eq_getElem hig]
      simp [h2.1]
    · rw [List.getElem?_eq_none (by omega), List.getElem?_eq_none (by omega)]

set_option maxRecDepth 100000 in
set_option maxHeartbeats 8000000 in
theorem exSystemValid {n c : Nat} {A : Option Addr} {gs : List Ge} (w : World) (h : RdGX w A n gs) (hn : n ≤ maxLen) :
    Calls Try.prog 3 #[.slice A n c] w fun e w' => e = .returned (.bool true) ∧ Below w.heap.size w w' := by
  unfold maxLen at hn
  have h' := hid h
  have hlen := hid h.1
  clear h
  obtain ⟨r, hr⟩ : ∃ r, (if (n : Int) ≤ 1048576 then szR gs (1048576 - (n : Int)) else -1) = r := ⟨_, rfl⟩
  by_cases h0 : r < 0
  · have hr' := hid hr
    clear hr
    go_enter Try.func3, Try.ntmps3
    go_wp2_with fail
    refine (szGroupS_any _ h'.out (by omega) hr'.out).mono ?_
    rintro e w1 ⟨rfl, hb1⟩
    have B1 := hid hb1
    clear hb1
    go_wp2
    go_ret
    exact ⟨rfl, B1.out⟩
  · have hn1 : (n : Int) ≤ 1048576 := by
      by_cases e : (n : Int) ≤ 1048576
      · exact e
      · rw [if_neg e] at hr; omega
    have hsm := hid (show ∀ g ∈ gs, g.n1 < 1099511627776 ∧ g.n2 < 1099511627776 from fun g hg => by
      rw [if_pos hn1] at hr
      have := szR_each gs (1048576 - (n : Int)) (by omega) g hg
      omega)
    have hnn : n < 1099511627776 := by omega
    obtain ⟨R, hR⟩ : ∃ R : Bool, (R = true ↔ Sys (gs.map Ge.gp)) := by
      by_cases hs : Sys (gs.map Ge.gp)
      · exact ⟨true, ⟨fun _ => hs, fun _ => rfl⟩⟩
      · exact ⟨false, ⟨(fun h => by cases h), fun h => absurd h hs⟩⟩
    have hR' := hid hR
    have hr' := hid hr
    clear hr hR
    go_enter Try.func3, Try.ntmps3
    go_wp2_with fail
    refine (szGroupS_any _ h'.out (by omega) hr'.out).mono ?_
    rintro e w1 ⟨rfl, hb1⟩
    have B1 := hid hb1
    have z1 := hb1.size
    clear hb1
    go_wp2_with fail
    refine (toGroupS_any _ (h'.out.below B1.out) hnn hsm.out).mono ?_
    rintro e w2 ⟨b2, ys2, rfl, hb2, ho2, hl2, hm2, hbb2⟩
    obtain ⟨rd2, e2⟩ := rdgs_of hb2 ho2 hl2 hlen.out hm2 hsm.out
    have R2 := hid rd2
    have E2 := hid e2
    have B2 := hid (B1.out.trans (hbb2.mono z1))
    have z2 := hbb2.size
    clear hb2 ho2 hl2 hm2 hbb2 rd2 e2
    go_wp2_with fail
    refine (SystemValid_spec (R := R) (by rw [E2.out]; exact hR'.out) _ R2.out hnn).mono ?_
    rintro e w3 ⟨rfl, hb3⟩
    have B3 := hid (B2.out.trans (hb3.mono (by omega)))
    have z3 := hb3.size
    clear hb3 R2 E2
    go_wp2_with fail
    refine (toGroupS_any _ (h'.out.below B3.out) hnn hsm.out).mono ?_
    rintro e w4 ⟨b4, ys4, rfl, hb4, ho4, hl4, hm4, hbb4⟩
    obtain ⟨rd4, e4⟩ := rdgs_of hb4 ho4 hl4 hlen.out hm4 hsm.out
    have R4 := hid rd4
    have E4 := hid e4
    have B4 := hid (B3.out.trans (hbb4.mono (by omega)))
    have z4 := hbb4.size
    clear hb4 ho4 hl4 hm4 hbb4 rd4 e4
    go_wp2_with fail
    refine (SystemValid_impl (R := R) (by rw [E4.out]; exact hR'.out) _ R4.out hnn).mono ?_
    rintro e w5 ⟨rfl, hb5⟩
    have B5 := hid (B4.out.trans (hb5.mono (by omega)))
    have R5 := hid (R4.out.below hb5)
    have z5 := hb5.size
    clear hb5 R4
    have hRR : (R != R) = false := by cases R <;> rfl
    go_wp2_with fail
    refine (toGroupS_any _ (h'.out.below B5.out) hnn hsm.out).mono ?_
    rintro e w6 ⟨b6, ys6, rfl, hb6, ho6, hl6, hm6, hbb6⟩
    obtain ⟨rd6, e6⟩ := rdgs_of hb6 ho6 hl6 hlen.out hm6 hsm.out
    have R6 := hid rd6
    have E6 := hid e6
    have R5' := hid (R5.out.below hbb6)
    have B6 := hid (B5.out.trans (hbb6.mono (by omega)))
    have z6 := hbb6.size
    clear hb6 ho6 hl6 hm6 hbb6 rd6 e6
    go_wp2_with fail
    refine (eqGroupS_same _ R5'.out R6.out (E4.out.trans E6.out.symm) hnn).mono ?_
    rintro e w7 ⟨rfl, hb7⟩
    have B7 := hid (B6.out.trans (hb7.mono (by omega)))
    clear hb7
    go_wp2
    go_ret
    exact ⟨rfl, B7.out⟩
end Go.Proofs.Ytbgkinaoelicnaa
