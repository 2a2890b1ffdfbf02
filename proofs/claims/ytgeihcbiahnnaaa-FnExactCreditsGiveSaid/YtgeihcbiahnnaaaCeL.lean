/-
  The line and the credits that are given back (mathematics); contract of the program's full. No condition but lengths below 2^40.
-/
import Derived.Test.YtgeihcbiahnnaaaCeK
import Derived.Test.YtgeihcbiahnnaaaCeJ
import Derived.Test.YtgeihcbiahnnaaaCdJ
namespace Go.Proofs.Ytgeihcbiahnnaaa
open Go.RowKit
set_option linter.unusedVariables false
set_option linter.unusedSimpArgs false

theorem line_some {d : Cr} {ns : List Wn} {k G : Nat} {x : Wn} (hin : inL ns = gl d.h (wtB d) d.hs.length) (hx : ns[k + 1]? = some x) (hg : x.g = (G : Int)) (hno : ∀ (j : Nat) (y : Wn), j < k → ns[j + 1]? = some y → y.g ≠ (G : Int)) :
    ∃ i : Nat, x.s = (i : Int) ∧ i < d.hs.length ∧ fw d (G : Int) = some i ∧ ∀ Z, inL (ns.eraseIdx (k + 1)) = gl (Cr.h ⟨d.fr, d.hs.set i (Z, -1)⟩) (wtB ⟨d.fr, d.hs.set i (Z, -1)⟩) d.hs.length := by
  have h1 : (gl d.h (wtB d) d.hs.length)[k]? = some (x.s, x.g) := by rw [← hin, inL_get, hx]; rfl
  obtain ⟨i, e1, hi, hD, e2, he, hb⟩ := gl_out h1
  refine ⟨i, e1, hi, fw_of hi (by rw [← e2]; exact hg) (fun j hj hw => ?_), fun Z => ?_⟩
  · obtain ⟨q, hq, e⟩ := hb j hj (by simp [wtB, hw])
    rw [← hin, inL_get] at e
    cases hn : ns[q + 1]? with
    | none => rw [hn] at e; simp at e
    | some y =>
      rw [hn] at e
      simp at e
      exact hno q y hq hn (by rw [e.2]; exact hw)
  · rw [inL_erase, hin, he]
    refine gl_congr (fun j hj => ?_) (fun j hj hD => ?_)
    · unfold offB wtB
      have e : Cr.h ⟨d.fr, d.hs.set i (Z, -1)⟩ j = if j = i then (Z, -1) else d.h j := getD_set hi
      rw [e]
      split
      · simp
      · rfl
    · have e : Cr.h ⟨d.fr, d.hs.set i (Z, -1)⟩ j = if j = i then (Z, -1) else d.h j := getD_set hi
      rw [e]
      unfold offB at hD
      split at hD
      · cases hD
      · rename_i h; rw [if_neg h]

theorem line_none {d : Cr} {ns : List Wn} {G : Nat} (hin : inL ns = gl d.h (wtB d) d.hs.length) (hno : ∀ (j : Nat) (y : Wn), ns[j + 1]? = some y → y.g ≠ (G : Int)) : fw d (G : Int) = none := by
  cases h : fw d (G : Int) with
  | none => rfl
  | some i =>
    obtain ⟨hi, hw, -⟩ := fw_some h
    have hm := gl_mem (H := d.h) (D := wtB d) hi (by simp [wtB, hw])
    rw [← hin] at hm
    obtain ⟨q, hq⟩ := List.getElem?_of_mem hm
    rw [inL_get] at hq
    cases hn : ns[q + 1]? with
    | none => rw [hn] at hq; simp at hq
    | some y =>
      rw [hn] at hq
      simp at hq
      exact absurd (by rw [hq.2]; exact hw) (hno q y hn)
/-- who waits for a group that is given back later on finds no free credit -/
theorem give_zero {c : Cr} {S j G : Nat} {zs : List Int} (v : Vc c) (hS : S < c.hs.length) (hw : (c.h S).2 < 0) (hset : zs.Pairwise (· < ·) ∧ ∀ z ∈ zs, 0 ≤ z ∧ z ≤ 4) (hz : zs[j]? = some (G : Int)) (hG : G < 5) :
    ∀ k, k < (giveTo c S (zs.take j)).hs.length → ((giveTo c S (zs.take j)).h k).2 = (G : Int) → (giveTo c S (zs.take j)).f G = 0 := by
  have hnd : (zs.take j).Nodup := (hset.1.imp fun {a b} (h : a < b) => (show a ≠ b by omega)).sublist (List.take_sublist _ _)
  have hrun := give_run v hS hw (zs.take j) hnd (fun g hg => hset.2 g (List.mem_of_mem_take hg))
  have hnot : (G : Int) ∉ zs.take j := fun h => by
    obtain ⟨q, hq, e⟩ := List.getElem_of_mem h
    rw [List.length_take] at hq
    rw [List.getElem_take] at e
    obtain ⟨hj, e2⟩ := List.getElem?_eq_some_iff.1 hz
    have := List.pairwise_iff_getElem.1 hset.1 q j (by omega) hj (by omega)
    omega
  intro k hk hwk
  rw [hrun] at hk hwk ⊢
  rw [mkC_n] at hk
  rw [mkC_h hk] at hwk
  rw [mkC_f hG]
  obtain ⟨e, hne⟩ := gvH_wait (c := c) (S := S) (k := k) (gs := zs.take j) (by rw [hwk]; omega)
  rw [e] at hwk
  have h0 : gvF c (zs.take j) G = c.f G := by unfold gvF; rw [if_neg (fun h => hnot h.1)]
  rw [h0]
  have h2 := v.wf k hk (by omega)
  rw [hwk] at h2
  simpa using h2

theorem fulB_eq {c : Cr} {gs : List Int} (h : ∀ g ∈ gs, 0 ≤ g ∧ g ≤ 4) (hf : ∀ g, g < 5 → c.f g ≤ 9) : (gs.any fun g => c.f g.toNat == 9) = fulB c gs := by
  unfold fulB
  rw [Bool.eq_iff_iff, List.any_eq_true, List.any_eq_true]
  constructor
  · rintro ⟨g, hg, e⟩
    exact ⟨g, hg, by have h3 : c.f g.toNat = 9 := (by simpa using e); rw [decide_eq_true_iff]; omega⟩
  · rintro ⟨g, hg, e⟩
    have h1 := h g hg
    have h2 := hf g.toNat (by omega)
    exact ⟨g, hg, by have h3 : 9 ≤ c.f g.toNat := (by simpa using e); rw [beq_iff_eq]; omega⟩

set_option maxHeartbeats 400000 in
theorem isFull_any {b G : Nat} {A1 A2 : Option Addr} {n1 n2 c1 c2 : Nat} {c : Cr} (w : World) (hC : Cs w b 25 #[.slice A1 n1 c1, .slice A2 n2 c2]) (hr : RdI w w.heap.size A1 n1 c.fr) (hG : G < n1) :
    Calls Try.prog 75 #[.int .i64 G, .pointer (some ⟨b, 0, none⟩)] w fun e w' => e = .returned (.bool (c.f G == 9)) ∧ w = w' := by
  obtain ⟨d0, d1, -, -⟩ := hC.two
  obtain ⟨ad, y, rfl, hy, hcy⟩ := RdI.at' hr hG
  have g0 : (0 : Int) ≤ (G : Int) := by omega
  have g1 : (G : Int) < (n1 : Int) := by omega
  have R := hid (show c.f G = y from hy.out)
  clear hr hC hy
  go_enter Try.func75, Try.ntmps75
  go_wp2
  go_ret
  exact ⟨by rw [R.out]; rfl, rfl⟩

set_option maxHeartbeats 1000000 in
theorem IndexFull_any {b : Nat} {A A1 A2 : Option Addr} {n k0 n1 n2 c1 c2 : Nat} {c : Cr} {zs : List Int} (w : World) (hC : Cs w b 25 #[.slice A1 n1 c1, .slice A2 n2 c2]) (hr : RdI w w.heap.size A1 n1 c.fr) (hz : RdI w w.heap.size A n zs) (hn : n < 1099511627776) (hgs : ∀ g ∈ zs, 0 ≤ g ∧ g ≤ 4) (h5 : n1 = 5) :
    Calls Try.prog 78 #[.slice A n k0, .func (.func 75) #[] #[.pointer (some ⟨b, 0, none⟩)]] w fun e w' => (∃ k : Int, e = .returned (.int .i64 k) ∧ decide (k ≥ 0) = zs.any fun g => c.f g.toNat == 9) ∧ w = w' := by
  have hlen := hid hz.len
  have h' := hid hz
  have hC' := hid hC
  have hr' := hid hr
  have hgs' := hid hgs
  replace h5 := hid h5
  clear hz hC hr hgs
  go_enter Try.func78, Try.ntmps78
  go_wp2
  go_loop [8] (fun i => ∃ k : Nat, k ≤ n ∧ i = .int .i64 k ∧ Hid (∀ (j : Nat) (x : Int), j < k → zs[j]? = some x → (c.f x.toNat == 9) = false)) (fun i => n - (intOf i).toNat)
  case atStart => exact ⟨0, by omega, rfl, hid (fun j x hj => by omega)⟩
  case round =>
    obtain ⟨k, hk, rfl, hall⟩ := hrel
    by_cases hlt : k < n
    · obtain ⟨ad, y, rfl, hy, hcy⟩ := RdI.at' h'.out hlt
      have i0 : (0 : Int) ≤ (k : Int) := by omega
      have i1 : (k : Int) < (n : Int) := by omega
      have hyg := hid (getDq (by rw [hlen.out]; exact hlt) hy.out)
      have hyb := hgs'.out y (List.mem_of_getElem? hyg.out)
      obtain ⟨G, rfl⟩ := Int.eq_ofNat_of_zero_le hyb.1
      have hG : G < n1 := by rw [h5.out]; omega
      clear hy
      cases hb : (c.f G == 9) with
      | true =>
        have R := hid (show (zs.any fun g => c.f g.toNat == 9) = true from List.any_eq_true.2 ⟨_, List.mem_of_getElem? hyg.out, hb⟩)
        have hb' := hid hb
        clear hb
        go_wp2_with fail
        refine (isFull_any _ hC'.out hr'.out hG).mono ?_
        rw [hb'.out]
        rintro e w2 ⟨rfl, rfl⟩
        go_wp2
        go_ret
        exact ⟨⟨k, rfl, by rw [R.out]; simp⟩, rfl⟩
      | false =>
        have hb' := hid hb
        clear hb
        go_wp2_with fail
        refine (isFull_any _ hC'.out hr'.out hG).mono ?_
        rw [hb'.out]
        rintro e w2 ⟨rfl, rfl⟩
        go_wp2
        go_round
        case rel => exact ⟨k + 1, by omega, by go_num, hid (fun j x hj hjx => by
              by_cases e : j = k
              · subst e
                have := hyg.out.symm.trans hjx
                injection this with this
                subst this
                exact hb'.out
              · exact hall.out j x (by omega) hjx)⟩
        case measure => simp [intOf]; omega
    · have hkn : ¬ ((k : Int) < (n : Int)) := by omega
      have R := hid (show (zs.any fun g => c.f g.toNat == 9) = false from by
        rw [List.any_eq_false]
        intro x hx
        obtain ⟨j, hj, e1⟩ := List.getElem_of_mem hx
        have := hall.out j x (by rw [hlen.out] at hj; omega) (by rw [List.getElem?_eq_getElem hj, e1])
        simpa using this)
      go_wp2
      go_ret
      exact ⟨⟨-1, rfl, by rw [R.out]; simp⟩, rfl⟩

set_option maxHeartbeats 1000000 in
theorem ContainsFull_any {b : Nat} {A A1 A2 : Option Addr} {n k0 n1 n2 c1 c2 : Nat} {c : Cr} {zs : List Int} (w : World) (hC : Cs w b 25 #[.slice A1 n1 c1, .slice A2 n2 c2]) (hr : RdI w w.heap.size A1 n1 c.fr) (hz : RdI w w.heap.size A n zs) (hn : n < 1099511627776) (hgs : ∀ g ∈ zs, 0 ≤ g ∧ g ≤ 4) (h5 : n1 = 5) :
    Calls Try.prog 64 #[.slice A n k0, .func (.func 75) #[] #[.pointer (some ⟨b, 0, none⟩)]] w fun e w' => e = .returned (.bool (zs.any fun g => c.f g.toNat == 9)) ∧ w = w' := by
  have hC' := hid hC
  have hr' := hid hr
  have hz' := hid hz
  have hgs' := hid hgs
  replace h5 := hid h5
  clear hC hr hz hgs
  go_enter Try.func64, Try.ntmps64
  go_wp2_with fail
  refine (IndexFull_any _ hC'.out hr'.out hz'.out hn hgs'.out h5.out).mono ?_
  rintro e w1 ⟨⟨k, rfl, hk⟩, rfl⟩
  have R := hid hk
  clear hk
  go_wp2
  go_ret
  exact ⟨by rw [← R.out]; rfl, rfl⟩

set_option maxHeartbeats 1000000 in
theorem full_any {A A1 A2 : Option Addr} {n k0 n1 n2 c1 c2 : Nat} {c : Cr} {zs : List Int} (w : World) (hr : RdI w w.heap.size A1 n1 c.fr) (hz : RdI w w.heap.size A n zs) (hn : n < 1099511627776) (hgs : ∀ g ∈ zs, 0 ≤ g ∧ g ≤ 4) (h5 : n1 = 5) (hf : ∀ g, g < 5 → c.f g ≤ 9) :
    Calls Try.prog 54 #[crV (.slice A1 n1 c1) (.slice A2 n2 c2), .slice A n k0] w fun e w' => e = .returned (.bool (fulB c zs)) ∧ Below w.heap.size w w' := by
  obtain ⟨W, hW⟩ : ∃ W, w.alloc (.cells #[.slice A1 n1 c1, .slice A2 n2 c2] 25) = W := ⟨_, rfl⟩
  have hB := hid (show Below w.heap.size w W by rw [← hW]; exact below1 w _)
  have hC := hid (show Cs W w.heap.size 25 #[.slice A1 n1 c1, .slice A2 n2 c2] by rw [← hW]; exact Cs.new w _ _)
  have hR := hid (show RdI W W.heap.size A1 n1 c.fr from (Reads.below hr hB.out).more hB.out.size)
  have hZ := hid (show RdI W W.heap.size A n zs from (Reads.below hz hB.out).more hB.out.size)
  have E := hid (fulB_eq hgs hf)
  have hgs' := hid hgs
  replace h5 := hid h5
  replace hW := hid hW
  clear hr hz hgs hf
  go_enter Try.func54, Try.ntmps54
  go_upto_region 1 with (fail)
  rw [hW.out]
  go_wp2_with fail
  refine (ContainsFull_any _ hC.out hR.out hZ.out hn hgs'.out h5.out).mono ?_
  rw [E.out]
  rintro e w1 ⟨rfl, rfl⟩
  go_wp2
  go_ret
  exact ⟨rfl, hB.out⟩

theorem full_as {A A1 A2 : Option Addr} {n k0 n1 n2 c1 c2 : Nat} {c : Cr} {zs : List Int} {r : Bool} (h : fulB c zs = r) (w : World) (hr : RdI w w.heap.size A1 n1 c.fr) (hz : RdI w w.heap.size A n zs) (hn : n < 1099511627776) (hgs : ∀ g ∈ zs, 0 ≤ g ∧ g ≤ 4) (h5 : n1 = 5) (hf : ∀ g, g < 5 → c.f g ≤ 9) :
    Calls Try.prog 54 #[crV (.slice A1 n1 c1) (.slice A2 n2 c2), .slice A n k0] w fun e w' => e = .returned (.bool r) ∧ Below w.heap.size w w' := by
  subst h; exact full_any w hr hz hn hgs h5 hf
end Go.Proofs.Ytgeihcbiahnnaaa
