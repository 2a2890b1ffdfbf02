/-
  Contract of the program's TraceOrder. No condition but lengths below 2^40.
-/
import Derived.Test.YtdhafappclcijaaTpD
import Derived.Test.YtdhafappclcijaaTpE
namespace Go.Proofs.Ytdhafappclcijaa
open Go.RowKit
set_option linter.unusedVariables false
set_option linter.unusedSimpArgs false

/-- the messages that remain -/
def rmS (zss : List (List Int)) (out : List Int) (k : Nat) : Bool := Dn zss k && !out.contains (k : Int)
/-- .. that are told right before, still -/
def rmB (zss : List (List Int)) (out : List Int) (k j : Nat) : Bool := En zss j k && !out.contains (j : Int)

theorem find_congr {α : Type} {p q : α → Bool} : ∀ {l : List α}, (∀ x ∈ l, p x = q x) → l.find? p = l.find? q
  | [], _ => rfl
  | x :: l, h => by
    rw [List.find?_cons, List.find?_cons, h x (by simp), find_congr (fun y hy => h y (by simp [hy]))]

theorem mem_allN {zss : List (List Int)} {k : Nat} (hk : k < 12) : (k : Int) ∈ allT zss ↔ Dn zss k = true := by
  rw [mem_allT, Dn, inAny, List.any_eq_true]
  constructor
  · rintro ⟨-, t, ht, hm⟩; exact ⟨t, ht, by simpa using hm⟩
  · rintro ⟨t, ht, hm⟩; exact ⟨⟨by omega, by omega⟩, t, ht, by simpa using hm⟩

theorem em_fr {zss : List (List Int)} {out : List Int} (hv : ∀ t ∈ zss, trB t = true) {k : Nat} (hk : k < 12) :
    (rmS zss out k && emB (rmB zss out k)) = (inAny zss (k : Int) && frB (nxT zss) (allT zss) out (k : Int)) := by
  have key : emB (rmB zss out k) = (allT zss).all fun j => out.contains j || !nxT zss j (k : Int) := by
    rw [Bool.eq_iff_iff, emB_true, List.all_eq_true]
    constructor
    · intro h j hj
      obtain ⟨⟨j0, j1⟩, -⟩ := mem_allT.1 hj
      obtain ⟨i, rfl⟩ := Int.eq_ofNat_of_zero_le j0
      have := h i (by omega)
      unfold rmB En at this
      cases h1 : nxT zss (i : Int) (k : Int) <;> cases h2 : out.contains (i : Int) <;> simp_all
    · intro h j hj
      cases h1 : nxT zss (j : Int) (k : Int) with
      | false => simp [rmB, En, h1]
      | true =>
        have := h (j : Int) (nxT_all hv _ _ h1).1
        rw [h1] at this
        simp at this
        simp [rmB, En, this]
  unfold frB rmS Dn
  rw [key, Bool.and_assoc]

theorem st_find {zss : List (List Int)} {out : List Int} (hv : ∀ t ∈ zss, trB t = true) : stO (nxT zss) (allT zss) out = (fiB (rmS zss out) (rmB zss out)).map fun (k : Nat) => (k : Int) := by
  unfold stO allT msg12 fiB
  rw [List.find?_filter, List.find?_map]
  congr 1
  refine find_congr fun k hk => ?_
  have hk' : k < 12 := by simpa using hk
  have := em_fr (out := out) hv hk'
  rw [this]
  show decide (inAny zss (k : Int) = true ∧ frB (nxT zss) (allT zss) out (k : Int) = true) = _
  cases inAny zss (k : Int) <;> cases frB (nxT zss) (allT zss) out (k : Int) <;> rfl

theorem fi_lt {S : Nat → Bool} {bf : Nat → Nat → Bool} {k : Nat} (h : fiB S bf = some k) : k < 12 ∧ S k = true := by
  unfold fiB at h
  have h1 := List.find?_some h
  have h2 := List.mem_of_find?_eq_some h
  simp only [Bool.and_eq_true] at h1
  exact ⟨by simpa using h2, h1.1⟩

theorem rmS_snoc {zss : List (List Int)} {out : List Int} {k : Nat} (j : Nat) : upB (rmS zss out) k false j = rmS zss (out ++ [(k : Int)]) j := by
  unfold upB rmS
  by_cases e : j = k
  · subst e; simp
  · have : ¬ ((j : Int) = (k : Int)) := by omega
    simp [e, this]

theorem rmB_snoc {zss : List (List Int)} {out : List Int} {k : Nat} (i j : Nat) : (rmB zss out i j && !decide (j = k)) = rmB zss (out ++ [(k : Int)]) i j := by
  unfold rmB
  by_cases e : j = k
  · subst e; simp
  · have : ¬ ((j : Int) = (k : Int)) := by omega
    simp [e, this]

theorem rmS_nil {zss : List (List Int)} (j : Nat) : Dn zss j = rmS zss [] j := by simp [rmS]

theorem rmB_nil {zss : List (List Int)} (i j : Nat) : En zss j i = rmB zss [] i j := by simp [rmB]

theorem run_len {zss : List (List Int)} {out : List Int} (h : OrdRun (nxT zss) (allT zss) out) : out.length ≤ (allT zss).length ∧ (allT zss).length ≤ 12 :=
  ⟨nodup_len h.facts.1 h.facts.2.1, by rw [← allTo_12]; exact allTo_len zss 12⟩

theorem em_end {zss : List (List Int)} {out : List Int} (h : OrdRun (nxT zss) (allT zss) out) : emB (rmS zss out) = decide ((allT zss).length ≤ out.length) := by
  rw [Bool.eq_iff_iff, emB_true, decide_eq_true_eq]
  constructor
  · intro hn
    refine nodup_len (allT_nodup zss) fun x hx => ?_
    obtain ⟨⟨x0, x1⟩, -⟩ := mem_allT.1 hx
    obtain ⟨k, rfl⟩ := Int.eq_ofNat_of_zero_le x0
    have := hn k (by omega)
    unfold rmS at this
    rw [(mem_allN (by omega)).1 hx] at this
    simpa using this
  · intro hl k hk
    cases hd : Dn zss k with
    | false => simp [rmS, hd]
    | true =>
      have := nodup_full h.facts.1 h.facts.2.1 hl (k : Int) ((mem_allN hk).2 hd)
      simp [rmS, this]

theorem linkedMessages_gr {zss : List (List Int)} (hv : trsB zss = true) : ∀ t ∈ zss, trB t = true := (trsB_true.1 hv).1

set_option maxHeartbeats 4000000 in
theorem TraceOrder_impl {n c : Nat} {A : Option Addr} {zss : List (List Int)} (w : World) (hr : RdT w w.heap.size A n zss) (hn : n < 1099511627776) (hs : ShT zss) :
    Calls Try.prog 16 #[.slice A n c] w (OrdPost zss w) := by
  have hr' := hid hr
  have hs' := hid hs
  clear hr hs
  cases hv : trsB zss with
  | false =>
    have hok := hid (show okT zss = false by unfold okT; rw [hv]; rfl)
    have hto := hid (show toR zss = [] by unfold toR; rw [hok.out]; rfl)
    have hv' := hid hv
    clear hv
    go_enter Try.func16, Try.ntmps16
    go_wp2_with fail
    refine (TracesValid_ias hv'.out _ hr'.out hn hs'.out).mono ?_
    rintro e w1 ⟨rfl, hq1⟩
    have hz := hq1.size
    have he := hid (OwI.empty_lit (B := w.heap.size) w1 (by omega))
    have hb := hid (hq1.alloc (by omega) (.cells #[] 3))
    clear hq1
    go_wp2
    go_ret2
    exact ⟨_, by rw [hok.out]; rfl, by rw [hto.out]; exact he.out, hb.out⟩
  | true =>
    have hv' := hid hv
    have hvt := hid (trsB_true.1 hv).1
    clear hv
    go_enter Try.func16, Try.ntmps16
    go_wp2_with fail
    refine (TracesValid_ias hv'.out _ hr'.out hn hs'.out).mono ?_
    rintro e w1 ⟨rfl, hq1⟩
    have hz1 := hq1.size
    have B1 := hid hq1
    have R1 := hid (hr'.out.step hq1)
    clear hq1
    go_wp2_with fail
    refine (linkedMessages_any _ R1.out hn hv'.out).mono ?_
    rintro e w2 ⟨P, rfl, hG2, hb2⟩
    have B2 := hid (B1.out.trans (hb2.mono hz1))
    have hz2 := hb2.size
    obtain ⟨W3, hW3⟩ : ∃ W3, ((w2.alloc (.cells (lkC P (Dn zss)) 42)).alloc (.cells #[] 3)) = W3 := ⟨_, rfl⟩
    have hL3 := hid (show Lk W3 w2.heap.size P (rmS zss []) by rw [← hW3]; exact Lk.congr ((Cs.new w2 _ _).alloc _) (fun k _ => rmS_nil k) (fun _ _ _ => rfl))
    have hG3 := hid (show Gr W3 w.heap.size P (Dn zss) (rmB zss []) (En zss) by rw [← hW3]; exact ((((hG2.more hz1).alloc _).alloc _).congr (fun k j _ _ => rmB_nil k j) (fun _ _ _ _ => rfl)))
    have hGl := hid (show ∀ b, GrS P (Dn zss) b → b < w2.heap.size by rintro b ⟨k, h1, h2, rfl⟩; exact hG2.lt h1 h2)
    have B3 := hid (show Below w.heap.size w W3 by rw [← hW3]; exact (B2.out.alloc (by omega) _).alloc (by simp; omega) _)
    have O3 := hid (show OwI W3 (w2.heap.size + 1) (.slice (some ⟨w2.heap.size + 1, 0, none⟩) 0 0) [] by
      rw [← hW3]
      have := OwI.empty_lit (B := w2.heap.size + 1) (w2.alloc (.cells (lkC P (Dn zss)) 42)) (by simp)
      simpa using this)
    have hW3' := hid hW3
    have hlt3 : w2.heap.size + 1 < W3.heap.size := by rw [← hW3]; simp
    clear hW3 hb2 hG2 B2 R1
    go_upto_region 5 with (fail)
    rw [hW3'.out]
    obtain ⟨c0, c1, c2, c3, c4, c5, c6, c7, c8, c9, c10, c11⟩ := Lk.all hL3.out
    go_wp2_with fail
    refine (first_any hG3.out (S := rmS zss []) (fun k _ h => by simp [rmS] at h; exact h)).mono ?_
    rintro e w4 ⟨rfl, hb4⟩
    have hL4 := hid (Cs.step hL3.out hb4)
    have hG4 := hid (hG3.out.step hb4)
    have B4 := hid (B3.out.trans (hb4.mono (by omega)))
    have O4 := hid (O3.out.below hb4)
    have hlt4 : w2.heap.size + 1 < w4.heap.size := Nat.lt_of_lt_of_le hlt3 hb4.size
    clear hL3 hG3 B3 O3 hb4 hW3' hlt3 c0 c1 c2 c3 c4 c5 c6 c7 c8 c9 c10 c11
    go_wp2
    go_loopw [5, 6] (fun v m wr => ∃ (out : List Int), Hid (OrdRun (nxT zss) (allT zss) out) ∧ Hid (m = .pointer (fiO P (fiB (rmS zss out) (rmB zss out)))) ∧ Hid (slLenT v = out.length) ∧ Hid (OwI wr (w2.heap.size + 1) v out) ∧ Hid (Lk wr w2.heap.size P (rmS zss out)) ∧ Hid (Gr wr w.heap.size P (Dn zss) (rmB zss out) (En zss)) ∧ Hid (Below w.heap.size w wr) ∧ w2.heap.size + 1 < wr.heap.size) (fun v _ _ => 12 - slLenT v)
    case atStart => exact ⟨[], hid .nil, hid rfl, hid rfl, O4, hL4, hG4, B4, hlt4⟩
    case round =>
      clear hL4 hG4 B4 O4 hlt4
      obtain ⟨out, hO, hm, hsl, hv, hL, hG, hB, hlt⟩ := hrel
      have hfs := hid (st_find (out := out) hvt.out)
      have hrl := hid (run_len hO.out)
      cases hfi : fiB (rmS zss out) (rmB zss out) with
      | some k =>
        rw [hfi] at hm hfs
        obtain ⟨hk, sk⟩ := fi_lt hfi
        have hm' : _ = Value.pointer (some ⟨P k, 0, none⟩) := hm.out
        subst hm'
        have dk : Dn zss k = true := by
          unfold rmS at sk
          simp only [Bool.and_eq_true] at sk
          exact sk.1
        have hO2 := hid (OrdRun.step hO.out hfs.out)
        have hrl2 := hid (run_len hO2.out)
        have hna := hG.out.num hk dk
        have hol : out.length < 1099511627776 := by have := hrl.out; omega
        have hO3 : Hid (OrdRun (nxT zss) (allT zss) (out ++ [(k : Int)])) := hO2
        have hrl3 : Hid (out.length + 1 ≤ 12) := hid (by have := hrl2.out; simp at this; omega)
        clear hfi hfs sk hm hO2 hrl2 hO hrl
        go_wp2_with (at_builtin; refine wpList_app1 rfl (.tmp 20) (.tmp 25) rfl (w2.heap.size + 1) (k : Int) _ out rfl rfl hv.out (by omega) hol ?_; intro v5 w5 hv5 hb5)
        have hL5 := hid (Cs.below hL.out hb5 (by omega))
        have hG5 := hid (hG.out.keep (w' := w5) fun i h1 h2 => hb5.block _ (by have := hGl.out _ ⟨i, h1, h2, rfl⟩; omega))
        have hz5 := hb5.size
        have hB5 := hid (hB.out.trans (hb5.mono (by omega)))
        have hrm := hid (remove_any hL5.out hG5.out hk dk (fun i hi h => by simp only [rmB, Bool.and_eq_true] at h; exact h.1))
        have hv5' := hid hv5
        clear hv hL hG hB hna hb5 hv5 hL5 hG5
        refine hrm.out.mono ?_
        rintro e w6 ⟨rfl, hL6, hG6, hK6⟩
        have hL7 := hid (Lk.congr hL6 (P' := P) (S' := rmS zss (out ++ [(k : Int)])) (fun j _ => rmS_snoc j) (fun _ _ _ => rfl))
        have hG7 := hid (hG6.congr (bf' := rmB zss (out ++ [(k : Int)])) (af' := En zss) (fun i j _ _ => rmB_snoc i j) (fun _ _ _ _ => rfl))
        have hv7 := hid (hK6.ownI hv5'.out (fun g hg hS => by
          have h1 := (hv5'.out.lt g hg).1
          rcases hS with h2 | h2
          · omega
          · have := hGl.out g h2; omega))
        have hz6 := hK6.size
        have hB7 := hid (hB5.out.trans (hK6.base (B := w.heap.size) (by omega) (fun b hS => by
          rcases hS with h2 | ⟨i, h1, h2, rfl⟩
          · omega
          · exact hG6.lo i h1 h2)))
        obtain ⟨c0, c1, c2, c3, c4, c5, c6, c7, c8, c9, c10, c11⟩ := Lk.all hL7.out
        clear hrm hL6 hG6 hK6 hB5 hv5'
        go_wp2_with fail
        refine (first_any hG7.out (S := rmS zss (out ++ [(k : Int)])) (fun k _ h => by simp only [rmS, Bool.and_eq_true] at h; exact h.1)).mono ?_
        rintro e w8 ⟨rfl, hb8⟩
        have hL9 := hid (Cs.step hL7.out hb8)
        have hG9 := hid (hG7.out.step hb8)
        have hB9 := hid (hB7.out.trans (hb8.mono (by omega)))
        have hv9 := hid (hv7.out.below hb8)
        have hz8 := hb8.size
        obtain ⟨A9, c9', e9, -⟩ := hv9.out.form
        subst e9
        have hll : (out ++ [(k : Int)]).length = out.length + 1 := by simp
        rw [hll] at hv9
        have hsl9 : Hid (slLenT (Value.slice A9 (out.length + 1) c9') = (out ++ [(k : Int)]).length) := hid hll.symm
        clear hll hL7 hG7 hB7 hv7 hb8 c0 c1 c2 c3 c4 c5 c6 c7 c8 c9 c10 c11
        go_wp2
        go_roundw
        case rel => exact ⟨out ++ [(k : Int)], hO3, hid rfl, hsl9, hv9, hL9, hG9, hB9, by omega⟩
        case measure => rw [hsl.out]; have := hrl3.out; simp [slLenT]; omega
      | none =>
        rw [hfi] at hm hfs
        have hm' : _ = Value.pointer none := hm.out
        subst hm'
        have hlast := hid (hO.out.last hfs.out)
        have hem : emB (rmS zss out) = okT zss := by
          rw [em_end hO.out]; unfold okT ordT; rw [hv'.out, ← hlast.out, Bool.true_and]
        have hcmp := run_links_neq P (rmS zss out)
        obtain ⟨c0, c1, c2, c3, c4, c5, c6, c7, c8, c9, c10, c11⟩ := Lk.all hL.out
        obtain ⟨vA, vC, e9, -⟩ := hv.out.form
        subst e9
        cases hok : okT zss with
        | true =>
          rw [hok] at hem
          rw [hem] at hcmp
          have hto := hid (show out = toR zss by unfold toR; rw [hok, hlast.out]; rfl)
          have hok' := hid hok
          clear hfi hfs hm hem hok
          go_wp2
          go_ret2
          exact ⟨_, by rw [hok'.out]; rfl, by rw [← hto.out]; exact hv.out.more (by omega), hB.out⟩
        | false =>
          rw [hok] at hem
          rw [hem] at hcmp
          have hto := hid (show toR zss = [] by unfold toR; rw [hok]; rfl)
          have hok' := hid hok
          have he := hid (OwI.empty_lit (B := w.heap.size) wr (by omega))
          have hb := hid (hB.out.alloc (by omega) (.cells #[] 3))
          clear hfi hfs hm hem hok
          go_wp2
          go_ret2
          exact ⟨_, by rw [hok'.out]; rfl, by rw [hto.out]; exact he.out, hb.out⟩
end Go.Proofs.Ytdhafappclcijaa
