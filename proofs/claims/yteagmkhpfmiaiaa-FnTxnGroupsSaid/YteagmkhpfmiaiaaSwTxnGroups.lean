/-
  The walk of the law FnTxnGroups. No condition.
-/
import Derived.Test.YteagmkhpfmiaiaaSwO
import Derived.Test.YteagmkhpfmiaiaaSwR
import Derived.Test.YteagmkhpfmiaiaaSoE
import Derived.Test.YteagmkhpfmiaiaaPureB
namespace Go.Proofs.Yteagmkhpfmiaiaa
open Go.RowKit
set_option linter.unusedVariables false
set_option linter.unusedSimpArgs false

def inG (l : List Int) (g : Int) : Bool := l.any fun k => decide (k % 5 = g)

theorem has_grps (l : List Int) {g : Int} (h0 : 0 ≤ g) (h4 : g ≤ 4) : hasB (grpsOf l) g = inG l g := by
  unfold hasB inG
  rw [Bool.eq_iff_iff, List.contains_iff_mem]
  unfold grpsOf
  rw [List.mem_filter, grps_mem]
  constructor
  · exact fun h => h.2
  · exact fun h => ⟨by omega, h⟩

theorem inG_snoc {l : List Int} {k : Nat} {z g : Int} (hk : k < l.length) (h : l.getD k 0 = z) : inG (l.take (k + 1)) g = (inG (l.take k) g || decide (z % 5 = g)) := by
  rw [take_snocI hk h]; simp [inG]

theorem inG_app (l m : List Int) (g : Int) : inG (l ++ m) g = (inG l g || inG m g) := by simp [inG]

theorem inG_keys {ps : List (Int × Int)} {k : Nat} {x : Int × Int} {g : Int} (h : ps[k]? = some x) : inG (keysP (ps.take (k + 1))) g = (inG (keysP (ps.take k)) g || decide (x.1 % 5 = g)) := by
  rw [take_snocP h]; simp [inG, keysP]

theorem gvalid_grps {t : Tx} (h : vtx t = true) : gvalid (tgrpR t) = true := by
  have ht := vtx_true.1 h
  rw [tgrpR_yes h]
  have hne : t.rd ++ keysP t.puts ≠ [] := by
    intro e
    have := ht.some_
    have e2 := congrArg List.length e
    rw [List.length_append, keysP_len] at e2
    simp only [List.length_nil] at e2
    omega
  have hr : ∀ z ∈ t.rd ++ keysP t.puts, 0 ≤ z ∧ z ≤ 14 := fun z hz => by
    rcases List.mem_append.1 hz with hz | hz
    · exact ht.rd.mem hz
    · exact ht.puts.mem hz
  refine gvalid_of ?_ ?_ ?_
  · obtain ⟨z, hz⟩ := List.exists_mem_of_ne_nil _ hne
    exact List.length_pos_of_mem ((grpsOf_valid hne hr (z % 5)).2 ⟨z, hz, rfl⟩)
  · unfold grpsOf
    exact List.Pairwise.filter _ (by decide)
  · intro z hz
    obtain ⟨y, hy, rfl⟩ := (grpsOf_valid hne hr z).1 hz
    omega

theorem TxnGroups_asL {A1 A2 : Option Addr} {n1 n2 c1 c2 : Nat} {t : Tx} {G : List Int} {k : Nat} {m : Int} (hG : tgrpR t = G) (hk : G.length = k) (hm : t.need = m) (w : World) (hr : RdT w A1 n1 A2 n2 t) :
    Calls Try.prog 25 #[txV (.slice A1 n1 c1) m (.slice A2 n2 c2)] w fun e w' => ∃ A' c', e = .returned (.slice A' k c') ∧ RdI w' w'.heap.size A' k G ∧ Below w.heap.size w w' := by
  subst hG; subst hk; subst hm
  refine (TxnGroups_spec w hr).mono fun e w' ⟨v, h1, h2, h3⟩ => ?_
  obtain ⟨A', c', rfl, hr⟩ := h2.form
  exact ⟨A', c', h1, hr, h3⟩

theorem TxnValid_asL {A1 A2 : Option Addr} {n1 n2 c1 c2 : Nat} {t : Tx} {q : Bool} {m : Int} (hq : vtx t = q) (hm : t.need = m) (w : World) (hr : RdT w A1 n1 A2 n2 t) :
    Calls Try.prog 26 #[txV (.slice A1 n1 c1) m (.slice A2 n2 c2)] w fun e w' => e = .returned (.bool q) ∧ Below w.heap.size w w' := by
  subst hq; subst hm; exact TxnValid_spec w hr

theorem GroupsValid_asL {B n c : Nat} {A : Option Addr} {zs : List Int} (h : gvalid zs = true) (w : World) (hr : RdI w B A n zs) (hn : n < 1099511627776) :
    Calls Try.prog 28 #[.slice A n c] w fun e w' => e = .returned (.bool true) ∧ w = w' := by
  rw [← h]; exact GroupsValid_impl w hr hn

set_option maxRecDepth 100000 in
set_option maxHeartbeats 16000000 in
theorem lawTxnGroups {a : Option Addr} {len cap : Nat} {cs : List Int} (w : World) (h : RowIs .u8 w a len cap cs) :
    Calls Try.prog 6 #[.slice a len cap] w fun e w' => e = .returned (.bool true) ∧ Below w.heap.size w w' := by
  have h' := hid h
  clear h
  by_cases hbig : len ≤ 1048576
  · go_enter Try.func6, Try.ntmps6
    go_wp2_with fail
    refine (DrawTxnGroups_any w h'.out).mono ?_
    rintro e w1 ⟨A1, A2, c1, c2, n1, n2, t, rfl, hr1, hl1, hl2, hb⟩
    have hB1 := hid hb
    have hz1 := hb.size
    replace hr1 := hid hr1
    clear hb
    go_upto_region 4 with (fail)
    obtain ⟨m, hm⟩ : ∃ m, t.need = m := ⟨_, rfl⟩
    rw [hm]
    replace hm := hid hm
    obtain ⟨u0, hu0⟩ : ∃ W, w1.alloc (.cells #[.slice A1 n1 c1, .int .i64 m, .slice A2 n2 c2] 26) = W := ⟨_, rfl⟩
    rw [hu0]
    have hbb : Below w1.heap.size w1 u0 := by rw [← hu0]; exact below1 _ _
    have hK2 := hid (show Cs u0 w1.heap.size 26 #[.slice A1 n1 c1, .int .i64 m, .slice A2 n2 c2] by rw [← hu0]; exact Cs.new _ _ _)
    have hB2 := hid (hB1.out.trans (hbb.mono hz1))
    have hr2 := hid (hr1.out.step hbb)
    obtain ⟨xb, hxb⟩ : ∃ b, w1.heap.size = b := ⟨_, rfl⟩
    rw [hxb] at hK2
    try rw [hxb]
    clear hbb hu0 hxb hz1 hB1 hr1
    obtain ⟨G, hG⟩ : ∃ G, tgrpR t = G := ⟨_, rfl⟩
    obtain ⟨q, hq⟩ : ∃ q, vtx t = q := ⟨_, rfl⟩
    obtain ⟨k, hk⟩ : ∃ k, G.length = k := ⟨_, rfl⟩
    have hk5 : k ≤ 5 := by rw [← hk, ← hG]; exact tgrp_len t
    replace hG := hid hG
    replace hq := hid hq
    replace hk := hid hk
    obtain ⟨d0, d1, d2⟩ := hK2.out.tri
    go_wp2_with fail
    refine (TxnGroups_iasL hG.out hk.out hm.out _ hr2.out).mono ?_
    rintro e w3 ⟨A5, c5, rfl, hR3, hb3⟩
    have hK3 := hid (hK2.out.step hb3)
    have hB3 := hid (hB2.out.trans (hb3.mono hB2.out.size))
    have hr3 := hid (hr2.out.step hb3)
    replace hR3 := hid hR3
    clear hb3 hK2 hB2 hr2 d0 d1 d2
    obtain ⟨d0, d1, d2⟩ := hK3.out.tri
    go_wp2_with fail
    refine (TxnGroups_asL hG.out hk.out hm.out _ hr3.out).mono ?_
    rintro e w4 ⟨A6, c6, rfl, hW4, hb4⟩
    have hK4 := hid (hK3.out.step hb4)
    have hB4 := hid (hB3.out.trans (hb4.mono hB3.out.size))
    have hr4 := hid (hr3.out.step hb4)
    have hR4 := hid (hR3.out.stp hb4)
    replace hW4 := hid hW4
    clear hb4 hK3 hB3 hr3 hR3 d0 d1 d2
    obtain ⟨d0, d1, d2⟩ := hK4.out.tri
    go_wp2_with fail
    refine (sameInts_eq rfl _ hR4.out hW4.out (by omega) (by omega)).mono ?_
    rintro e w4b ⟨rfl, hb4⟩
    have hK4b := hid (hK4.out.step hb4)
    have hB4b := hid (hB4.out.trans (hb4.mono hB4.out.size))
    have hr4b := hid (hr4.out.step hb4)
    have hR4b := hid (hR4.out.stp hb4)
    have hW4b := hid (hW4.out.stp hb4)
    clear hb4 hK4 hB4 hr4 hR4 hW4 d0 d1 d2
    obtain ⟨d0, d1, d2⟩ := hK4b.out.tri
    go_wp2_with fail
    refine (TxnValid_asL hq.out hm.out _ hr4b.out).mono ?_
    rintro e w5 ⟨rfl, hb5⟩
    have hK5 := hid (hK4b.out.step hb5)
    have hB5 := hid (hB4b.out.trans (hb5.mono hB4b.out.size))
    have hr5 := hid (hr4b.out.step hb5)
    have hR5 := hid (hR4b.out.stp hb5)
    have hW5 := hid (hW4b.out.stp hb5)
    clear hb5 hK4b hB4b hr4b hR4b hW4b d0 d1 d2
    cases q with
    | false =>
      go_wp2_with fail
      refine (sameInts_eq rfl _ hR5.out hW5.out (by omega) (by omega)).mono ?_
      rintro e w6 ⟨rfl, hb6⟩
      have hB6 := hid (hB5.out.trans (hb6.mono hB5.out.size))
      clear hb6
      go_wp2
      go_ret
      exact ⟨rfl, hB6.out⟩
    | true =>
      have ht := hid (vtx_true.1 hq.out)
      have hgv := hid (show gvalid G = true by rw [← hG.out]; exact gvalid_grps hq.out)
      have hha := hid (show ∀ g : Int, 0 ≤ g → g ≤ 4 → hasB G g = (inG t.rd g || inG (keysP t.puts) g) from fun g h0 h4 => by rw [← hG.out, tgrpR_yes hq.out, has_grps _ h0 h4, inG_app])
      have hlr := hid hr5.out.r.len
      have hlp := hid hr5.out.p.len
      go_wp2
      go_loopw [6] (fun i wr => ∃ (r : Nat), r ≤ 5 ∧ i = .int .i64 (r : Int) ∧ Hid (Below w5.heap.size w5 wr)) (fun i _ => 5 - (intOf i).toNat)
      case atStart => exact ⟨0, by omega, rfl, hid (Below.refl _ _)⟩
      case round =>
        obtain ⟨r, hr, rfl, hV⟩ := hrel
        have hKr := hid (hK5.out.step hV.out)
        have hrr := hid (hr5.out.step hV.out)
        have hBr := hid (hB5.out.trans (hV.out.mono hB5.out.size))
        have hRr := hid (hR5.out.stp hV.out)
        obtain ⟨d0, d1, d2⟩ := hKr.out.tri
        by_cases hlt : r < 5
        · obtain ⟨wo, hwo⟩ : ∃ W, W = wr := ⟨_, rfl⟩
          subst hwo
          go_wp2
          go_loop [7, 8] (fun f i => ∃ (j : Nat), j ≤ n1 ∧ i = .int .i64 j ∧ f = .bool (inG (t.rd.take j) r)) (fun _ i => n1 - (intOf i).toNat)
          case atStart => exact ⟨0, Nat.zero_le _, rfl, rfl⟩
          case round =>
            obtain ⟨j, hj, rfl, rfl⟩ := hrel
            obtain ⟨f, hf⟩ : ∃ f, inG (t.rd.take j) r = f := ⟨_, rfl⟩
            rw [hf]
            replace hf := hid hf
            by_cases hlt2 : j < n1
            · obtain ⟨ar, z, rfl, hz, hc⟩ := RdI.at' hrr.out.r hlt2
              have hjl := hid (show j < t.rd.length by rw [hlr.out]; exact hlt2)
              have hzr := ht.out.rd.mem (z := z) (by rw [← hz.out, List.getD_eq_getElem?_getD, List.getElem?_eq_getElem hjl.out]; exact List.getElem_mem hjl.out)
              have hN := hid (inG_snoc (g := (r : Int)) hjl.out hz.out)
              rw [hf.out] at hN
              cases f with
              | true =>
                go_wp2
                go_round
                case rel => exact ⟨j + 1, by omega, by go_num, by rw [hN.out]; rfl⟩
                case measure => simp [intOf]; omega
              | false =>
                by_cases hzg : z % 5 = (r : Int)
                · have hzb : (z % 5 == (r : Int)) = true := by simpa using hzg
                  have hzt : z.tmod 5 = z % 5 := Int.tmod_eq_emod_of_nonneg hzr.1
                  go_wp2
                  go_round
                  case rel => exact ⟨j + 1, by omega, by go_num, by rw [hN.out]; simp [hzg]⟩
                  case measure => simp [intOf]; omega
                · have hzb : (z % 5 == (r : Int)) = false := by simpa using hzg
                  have hzt : z.tmod 5 = z % 5 := Int.tmod_eq_emod_of_nonneg hzr.1
                  go_wp2
                  go_round
                  case rel => exact ⟨j + 1, by omega, by go_num, by rw [hN.out]; simp [hzg]⟩
                  case measure => simp [intOf]; omega
            · have hall := hid (show t.rd.take j = t.rd from List.take_of_length_le (by rw [hlr.out]; omega))
              rw [hall.out] at hf
              go_wp2
              go_loop [7, 9] (fun f' i => ∃ (j' : Nat), j' ≤ n2 ∧ i = .int .i64 j' ∧ f' = .bool (f || inG (keysP (t.puts.take j')) r)) (fun _ i => n2 - (intOf i).toNat)
              case atStart => exact ⟨0, Nat.zero_le _, rfl, by simp [keysP, inG]⟩
              case round =>
                obtain ⟨j', hj', rfl, rfl⟩ := hrel
                obtain ⟨f2, hf2⟩ : ∃ f2, (f || inG (keysP (t.puts.take j')) r) = f2 := ⟨_, rfl⟩
                rw [hf2]
                replace hf2 := hid hf2
                by_cases hlt3 : j' < n2
                · obtain ⟨b, off, x, y, rfl, hx, hbl, e0, e1⟩ := hrr.out.p.at_ hlt3
                  have hxr := ht.out.puts.mem (List.mem_map_of_mem (f := Prod.fst) (List.mem_of_getElem? hx.out))
                  simp only at hxr
                  have hN := hid (show (f || inG (keysP (t.puts.take (j' + 1))) r) = (f2 || decide (x % 5 = (r : Int))) by rw [inG_keys hx.out, ← Bool.or_assoc, hf2.out])
                  have hzt : x.tmod 5 = x % 5 := Int.tmod_eq_emod_of_nonneg hxr.1
                  cases f2 with
                  | true =>
                    go_wp2
                    go_round
                    case rel => exact ⟨j' + 1, by omega, by go_num, by rw [hN.out]; rfl⟩
                    case measure => simp [intOf]; omega
                  | false =>
                    by_cases hzg : x % 5 = (r : Int)
                    · have hzb : (x % 5 == (r : Int)) = true := by simpa using hzg
                      go_wp2
                      go_round
                      case rel => exact ⟨j' + 1, by omega, by go_num, by rw [hN.out]; simp [hzg]⟩
                      case measure => simp [intOf]; omega
                    · have hzb : (x % 5 == (r : Int)) = false := by simpa using hzg
                      go_wp2
                      go_round
                      case rel => exact ⟨j' + 1, by omega, by go_num, by rw [hN.out]; simp [hzg]⟩
                      case measure => simp [intOf]; omega
                · have hall2 := hid (show t.puts.take j' = t.puts from List.take_of_length_le (by rw [hlp.out]; omega))
                  have hh := hid (show hasB G (r : Int) = f2 by rw [hha.out r (by omega) (by omega), hf.out, ← hf2.out, hall2.out])
                  have hne : (f2 != f2) = false := by simp
                  go_wp2_with fail
                  refine (hasInt_asL hh.out _ hRr.out (by omega)).mono ?_
                  rintro e w7 ⟨rfl, rfl⟩
                  go_wp2
                  go_roundw
                  case rel => exact ⟨r + 1, by omega, by go_num, hV⟩
                  case measure => simp [intOf]; omega
        · obtain rfl : r = 5 := by omega
          go_wp2_with fail
          refine (GroupsValid_asL hgv.out _ hRr.out (by omega)).mono ?_
          rintro e w7 ⟨rfl, rfl⟩
          go_wp2
          go_ret
          exact ⟨rfl, hBr.out⟩
  · have hbig' : (1048576 : Int) < (len : Int) := by omega
    go_enter Try.func6, Try.ntmps6
    go_wp2
    go_ret
    exact ⟨rfl, Below.refl _ _⟩
end Go.Proofs.Yteagmkhpfmiaiaa
