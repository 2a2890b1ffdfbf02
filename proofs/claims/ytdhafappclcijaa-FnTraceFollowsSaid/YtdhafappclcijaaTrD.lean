/-
  Contracts of the model's l21All, l21Order, TraceOrder. No condition but lengths below 2^40.
-/
import Derived.Test.YtdhafappclcijaaTrC
import Derived.Deep.DeepCutAuto
namespace Go.Proofs.Ytdhafappclcijaa
open Go.RowKit
set_option linter.unusedVariables false
set_option linter.unusedSimpArgs false

def inAny (zss : List (List Int)) (x : Int) : Bool := zss.any fun t => t.contains x

def allTo (zss : List (List Int)) (m : Nat) : List Int := ((List.range m).map fun (i : Nat) => (i : Int)).filter (inAny zss)

theorem allTo_12 (zss : List (List Int)) : allTo zss 12 = allT zss := rfl

theorem allTo_succ (zss : List (List Int)) (m : Nat) : allTo zss (m + 1) = allTo zss m ++ (if inAny zss (m : Int) then [(m : Int)] else []) := by
  unfold allTo
  rw [List.range_succ, List.map_append, List.filter_append]
  congr 1
  cases h : inAny zss (m : Int) <;> simp [h]

theorem allTo_len (zss : List (List Int)) (m : Nat) : (allTo zss m).length ≤ m := by
  unfold allTo
  refine Nat.le_trans (List.length_filter_le _ _) ?_
  simp

theorem any_take_snoc {zss : List (List Int)} {k : Nat} {zs : List Int} (hz : zss[k]? = some zs) (x : Int) : inAny (zss.take (k + 1)) x = (inAny (zss.take k) x || hasB zs x) := by
  obtain ⟨hk, e⟩ := List.getElem?_eq_some_iff.1 hz
  unfold inAny hasB
  rw [List.take_succ_eq_append_getElem hk, e, List.any_append]
  simp

set_option maxHeartbeats 2000000 in
theorem l21All_any {n c : Nat} {A : Option Addr} {zss : List (List Int)} (w : World) (hr : RdT w w.heap.size A n zss) (hn : n < 1099511627776) (hs : ShT zss) :
    Calls Try.prog 36 #[.slice A n c] w (NewI w (allT zss)) := by
  have hl' := hid hr.1
  have he := hid (OwI.empty_lit w (Nat.le_refl w.heap.size))
  have hb0 := hid ((Below.refl w.heap.size w).alloc (Nat.le_refl _) (.cells #[] 3))
  have hr' := hid hr
  have hs' := hid hs
  clear hr hs
  go_enter Try.func36, Try.ntmps36
  go_wp2
  go_loopw [3, 4] (fun v i wr => ∃ m : Nat, m ≤ 12 ∧ i = .int .i64 m ∧ OwI wr w.heap.size v (allTo zss m) ∧ Below w.heap.size w wr) (fun _ i _ => 12 - (intOf i).toNat)
  case atStart => exact ⟨0, by omega, rfl, he.out, hb0.out⟩
  case round =>
    clear he hb0
    obtain ⟨m, hm, rfl, hown, hbel⟩ := hrel
    have hsz := hbel.size
    have hlen := allTo_len zss m
    by_cases hlt : m < 12
    · have hm12 : (m : Int) < 12 := by omega
      go_wp2
      go_loop [5, 6] (fun f i => ∃ (k : Nat), k ≤ n ∧ i = .int .i64 k ∧ f = .bool (inAny (zss.take k) (m : Int))) (fun _ i => n - (intOf i).toNat)
      case atStart => exact ⟨0, by omega, rfl, rfl⟩
      case round =>
        obtain ⟨k, hk, rfl, rfl⟩ := hrel
        by_cases hkn : k < n
        · obtain ⟨ad, Ai, l, ci, zs, rfl, hz, hl, hb, hc, hri, hlc, hci⟩ := (hr'.out.below hbel).at_ hkn
          have i0 : (0 : Int) ≤ (k : Int) := by omega
          have i1 : (k : Int) < (n : Int) := by omega
          have hll : l < 1099511627776 := by rw [← hl.out]; exact hs'.out _ (List.mem_of_getElem? hz.out)
          have hst := any_take_snoc hz.out (m : Int)
          cases hf : inAny (zss.take k) (m : Int) with
          | true =>
            rw [hf, Bool.true_or] at hst
            have hst' := hid hst
            clear hst hf
            go_wp2
            go_round
            case rel => exact ⟨k + 1, by omega, by go_num, by rw [hst'.out]⟩
            case measure => simp [intOf]; omega
          | false =>
            rw [hf, Bool.false_or] at hst
            cases hh : hasB zs (m : Int) with
            | true =>
              rw [hh] at hst
              have hst' := hid hst
              have hh' := hid hh
              clear hst hf hh
              go_wp2_with fail
              refine (l1Has_as hh'.out _ hri.out hll).mono ?_
              rintro e w1 ⟨rfl, rfl⟩
              go_wp2
              go_round
              case rel => exact ⟨k + 1, by omega, by go_num, by rw [hst'.out]⟩
              case measure => simp [intOf]; omega
            | false =>
              rw [hh] at hst
              have hst' := hid hst
              have hh' := hid hh
              clear hst hf hh
              go_wp2_with fail
              refine (l1Has_as hh'.out _ hri.out hll).mono ?_
              rintro e w1 ⟨rfl, rfl⟩
              go_wp2
              go_round
              case rel => exact ⟨k + 1, by omega, by go_num, by rw [hst'.out]⟩
              case measure => simp [intOf]; omega
        · have hkk : zss.take k = zss := List.take_of_length_le (by rw [hl'.out]; omega)
          have hsu := allTo_succ zss m
          rw [hkk]
          have hi1 : ¬ ((k : Int) < (n : Int)) := by omega
          cases hf : inAny zss (m : Int) with
          | true =>
            rw [hf] at hsu
            have hsu' := hid hsu
            clear hsu hkk hf
            go_wp2_with (at_builtin; refine wpList_app1 rfl (.tmp 28) (.tmp 30) rfl w.heap.size (m : Int) _ _ rfl rfl hown hsz (by omega) ?_; intro v' w1 hown' hbel')
            go_roundw
            case rel => exact ⟨m + 1, by omega, by go_num, by rw [hsu'.out]; exact hown', hbel.trans hbel'⟩
            case measure => simp [intOf]; omega
          | false =>
            rw [hf] at hsu
            have hsu' := hid hsu
            clear hsu hkk hf
            go_wp2
            go_roundw
            case rel => exact ⟨m + 1, by omega, by go_num, by rw [hsu'.out]; simpa using hown, hbel⟩
            case measure => simp [intOf]; omega
    · obtain rfl : m = 12 := by omega
      rw [allTo_12] at hown
      have hown' := hid hown
      clear hown
      go_wp2
      go_ret
      exact ⟨_, rfl, hown'.out, hbel⟩

def slLenT : Value → Nat
  | .slice _ n _ => n
  | _ => 0

def mvT : Value → Nat
  | .bool true => 1
  | _ => 0

theorem OwI.slLen {w : World} {B : Nat} {v : Value} {zs : List Int} (h : OwI w B v zs) : slLenT v = zs.length := by
  obtain ⟨A, c, rfl, _⟩ := h.form; rfl

def frK (nx : Int → Int → Bool) (al out : List Int) (m : Int) (k : Nat) : Bool := !hasB out m && (al.take k).all fun x => hasB out x || !nx x m

theorem frK_all (nx : Int → Int → Bool) (al out : List Int) (m : Int) {k : Nat} (h : al.length ≤ k) : frK nx al out m k = frB nx al out m := by
  unfold frK frB; rw [List.take_of_length_le h]; rfl

theorem frK_snoc {nx : Int → Int → Bool} {al out : List Int} {m x : Int} {k : Nat} (hx : al[k]? = some x) : frK nx al out m (k + 1) = (frK nx al out m k && (hasB out x || !nx x m)) := by
  unfold frK
  rw [take_snocI hx, List.all_append]
  simp [Bool.and_assoc]

theorem find_at {p : Int → Bool} : ∀ {l : List Int} {k : Nat} {x : Int}, l[k]? = some x → (∀ (j : Nat) (y : Int), j < k → l[j]? = some y → p y = false) → p x = true → l.find? p = some x
  | [], k, x, h, _, _ => by simp at h
  | y :: l, 0, x, h, _, hp => by
    simp at h; subst h
    simp [hp]
  | y :: l, k + 1, x, h, hj, hp => by
    have hy := hj 0 y (by omega) rfl
    rw [List.find?_cons, hy]
    exact find_at (k := k) (by simpa using h) (fun j z h1 h2 => hj (j + 1) z (by omega) (by simpa using h2)) hp

theorem find_none {p : Int → Bool} {l : List Int} (h : ∀ (j : Nat) (y : Int), l[j]? = some y → p y = false) : l.find? p = none := by
  rw [List.find?_eq_none]
  intro x hx
  obtain ⟨j, hj, e⟩ := List.getElem_of_mem hx
  rw [h j x (List.getElem?_eq_some_iff.2 ⟨hj, e⟩)]; simp

set_option maxRecDepth 100000 in
set_option maxHeartbeats 8000000 in
theorem l21Order_any {n c : Nat} {A : Option Addr} {zss : List (List Int)} (w : World) (hr : RdT w w.heap.size A n zss) (hn : n < 1099511627776) (hs : ShT zss) :
    Calls Try.prog 35 #[.slice A n c] w (NewI w (ordT zss)) := by
  have hl' := hid hr.1
  have hr' := hid hr
  have hs' := hid hs
  clear hr hs
  go_enter Try.func35, Try.ntmps35
  go_wp2_with fail
  refine (l21All_any _ hr'.out hn hs'.out).mono ?_
  rintro e w1 ⟨v1, rfl, ho1, hb1⟩
  obtain ⟨Aa, ca, rfl, hra, hac, hcc⟩ := ho1.formT
  obtain ⟨al, hal⟩ : ∃ al, allT zss = al := ⟨_, rfl⟩
  rw [hal] at hra hac
  have hal12 : al.length ≤ 12 := by rw [← hal, ← allTo_12]; exact allTo_len zss 12
  rw [hal]
  obtain ⟨na, hna⟩ : ∃ na, al.length = na := ⟨_, rfl⟩
  rw [hna] at hra hac hal12 ⊢
  have hra' := hid hra
  have hB1 := hid hb1
  have hrt1 := hid (hr'.out.step hb1)
  have he := hid (OwI.empty_lit w1 (Nat.le_refl w1.heap.size))
  have hb0 := hid ((Below.refl w1.heap.size w1).alloc (Nat.le_refl _) (.cells #[] 3))
  have hal' := hid hal
  have hna' := hid hna
  clear ho1 hb1 hra hal hna hr'
  go_wp2
  go_loopw [4, 5] (fun v mo wr => ∃ (out : List Int) (b : Bool), mo = .bool b ∧ OwI wr w1.heap.size v out ∧ out.length ≤ 12 ∧ Hid (OrdRun (nxT zss) al out) ∧ Hid (b = false → stO (nxT zss) al out = none) ∧ Below w1.heap.size w1 wr) (fun v mo _ => (12 - slLenT v) * 2 + mvT mo)
  case atStart => exact ⟨[], true, rfl, he.out, by simp, hid .nil, hid (fun h => by cases h), hb0.out⟩
  case round =>
    clear he hb0
    obtain ⟨out, b, rfl, hown, hol, hrun, hend, hbel⟩ := hrel
    have hsz := hbel.size
    cases b with
    | true =>
      have hsl := hown.slLen
      go_wp2
      go_loopw [4, 5, 6] (fun v mo i wx => ∃ k : Nat, k ≤ na ∧ i = .int .i64 k ∧ Below w1.heap.size w1 wx ∧
        ((mo = .bool false ∧ OwI wx w1.heap.size v out ∧ Hid (∀ (j : Nat) (y : Int), j < k → al[j]? = some y → frB (nxT zss) al out y = false)) ∨
         (mo = .bool true ∧ ∃ m, Hid (stO (nxT zss) al out = some m) ∧ OwI wx w1.heap.size v (out ++ [m])))) (fun _ _ i _ => na - (intOf i).toNat)
      case atStart => exact ⟨0, by omega, rfl, hbel, .inl ⟨rfl, hown, hid (fun j y h => by omega)⟩⟩
      case round =>
        clear hown hbel hsz
        obtain ⟨k, hk, rfl, hbel, hcase⟩ := hrel
        have hsz := hbel.size
        rcases hcase with ⟨rfl, hown, hmiss⟩ | ⟨rfl, m, hst, hown⟩
        · by_cases hlt : k < na
          · have i0 : (0 : Int) ≤ (k : Int) := by omega
            have i1 : (k : Int) < (na : Int) := by omega
            have i2 : decide ((k : Int) < (na : Int)) = true := by simp; omega
            obtain ⟨ad, z, rfl, hz, hcz⟩ := RdI.at' (Reads.below hra'.out hbel) hlt
            have hzg := hid (getD_of (by rw [hna'.out]; exact hlt) hz.out)
            obtain ⟨Ao, co, rfl, hro⟩ := hown.form
            obtain ⟨lo, hlo⟩ : ∃ lo, out.length = lo := ⟨_, rfl⟩
            rw [hlo] at hro
            have hro' := hid hro
            have hlo' := hid hlo
            have hown' := hid (show OwI wr w1.heap.size (.slice Ao lo co) out by rw [← hlo]; exact hown)
            have hlon : lo < 1099511627776 := by omega
            clear hown hro
            rw [hlo]
            clear hlo
            obtain ⟨hm, hhm⟩ : ∃ b, hasB out z = b := ⟨_, rfl⟩
            have hhm' := hid hhm
            clear hhm
            go_wp2_with fail
            refine (l1Has_as hhm'.out _ hro'.out hlon).mono ?_
            rintro e w2 ⟨rfl, rfl⟩
            clear hcz
            go_wp2
            go_loopw [7, 8] (fun f i wq => ∃ q : Nat, q ≤ na ∧ i = .int .i64 q ∧ f = .bool (frK (nxT zss) al out z q) ∧ Qt wr wq) (fun _ i _ => na - (intOf i).toNat)
            case atStart => exact ⟨0, by omega, rfl, by rw [frK, List.take_zero, hhm'.out]; simp, Qt.refl _⟩
            case round =>
              obtain ⟨q, hq, rfl, rfl, hqt⟩ := hrel
              by_cases hlq : q < na
              · have j0 : (0 : Int) ≤ (q : Int) := by omega
                have j1 : (q : Int) < (na : Int) := by omega
                obtain ⟨ad2, x, e2, hx, hcx⟩ := RdI.at' (hqt.reads (Reads.below hra'.out hbel)) hlq
                obtain ⟨ad3, z2, e3, hz2, hcz⟩ := RdI.at' (hqt.reads (Reads.below hra'.out hbel)) hlt
                injection e2 with e2
                subst e2
                injection e3 with e3
                subst e3
                obtain rfl : z2 = z := hz2.out.symm.trans hz.out
                have hxg := getD_of (by rw [hna'.out]; exact hlq) hx.out
                have hsn := frK_snoc (nx := nxT zss) (out := out) (m := z2) hxg
                have hroq := hid (hqt.reads hro'.out)
                have hrtq := hid ((hrt1.out.below hbel).quiet hqt)
                cases hf : frK (nxT zss) al out z2 q with
                | false =>
                  rw [hf, Bool.false_and] at hsn
                  have hsn' := hid hsn
                  clear hsn hf hxg
                  go_wp2
                  go_quiet (fail)
                  go_wp2
                  go_roundw
                  case rel => exact ⟨q + 1, by omega, by go_num, by rw [hsn'.out], hqt.drewN _⟩
                  case measure => simp [intOf]; omega
                | true =>
                  rw [hf, Bool.true_and] at hsn
                  cases hh : hasB out x with
                  | true =>
                    rw [hh, Bool.true_or] at hsn
                    have hsn' := hid hsn
                    have hh' := hid hh
                    clear hsn hf hxg hh
                    go_wp2
                    go_quiet ((go_at_call 47; exact same_call (l1Has_as hh'.out _ (Reads.drewN hroq.out _) hlon)))
                    go_wp2
                    go_roundw
                    case rel => exact ⟨q + 1, by omega, by go_num, by rw [hsn'.out], hqt.drewN _⟩
                    case measure => simp [intOf]; omega
                  | false =>
                    rw [hh, Bool.false_or] at hsn
                    obtain ⟨r, hnr⟩ : ∃ b, nxT zss x z2 = b := ⟨_, rfl⟩
                    rw [hnr] at hsn
                    have hsn' := hid hsn
                    have hh' := hid hh
                    have hnr' := hid hnr
                    clear hsn hf hxg hh hnr
                    go_wp2
                    go_quiet (first | (go_at_call 47; exact same_call (l1Has_as hh'.out _ (Reads.drewN hroq.out _) hlon)) | (go_at_call 48; exact same_call (l21Next_as hnr'.out _ (RdT.quiet hrtq.out ⟨_, rfl⟩) hn hs'.out)))
                    go_wp2
                    go_roundw
                    case rel => exact ⟨q + 1, by omega, by go_num, by rw [hsn'.out], hqt.drewN _⟩
                    case measure => simp [intOf]; omega
              · have hfr := frK_all (nxT zss) al out z (k := q) (by rw [hna'.out]; omega)
                rw [hfr]
                have hq1 : ¬ ((q : Int) < (na : Int)) := by omega
                have hownq := hqt.own hown'.out
                have hbq := hid (hbel.trans (hqt.below _))
                have hszq := hbq.out.size
                obtain ⟨ad3, z2, e3, hz2, hcz⟩ := RdI.at' (hqt.reads (Reads.below hra'.out hbel)) hlt
                injection e3 with e3
                subst e3
                obtain rfl : z2 = z := hz2.out.symm.trans hz.out
                cases hf : frB (nxT zss) al out z2 with
                | true =>
                  have hst := hid (show stO (nxT zss) al out = some z2 from find_at hzg.out (fun j y h1 h2 => hmiss.out j y h1 h2) hf)
                  clear hf hfr
                  go_wp2_with (at_builtin; refine wpList_app1 rfl (.tmp 59) (.tmp 64) rfl w1.heap.size z2 _ out rfl rfl hownq hszq (by omega) ?_; intro v' w9 hown9 hbel9)
                  go_roundw
                  case rel => exact ⟨k + 1, by omega, by go_num, hbq.out.trans hbel9, .inr ⟨rfl, z2, hst, hown9⟩⟩
                  case measure => simp [intOf]; omega
                | false =>
                  have hms2 := hid (show ∀ (j : Nat) (y : Int), j < k + 1 → al[j]? = some y → frB (nxT zss) al out y = false from fun j y hj hy => by
                    by_cases e : j = k
                    · subst e
                      rw [hzg.out] at hy
                      injection hy with hy
                      subst hy; exact hf
                    · exact hmiss.out j y (by omega) hy)
                  clear hf hfr
                  go_wp2
                  go_roundw
                  case rel => exact ⟨k + 1, by omega, by go_num, hbq.out, .inl ⟨rfl, hownq, hms2⟩⟩
                  case measure => simp [intOf]; omega
          · have hno := hid (show stO (nxT zss) al out = none from find_none (fun j y hy => hmiss.out j y (by
              have := (List.getElem?_eq_some_iff.1 hy).1
              rw [hna'.out] at this; omega) hy))
            have i2 : decide ((k : Int) < (na : Int)) = false := by simp; omega
            have hsl2 := hown.slLen
            have hown' := hid hown
            clear hown
            go_wp2
            go_roundw
            case rel => exact ⟨out, false, rfl, hown'.out, hol, hrun, hid (fun _ => hno.out), hbel⟩
            case measure => show (12 - slLenT _) * 2 + mvT _ < (12 - slLenT _) * 2 + mvT _; simp only [mvT]; omega
        · have hrun2 := hid (OrdRun.step hrun.out hst.out)
          have hl2 : (out ++ [m]).length ≤ 12 := by
            have := nodup_len hrun2.out.facts.1 hrun2.out.facts.2.1
            rw [hna'.out] at this; omega
          have hsl2 := hown.slLen
          rw [List.length_append, List.length_singleton] at hsl2 hl2
          have hown' := hid hown
          clear hown
          by_cases hlt : k < na
          · have i2 : decide ((k : Int) < (na : Int)) = true := by simp; omega
            go_wp2
            go_roundw
            case rel => exact ⟨out ++ [m], true, rfl, hown'.out, by rw [List.length_append, List.length_singleton]; exact hl2, hrun2, hid (fun h => by cases h), hbel⟩
            case measure => show (12 - slLenT _) * 2 + mvT _ < (12 - slLenT _) * 2 + mvT _; simp only [mvT]; omega
          · have i2 : decide ((k : Int) < (na : Int)) = false := by simp; omega
            go_wp2
            go_roundw
            case rel => exact ⟨out ++ [m], true, rfl, hown'.out, by rw [List.length_append, List.length_singleton]; exact hl2, hrun2, hid (fun h => by cases h), hbel⟩
            case measure => show (12 - slLenT _) * 2 + mvT _ < (12 - slLenT _) * 2 + mvT _; simp only [mvT]; omega
    | false =>
      have hfin := hid (show out = ordT zss by
        have := hrun.out.last (hend.out rfl)
        rw [this, ← hal'.out]; rfl)
      have hown' := hid hown
      clear hown
      go_wp2
      go_ret
      exact ⟨_, rfl, by rw [← hfin.out]; exact hown'.out.more hB1.out.size, hB1.out.trans (hbel.mono hB1.out.size)⟩

def OrdPost (zss : List (List Int)) (w : World) (e : Ending) (w' : World) : Prop := ∃ v, e = .returned (.tuple #[v, .bool (okT zss)]) ∧ OwI w' w.heap.size v (toR zss) ∧ Below w.heap.size w w'

theorem TracesValid_as {B n c : Nat} {A : Option Addr} {zss : List (List Int)} {r : Bool} (h : trsB zss = r) (w : World) (hr : RdT w B A n zss) (hn : n < 1099511627776) (hs : ShT zss) :
    Calls Try.prog 21 #[.slice A n c] w fun e w' => e = .returned (.bool r) ∧ Qt w w' := by
  subst h; exact TracesValid_spec w hr hn hs

set_option maxHeartbeats 4000000 in
theorem TraceOrder_spec {n c : Nat} {A : Option Addr} {zss : List (List Int)} (w : World) (hr : RdT w w.heap.size A n zss) (hn : n < 1099511627776) (hs : ShT zss) :
    Calls Try.prog 17 #[.slice A n c] w (OrdPost zss w) := by
  have hr' := hid hr
  have hs' := hid hs
  clear hr hs
  cases hv : trsB zss with
  | false =>
    have hok := hid (show okT zss = false by unfold okT; rw [hv]; rfl)
    have hto := hid (show toR zss = [] by unfold toR; rw [hok.out]; rfl)
    have hv' := hid hv
    clear hv
    go_enter Try.func17, Try.ntmps17
    go_wp2_with fail
    refine (TracesValid_as hv'.out _ hr'.out hn hs'.out).mono ?_
    rintro e w1 ⟨rfl, hq1⟩
    have hz := hq1.size
    have he := hid (show OwI (w1.alloc (.cells #[] 3)) w.heap.size (.slice (some ⟨w.heap.size, 0, none⟩) 0 0) [] by
      have := OwI.empty_lit (B := w.heap.size) w1 (by omega)
      rw [hz] at this; exact this)
    have hb := hid ((hq1.below w.heap.size).alloc (by omega) (.cells #[] 3))
    clear hq1
    go_wp2
    go_ret2
    exact ⟨_, by rw [hok.out]; rfl, by rw [hto.out]; exact he.out, hb.out⟩
  | true =>
    have hv' := hid hv
    go_enter Try.func17, Try.ntmps17
    go_wp2_with fail
    refine (TracesValid_as hv'.out _ hr'.out hn hs'.out).mono ?_
    rintro e w1 ⟨rfl, hq1⟩
    have hz := hq1.size
    have B1 := hid (hq1.below w.heap.size)
    have R1 := hid (show RdT w1 w1.heap.size A n zss by rw [hz]; exact hr'.out.quiet hq1)
    clear hq1
    go_wp2_with fail
    refine (l21Order_any _ R1.out hn hs'.out).mono ?_
    rintro e w2 ⟨v2, rfl, ho2, hb2⟩
    obtain ⟨A2, c2, rfl, _⟩ := ho2.form
    have R2 := hid (R1.out.step hb2)
    have B2 := hid (B1.out.trans (hb2.mono (by omega)))
    have O2 := hid ho2
    have z2 := hb2.size
    obtain ⟨l2, hl2⟩ : ∃ l, (ordT zss).length = l := ⟨_, rfl⟩
    have hl2' := hid hl2
    clear ho2 hb2
    rw [hl2] at O2 ⊢
    clear hl2
    go_wp2_with fail
    refine (l21All_any _ R2.out hn hs'.out).mono ?_
    rintro e w3 ⟨v3, rfl, ho3, hb3⟩
    obtain ⟨A3, c3, rfl, _⟩ := ho3.form
    have B3 := hid (B2.out.trans (hb3.mono (by omega)))
    have O3 := hid (O2.out.below hb3)
    obtain ⟨l3, hl3⟩ : ∃ l, (allT zss).length = l := ⟨_, rfl⟩
    have hl3' := hid hl3
    have z3 := hb3.size
    rw [hl3]
    clear ho3 hb3 hl3 R2 O2
    by_cases hlt : l2 < l3
    · have hok := hid (show okT zss = false by
        unfold okT; rw [hv, hl2'.out, hl3'.out]
        simp; omega)
      have hto := hid (show toR zss = [] by unfold toR; rw [hok.out]; rfl)
      have hd : decide ((l2 : Int) < (l3 : Int)) = true := by simp; omega
      have he := hid (OwI.empty_lit (B := w.heap.size) w3 (by omega))
      have hb := hid (B3.out.alloc (by omega) (.cells #[] 3))
      go_wp2
      go_ret2
      exact ⟨_, by rw [hok.out]; rfl, by rw [hto.out]; exact he.out, hb.out⟩
    · have hok := hid (show okT zss = true by
        unfold okT; rw [hv, hl2'.out, hl3'.out]
        simp; omega)
      have hto := hid (show toR zss = ordT zss by unfold toR; rw [hok.out]; rfl)
      have hd : decide ((l2 : Int) < (l3 : Int)) = false := by simp; omega
      have hlt' : ¬ ((l2 : Int) < (l3 : Int)) := by omega
      go_wp2
      go_ret2
      exact ⟨_, by rw [hok.out]; rfl, by rw [hto.out]; exact O3.out.more (by omega), B3.out⟩
end Go.Proofs.Ytdhafappclcijaa
