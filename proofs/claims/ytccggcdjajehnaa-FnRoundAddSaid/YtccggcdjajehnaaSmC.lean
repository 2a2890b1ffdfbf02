/-
  Contracts of StampMax, of the model and of the program: the greatest of 1 to 12 valid stamps, else nothing. No condition but lengths below 2^40.
-/
import Derived.Test.YtccggcdjajehnaaSmB
namespace Go.Proofs.Ytccggcdjajehnaa
open Go.RowKit

abbrev MaxPost (zs : List St) (w : World) : Ending → World → Prop := fun e w' => e = .returned (.tuple #[two (maxR zs).1 (maxR zs).2, .bool (maxOk zs)]) ∧ Below w.heap.size w w'

set_option maxHeartbeats 2000000 in
theorem stampsValid_any {n c : Nat} {A : Option Addr} {zs : List St} (w : World) (h : RdS w A n zs) (hn : n < 1099511627776) :
    Calls Try.prog 52 #[.slice A n c] w fun e w' => e = .returned (.bool (maxOk zs)) ∧ Below w.heap.size w w' := by
  have hlen := hid h.len
  have h' := hid h
  clear h
  by_cases h0 : n = 0
  · have R := hid (show maxOk zs = false from maxOk_len (by rw [hlen.out]; omega))
    subst h0
    go_enter Try.func52, Try.ntmps52
    go_wp2
    go_ret
    exact ⟨by rw [R.out]; rfl, Below.refl _ _⟩
  · have hne : ((n : Int) == 0) = false := by simp; omega
    have hpos : 1 ≤ n := by omega
    clear h0
    by_cases h12 : 12 < n
    · have R := hid (show maxOk zs = false from maxOk_len (by rw [hlen.out]; omega))
      go_enter Try.func52, Try.ntmps52
      go_wp2
      go_ret
      exact ⟨by rw [R.out]; rfl, Below.refl _ _⟩
    · go_enter Try.func52, Try.ntmps52
      go_wp2
      go_loopw [15] (fun i wr => ∃ k : Nat, k ≤ n ∧ i = .int .i64 k ∧ Hid (∀ j x, j < k → zs[j]? = some x → okS x = true) ∧ Hid (Below w.heap.size w wr)) (fun i _ => n - (intOf i).toNat)
      case atStart => exact ⟨0, by omega, rfl, hid (fun j x hj => by omega), hid (Below.refl _ _)⟩
      case round =>
        obtain ⟨k, hk, rfl, hall, hB⟩ := hrel
        have hz := hB.out.size
        by_cases hlt : k < n
        · obtain ⟨b, off, t, g, rfl, hx, hb, c0, c1⟩ := (h'.out.below hB.out).at_ hlt
          cases hv : stB t g with
          | false =>
            have R := hid (maxOk_bad hx.out hv)
            have hv' := hid hv
            clear hv
            go_wp2_with fail
            refine (StampValid_impl _ _ _).mono ?_
            rw [hv'.out]
            rintro e w2 ⟨rfl, hb2⟩
            have B2 := hid ((hB.out.alloc hz _).trans (hb2.mono (by simp; omega)))
            clear hb2
            go_wp2
            go_ret
            exact ⟨by rw [R.out]; rfl, B2.out⟩
          | true =>
            have hv' := hid hv
            clear hv
            go_wp2_with fail
            refine (StampValid_impl _ _ _).mono ?_
            rw [hv'.out]
            rintro e w2 ⟨rfl, hb2⟩
            have B2 := hid ((hB.out.alloc hz _).trans (hb2.mono (by simp; omega)))
            clear hb2
            go_wp2
            go_roundw
            case rel => exact ⟨k + 1, by omega, by go_num, hid (fun j x hj hjx => by
              by_cases e : j = k
              · subst e
                have := hx.out.symm.trans hjx
                injection this with this
                subst this
                exact hv'.out
              · exact hall.out j x (by omega) hjx), B2⟩
            case measure => simp [intOf]; omega
        · have R := hid (show maxOk zs = true from maxOk_all (fun j x hx => hall.out j x (by have := (List.getElem?_eq_some_iff.1 hx).1; rw [hlen.out] at this; omega) hx) (by rw [hlen.out]; exact hpos) (by rw [hlen.out]; omega))
          go_wp2
          go_ret
          exact ⟨by rw [R.out]; rfl, hB.out⟩

/-- the first place at which the function holds, or none -/
def IdxPost (m : St) (zs : List St) (w : World) (e : Ending) (w' : World) : Prop :=
  Below w.heap.size w w' ∧ ((∃ (k : Nat) (x : St), e = .returned (.int .i64 k) ∧ zs[k]? = some x ∧ ltS m x = true ∧ ∀ (j : Nat) (y : St), j < k → zs[j]? = some y → ltS m y = false) ∨
    (e = .returned (.int .i64 (-1)) ∧ ∀ (j : Nat) (y : St), zs[j]? = some y → ltS m y = false))

set_option maxHeartbeats 2000000 in
theorem IndexFunc_any {n c : Nat} {A : Option Addr} {zs : List St} (m m2 : Int) (w : World) (h : RdS w A n zs) (hn : n < 1099511627776) :
    Calls Try.prog 53 #[.slice A n c, .func (.func 54) #[two m m2] #[]] w (IdxPost (m, m2) zs w) := by
  have hlen := hid h.len
  have h' := hid h
  clear h
  go_enter Try.func53, Try.ntmps53
  go_wp2
  go_loopw [8] (fun i wr => ∃ k : Nat, k ≤ n ∧ i = .int .i64 k ∧ Hid (∀ j x, j < k → zs[j]? = some x → ltS (m, m2) x = false) ∧ Hid (Below w.heap.size w wr)) (fun i _ => n - (intOf i).toNat)
  case atStart => exact ⟨0, by omega, rfl, hid (fun j x hj => by omega), hid (Below.refl _ _)⟩
  case round =>
    obtain ⟨k, hk, rfl, hall, hB⟩ := hrel
    have hz := hB.out.size
    by_cases hlt : k < n
    · obtain ⟨b, off, t, g, rfl, hx, hb, c0, c1⟩ := (h'.out.below hB.out).at_ hlt
      cases hv : ltS (m, m2) (t, g) with
      | true =>
        have hv' := hid hv
        have hv2 : Hid (lexB m m2 t g = true) := hid hv
        clear hv
        go_wp2_with fail
        refine (StampLessM _ _ _ _ _).mono ?_
        rw [hv2.out]
        rintro e w2 ⟨rfl, hb2⟩
        have B2 := hid (hB.out.trans (hb2.mono hz))
        clear hb2
        go_wp2
        go_ret
        exact ⟨B2.out, .inl ⟨k, (t, g), rfl, hx.out, hv'.out, hall.out⟩⟩
      | false =>
        have hv' := hid hv
        have hv2 : Hid (lexB m m2 t g = false) := hid hv
        clear hv
        go_wp2_with fail
        refine (StampLessM _ _ _ _ _).mono ?_
        rw [hv2.out]
        rintro e w2 ⟨rfl, hb2⟩
        have B2 := hid (hB.out.trans (hb2.mono hz))
        clear hb2
        go_wp2
        go_roundw
        case rel => exact ⟨k + 1, by omega, by go_num, hid (fun j x hj hjx => by
              by_cases e : j = k
              · subst e
                have := hx.out.symm.trans hjx
                injection this with this
                subst this
                exact hv'.out
              · exact hall.out j x (by omega) hjx), B2⟩
        case measure => simp [intOf]; omega
    · go_wp2
      go_ret
      exact ⟨hB.out, .inr ⟨rfl, fun j y hjy => hall.out j y (by have := (List.getElem?_eq_some_iff.1 hjy).1; rw [hlen.out] at this; omega) hjy⟩⟩
end Go.Proofs.Ytccggcdjajehnaa
