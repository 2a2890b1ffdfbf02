/-
  The exact laws' helpers over slices of entries: markEntryS, heldEntryS. No condition but lengths below 2^40.
-/
import Derived.Test.YtefpekehlmnnlaaGxA
import Derived.Test.YtefpekehlmnnlaaGmK
namespace Go.Proofs.Ytefpekehlmnnlaa
open Go.RowKit
set_option linter.unusedVariables false
set_option linter.unusedSimpArgs false

/-- the i-th marked entry -/
def markE (k : Int) : En := (k, (k + 1, k + 1 + 1), (k + 1 + 1 + 1) % 3 == 0)

def marksE (k : Int) (n : Nat) : List En := (List.range n).map fun (i : Nat) => markE (k + 4 * (i : Int))

theorem marksE_len (k : Int) (n : Nat) : (marksE k n).length = n := by simp [marksE]

theorem marksE_get {k : Int} {n i : Nat} (h : i < n) : (marksE k n)[i]? = some (markE (k + 4 * (i : Int))) := by simp [marksE, h]

set_option maxHeartbeats 4000000 in
theorem markEntryS_any {lo n c : Nat} {A : Option Addr} {zs : List En} (k0 : Int) (w : World) (ho : OwE w lo (.slice A n c) zs) (hl : zs.length = n) (hn : n < 1099511627776) (hk0 : 0 ≤ k0) (hk1 : k0 < 1099511627776000) :
    Calls Try.prog 38 #[.slice A n c, .int .i64 k0] w fun e w' => e = .returned (.int .i64 (k0 + 4 * (n : Int))) ∧ OwE w' lo (.slice A n c) (marksE k0 n) ∧ w.grownBy w' (Value.slice A n c).ownBlock ∧ w'.heap.size = w.heap.size := by
  rcases Nat.eq_zero_or_pos n with h0 | h0
  · subst h0
    have hz : zs = [] := List.eq_nil_of_length_eq_zero hl
    subst hz
    go_enter Try.func38, Try.ntmps38
    go_wp2
    go_rounds 1
    go_ret
    exact ⟨ret_int (by simp), ho, World.grownBy.refl _ _, rfl⟩
  · obtain ⟨g, rfl, hg, hlo, -⟩ := ho.block_ (by omega)
    have ho' := hid ho
    have hln' := hid hl
    clear ho hl
    go_enter Try.func38, Try.ntmps38
    go_wp2
    go_loopw [1, 5] (fun x i wr => ∃ (k : Nat) (ys : List En), k ≤ n ∧ i = .int .i64 k ∧ x = .int .i64 (k0 + 4 * (k : Int)) ∧ Hid (ys.length = n) ∧ Hid (OwE wr lo (.slice (some ⟨g, 0, none⟩) n c) ys) ∧ Hid (∀ j, j < k → ys[j]? = some (markE (k0 + 4 * (j : Int)))) ∧ Hid (w.grownBy wr (some g)) ∧ Hid (wr.heap.size = w.heap.size)) (fun _ i _ => n - (intOf i).toNat)
    case atStart => exact ⟨0, zs, by omega, rfl, by simp, hln', ho', hid (fun j h => by omega), hid (World.grownBy.refl _ _), hid rfl⟩
    case round =>
      obtain ⟨k, ys, hk, rfl, rfl, hyl, hown, hall, hgr, hsz⟩ := hrel
      by_cases hlt : k < n
      · have hkl : k < ys.length := by rw [hyl.out]; exact hlt
        obtain ⟨ym, yt, yg, yf, hy⟩ : ∃ m t g f, ys[k]? = some (m, (t, g), f) := ⟨_, _, _, _, List.getElem?_eq_getElem hkl⟩
        have hyc := enc_get ys k _ hy
        have ow3' : wr.ownsRow lo 53 4 (.slice (some ⟨g, 0, none⟩) n c) n (enc ys) := by
          have := hown.out
          rw [OwE, hyl.out] at this; exact this
        have hel : k * 4 + 3 < (enc ys).length := by rw [enc_len]; omega
        have d0 : wr.cell? ⟨g, k * 4, none⟩ = some (.int .i64 ym) := by rw [ow3'.cellAt (k * 4) (by omega)]; exact hyc.1
        have d1 : wr.cell? ⟨g, k * 4 + 1, none⟩ = some (.int .i64 yt) := by rw [ow3'.cellAt (k * 4 + 1) (by omega)]; exact hyc.2.1
        have d2 : wr.cell? ⟨g, k * 4 + 2, none⟩ = some (.int .i64 yg) := by rw [ow3'.cellAt (k * 4 + 2) (by omega)]; exact hyc.2.2.1
        have d3 : wr.cell? ⟨g, k * 4 + 3, none⟩ = some (.bool yf) := by rw [ow3'.cellAt (k * 4 + 3) (by omega)]; exact hyc.2.2.2
        have e0 : wr.frozen? ⟨g, k * 4, none⟩ = false := ow3'.frozenAt (k * 4)
        have e1 : wr.frozen? ⟨g, k * 4 + 1, none⟩ = false := ow3'.frozenAt (k * 4 + 1)
        have e2 : wr.frozen? ⟨g, k * 4 + 2, none⟩ = false := ow3'.frozenAt (k * 4 + 2)
        have e3 : wr.frozen? ⟨g, k * 4 + 3, none⟩ = false := ow3'.frozenAt (k * 4 + 3)
        have hst := hid (OwE.put hown.out hyl.out k (markE (k0 + 4 * (k : Int))))
        have hgz := hid (grown_put hgr.out (k * 4) (.int .i64 (k0 + 4 * (k : Int))) (.int .i64 (k0 + 4 * (k : Int) + 1)) (.int .i64 (k0 + 4 * (k : Int) + 1 + 1)) (.bool ((k0 + 4 * (k : Int) + 1 + 1 + 1) % 3 == 0)))
        have i0 : (0 : Int) ≤ (k : Int) := by omega
        have i1 : (k : Int) < (n : Int) := by omega
        clear ow3' hy hyc hel
        go_wp2
        go_roundw
        case rel => exact ⟨k + 1, ys.set k (markE (k0 + 4 * (k : Int))), by omega, by go_num, by go_num, hid (by rw [List.length_set]; exact hyl.out), hst, hid (fun j hj => by
            by_cases e : j = k
            · subst e
              rw [List.getElem?_set_self hkl]
            · rw [List.getElem?_set_ne (fun h => e h.symm)]; exact hall.out j (by omega)), hgz, hid (by simpa using hsz.out)⟩
        case measure => simp [intOf]; omega
      · have hkn : k = n := by omega
        have e : ys = marksE k0 n := by
          apply List.ext_getElem?
          intro i
          by_cases hi : i < n
          · rw [hall.out i (by omega), marksE_get hi]
          · rw [List.getElem?_eq_none (by rw [hyl.out]; omega), List.getElem?_eq_none (by rw [marksE_len]; omega)]
        have hfin := hid (e ▸ hown.out)
        have hkn' := hid hkn
        clear e hkn
        go_wp2
        go_ret
        exact ⟨ret_int (by rw [hkn'.out]), hfin.out, hgr.out, hsz.out⟩

set_option maxHeartbeats 4000000 in
theorem heldEntryS_any {B n c : Nat} {A : Option Addr} (k0 : Int) (w : World) (hr : RdE w B A n (marksE k0 n)) (hn : n < 1099511627776) (hk0 : 0 ≤ k0) (hk1 : k0 < 1099511627776000) :
    Calls Try.prog 39 #[.slice A n c, .int .i64 k0] w fun e w' => e = .returned (.int .i64 (k0 + 4 * (n : Int))) ∧ w = w' := by
  have hr' := hid hr
  clear hr
  go_enter Try.func39, Try.ntmps39
  go_wp2
  go_loop [1, 5] (fun x i => ∃ k : Nat, k ≤ n ∧ i = .int .i64 k ∧ x = .int .i64 (k0 + 4 * (k : Int))) (fun _ i => n - (intOf i).toNat)
  case atStart => exact ⟨0, by omega, rfl, by simp⟩
  case round =>
    obtain ⟨k, hk, rfl, rfl⟩ := hrel
    by_cases hlt : k < n
    · obtain ⟨b, off, m, t, g, f, rfl, hx, hb, c0, c1, c2, c3⟩ := hr'.out.at_ hlt
      have hx' := hx.out
      rw [marksE_get hlt] at hx'
      injection hx' with hx'
      unfold markE at hx'
      injection hx' with e1 e2
      injection e2 with e3 e4
      injection e3 with e5 e6
      subst e1; subst e4; subst e5; subst e6
      have i0 : (0 : Int) ≤ (k : Int) := by omega
      have i1 : (k : Int) < (n : Int) := by omega
      obtain ⟨f, hf⟩ : ∃ f, ((k0 + 4 * (k : Int) + 1 + 1 + 1) % 3 == 0) = f := ⟨_, rfl⟩
      have hff : (f != f) = false := by cases f <;> rfl
      rw [hf] at c3
      have h0 : (k0 + 4 * (k : Int) != k0 + 4 * (k : Int)) = false := by simp
      have h1 : (k0 + 4 * (k : Int) + 1 != k0 + 4 * (k : Int) + 1) = false := by simp
      have h2 : (k0 + 4 * (k : Int) + 1 + 1 != k0 + 4 * (k : Int) + 1 + 1) = false := by simp
      clear hx
      go_wp2
      go_round
      case rel => exact ⟨k + 1, by omega, by go_num, by go_num⟩
      case measure => simp [intOf]; omega
    · have hkn := hid (show k = n by omega)
      go_wp2
      go_ret
      exact ⟨ret_int (by rw [hkn.out]), rfl⟩
end Go.Proofs.Ytefpekehlmnnlaa
