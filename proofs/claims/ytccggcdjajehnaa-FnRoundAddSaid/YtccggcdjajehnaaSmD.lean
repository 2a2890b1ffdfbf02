/-
  Contract of the program's StampMax: the greatest of 1 to 12 valid stamps, else nothing. No condition but lengths below 2^40.
-/
import Derived.Test.YtccggcdjajehnaaSmC
namespace Go.Proofs.Ytccggcdjajehnaa
open Go.RowKit

theorem RdS.drop {w : World} {b off n k : Nat} {zs : List St} (h : RdS w (some ⟨b, off, none⟩) n zs) (hk : k ≤ n) : RdS w (some ⟨b, off + k * 2, none⟩) (n - k) (zs.drop k) := by
  refine ⟨by rw [List.length_drop, h.1], fun hn => ?_⟩
  obtain ⟨b', off', e, hl, hc⟩ := h.2 (by omega)
  injection e with e
  injection e with e1 e2
  subst e1; subst e2
  refine ⟨b, off + k * 2, rfl, hl, fun j x hx => ?_⟩
  rw [List.getElem?_drop] at hx
  have := hc _ x hx
  rw [show off + k * 2 + j * 2 = off + (k + j) * 2 by omega]
  exact this

theorem RdS.empty {w : World} {A A' : Option Addr} {n : Nat} {zs : List St} (h : RdS w A n zs) (k : Nat) (hk : n ≤ k) : RdS w A' 0 (zs.drop k) := by
  refine ⟨?_, fun h => absurd h (by omega)⟩
  rw [List.length_drop, h.1]; omega

def slLen : Value → Nat
  | .slice _ n _ => n
  | _ => 0

theorem tail_drop {zs : List St} {j : Nat} (hj : 1 ≤ j) : (zs.take j).tail ++ zs.drop j = zs.tail := by
  cases zs with
  | nil => simp
  | cons z l =>
    obtain ⟨j, rfl⟩ : ∃ i, j = i + 1 := ⟨j - 1, by omega⟩
    simp

theorem max_step {zs : List St} {j k : Nat} {m x z0 : St} (hj : 1 ≤ j) (hm : m = mxL z0 (zs.take j).tail) (hx : (zs.drop j)[k]? = some x) (hl : ltS m x = true) (hall : ∀ (i : Nat) (y : St), i < k → (zs.drop j)[i]? = some y → ltS m y = false) :
    x = mxL z0 (zs.take (j + (k + 1))).tail := by
  have e : (zs.take (j + (k + 1))).tail = (zs.take j).tail ++ ((zs.drop j).take k ++ [x]) := by
    have h1 : (zs.drop j).take (k + 1) = (zs.drop j).take k ++ [x] := by rw [List.take_add_one, hx]; rfl
    rw [← h1]
    cases zs with
    | nil => simp at hx
    | cons z l =>
      obtain ⟨j, rfl⟩ : ∃ i, j = i + 1 := ⟨j - 1, by omega⟩
      rw [show j + 1 + (k + 1) = j + (k + 1) + 1 by omega]
      simp [List.take_add]
  rw [e, mxL_app, ← hm, mxL_jump (fun y hy => ?_) hl]
  · rfl
  · obtain ⟨i, hi⟩ := List.getElem?_of_mem hy
    have hi2 : i < k := by
      have := (List.getElem?_eq_some_iff.1 hi).1
      rw [List.length_take] at this; omega
    rw [List.getElem?_take_of_lt hi2] at hi
    exact hall i y hi2 hi

theorem max_end {zs : List St} {j : Nat} {m z0 : St} (hj : 1 ≤ j) (hm : m = mxL z0 (zs.take j).tail) (hall : ∀ (i : Nat) (y : St), (zs.drop j)[i]? = some y → ltS m y = false) : m = mxL z0 zs.tail := by
  rw [← tail_drop hj, mxL_app, ← hm, mxL_skip]
  intro y hy
  obtain ⟨i, hi⟩ := List.getElem?_of_mem hy
  exact hall i y hi

/-- a slice from l on: its address where nothing is left is not looked at -/
theorem slice_from (A : Option Addr) (n c l : Nat) (x : Int) (hx : x = (l : Int)) (hl : l ≤ n) :
    ∃ A', (∀ W, (Instr.sliceAt 26 (.slice A n c) (some (.int .i64 x)) none none).run Try.prog W = .ok (.slice A' (n - l) (c - l)) W) ∧ (n ≤ c → ∀ w zs, RdS w A n zs → RdS w A' (n - l) (zs.drop l)) := by
  subst hx
  refine ⟨if c = l then A else A.map (·.add (l * 2)), fun W => ?_, fun hnc w zs h => ?_⟩
  · rw [run_sliceAt_slice (P := Try.prog) W 26 _ _ _ _ (by kernel_rfl), run_slice_l (P := Try.prog) W 26 _ _ _ (by kernel_rfl) _ _ (by omega) (by omega)]
    rw [show (sizeOf (Try.prog.elem 26)).run Try.prog W = .ok 2 W from by kernel_rfl]
    simp [Result.andThen, sliced]
  · by_cases e : c = l
    · rw [if_pos e]
      have : n - l = 0 := by omega
      rw [this]
      exact h.empty l (by omega)
    · rw [if_neg e]
      by_cases hn : n = 0
      · subst hn
        rw [Nat.zero_sub]
        exact h.empty l (by omega)
      · obtain ⟨b, off, rfl, _⟩ := h.2 (by omega)
        have e2 : (some (⟨b, off, none⟩ : Addr)).map (·.add (l * 2)) = some ⟨b, off + l * 2, none⟩ := by
          simp [Addr.add]
        rw [e2]
        exact h.drop hl

set_option maxHeartbeats 4000000 in
theorem StampMax_impl {n c : Nat} {A : Option Addr} {zs : List St} (w : World) (h : RdS w A n zs) (hn : n < 1099511627776) (hc : n ≤ c) (hc2 : c ≤ 9223372036854775807) :
    Calls Try.prog 29 #[.slice A n c] w (MaxPost zs w) := by
  have hlen := hid h.len
  have p0 := hid (At2.new w 33 0 0)
  have B0 := hid (below1 w (.cells #[.int .i64 0, .int .i64 0] 33))
  have h0 := hid (h.below B0.out)
  have hmf : ∀ (fn : Fn) (first cap : Array Value) (w : World), (Instr.makeFunc fn first cap).run Try.prog w = .ok (.func fn first cap) w := fun _ _ _ _ => rfl
  clear h
  cases hok : maxOk zs with
  | false =>
    have R := hid (And.intro (maxR_no hok) hok)
    have hok' := hid hok
    clear hok
    go_enter Try.func29, Try.ntmps29
    go_wp2_with fail
    refine (stampsValid_any _ h0.out hn).mono ?_
    rw [hok'.out]
    rintro e w2 ⟨rfl, hb2⟩
    have P2 := hid (p0.out.below hb2 p0.out.lt)
    have B2 := hid (B0.out.trans (hb2.mono (by simp)))
    obtain ⟨y0, y1, y2, y3⟩ := P2.out.cells
    clear hb2
    go_wp2
    refine bodyPost_ret (v := .tuple #[two 0 0, .bool false]) (by simp [results, Try.results29, go_sem, y0, y1]) rfl ⟨?_, (B2.out.setCell (Nat.le_refl _) _).setCell (Nat.le_refl _) _⟩
    rw [R.out.1, R.out.2]
  | true =>
    obtain ⟨hn1, hn12, _⟩ := maxOk_true.1 hok
    rw [hlen.out] at hn1 hn12
    have R := hid (And.intro (maxR_yes hok) hok)
    have hok' := hid hok
    clear hok
    go_enter Try.func29, Try.ntmps29
    go_wp2_with fail
    refine (stampsValid_any _ h0.out hn).mono ?_
    rw [hok'.out]
    rintro e w2 ⟨rfl, hb2⟩
    have P2 := hid (p0.out.below hb2 p0.out.lt)
    have B2 := hid (B0.out.trans (hb2.mono (by simp)))
    have h2 := hid (h0.out.below hb2)
    have z2 : w.heap.size < w2.heap.size := P2.out.lt
    clear hb2 B0 p0 h0
    obtain ⟨b, off, t0, g0, rfl, hx0, hb0, c0, c1⟩ := h2.out.at_ (show 0 < n by omega)
    simp only [Nat.zero_mul, Nat.add_zero] at c0 c1
    have hd : Hid (zs.headD (0, 0) = (t0, g0)) := by
      have := hx0.out
      cases zs with
      | nil => simp at this
      | cons z l => simp at this; exact hid this
    obtain ⟨A1, hs1, hr1⟩ := slice_from (some ⟨b, off, none⟩) n c 1 1 rfl hn1
    have q0 : w2.drew.cell? ⟨b, off, none⟩ = some (.int .i64 t0) := c0
    have q1 : w2.drew.cell? ⟨b, off + 1, none⟩ = some (.int .i64 g0) := c1
    have Q := hid (And.intro q0 q1)
    have hbd : b < w2.drew.heap.size := hb0
    have hi1 : (0 : Int) < (n : Int) := by omega
    have hi2 : 0 < n := by omega
    have QA : Hid (∀ o : Obj, (w2.alloc o).drew.cell? ⟨b, off, none⟩ = some (.int .i64 t0) ∧ (w2.alloc o).drew.cell? ⟨b, off + 1, none⟩ = some (.int .i64 g0)) :=
      hid (fun o => ⟨(World.cell?_alloc_lt w2 o ⟨b, off, none⟩ hb0).trans c0, (World.cell?_alloc_lt w2 o ⟨b, off + 1, none⟩ hb0).trans c1⟩)
    have r1 := hid (hr1 hc w2 zs h2.out)
    clear q0 q1 c0 c1 hr1
    go_wp2_with fail
    go_region_held3 (fun w' => w'.cell? ⟨b, off, none⟩ = some (.int .i64 t0) ∧ w'.cell? ⟨b, off + 1, none⟩ = some (.int .i64 g0))
      (first | with_reducible exact ⟨Q.out.1, Q.out.2⟩ | with_reducible exact QA.out _)
      (fail)
    have a2 : Hid (At2 (w2.alloc (.cells #[.int .i64 t0, .int .i64 g0] 33)).drew w2.heap.size 33 t0 g0) := hid (At2.new w2 33 t0 g0)
    have p2 : Hid (At2 (w2.alloc (.cells #[.int .i64 t0, .int .i64 g0] 33)).drew w.heap.size 33 0 0) := hid (P2.out.alloc _)
    have b2 : Hid (Below w2.heap.size w2 (w2.alloc (.cells #[.int .i64 t0, .int .i64 g0] 33)).drew) := hid ((below1 w2 _).drew)
    have hm0 : Hid ((t0, g0) = mxL (t0, g0) (zs.take 1).tail) := by
      have := hx0.out
      cases zs with
      | nil => simp at this
      | cons z l => exact hid (by simp [mxL])
    have hN0 : Hid (n - 1 + 1 = n) := hid (by omega)
    clear QA Q hs1 hi1 hi2 hbd
    go_wp2
    go_loopw [5] (fun r wr => ∃ (j N : Nat) (A' : Option Addr) (c' : Nat) (m m2 : Int), 1 ≤ j ∧ N ≤ 12 ∧ r = .slice A' N c' ∧ N ≤ c' ∧ c' ≤ 9223372036854775807 ∧ Hid (N + j = n) ∧ Hid ((m, m2) = mxL (t0, g0) (zs.take j).tail) ∧ Hid (RdS w2 A' N (zs.drop j)) ∧
      Hid (At2 wr w.heap.size 33 0 0) ∧ Hid (At2 wr w2.heap.size 33 m m2) ∧ Hid (Below w2.heap.size w2 wr)) (fun r _ => slLen r)
    case atStart => exact ⟨1, n - 1, A1, c - 1, t0, g0, by omega, by omega, rfl, by omega, by omega, hN0, hm0, r1, p2, a2, b2⟩
    case round =>
      obtain ⟨j, N, A', c', m, m2, hj1, hN12, rfl, hcc, hcb, hN, hm, hr, hp0, hp1, hB⟩ := hrel
      have hr3 := hid (hr.out.below hB.out)
      obtain ⟨x0, x1, x2, x3⟩ := hp1.out.cells
      have hz := hB.out.size
      have hpl := hp1.out.lt
      go_wp2_with fail
      refine (IndexFunc_any m m2 _ hr3.out (by omega)).mono ?_
      rintro e w3 ⟨hb3, h3⟩
      have P0 := hid (hp0.out.below hb3 hp0.out.lt)
      have P1 := hid (hp1.out.below hb3 hpl)
      have B3 := hid (hB.out.trans (hb3.mono hz))
      have hr4 := hid (hr3.out.below hb3)
      have hz3 := hb3.size
      clear hb3 x0 x1 x2 x3
      rcases h3 with ⟨k, x, rfl, hx, hl, hall⟩ | ⟨rfl, hall⟩
      · have hkN : k < N := by
          have := (List.getElem?_eq_some_iff.1 hx).1
          rw [hr3.out.len] at this; exact this
        obtain ⟨b', off', t, g, rfl, hx', hb', d0, d1⟩ := hr4.out.at_ hkN
        have ex : x = (t, g) := by have := hx.symm.trans hx'.out; injection this
        subst ex
        have hm3 := hid (max_step hj1 hm.out hx hl hall)
        obtain ⟨A2, hs2, hr2⟩ := slice_from (some ⟨b', off', none⟩) N c' (k + 1) ((k : Int) + 1) (by omega) (by omega)
        have r2 := hr2 hcc w2 _ hr.out
        rw [List.drop_drop] at r2
        have r2 := hid r2
        have hbk : b' < w2.heap.size := by
          obtain ⟨b2, off2, e, hl2, _⟩ := hr.out.2 (by omega)
          injection e with e
          injection e with e1 e2
          omega
        have q0 : w3.drew.cell? ⟨b', off' + k * 2, none⟩ = some (.int .i64 t) := d0
        have q1 : w3.drew.cell? ⟨b', off' + k * 2 + 1, none⟩ = some (.int .i64 g) := d1
        have Q := hid (And.intro q0 q1)
        have hne : w2.heap.size ≠ b' := by omega
        have hnp : w.heap.size ≠ w2.heap.size := by omega
        have Q2 : Hid (((w3.setCell ⟨w2.heap.size, 0, none⟩ (.int .i64 t)).setCell ⟨w2.heap.size, 1, none⟩ (.int .i64 g)).drew.cell? ⟨b', off' + k * 2, none⟩ = some (.int .i64 t) ∧ ((w3.setCell ⟨w2.heap.size, 0, none⟩ (.int .i64 t)).setCell ⟨w2.heap.size, 1, none⟩ (.int .i64 g)).drew.cell? ⟨b', off' + k * 2 + 1, none⟩ = some (.int .i64 g)) :=
          hid ⟨((cell_far _ ⟨w2.heap.size, 1, none⟩ _ _ hne).trans ((cell_far _ ⟨w2.heap.size, 0, none⟩ _ _ hne).trans d0) : ((w3.setCell ⟨w2.heap.size, 0, none⟩ (.int .i64 t)).setCell ⟨w2.heap.size, 1, none⟩ (.int .i64 g)).cell? ⟨b', off' + k * 2, none⟩ = _), ((cell_far _ ⟨w2.heap.size, 1, none⟩ _ _ hne).trans ((cell_far _ ⟨w2.heap.size, 0, none⟩ _ _ hne).trans d1) : ((w3.setCell ⟨w2.heap.size, 0, none⟩ (.int .i64 t)).setCell ⟨w2.heap.size, 1, none⟩ (.int .i64 g)).cell? ⟨b', off' + k * 2 + 1, none⟩ = _)⟩
        have y0 : w3.cell? ⟨w2.heap.size, 0, none⟩ = some (.int .i64 m) := P1.out.c0
        have y1 : w3.cell? ⟨w2.heap.size, 1, none⟩ = some (.int .i64 m2) := P1.out.c1
        have y2 : w3.frozen? ⟨w2.heap.size, 0, none⟩ = false := P1.out.f0
        have y3 : w3.frozen? ⟨w2.heap.size, 1, none⟩ = false := P1.out.f1
        have hw : IntKind.i64.wrap ((k : Int) + 1) = (k : Int) + 1 := IntWalk.i64_in _ (by omega)
        have i0 : (0 : Int) ≤ (k : Int) := by omega
        have i1 : (k : Int) < (N : Int) := by omega
        clear hx hl hall q0 q1 d0 d1 hr2
        go_wp2_with fail
        go_region_held3 (fun w' => w'.cell? ⟨b', off' + k * 2, none⟩ = some (.int .i64 t) ∧ w'.cell? ⟨b', off' + k * 2 + 1, none⟩ = some (.int .i64 g))
          (first | with_reducible exact ⟨Q.out.1, Q.out.2⟩ | with_reducible exact ⟨Q2.out.1, Q2.out.2⟩)
          (fail)
        have hN2 : Hid (N - (k + 1) + (j + (k + 1)) = n) := hid (by have := hN.out; omega)
        have P0' : Hid (At2 ((w3.setCell ⟨w2.heap.size, 0, none⟩ (.int .i64 t)).setCell ⟨w2.heap.size, 1, none⟩ (.int .i64 g)).drew w.heap.size 33 0 0) :=
          hid ((P0.out.far (p := ⟨w2.heap.size, 0, none⟩) hnp _).far (p := ⟨w2.heap.size, 1, none⟩) hnp _).drew
        have P1' : Hid (At2 ((w3.setCell ⟨w2.heap.size, 0, none⟩ (.int .i64 t)).setCell ⟨w2.heap.size, 1, none⟩ (.int .i64 g)).drew w2.heap.size 33 t g) := hid ((P1.out.set0 t).set1 g).drew
        have B3' : Hid (Below w2.heap.size w2 ((w3.setCell ⟨w2.heap.size, 0, none⟩ (.int .i64 t)).setCell ⟨w2.heap.size, 1, none⟩ (.int .i64 g)).drew) := hid ((B3.out.setCell (Nat.le_refl _) _).setCell (Nat.le_refl _) _).drew
        clear hw hs2 y0 y1 y2 y3
        go_wp2
        go_roundw
        case rel => exact ⟨j + (k + 1), N - (k + 1), A2, c' - (k + 1), t, g, by omega, by omega, rfl, by omega, by omega, hN2, hm3, r2, P0', P1', B3'⟩
        case measure => simp [slLen]; omega
      · have hfin := max_end hj1 hm.out hall
        rw [← hd.out] at hfin
        have hfin := hid hfin
        have R2 : Hid ((maxR zs).1 = m ∧ (maxR zs).2 = m2 ∧ maxOk zs = true) := hid (by rw [R.out.1, ← hfin.out]; exact ⟨rfl, rfl, R.out.2⟩)
        obtain ⟨y0, y1, y2, y3⟩ := P0.out.cells
        obtain ⟨x0, x1, x2, x3⟩ := P1.out.cells
        clear hall
        go_wp2
        refine bodyPost_ret (v := .tuple #[two m m2, .bool true]) (by simp [results, Try.results29, go_sem, y0, y1]) rfl ⟨?_, ((B2.out.trans (B3.out.mono (by omega))).setCell (Nat.le_refl _) _).setCell (Nat.le_refl _) _⟩
        rw [R2.out.1, R2.out.2.1, R2.out.2.2]
end Go.Proofs.Ytccggcdjajehnaa
