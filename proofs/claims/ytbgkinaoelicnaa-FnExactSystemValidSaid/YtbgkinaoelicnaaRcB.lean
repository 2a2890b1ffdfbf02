/-
  Slices of groups in memory: read where they came in, read where the call made them, owned while they are filled; the exact laws' helpers szGroupS, toGroupS, eqGroupS. No condition but lengths below 2^40.
-/
import Derived.Test.YtbgkinaoelicnaaRcA
import Derived.Test.YtbgkinaoelicnaaMgX
namespace Go.Proofs.Ytbgkinaoelicnaa
open Go.RowKit
set_option linter.unusedVariables false
set_option linter.unusedSimpArgs false

theorem info_gp : (Try.prog.info? 36).map (fun i => (i.zero, i.size, i.bytes)) = some (some (.agg #[.int .i64 0, .int .i64 0, .slice none 0 0, .slice none 0 0]), 4, 64) := by kernel_rfl

abbrev Ge.v (g : Ge) : Value := gpV g.id g.ck (.slice g.A1 g.n1 g.c1) (.slice g.A2 g.n2 g.c2)

def ge0 : Ge := ⟨0, 0, none, 0, 0, none, 0, 0, [], []⟩

def gcs : List Ge → List Value
  | [] => []
  | g :: l => .int .i64 g.id :: .int .i64 g.ck :: .slice g.A1 g.n1 g.c1 :: .slice g.A2 g.n2 g.c2 :: gcs l

theorem gcs_len (l : List Ge) : (gcs l).length = l.length * 4 := by
  induction l with
  | nil => rfl
  | cons x l ih => simp [gcs, ih]; omega

theorem gcs_get : ∀ (l : List Ge) (j : Nat) (x : Ge), l[j]? = some x → (gcs l)[j * 4]? = some (.int .i64 x.id) ∧ (gcs l)[j * 4 + 1]? = some (.int .i64 x.ck) ∧ (gcs l)[j * 4 + 2]? = some (.slice x.A1 x.n1 x.c1) ∧ (gcs l)[j * 4 + 3]? = some (.slice x.A2 x.n2 x.c2)
  | [], j, x, h => by simp at h
  | y :: l, 0, x, h => by simp at h; subst h; exact ⟨rfl, rfl, rfl, rfl⟩
  | y :: l, j + 1, x, h => by
    have := gcs_get l j x (by simpa using h)
    rw [show (j + 1) * 4 = j * 4 + 1 + 1 + 1 + 1 by omega]
    exact this

theorem gcs_set (l : List Ge) (k : Nat) (x : Ge) : gcs (l.set k x) = ((((gcs l).set (k * 4) (.int .i64 x.id)).set (k * 4 + 1) (.int .i64 x.ck)).set (k * 4 + 2) (.slice x.A1 x.n1 x.c1)).set (k * 4 + 3) (.slice x.A2 x.n2 x.c2) := by
  induction l generalizing k with
  | nil => simp [gcs]
  | cons y l ih =>
    cases k with
    | zero => simp [gcs]
    | succ k => rw [show (k + 1) * 4 = k * 4 + 1 + 1 + 1 + 1 by omega]; simp [gcs, ih]

/-- the row of cells of an owned slice of groups -/
def OwC (w : World) (B : Nat) (v : Value) (gs : List Ge) : Prop := w.ownsRow B 36 4 v gs.length (gcs gs)
section
variable {w w' : World} {B : Nat} {v : Value} {gs : List Ge}

theorem OwC.of_block (h : OwC w B v gs) (hk : ∀ g, v.ownBlock = some g → w'.heap[g]? = w.heap[g]?) : OwC w' B v gs := by
  rcases h.2 with hn | ⟨g, cap, cur, e, hl, hg, hr⟩
  · exact ⟨h.1, .inl hn⟩
  · exact ⟨h.1, .inr ⟨g, cap, cur, e, hl, (hk g (by rw [e]; rfl)).trans hg, hr⟩⟩

theorem OwC.below (h : OwC w B v gs) (hb : Below w.heap.size w w') : OwC w' B v gs := h.of_block fun g hg => hb.block g (h.lt g hg).2
end

theorem OwC.put {w : World} {B g n c : Nat} {gs : List Ge} (h : OwC w B (.slice (some ⟨g, 0, none⟩) n c) gs) (hn : gs.length = n) (k : Nat) (x : Ge) :
    OwC ((((w.setCell ⟨g, k * 4, none⟩ (.int .i64 x.id)).setCell ⟨g, k * 4 + 1, none⟩ (.int .i64 x.ck)).setCell ⟨g, k * 4 + 2, none⟩ (.slice x.A1 x.n1 x.c1)).setCell ⟨g, k * 4 + 3, none⟩ (.slice x.A2 x.n2 x.c2)) B (.slice (some ⟨g, 0, none⟩) n c) (gs.set k x) := by
  subst hn
  have h1 := (h.stored (k * 4) (.int .i64 x.id)).1
  have h2 := (h1.stored (k * 4 + 1) (.int .i64 x.ck)).1
  have h3 := (h2.stored (k * 4 + 2) (.slice x.A1 x.n1 x.c1)).1
  have h4 := (h3.stored (k * 4 + 3) (.slice x.A2 x.n2 x.c2)).1
  show World.ownsRow _ B 36 4 _ (gs.set k x).length (gcs (gs.set k x))
  rw [gcs_set, List.length_set]
  exact h4

/-- a slice of groups that came in -/
def RdGX (w : World) (A : Option Addr) (n : Nat) (gs : List Ge) : Prop :=
  gs.length = n ∧ (0 < n → ∃ ad, A = some ad ∧ ad.block < w.heap.size ∧ ∀ j x, gs[j]? = some x →
    w.cell? (ad.add (j * 4)) = some (.int .i64 x.id) ∧ w.cell? (ad.add (j * 4 + 1)) = some (.int .i64 x.ck) ∧ w.cell? (ad.add (j * 4 + 2)) = some (.slice x.A1 x.n1 x.c1) ∧ w.cell? (ad.add (j * 4 + 3)) = some (.slice x.A2 x.n2 x.c2)) ∧
  ∀ g ∈ gs, RdX w g.A1 g.n1 g.P ∧ RdX w g.A2 g.n2 g.D ∧ g.n1 ≤ 9223372036854775807 ∧ g.n2 ≤ 9223372036854775807

theorem RdGX.below {w w' : World} {A : Option Addr} {n : Nat} {gs : List Ge} (h : RdGX w A n gs) (hb : Below w.heap.size w w') : RdGX w' A n gs :=
  ⟨h.1, fun hn => by
    obtain ⟨ad, e, hl, hc⟩ := h.2.1 hn
    have hk : ∀ i, w'.cell? (ad.add i) = w.cell? (ad.add i) := fun i => hb.cell (by rw [block_of_add]; exact hl)
    refine ⟨ad, e, Nat.lt_of_lt_of_le hl hb.size, fun j x hx => ?_⟩
    rw [hk, hk, hk, hk]; exact hc j x hx, fun g hg => ⟨(h.2.2 g hg).1.below hb, (h.2.2 g hg).2.1.below hb, (h.2.2 g hg).2.2⟩⟩

theorem RdGX.at_ {w : World} {A : Option Addr} {n k : Nat} {gs : List Ge} (h : RdGX w A n gs) (hk : k < n) :
    ∃ ad id ck A1 n1 c1 A2 n2 c2 P D, A = some ad ∧ Hid (gs[k]? = some ⟨id, ck, A1, n1, c1, A2, n2, c2, P, D⟩) ∧ Hid (RdX w A1 n1 P) ∧ Hid (RdX w A2 n2 D) ∧ Hid (n1 ≤ 9223372036854775807 ∧ n2 ≤ 9223372036854775807) ∧
      w.cell? (ad.add (k * 4)) = some (.int .i64 id) ∧ w.cell? ⟨(ad.add (k * 4)).block, (ad.add (k * 4)).off + 1, none⟩ = some (.int .i64 ck) ∧ w.cell? ⟨(ad.add (k * 4)).block, (ad.add (k * 4)).off + 2, none⟩ = some (.slice A1 n1 c1) ∧ w.cell? ⟨(ad.add (k * 4)).block, (ad.add (k * 4)).off + 3, none⟩ = some (.slice A2 n2 c2) := by
  obtain ⟨ad, e, hl, hc⟩ := h.2.1 (by omega)
  have hlen : k < gs.length := by rw [h.1]; exact hk
  obtain ⟨⟨id, ck, A1, n1, c1, A2, n2, c2, P, D⟩, hx⟩ : ∃ g, gs[k]? = some g := ⟨_, List.getElem?_eq_getElem hlen⟩
  have hq := hc k _ hx
  obtain ⟨q1, q2, q3, q4⟩ := h.2.2 _ (List.mem_of_getElem? hx)
  refine ⟨ad, id, ck, A1, n1, c1, A2, n2, c2, P, D, e, hx, q1, q2, ⟨q3, q4⟩, hq.1, ?_, ?_, ?_⟩
  · have e1 : (ad.add (k * 4)).add 1 = ⟨(ad.add (k * 4)).block, (ad.add (k * 4)).off + 1, none⟩ := rfl
    rw [← e1, add_of_add]; exact hq.2.1
  · have e1 : (ad.add (k * 4)).add 2 = ⟨(ad.add (k * 4)).block, (ad.add (k * 4)).off + 2, none⟩ := rfl
    rw [← e1, add_of_add]; exact hq.2.2.1
  · have e1 : (ad.add (k * 4)).add 3 = ⟨(ad.add (k * 4)).block, (ad.add (k * 4)).off + 3, none⟩ := rfl
    rw [← e1, add_of_add]; exact hq.2.2.2

/-- a slice of groups that a call has made: it is read -/
structure RdGs (w : World) (A : Option Addr) (n : Nat) (gs : List Ge) : Prop where
  len : gs.length = n
  cells : 0 < n → ∃ b, A = some ⟨b, 0, none⟩ ∧ b < w.heap.size ∧ ∀ j x, gs[j]? = some x →
    w.cell? ⟨b, j * 4, none⟩ = some (.int .i64 x.id) ∧ w.cell? ⟨b, j * 4 + 1, none⟩ = some (.int .i64 x.ck) ∧ w.cell? ⟨b, j * 4 + 2, none⟩ = some (.slice x.A1 x.n1 x.c1) ∧ w.cell? ⟨b, j * 4 + 3, none⟩ = some (.slice x.A2 x.n2 x.c2)
  rd : ∀ g ∈ gs, RdG w g.A1 g.n1 g.c1 g.A2 g.n2 g.c2 g.P g.D

theorem RdGs.below {w w' : World} {A : Option Addr} {n : Nat} {gs : List Ge} (h : RdGs w A n gs) (hb : Below w.heap.size w w') : RdGs w' A n gs :=
  ⟨h.len, fun hn => by
    obtain ⟨b, e, hl, hc⟩ := h.cells hn
    have hk : ∀ i, w'.cell? ⟨b, i, none⟩ = w.cell? ⟨b, i, none⟩ := fun i => hb.cell (p := ⟨b, i, none⟩) hl
    refine ⟨b, e, Nat.lt_of_lt_of_le hl hb.size, fun j x hx => ?_⟩
    rw [hk, hk, hk, hk]; exact hc j x hx, fun g hg => (h.rd g hg).below hb⟩

theorem RdGs.at_ {w : World} {A : Option Addr} {n k : Nat} {gs : List Ge} (h : RdGs w A n gs) (hk : k < n) :
    ∃ b id ck A1 n1 c1 A2 n2 c2 P D, A = some ⟨b, 0, none⟩ ∧ Hid (gs[k]? = some ⟨id, ck, A1, n1, c1, A2, n2, c2, P, D⟩) ∧ Hid (RdG w A1 n1 c1 A2 n2 c2 P D) ∧ b < w.heap.size ∧
      w.cell? ⟨b, k * 4, none⟩ = some (.int .i64 id) ∧ w.cell? ⟨b, k * 4 + 1, none⟩ = some (.int .i64 ck) ∧ w.cell? ⟨b, k * 4 + 2, none⟩ = some (.slice A1 n1 c1) ∧ w.cell? ⟨b, k * 4 + 3, none⟩ = some (.slice A2 n2 c2) := by
  obtain ⟨b, e, hl, hc⟩ := h.cells (by omega)
  have hlen : k < gs.length := by rw [h.len]; exact hk
  obtain ⟨⟨id, ck, A1, n1, c1, A2, n2, c2, P, D⟩, hx⟩ : ∃ g, gs[k]? = some g := ⟨_, List.getElem?_eq_getElem hlen⟩
  have hq := hc k _ hx
  exact ⟨b, id, ck, A1, n1, c1, A2, n2, c2, P, D, e, hx, h.rd _ (List.mem_of_getElem? hx), hl, hq⟩
/-- a slice of groups that a call has made: it owns it -/
structure OwGs (w : World) (lo : Nat) (A : Option Addr) (n c : Nat) (gs : List Ge) : Prop where
  row : OwC w lo (.slice A n c) gs
  len : gs.length = n
  each : ∀ g ∈ gs, OwG w lo g.A1 g.n1 g.c1 g.A2 g.n2 g.c2 g.P g.D

theorem OwGs.rd {w : World} {lo n c : Nat} {A : Option Addr} {gs : List Ge} (h : OwGs w lo A n c gs) (hn : ∀ g ∈ gs, g.n1 < 1099511627776 ∧ g.n2 < 1099511627776) : RdGs w A n gs := by
  refine ⟨h.len, fun h0 => ?_, fun g hg => (h.each g hg).rdg (hn g hg).1 (hn g hg).2⟩
  have hr : w.ownsRow lo 36 4 (.slice A n c) n (gcs gs) := by
    have := h.row
    rw [OwC, h.len] at this; exact this
  rcases hr.2 with ⟨e, h1⟩ | ⟨b, cap, cur, e, hb, hh, hrest⟩
  · omega
  · injection e with e1 e2 e3
    subst e1
    refine ⟨b, rfl, (Array.getElem?_eq_some_iff.1 hh).1, fun j x hx => ?_⟩
    have hj : j < n := by rw [← h.len]; exact (List.getElem?_eq_some_iff.1 hx).1
    have hg := gcs_get gs j x hx
    have hl : (gcs gs).length = n * 4 := by rw [gcs_len, h.len]
    refine ⟨?_, ?_, ?_, ?_⟩
    · rw [hr.cellAt (j * 4) (by omega)]; exact hg.1
    · rw [hr.cellAt (j * 4 + 1) (by omega)]; exact hg.2.1
    · rw [hr.cellAt (j * 4 + 2) (by omega)]; exact hg.2.2.1
    · rw [hr.cellAt (j * 4 + 3) (by omega)]; exact hg.2.2.2

/-! ### the helpers -/
set_option maxHeartbeats 1000000 in
theorem szGroupL_any {n c m d : Nat} {A B : Option Addr} {l r : Int} (i k : Int) (w : World) (hn : n ≤ 9223372036854775807) (hm : m ≤ 9223372036854775807) (h0 : 0 ≤ l) (h9 : l ≤ 1048576) (hr : (if ((n + m : Nat) : Int) ≤ l then l - (n : Int) - (m : Int) else -1) = r) :
    Calls Try.prog 9 #[gpV i k (.slice A n c) (.slice B m d), .int .i64 l] w fun e w' => e = .returned (.int .i64 r) ∧ Below w.heap.size w w' := by
  have hB := hid (below1 w (.cells #[.int .i64 i, .int .i64 k, .slice A n c, .slice B m d] 32))
  by_cases h1 : (n : Int) ≤ l
  · have hz : (if (n : Int) ≤ l then l - (n : Int) else -1) = l - (n : Int) := if_pos (by omega)
    by_cases h2 : ((n + m : Nat) : Int) ≤ l
    · have hr' := hid (show l - (n : Int) - (m : Int) = r by rw [← hr, if_pos h2])
      have hz2 : (if (m : Int) ≤ l - (n : Int) then (l - (n : Int)) - (m : Int) else -1) = l - (n : Int) - (m : Int) := if_pos (by omega)
      replace hz := hid hz
      replace hz2 := hid hz2
      clear hr
      go_enter Try.func9, Try.ntmps9
      go_wp2_with fail
      refine (szEntryS_any _ _ hn (by omega) (by omega)).mono ?_
      rw [hz.out]
      rintro e w1 ⟨rfl, rfl⟩
      go_wp2_with fail
      refine (szEntryS_any _ _ hm (by omega) (by omega)).mono ?_
      rw [hz2.out]
      rintro e w1 ⟨rfl, rfl⟩
      go_wp2
      go_ret
      exact ⟨ret_int hr'.out, hB.out⟩
    · have hr' := hid (show (-1 : Int) = r by rw [← hr, if_neg h2])
      have hz2 : (if (m : Int) ≤ l - (n : Int) then (l - (n : Int)) - (m : Int) else -1) = -1 := if_neg (by omega)
      replace hz := hid hz
      replace hz2 := hid hz2
      clear hr
      go_enter Try.func9, Try.ntmps9
      go_wp2_with fail
      refine (szEntryS_any _ _ hn (by omega) (by omega)).mono ?_
      rw [hz.out]
      rintro e w1 ⟨rfl, rfl⟩
      go_wp2_with fail
      refine (szEntryS_any _ _ hm (by omega) (by omega)).mono ?_
      rw [hz2.out]
      rintro e w1 ⟨rfl, rfl⟩
      go_wp2
      go_ret
      exact ⟨ret_int hr'.out, hB.out⟩
  · have hr' := hid (show (-1 : Int) = r by rw [← hr, if_neg (by omega)])
    have hz := hid (show (if (n : Int) ≤ l then l - (n : Int) else -1) = -1 from if_neg (by omega))
    clear hr
    go_enter Try.func9, Try.ntmps9
    go_wp2_with fail
    refine (szEntryS_any _ _ hn (by omega) (by omega)).mono ?_
    rw [hz.out]
    rintro e w1 ⟨rfl, rfl⟩
    go_wp2
    go_ret
    exact ⟨ret_int hr'.out, hB.out⟩

theorem toList_madeCells_gp (m : Nat) : (madeCells #[.int .i64 0, .int .i64 0, .slice none 0 0, .slice none 0 0] (m * 4)).toList = gcs (List.replicate m ge0) := by
  apply List.ext_getElem?
  intro i
  by_cases hi : i < m * 4
  · have hq : i / 4 < m := by omega
    have hx : (List.replicate m ge0)[i / 4]? = some ge0 := by rw [List.getElem?_replicate]; simp [hq]
    obtain ⟨g0, g1, g2, g3⟩ := gcs_get (List.replicate m ge0) (i / 4) ge0 hx
    have hl : (madeCells #[.int .i64 0, .int .i64 0, .slice none 0 0, .slice none 0 0] (m * 4)).toList[i]? = some (#[Value.int .i64 0, .int .i64 0, .slice none 0 0, .slice none 0 0].getD (i % 4) default) := by
      have h4 : i % 4 < 4 := Nat.mod_lt _ (by omega)
      simp [madeCells, hi]
    rw [hl]
    rcases (show i % 4 = 0 ∨ i % 4 = 1 ∨ i % 4 = 2 ∨ i % 4 = 3 by omega) with e | e | e | e
    · rw [show i = i / 4 * 4 by omega, g0]; simp [e, ge0]
    · rw [show i = i / 4 * 4 + 1 by omega, g1]; simp [e, ge0]
    · rw [show i = i / 4 * 4 + 2 by omega, g2]; simp [e, ge0]
    · rw [show i = i / 4 * 4 + 3 by omega, g3]; simp [e, ge0]
  · rw [List.getElem?_eq_none (by simp [madeCells]; omega), List.getElem?_eq_none (by rw [gcs_len, List.length_replicate]; omega)]

theorem drop_cons {α : Type} {l : List α} {k : Nat} {x : α} (h : l[k]? = some x) : l.drop k = x :: l.drop (k + 1) := by
  obtain ⟨hk, e⟩ := List.getElem?_eq_some_iff.1 h
  rw [← e]; exact List.drop_eq_getElem_cons hk

theorem szR_step {gs : List Ge} {k : Nat} {id ck : Int} {A1 A2 : Option Addr} {n1 c1 n2 c2 : Nat} {P D : List En} {l r : Int} (hx : gs[k]? = some ⟨id, ck, A1, n1, c1, A2, n2, c2, P, D⟩) (h : szR (gs.drop k) l = r) :
    (((n1 + n2 : Nat) : Int) ≤ l ∧ szR (gs.drop (k + 1)) (l - (n1 : Int) - (n2 : Int)) = r) ∨ (¬ ((n1 + n2 : Nat) : Int) ≤ l ∧ r = -1) := by
  rw [drop_cons hx] at h
  unfold szR at h
  split at h
  · rename_i h1; exact .inl ⟨h1, h⟩
  · rename_i h1; exact .inr ⟨h1, h.symm⟩

set_option maxHeartbeats 4000000 in
theorem szGroupS_any {n c : Nat} {A : Option Addr} {gs : List Ge} {r : Int} (w : World) (h : RdGX w A n gs) (hn : n ≤ 9223372036854775807) (hr : (if (n : Int) ≤ 1048576 then szR gs (1048576 - (n : Int)) else -1) = r) :
    Calls Try.prog 4 #[.slice A n c, .int .i64 1048576] w fun e w' => e = .returned (.int .i64 r) ∧ Below w.heap.size w w' := by
  have h' := hid h
  have hlen := hid h.1
  clear h
  by_cases hbig : (n : Int) ≤ 1048576
  · rw [if_pos hbig] at hr
    have hr0 := hid hr
    clear hr
    go_enter Try.func4, Try.ntmps4
    go_wp2
    go_loopw [1, 5] (fun x i wr => ∃ (k : Nat) (l : Int), k ≤ n ∧ i = .int .i64 k ∧ x = .int .i64 l ∧ 0 ≤ l ∧ l ≤ 1048576 ∧ Hid (szR (gs.drop k) l = r) ∧ Hid (Below w.heap.size w wr)) (fun _ i _ => n - (intOf i).toNat)
    case atStart => exact ⟨0, 1048576 - (n : Int), by omega, rfl, rfl, by omega, by omega, hid (by simpa using hr0.out), hid (Below.refl _ _)⟩
    case round =>
      clear hr0
      obtain ⟨k, l, hk, rfl, rfl, hl0, hl1, hs, hB⟩ := hrel
      by_cases hlt : k < n
      · obtain ⟨ad, id, ck, A1, n1, c1, A2, n2, c2, P, D, rfl, hx, r1, r2, hnn, q0, q1, q2, q3⟩ := (h'.out.below hB.out).at_ hlt
        have i0 : (0 : Int) ≤ (k : Int) := by omega
        have i1 : (k : Int) < (n : Int) := by omega
        rcases szR_step hx.out hs.out with ⟨h1, h2⟩ | ⟨h1, h2⟩
        · have hz := hid (show (if ((n1 + n2 : Nat) : Int) ≤ l then l - (n1 : Int) - (n2 : Int) else -1) = l - (n1 : Int) - (n2 : Int) from if_pos h1)
          have hs2 := hid h2
          have g0 : ¬ (l - (n1 : Int) - (n2 : Int) < 0) := by omega
          clear h2
          go_wp2_with fail
          refine (szGroupL_any _ _ _ hnn.out.1 hnn.out.2 hl0 hl1 hz.out).mono ?_
          rintro e w2 ⟨rfl, hb2⟩
          have B2 := hid (hB.out.trans (hb2.mono hB.out.size))
          clear hb2 q0 q1 q2 q3
          go_wp2
          go_roundw
          case rel => exact ⟨k + 1, l - (n1 : Int) - (n2 : Int), by omega, by go_num, rfl, by omega, by omega, hs2, B2⟩
          case measure => simp [intOf]; omega
        · have hz := hid (show (if ((n1 + n2 : Nat) : Int) ≤ l then l - (n1 : Int) - (n2 : Int) else -1) = -1 from if_neg h1)
          have hr9 := hid h2
          clear h1 h2
          go_wp2_with fail
          refine (szGroupL_any _ _ _ hnn.out.1 hnn.out.2 hl0 hl1 hz.out).mono ?_
          rintro e w2 ⟨rfl, hb2⟩
          have B2 := hid (hB.out.trans (hb2.mono hB.out.size))
          clear hb2 q0 q1 q2 q3
          go_wp2
          go_ret
          exact ⟨ret_int hr9.out.symm, B2.out⟩
      · have hfin := hid (show l = r by
          have := hs.out
          rw [List.drop_of_length_le (by rw [hlen.out]; omega)] at this
          exact this)
        go_wp2
        go_ret
        exact ⟨ret_int hfin.out, hB.out⟩
  · rw [if_neg hbig] at hr
    have hr0 := hid hr
    clear hr
    go_enter Try.func4, Try.ntmps4
    go_wp2
    go_ret
    exact ⟨ret_int hr0.out, Below.refl _ _⟩

theorem OwG.setFar2 {w : World} {lo n1 c1 n2 c2 : Nat} {A1 A2 : Option Addr} {P D : List En} (h : OwG w lo A1 n1 c1 A2 n2 c2 P D) {p : Addr} (hp : p.block < lo) (u : Value) : OwG (w.setCell p u) lo A1 n1 c1 A2 n2 c2 P D :=
  ⟨h.op.setFar (fun e => by have := (h.op.lt _ e).1; omega) u, h.od.setFar (fun e => by have := (h.od.lt _ e).1; omega) u, h.l1, h.l2, h.ne⟩
/-- the j-th group made is the j-th that came in -/
def MadeG (w : World) (lo : Nat) (x y : Ge) : Prop := y.gp = x.gp ∧ y.n1 = x.n1 ∧ y.n2 = x.n2 ∧ OwG w lo y.A1 y.n1 y.c1 y.A2 y.n2 y.c2 y.P y.D

set_option maxHeartbeats 4000000 in
theorem toGroupS_any {n c : Nat} {A : Option Addr} {gs : List Ge} (w : World) (h : RdGX w A n gs) (hn : n < 1099511627776) (hs : ∀ g ∈ gs, g.n1 < 1099511627776 ∧ g.n2 < 1099511627776) :
    Calls Try.prog 6 #[.slice A n c] w fun e w' => ∃ (b : Nat) (ys : List Ge), e = .returned (.slice (some ⟨b, 0, none⟩) n n) ∧ w.heap.size ≤ b ∧ OwC w' w.heap.size (.slice (some ⟨b, 0, none⟩) n n) ys ∧ ys.length = n ∧ (∀ (j : Nat) (x : Ge), gs[j]? = some x → ∃ y, ys[j]? = some y ∧ MadeG w' (b + 1) x y) ∧ Below w.heap.size w w' := by
  obtain ⟨i0, hi, hz0, hz1, hz2⟩ := info_parts info_gp
  have hlen := hid h.1
  have h' := hid h
  have hs' := hid hs
  clear h hs
  go_enter Try.func6, Try.ntmps6
  go_wp2_with (refine wpList_make_full (P := Try.prog) _ rfl _ _ 25 rfl w.heap.size 36 i0 (.agg #[.int .i64 0, .int .i64 0, .slice none 0 0, .slice none 0 0]) 4 Try.underlying25 hi hz0 hz1 .i64 .i64 _ _ n rfl rfl rfl rfl (by rw [hz2]; omega) (by unfold maxLen; omega) (Nat.le_refl _) ?_; intro w1 hown hgr)
  have hb1 := hid ((Below.refl w.heap.size w).grown hgr (Nat.le_refl _) (fun k h => by cases h))
  have ho1 : OwC w1 w.heap.size (.slice (some ⟨w.heap.size, 0, none⟩) n n) (List.replicate n ge0) := by
    show w1.ownsRow w.heap.size 36 4 _ (List.replicate n ge0).length (gcs (List.replicate n ge0))
    rw [← toList_madeCells_gp, List.length_replicate]
    exact hown
  have ho1' := hid ho1
  clear ho1 hown hgr hi hz0 hz1 hz2
  go_loopw [4] (fun i wr => ∃ (k : Nat) (ys : List Ge), k ≤ n ∧ i = .int .i64 k ∧ Hid (ys.length = n) ∧ Hid (OwC wr w.heap.size (.slice (some ⟨w.heap.size, 0, none⟩) n n) ys) ∧ Hid (∀ (j : Nat) (x : Ge), j < k → gs[j]? = some x → ∃ y, ys[j]? = some y ∧ MadeG wr (w.heap.size + 1) x y) ∧ Hid (Below w.heap.size w wr)) (fun i _ => n - (intOf i).toNat)
  case atStart => exact ⟨0, _, by omega, rfl, hid List.length_replicate, ho1', hid (fun j x h => by omega), hb1⟩
  case round =>
    obtain ⟨k, ys, hk, rfl, hyl, hown, hall, hbel⟩ := hrel
    have hsz := hbel.out.size
    have hsz1 : w.heap.size + 1 ≤ wr.heap.size := by have h9 : w.heap.size < wr.heap.size := (hown.out.lt w.heap.size rfl).2; omega
    by_cases hlt : k < n
    · obtain ⟨ad, id, ck, A1, n1, c1, A2, n2, c2, P, D, rfl, hx, r1, r2, hnn, q0, q1, q2, q3⟩ := (h'.out.below hbel.out).at_ hlt
      have hsm := hs'.out _ (List.mem_of_getElem? hx.out)
      have i0 : (0 : Int) ≤ (k : Int) := by omega
      have i1 : (k : Int) < (n : Int) := by omega
      go_wp2_with fail
      refine (toGroup_any id ck _ r1.out r2.out hsm.1 hsm.2).mono ?_
      rintro e w3 ⟨B1, B2, rfl, og, hb3⟩
      have ow3 := hid (hown.out.below hb3)
      have B3 := hid (hbel.out.trans (hb3.mono hsz))
      have all3 := hid (show ∀ (j : Nat) (x : Ge), j < k → gs[j]? = some x → ∃ y, ys[j]? = some y ∧ MadeG w3 (w.heap.size + 1) x y from fun j x hj hjx => by
        obtain ⟨y, e1, e2, e3, e4, e5⟩ := hall.out j x hj hjx
        exact ⟨y, e1, e2, e3, e4, e5.below hb3⟩)
      have og3 := hid (og.more hsz1)
      have hkl : k < ys.length := by rw [hyl.out]; exact hlt
      obtain ⟨y, hy⟩ : ∃ y, ys[k]? = some y := ⟨_, List.getElem?_eq_getElem hkl⟩
      have hyc := gcs_get ys k _ hy
      have ow3' : w3.ownsRow w.heap.size 36 4 (.slice (some ⟨w.heap.size, 0, none⟩) n n) n (gcs ys) := by
        have := ow3.out
        rw [OwC, hyl.out] at this; exact this
      have hel : k * 4 + 3 < (gcs ys).length := by rw [gcs_len]; omega
      have d0 : w3.cell? ⟨w.heap.size, k * 4, none⟩ = some (.int .i64 y.id) := by rw [ow3'.cellAt (k * 4) (by omega)]; exact hyc.1
      have d1 : w3.cell? ⟨w.heap.size, k * 4 + 1, none⟩ = some (.int .i64 y.ck) := by rw [ow3'.cellAt (k * 4 + 1) (by omega)]; exact hyc.2.1
      have d2 : w3.cell? ⟨w.heap.size, k * 4 + 2, none⟩ = some (.slice y.A1 y.n1 y.c1) := by rw [ow3'.cellAt (k * 4 + 2) (by omega)]; exact hyc.2.2.1
      have d3 : w3.cell? ⟨w.heap.size, k * 4 + 3, none⟩ = some (.slice y.A2 y.n2 y.c2) := by rw [ow3'.cellAt (k * 4 + 3) (by omega)]; exact hyc.2.2.2
      have e0 : w3.frozen? ⟨w.heap.size, k * 4, none⟩ = false := ow3'.frozenAt (k * 4)
      have e1 : w3.frozen? ⟨w.heap.size, k * 4 + 1, none⟩ = false := ow3'.frozenAt (k * 4 + 1)
      have e2 : w3.frozen? ⟨w.heap.size, k * 4 + 2, none⟩ = false := ow3'.frozenAt (k * 4 + 2)
      have e3 : w3.frozen? ⟨w.heap.size, k * 4 + 3, none⟩ = false := ow3'.frozenAt (k * 4 + 3)
      have hst := hid (OwC.put ow3.out hyl.out k ⟨id, ck, B1, n1, n1, B2, n2, n2, P, D⟩)
      clear hb3 ow3' hy hyc q0 q1 q2 q3 hel og
      go_wp2
      go_roundw
      case rel =>
        refine ⟨k + 1, ys.set k ⟨id, ck, B1, n1, n1, B2, n2, n2, P, D⟩, by omega, by go_num, hid (by rw [List.length_set]; exact hyl.out), hst, hid (fun j x hj hjx => ?_), hid ((((B3.out.setCell (Nat.le_refl _) _).setCell (Nat.le_refl _) _).setCell (Nat.le_refl _) _).setCell (Nat.le_refl _) _)⟩
        have hl : ∀ o : Nat, (⟨w.heap.size, o, none⟩ : Addr).block < w.heap.size + 1 := fun _ => Nat.lt_succ_self _
        by_cases e : j = k
        · subst e
          have e9 := hx.out.symm.trans hjx
          injection e9 with e9
          subst e9
          exact ⟨_, List.getElem?_set_self hkl, rfl, rfl, rfl, (((og3.out.setFar2 (hl _) _).setFar2 (hl _) _).setFar2 (hl _) _).setFar2 (hl _) _⟩
        · obtain ⟨y, a1, a2, a3, a4, a5⟩ := all3.out j x (by omega) hjx
          exact ⟨y, by rw [List.getElem?_set_ne (fun h => e h.symm)]; exact a1, a2, a3, a4, (((a5.setFar2 (hl _) _).setFar2 (hl _) _).setFar2 (hl _) _).setFar2 (hl _) _⟩
      case measure => simp [intOf]; omega
    · have hfin := hid (And.intro hown.out (And.intro hyl.out (show ∀ (j : Nat) (x : Ge), gs[j]? = some x → ∃ y, ys[j]? = some y ∧ MadeG wr (w.heap.size + 1) x y from fun j x hx => hall.out j x (by have := (List.getElem?_eq_some_iff.1 hx).1; rw [hlen.out] at this; omega) hx)))
      go_wp2
      go_ret
      exact ⟨_, _, rfl, Nat.le_refl _, hfin.out.1, hfin.out.2.1, hfin.out.2.2, hbel.out⟩
end Go.Proofs.Ytbgkinaoelicnaa
