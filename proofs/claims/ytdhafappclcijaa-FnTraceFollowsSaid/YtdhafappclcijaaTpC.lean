/-
  Contract of the program's linkedMessages: the graph of valid traces. No condition but lengths below 2^40.
-/
import Derived.Test.YtdhafappclcijaaTpB
import Derived.Test.YtdhafappclcijaaTrD
namespace Go.Proofs.Ytdhafappclcijaa
open Go.RowKit
set_option linter.unusedVariables false
set_option linter.unusedSimpArgs false

/-- a message of some trace -/
def Dn (zss : List (List Int)) (k : Nat) : Bool := inAny zss (k : Int)
/-- told right before -/
def En (zss : List (List Int)) (a b : Nat) : Bool := nxT zss (a : Int) (b : Int)
/-- .. of some traces and the first j of a further one -/
def DnJ (X : List (List Int)) (t : List Int) (j : Nat) (k : Nat) : Bool := inAny X (k : Int) || (t.take j).contains (k : Int)

def EnJ (X : List (List Int)) (t : List Int) (j : Nat) (a b : Nat) : Bool := nxT X (a : Int) (b : Int) || csB (t.take j) (a : Int) (b : Int)

theorem DnJ_zero {X : List (List Int)} {t : List Int} (k : Nat) : DnJ X t 0 k = Dn X k := by simp [DnJ, Dn]

theorem EnJ_zero {X : List (List Int)} {t : List Int} (a b : Nat) : EnJ X t 0 a b = En X a b := by simp [EnJ, En, csB]

theorem DnJ_end {zss : List (List Int)} {k m : Nat} {t : List Int} (hz : zss[k]? = some t) (hm : t.length ≤ m) (q : Nat) : DnJ (zss.take k) t m q = Dn (zss.take (k + 1)) q := by
  rw [DnJ, List.take_of_length_le hm, Dn, any_take_snoc hz]; rfl

theorem nx_take_snoc {zss : List (List Int)} {k : Nat} {zs : List Int} (hz : zss[k]? = some zs) (a b : Int) : nxT (zss.take (k + 1)) a b = (nxT (zss.take k) a b || csB zs a b) := by
  obtain ⟨hk, e⟩ := List.getElem?_eq_some_iff.1 hz
  unfold nxT
  rw [List.take_succ_eq_append_getElem hk, e, List.any_append]
  simp

theorem EnJ_end {zss : List (List Int)} {k m : Nat} {t : List Int} (hz : zss[k]? = some t) (hm : t.length ≤ m) (a b : Nat) : EnJ (zss.take k) t m a b = En (zss.take (k + 1)) a b := by
  rw [EnJ, List.take_of_length_le hm, En, nx_take_snoc hz]

theorem DnJ_succ {X : List (List Int)} {t : List Int} {j q : Nat} (hz : t[j]? = some (q : Int)) (k : Nat) : DnJ X t (j + 1) k = upB (DnJ X t j) q true k := by
  unfold DnJ upB
  rw [take_snocI hz]
  by_cases e : k = q
  · subst e; simp
  · have : ¬ ((k : Int) = (q : Int)) := by omega
    simp [e, this]

theorem csB_one {t : List Int} {a b : Int} : csB (t.take 1) a b = false := by
  cases t with
  | nil => rfl
  | cons x t => simp [csB]

theorem EnJ_first {X : List (List Int)} {t : List Int} (a b : Nat) : EnJ X t 1 a b = EnJ X t 0 a b := by
  unfold EnJ; rw [csB_one]; simp [csB]

theorem EnJ_succ {X : List (List Int)} {t : List Int} {j p q : Nat} (hy : t[j]? = some (p : Int)) (hz : t[j + 1]? = some (q : Int)) (a b : Nat) : EnJ X t (j + 2) a b = up2 (EnJ X t (j + 1)) p q true a b := by
  have key : csB (t.take (j + 2)) (a : Int) (b : Int) = (csB (t.take (j + 1)) (a : Int) (b : Int) || (decide (a = p) && decide (b = q))) := by
    rw [Bool.eq_iff_iff, Bool.or_eq_true, csB_true, csB_true]
    constructor
    · rintro ⟨k, h1, h2⟩
      rw [List.getElem?_take] at h1 h2
      split at h2
      · rename_i hk
        by_cases e : k = j
        · subst e
          rw [if_pos (by omega), hy] at h1
          rw [hz] at h2
          right
          simp only [Option.some.injEq] at h1 h2
          simp; omega
        · left
          exact ⟨k, by rw [List.getElem?_take, if_pos (by omega)]; rw [if_pos (by omega)] at h1; exact h1, by rw [List.getElem?_take, if_pos (by omega)]; exact h2⟩
      · cases h2
    · rintro (⟨k, h1, h2⟩ | h)
      · rw [List.getElem?_take] at h1 h2
        split at h2
        · rename_i hk
          rw [if_pos (by omega)] at h1
          exact ⟨k, by rw [List.getElem?_take, if_pos (by omega)]; exact h1, by rw [List.getElem?_take, if_pos (by omega)]; exact h2⟩
        · cases h2
      · simp at h
        obtain ⟨rfl, rfl⟩ := h
        exact ⟨j, by rw [List.getElem?_take, if_pos (by omega)]; exact hy, by rw [List.getElem?_take, if_pos (by omega)]; exact hz⟩
  unfold EnJ up2
  rw [key]
  by_cases e : a = p ∧ b = q
  · obtain ⟨rfl, rfl⟩ := e; simp
  · have : (decide (a = p) && decide (b = q)) = false := by simpa using e
    simp [e, this]

theorem up2_swap {S : Nat → Nat → Bool} {p q : Nat} {v : Bool} (a b : Nat) : up2 (fun x y => S y x) q p v a b = up2 S p q v b a := by
  unfold up2
  by_cases h : a = q ∧ b = p
  · rw [if_pos h, if_pos ⟨h.2, h.1⟩]
  · rw [if_neg h, if_neg (fun k => h ⟨k.2, k.1⟩)]

theorem DnJ_has {X : List (List Int)} {t : List Int} {j i p : Nat} (hi : i < j) (hy : t[i]? = some (p : Int)) : DnJ X t j p = true := by
  unfold DnJ
  have : (p : Int) ∈ t.take j := List.mem_of_getElem? (i := i) (by rw [List.getElem?_take, if_pos hi]; exact hy)
  simp [this]

theorem Dn_nil (k : Nat) : Dn [] k = noB k := rfl

theorem En_nil (a b : Nat) : En [] a b = false := rfl
/-- what linkedMessages hands back -/
def LmPost (zss : List (List Int)) (w : World) (e : Ending) (w' : World) : Prop :=
  ∃ P, e = .returned (.agg (lkC P (Dn zss))) ∧ Gr w' w.heap.size P (Dn zss) (fun a b => En zss b a) (En zss) ∧ Below w.heap.size w w'

theorem nodup_at {t : List Int} (h : t.Nodup) {i j : Nat} {x : Int} (hi : t[i]? = some x) (hj : t[j]? = some x) : i = j := by
  obtain ⟨h1, e1⟩ := List.getElem?_eq_some_iff.1 hi
  obtain ⟨h2, e2⟩ := List.getElem?_eq_some_iff.1 hj
  rcases Nat.lt_trichotomy i j with h3 | h3 | h3
  · exact absurd (e1.trans e2.symm) (List.pairwise_iff_getElem.1 h i j h1 h2 h3)
  · exact h3
  · exact absurd (e2.trans e1.symm) (List.pairwise_iff_getElem.1 h j i h2 h1 h3)

theorem nat_of {z : Int} (h : 0 ≤ z ∧ z ≤ 11) : ∃ q : Nat, z = q ∧ q < 12 := ⟨z.toNat, by omega, by omega⟩

set_option maxHeartbeats 4000000 in
theorem linkedMessages_any {n c : Nat} {A : Option Addr} {zss : List (List Int)} (w : World) (hr : RdT w w.heap.size A n zss) (hn : n < 1099511627776) (hv : trsB zss = true) :
    Calls Try.prog 32 #[.slice A n c] w (LmPost zss w) := by
  have hl' := hid hr.1
  obtain ⟨W0, hW0⟩ : ∃ W0, ((w.alloc (.cells lkZ 42)).alloc (.cells lkZ 42)) = W0 := ⟨_, rfl⟩
  have hB0 := hid (show Below w.heap.size w W0 by rw [← hW0]; exact below2 w _ _)
  have hR0 := hid (show Cs W0 w.heap.size 42 lkZ by rw [← hW0]; exact (Cs.new w _ _).alloc _)
  have hL0 := hid (show Cs W0 (w.heap.size + 1) 42 lkZ by rw [← hW0]; exact Cs.new' _ _ _ (by simp))
  have hr' := hid (show RdT W0 w.heap.size A n zss by rw [← hW0]; exact hr.below (below2 w _ _))
  have hv' := hid (trsB_true.1 hv).1
  have hW0' := hid hW0
  clear hr hv hW0
  go_enter Try.func32, Try.ntmps32
  go_upto_region 2 with (fail)
  rw [hW0'.out]
  go_wp2
  go_loopw [11] (fun i wr => ∃ (k : Nat) (P : Nat → Nat), k ≤ n ∧ i = .int .i64 k ∧ Hid (Lk wr (w.heap.size + 1) P (Dn (zss.take k))) ∧ Hid (Gr wr (w.heap.size + 1) P (Dn (zss.take k)) (fun a b => En (zss.take k) b a) (En (zss.take k))) ∧ Hid (Below (w.heap.size + 1) W0 wr)) (fun i _ => n - (intOf i).toNat)
  case atStart => exact ⟨0, fun _ => 0, Nat.zero_le _, rfl, hid hL0.out, hid (Gr.nil _ _ _), hid (Below.refl _ _)⟩
  case round =>
    obtain ⟨k, P, hk, rfl, hL, hG, hB⟩ := hrel
    by_cases hlt : k < n
    · obtain ⟨ad, Ai, m, ci, t, rfl, hz, hm, hbl, hc0, hri, hmc, hci⟩ := hr'.out.at_ hlt
      have hc := (hB.out.cell (p := ad.add k) (by rw [block_of_add]; omega)).trans hc0
      clear hc0
      have i0 : (0 : Int) ≤ (k : Int) := by omega
      have i1 : (k : Int) < (n : Int) := by omega
      have ht := hid (trB_true.1 (hv'.out t (List.mem_of_getElem? hz.out)))
      have hml := hid (trB_len (hv'.out t (List.mem_of_getElem? hz.out)))
      have hmw : m ≤ 12 := by rw [← hm.out]; exact hml.out
      have hL2 := hid (Lk.congr hL.out (P' := P) (S' := DnJ (zss.take k) t 0) (fun q _ => (DnJ_zero q).symm) (fun _ _ _ => rfl))
      have hG2 := hid ((hG.out.congrD (D' := DnJ (zss.take k) t 0) (fun q _ => (DnJ_zero q).symm)).congr (bf' := fun a b => EnJ (zss.take k) t 0 b a) (af' := EnJ (zss.take k) t 0) (fun a b _ _ => (EnJ_zero b a).symm) (fun a b _ _ => (EnJ_zero a b).symm))
      have hend := hid (fun j (hj : t.length ≤ j) => And.intro (DnJ_end (q := ·) hz.out hj) (EnJ_end (a := ·) (b := ·) hz.out hj))
      generalize zss.take k = X at hL2 hG2 hend
      have hlb : w.heap.size + 1 < wr.heap.size := Cs.lt hL.out
      clear hL hG
      go_wp2
      go_loopw [17] (fun i wj => ∃ (j : Nat) (P : Nat → Nat), j ≤ m ∧ i = .int .i64 j ∧ Hid (Lk wj (w.heap.size + 1) P (DnJ X t j)) ∧ Hid (Gr wj (w.heap.size + 1) P (DnJ X t j) (fun a b => EnJ X t j b a) (EnJ X t j)) ∧ Hid (Below (w.heap.size + 1) W0 wj)) (fun i _ => m - (intOf i).toNat)
      case atStart => exact ⟨0, P, Nat.zero_le _, rfl, hL2, hG2, hB⟩
      case round =>
        clear hL2 hG2 hB hc
        obtain ⟨j, P, hj, rfl, hL, hG, hB⟩ := hrel
        by_cases hjm : j < m
        · obtain ⟨ad2, z, rfl, hzz, hcz⟩ := RdI.at' (Reads.below hri.out (hB.out.mono (by omega))) hjm
          have j0 : (0 : Int) ≤ (j : Int) := by omega
          have j1 : (j : Int) < (m : Int) := by omega
          have hzg := getD_of (by rw [hm.out]; exact hjm) hzz.out
          obtain ⟨q, rfl, hq⟩ := nat_of (ht.out.2 z (List.mem_of_getElem? hzg))
          replace hzg := hid hzg
          have hD := hid (DnJ_succ (X := X) hzg.out)
          have hna := hid (named_any hL.out hG.out (Nat.le_refl _) hq)
          clear hzz hL hG
          go_wp2_with fail
          refine hna.out.mono ?_
          rintro e w1 ⟨P1, rfl, hL1, hG1, hB1⟩
          clear hna
          have hBj := hid (hB.out.trans hB1)
          clear hB hB1
          by_cases hj0 : j = 0
          · have hj1 : ¬ ((0 : Int) < (j : Int)) := by omega
            have hL2 := hid (Lk.congr hL1 (P' := P1) (S' := DnJ X t (j + 1)) (fun q _ => (hD.out q).symm) (fun _ _ _ => rfl))
            have hG2 := hid ((hG1.congrD (D' := DnJ X t (j + 1)) (fun q _ => (hD.out q).symm)).congr (bf' := fun a b => EnJ X t (j + 1) b a) (af' := EnJ X t (j + 1)) (fun a b _ _ => by rw [hj0]; exact (EnJ_first b a).symm) (fun a b _ _ => by rw [hj0]; exact (EnJ_first a b).symm))
            clear hL1 hG1 hD hj0
            go_wp2
            go_roundw
            case rel => exact ⟨j + 1, P1, by omega, by go_num, hL2, hG2, hBj⟩
            case measure => simp [intOf]; omega
          · have hj1 : (0 : Int) < (j : Int) := by omega
            obtain ⟨ad3, y, e3, hyy, hcy⟩ := RdI.at' (Reads.below hri.out (hBj.out.mono (by omega : w.heap.size ≤ w.heap.size + 1))) (k := j - 1) (by omega)
            injection e3 with e3
            subst e3
            have hyg := getD_of (by rw [hm.out]; omega) hyy.out
            obtain ⟨p, rfl, hp⟩ := nat_of (ht.out.2 y (List.mem_of_getElem? hyg))
            have hjw : IntKind.i64.wrap ((j : Int) - 1) = (j : Int) - 1 := IntWalk.i64_in _ (by omega)
            have j2 : (0 : Int) ≤ (j : Int) - 1 := by omega
            have j3 : (j : Int) - 1 < (m : Int) := by omega
            have j4 : ((j : Int) - 1).toNat = j - 1 := by omega
            have p0 : (0 : Int) ≤ (p : Int) := by omega
            have p1 : (p : Int) < 12 := by omega
            have dp : upB (DnJ X t j) q true p = true := by
              rw [← hD.out p]; exact DnJ_has (by omega : j - 1 < j + 1) hyg
            have hne : p ≠ q := fun e => by
              have := nodup_at ht.out.1 hyg (by rw [e]; exact hzg.out)
              omega
            have hlc := Lk.at_ hL1 hp
            rw [pV, pO_true dp] at hlc
            have hld := hid (leadTo_any hG1 hp hq dp up_same hne)
            have hL3 := hid (fun W (hk : Kp (GrS P1 (upB (DnJ X t j) q true)) w1 W) => Lk.congr (Cs.kp hL1 hk (hG1.apart hL1 (by decide))) (P' := P1) (S' := DnJ X t (j + 1)) (fun q _ => (hD.out q).symm) (fun _ _ _ => rfl))
            have hes := hid (EnJ_succ (X := X) (j := j - 1) hyg (by rw [show j - 1 + 1 = j by omega]; exact hzg.out))
            rw [show j - 1 + 2 = j + 1 by omega, show j - 1 + 1 = j by omega] at hes
            have hB3 := hid (fun W (hk : Kp (GrS P1 (upB (DnJ X t j) q true)) w1 W) => hBj.out.trans (hG1.base hk (Nat.le_trans (Nat.le_of_lt (Cs.lt hL1)) (Nat.le_refl _))))
            clear hL1 hG1 hyy hyg dp hne hj0 hBj
            go_wp2_with fail
            refine hld.out.mono ?_
            rintro e w2 ⟨rfl, hG2, hK2⟩
            have hL4 := hid (hL3.out w2 hK2)
            have hB4 := hid (hB3.out w2 hK2)
            have hG4 := hid ((hG2.congrD (D' := DnJ X t (j + 1)) (fun q _ => (hD.out q).symm)).congr (bf' := fun a b => EnJ X t (j + 1) b a) (af' := EnJ X t (j + 1)) (fun a b _ _ => by rw [hes.out]; exact up2_swap a b) (fun a b _ _ => (hes.out a b).symm))
            clear hL3 hB3 hG2 hK2 hld hlc hD hes hcy
            go_wp2
            go_roundw
            case rel => exact ⟨j + 1, P1, by omega, by go_num, hL4, hG4, hB4⟩
            case measure => simp [intOf]; omega
        · obtain rfl : j = m := by omega
          have hjn : ¬ ((j : Int) < (j : Int)) := by omega
          have he := hid (hend.out j (by rw [hm.out]; omega))
          have hL2 := hid (Lk.congr hL.out (P' := P) (S' := Dn (zss.take (k + 1))) (fun q _ => he.out.1 q) (fun _ _ _ => rfl))
          have hG2 := hid ((hG.out.congrD (D' := Dn (zss.take (k + 1))) (fun q _ => he.out.1 q)).congr (bf' := fun a b => En (zss.take (k + 1)) b a) (af' := En (zss.take (k + 1))) (fun a b _ _ => he.out.2 b a) (fun a b _ _ => he.out.2 a b))
          clear hL hG
          go_wp2
          go_roundw
          case rel => exact ⟨k + 1, P, by omega, by go_num, hL2, hG2, hB⟩
          case measure => simp [intOf]; omega
    · obtain rfl : k = n := by omega
      have hkn : ¬ ((k : Int) < (k : Int)) := by omega
      rw [List.take_of_length_le (by rw [hl'.out]; omega)] at hL hG
      obtain ⟨c0, c1, c2, c3, c4, c5, c6, c7, c8, c9, c10, c11⟩ := Lk.all hL.out
      have hRk := hid (Cs.below hR0.out hB.out (by omega))
      obtain ⟨WF, hWF, hLF, hKF⟩ := fin12 hRk.out rfl P (Dn zss)
      have z0 : wr.cell? ⟨w.heap.size, 0, none⟩ = some (.pointer none) := hRk.out.cell 0
      have z1 : wr.cell? ⟨w.heap.size, 1, none⟩ = some (.pointer none) := hRk.out.cell 1
      have z2 : wr.cell? ⟨w.heap.size, 2, none⟩ = some (.pointer none) := hRk.out.cell 2
      have z3 : wr.cell? ⟨w.heap.size, 3, none⟩ = some (.pointer none) := hRk.out.cell 3
      have z4 : wr.cell? ⟨w.heap.size, 4, none⟩ = some (.pointer none) := hRk.out.cell 4
      have z5 : wr.cell? ⟨w.heap.size, 5, none⟩ = some (.pointer none) := hRk.out.cell 5
      have z6 : wr.cell? ⟨w.heap.size, 6, none⟩ = some (.pointer none) := hRk.out.cell 6
      have z7 : wr.cell? ⟨w.heap.size, 7, none⟩ = some (.pointer none) := hRk.out.cell 7
      have z8 : wr.cell? ⟨w.heap.size, 8, none⟩ = some (.pointer none) := hRk.out.cell 8
      have z9 : wr.cell? ⟨w.heap.size, 9, none⟩ = some (.pointer none) := hRk.out.cell 9
      have z10 : wr.cell? ⟨w.heap.size, 10, none⟩ = some (.pointer none) := hRk.out.cell 10
      have z11 : wr.cell? ⟨w.heap.size, 11, none⟩ = some (.pointer none) := hRk.out.cell 11
      have f0 := hRk.out.frozen 0
      have f1 := hRk.out.frozen 1
      have f2 := hRk.out.frozen 2
      have f3 := hRk.out.frozen 3
      have f4 := hRk.out.frozen 4
      have f5 := hRk.out.frozen 5
      have f6 := hRk.out.frozen 6
      have f7 := hRk.out.frozen 7
      have f8 := hRk.out.frozen 8
      have f9 := hRk.out.frozen 9
      have f10 := hRk.out.frozen 10
      have f11 := hRk.out.frozen 11
      have hGF := hid (((hG.out.kp hKF (fun q h1 h2 e => by have := hG.out.lo q h1 h2; omega))).more (by omega : w.heap.size ≤ w.heap.size + 1))
      have hBF := hid ((hB0.out.trans (hB.out.mono (by omega))).trans (hKF.base (B := w.heap.size) (Nat.le_of_lt (Cs.lt hRk.out)) (fun i e => by omega)))
      replace hWF := hid hWF
      replace hLF := hid hLF
      clear hG hL hB hKF hB0 hRk
      go_wp2
      rw [hWF.out]
      clear hWF z0 z1 z2 z3 z4 z5 z6 z7 z8 z9 z10 z11 c0 c1 c2 c3 c4 c5 c6 c7 c8 c9 c10 c11 f0 f1 f2 f3 f4 f5 f6 f7 f8 f9 f10 f11
      obtain ⟨Y0, Y1, Y2, Y3, Y4, Y5, Y6, Y7, Y8, Y9, Y10, Y11⟩ := Lk.all hLF.out
      refine bodyPost_ret (v := .agg (lkC P (Dn zss))) (by simp [results, Try.results32, go_sem, Y0, Y1, Y2, Y3, Y4, Y5, Y6, Y7, Y8, Y9, Y10, Y11]) rfl ⟨P, rfl, hGF.out, hBF.out⟩
end Go.Proofs.Ytdhafappclcijaa
