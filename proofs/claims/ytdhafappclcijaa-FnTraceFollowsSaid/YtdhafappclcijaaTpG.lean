/-
  Contract of the library's slices.Insert of one number behind the first, into an owned slice. No condition but lengths below 2^40.
-/
import Derived.Test.YtdhafappclcijaaKp
import Derived.Shelf.Spec.SlicesInsertGrow
namespace Go.Proofs.Ytdhafappclcijaa
open Go.RowKit Go.Lib
set_option linter.unusedVariables false
set_option linter.unusedSimpArgs false

/-- this program's numbers of the library's functions -/
def rhoI : Shelf.Ren where
  f := fun n => if n = 21 then 52 else if n = 27 then 54 else if n = 28 then 55 else if n = 35 then 56 else if n = 39 then 57 else n
  t := fun n => if n = 0 then 0 else if n = 3 then 3 else if n = 4 then 4 else if n = 22 then 25 else n
  g := fun n => n

theorem laysI : Lays2.n21 Try.prog rhoI where
  mixed := by kernel_rfl
  f21 := by kernel_rfl
  f27 := by kernel_rfl
  f28 := by kernel_rfl
  f35 := by kernel_rfl
  f39 := by kernel_rfl
  t0 := by kernel_rfl
  a0 := fun _ => by kernel_rfl
  z0 := fun _ => by kernel_rfl
  v0 := fun _ => by kernel_rfl
  t3 := by kernel_rfl
  a3 := fun _ => by kernel_rfl
  z3 := fun _ => by kernel_rfl
  v3 := fun _ => by kernel_rfl
  t4 := by kernel_rfl
  a4 := fun _ => by kernel_rfl
  z4 := fun _ => by kernel_rfl
  v4 := fun _ => by kernel_rfl
  t22 := by kernel_rfl
  a22 := fun _ => by kernel_rfl
  z22 := fun _ => by kernel_rfl
  v22 := fun _ => by kernel_rfl
  i3 := by kernel_rfl

theorem cs_setCells {b : Nat} {T : TypeId} : ∀ (vs : List Value) (o : Nat) (w : World) (cs : Array Value), Cs w b T cs → o + vs.length ≤ cs.size →
    ∃ cs', Cs (w.setCells b o vs) b T cs' ∧ cs'.toList = cs.toList.take o ++ vs ++ cs.toList.drop (o + vs.length)
  | [], o, w, cs, h, _ => ⟨cs, h, by simp⟩
  | v :: vs, o, w, cs, h, hl => by
    obtain ⟨cs', h1, h2⟩ := cs_setCells vs (o + 1) (w.setCell ⟨b, o, none⟩ v) (cs.setIfInBounds o v) (h.set o v) (by simp at hl ⊢; omega)
    refine ⟨cs', h1, ?_⟩
    have hlt : o < cs.toList.length := by simp at hl ⊢; omega
    rw [h2, Array.toList_setIfInBounds, List.take_set, List.drop_set_of_lt (by omega), List.take_succ_eq_append_getElem hlt, List.set_append_right _ _ (by simp [List.length_take]; omega)]
    have hm : o - min o cs.size = 0 := by simp at hlt; omega
    simp [List.length_take, hm, Nat.add_comm, Nat.add_left_comm]

theorem kp_setCells {S : Nat → Prop} {b : Nat} (hb : S b) : ∀ (vs : List Value) (o : Nat) (w w' : World), Kp S w w' → Kp S w (w'.setCells b o vs)
  | [], _, _, _, h => h
  | v :: vs, o, w, w', h => kp_setCells hb vs (o + 1) w _ (h.setCell (p := ⟨b, o, none⟩) (.inr hb) v)

theorem zero_size (k : Nat) : (Builtin.zeroCells (Value.int .i64 0).cells k).size = k := by simp [Builtin.zeroCells, Value.cells]

theorem one_cell {zs : List Int} : ∀ v ∈ ints zs, v.oneCell' = true := by
  intro v hv
  simp only [ints, List.mem_map] at hv
  obtain ⟨z, _, rfl⟩ := hv
  rfl

theorem grown_ok {w : World} {n c : Nat} (hn : n + 1 < 1099511627776) : n + 1 ≤ grownCap w (n + 1) c 3 ∧ grownCap w (n + 1) c 3 ≤ maxLen :=
  ⟨grownCap_ge _ _ _ _, grownCap_le_maxLen _ _ _ _ (by simp only [maxLen]; omega)⟩

theorem owI_of {w : World} {B g n cap : Nat} {cur : Array Value} {zs : List Int} (h : Cs w g 3 cur) (hb : B ≤ g) (hl : zs.length = n) (h1 : n ≤ cap) (h2 : cap ≤ maxLen) (h3 : cur.size = cap) (h4 : cur.toList.take n = ints zs) : OwI w B (.slice (some ⟨g, 0, none⟩) n cap) zs := by
  subst hl
  exact ⟨by simp [ints], .inr ⟨g, cap, cur, rfl, hb, h, h1, h2, by omega, by rw [Nat.mul_one]; exact h4⟩⟩

/-- a number put behind the first -/
def ins1 (zs : List Int) (z : Int) : List Int := zs.take 1 ++ z :: zs.drop 1

theorem ins1_len {zs : List Int} {z : Int} (h : 0 < zs.length) : (ins1 zs z).length = zs.length + 1 := by simp [ins1]; omega

set_option maxHeartbeats 2000000 in
theorem Insert1_any {w : World} {B : Nat} {v : Value} {zs : List Int} {z : Int} (hown : OwI w B v zs) (hB : B ≤ w.heap.size) (h0 : 0 < zs.length) (hn : zs.length + 1 < 1099511627776) :
    Calls Try.prog 52 #[v, .int .i64 1, .slice (some ⟨w.heap.size, 0, none⟩) 1 1] (w.alloc (.cells #[.int .i64 z] 3)) fun e w' =>
      ∃ v', e = .returned v' ∧ OwI w' B v' (ins1 zs z) ∧ Below B w w' := by
  obtain ⟨n, hnn⟩ : ∃ n, zs.length = n := ⟨_, rfl⟩
  have hl := hown.1
  rcases hown.2 with ⟨rfl, h⟩ | ⟨g, c, cur, rfl, hg, hh, h1, h2, h3, h4⟩
  · simp at h; rw [h] at h0; simp at h0
  · rw [hnn] at h1 h4 hn h0 ⊢
    simp only [Nat.mul_one] at h3 h4
    obtain ⟨W, hW⟩ : ∃ W, w.alloc (.cells #[.int .i64 z] 3) = W := ⟨_, rfl⟩
    have hgw : g < w.heap.size := (Array.getElem?_eq_some_iff.1 hh).1
    have hCg : Cs W g 3 cur := by rw [← hW]; exact Cs.alloc hh _
    have hCv : Cs W w.heap.size 3 #[.int .i64 z] := by rw [← hW]; exact Cs.new w _ _
    have hKW : Kp (fun b => b = g) w W := by rw [← hW]; exact (Kp.refl _ w).alloc _
    have hWz : w.heap.size ≤ W.heap.size := hKW.size
    rw [hW]
    have hgl : ∀ j u, (ints zs)[j]? = some u → W.cell? ⟨g, 0 + j, none⟩ = some u := fun j u hj => by
      rw [Nat.zero_add, hCg.cell, ← Array.getElem?_toList]
      have hjn : j < n := by
        have := (List.getElem?_eq_some_iff.1 hj).1
        simp [ints] at this; omega
      rw [← h4, List.getElem?_take_of_lt hjn] at hj
      exact hj
    have hvl : ∀ j u, [Value.int .i64 z][j]? = some u → W.cell? ⟨w.heap.size, 0 + j, none⟩ = some u := fun j u hj => by
      rw [Nat.zero_add, hCv.cell, ← Array.getElem?_toList]
      exact hj
    have hil : (ints zs).length = n := by simp [ints, hnn]
    have hlen1 : (ins1 zs z).length = n + 1 := by rw [ins1_len (by omega), hnn]
    have hiz : ints (ins1 zs z) = (ints zs).take 1 ++ .int .i64 z :: (ints zs).drop 1 := by simp [ins1, ints]
    have hc63 : c ≤ 9223372036854775807 := by simp only [maxLen] at h2; omega
    have hf1 : rhoI.f 21 = 52 := rfl
    have ht3 : rhoI.t 3 = 3 := rfl
    by_cases hn1 : n = 1
    · subst hn1
      have hcur : ints (ins1 zs z) = ints zs ++ [.int .i64 z] := by
        rw [hiz, List.take_of_length_le (by omega), List.drop_of_length_le (by omega)]
      by_cases hroom : 1 + 1 ≤ c
      · have hC := Any2.slices_Insert_int_end_room laysI g 0 1 c w.heap.size 0 1 1 [.int .i64 z] W (by omega) hroom hc63 rfl
          (fun j hj => by rw [hCg.cell, Array.getElem?_eq_getElem (by omega)]; rfl) (fun j hj => hCg.frozen _) hvl (fun v hv => by simp at hv; subst hv; rfl)
        refine hC.mono ?_
        rintro e w' ⟨rfl, rfl⟩
        obtain ⟨cs', hc1, hc2⟩ := cs_setCells [.int .i64 z] (0 + 1) W cur hCg (by simp; omega)
        have hsz : cs'.size = c := by
          rw [← Array.length_toList, hc2]; simp; omega
        refine ⟨_, rfl, owI_of hc1 hg hlen1 hroom h2 hsz ?_, (kp_setCells (S := fun b => b = g) rfl _ _ _ _ hKW).base hB (fun b e => by omega)⟩
        rw [hc2, hcur, Nat.zero_add, h4]
        exact List.take_left' (by simp [hil])
      · have hC := Any2.slices_Insert_int_end_grow laysI (some ⟨g, 0, none⟩) 1 c w.heap.size 0 1 1 (ints zs) [.int .i64 z] W (by omega) h1 (by omega) (by omega) hil rfl (fun h => by cases h)
          (fun a ha j u hj => by injection ha with ha; subst ha; rw [Addr.add_lit]; exact hgl j u hj) hvl (fun v hv => by simp at hv; subst hv; rfl)
        refine hC.mono ?_
        rintro e w' ⟨rfl, rfl⟩
        obtain ⟨hg1, hg2⟩ := grown_ok (w := W) (n := 1) (c := c) (by omega)
        rw [ht3]
        generalize grownCap W (1 + 1) c 3 = G at hg1 hg2 ⊢
        refine ⟨_, rfl, owI_of (Cs.new W.drew _ _) (show B ≤ W.drew.heap.size by simp; omega) hlen1 hg1 hg2 (by rw [Array.size_append, zero_size]; simp [hil]; omega) ?_, ?_⟩
        · rw [hcur]
          simp only [Array.toList_append]
          exact List.take_left' (by simp [hil])
        · exact ((hKW.drew).alloc _).base hB (fun b e => by omega)
    · by_cases hroom : n + 1 ≤ c
      · have hC := Any2.slices_Insert_int_shift laysI g 0 n c 1 w.heap.size 0 1 1 (ints zs) [.int .i64 z] W (by omega) (by omega) hroom hc63 (by omega) hil rfl hgl
          (fun j hj => by rw [hCg.cell, Array.getElem?_eq_getElem (by omega)]; rfl) (fun j hj => hCg.frozen _) hvl one_cell (fun v hv => by simp at hv; subst hv; rfl)
          3 3 1 c (by unfold World.shape?; rw [hCv]; rfl) (by unfold World.shape?; rw [hCg]; simp [h3]) (by omega) (hCv.frozen _) (hCv.frozen _)
        refine hC.mono ?_
        rintro e w' ⟨rfl, rfl⟩
        obtain ⟨cs1, hc1, hc2⟩ := cs_setCells ((ints zs).drop 1) (0 + (1 + 1)) W.drew cur (Cs.drew hCg) (by rw [List.length_drop]; omega)
        have hl1 : cs1.size = c := by
          rw [← Array.length_toList, hc2]; simp [hil]; omega
        obtain ⟨cs2, hd1, hd2⟩ := cs_setCells [.int .i64 z] (0 + 1) _ cs1 hc1 (by simp; omega)
        have hl2 : cs2.size = c := by
          rw [← Array.length_toList, hd2]; simp; omega
        refine ⟨_, rfl, owI_of hd1 hg hlen1 hroom h2 hl2 ?_, (kp_setCells (S := fun b => b = g) rfl _ _ _ _ (kp_setCells (S := fun b => b = g) rfl _ _ _ _ hKW.drew)).base hB (fun b e => by omega)⟩
        rw [hd2, hc2, hiz]
        have e1 : cur.toList.take 1 = (ints zs).take 1 := by rw [← h4, List.take_take, Nat.min_eq_left (by omega)]
        have e2 : cur.toList.take (0 + (1 + 1)) = (ints zs).take 1 ++ (cur.toList.drop 1).take 1 := by
          rw [← e1]
          cases cur.toList with
          | nil => rfl
          | cons x l => cases l <;> rfl
        rw [e2]
        have hA1 : ((ints zs).take 1).length = 1 := by rw [List.length_take, hil]; omega
        have hA2 : ((cur.toList.drop 1).take 1).length = 1 := by rw [List.length_take, List.length_drop, Array.length_toList, h3]; omega
        generalize (ints zs).take 1 = L1 at hA1 ⊢
        generalize (cur.toList.drop 1).take 1 = L2 at hA2 ⊢
        have hA3 : ((ints zs).drop 1).length = n - 1 := by rw [List.length_drop, hil]
        generalize (ints zs).drop 1 = L3 at hA3 ⊢
        generalize cur.toList.drop (0 + (1 + 1) + L3.length) = L4
        obtain ⟨x1, rfl⟩ : ∃ x, L1 = [x] := List.length_eq_one_iff.1 hA1
        obtain ⟨x2, rfl⟩ : ∃ x, L2 = [x] := List.length_eq_one_iff.1 hA2
        simp only [List.cons_append, List.nil_append, Nat.zero_add, List.take_succ_cons, List.take_zero, List.length_cons, List.length_nil, List.drop_succ_cons, List.drop_zero]
        rw [show n = (n - 1) + 1 by omega, List.take_succ_cons]
        congr 2
        exact List.take_left' (by omega)
      · have hC := Any2.slices_Insert_int_grow laysI g 0 n c 1 w.heap.size 0 1 1 (ints zs) [.int .i64 z] W (by omega) (by omega) h1 (by omega) (by omega) hil rfl hgl hvl one_cell (fun v hv => by simp at hv; subst hv; rfl)
        refine hC.mono ?_
        rintro e w' ⟨rfl, rfl⟩
        obtain ⟨hg1, hg2⟩ := grown_ok (w := W) (n := n) (c := c) (by omega)
        rw [ht3]
        generalize grownCap W (n + 1) c 3 = G at hg1 hg2 ⊢
        obtain ⟨R, hR⟩ : ∃ R : Array Value, ((ints zs).take 1).toArray ++ Builtin.zeroCells (Value.int .i64 0).cells (n + 1 - 1) ++ Builtin.zeroCells (Value.int .i64 0).cells (G - (n + 1)) = R := ⟨_, rfl⟩
        have hRs : R.size = G := by rw [← hR, Array.size_append, Array.size_append, zero_size, zero_size]; simp [hil]; omega
        have hR1 : R.toList.take 1 = (ints zs).take 1 := by
          rw [← hR]
          simp only [Array.toList_append, List.append_assoc]
          exact List.take_left' (by rw [List.length_take, hil]; omega)
        rw [hR]
        have hN : Cs (W.alloc (.cells R 3)).drew W.heap.size 3 R := Cs.drew (Cs.new W _ _)
        obtain ⟨cs1, hc1, hc2⟩ := cs_setCells [.int .i64 z] 1 _ R hN (by simp; omega)
        have hl1 : cs1.size = G := by rw [← Array.length_toList, hc2]; simp; omega
        obtain ⟨cs2, hd1, hd2⟩ := cs_setCells ((ints zs).drop 1) (1 + 1) _ cs1 (Cs.drew hc1) (by rw [List.length_drop]; omega)
        have hl2 : cs2.size = G := by rw [← Array.length_toList, hd2]; simp [hil]; omega
        refine ⟨_, rfl, owI_of hd1 (by omega) hlen1 hg1 hg2 hl2 ?_, ?_⟩
        · rw [hd2, hc2, hiz, hR1]
          have hA1 : ((ints zs).take 1).length = 1 := by rw [List.length_take, hil]; omega
          have hA3 : ((ints zs).drop 1).length = n - 1 := by rw [List.length_drop, hil]
          generalize (ints zs).take 1 = L1 at hA1 ⊢
          generalize (ints zs).drop 1 = L3 at hA3 ⊢
          obtain ⟨x1, rfl⟩ : ∃ x, L1 = [x] := List.length_eq_one_iff.1 hA1
          generalize R.toList.drop (1 + [Value.int .i64 z].length) = L4
          simp only [List.cons_append, List.nil_append, List.take_succ_cons, List.take_zero]
          rw [show n = (n - 1) + 1 by omega, List.take_succ_cons]
          congr 2
          exact List.take_left' (by omega)
        · exact (kp_setCells (S := fun b => b = g ∨ b = W.heap.size) (.inr rfl) _ _ _ _ (Kp.drew (kp_setCells (S := fun b => b = g ∨ b = W.heap.size) (.inr rfl) _ _ _ _ (((hKW.mono (fun i h => .inl h)).alloc (.cells R 3)).drew)))).base hB (fun b e => by omega)
end Go.Proofs.Ytdhafappclcijaa
