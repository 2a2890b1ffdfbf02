/-
  Contracts of the program's lists of sets: groupSetList, GroupsNamed. No condition but lengths below 2^40.
-/
import Derived.Test.YtcibhhmklbnbaaaList
namespace Go.Proofs.Ytcibhhmklbnbaaa
open Go.RowKit

theorem info_set : (Try.prog.info? 36).map (fun i => (i.zero, i.size, i.bytes)) = some (some (.int .u64 0), 1, 8) := by kernel_rfl

abbrev nats (ms : List Nat) : List Value := ms.map fun (m : Nat) => Value.int .u64 (m : Int)

theorem nats_one (ms : List Nat) : ∀ u ∈ nats ms, u.oneCell' = true := by
  intro u hu
  simp only [nats, List.mem_map] at hu
  obtain ⟨m, _, rfl⟩ := hu
  rfl

abbrev OwM (w : World) (B : Nat) (v : Value) (ms : List Nat) : Prop := w.ownsRow B 36 1 v ms.length (nats ms)

abbrev RdM (w : World) (B : Nat) (A : Option Addr) (n : Nat) (ms : List Nat) : Prop := Reads w B 1 A n (nats ms)

theorem RdM.at' {w : World} {B n k : Nat} {A : Option Addr} {ms : List Nat} (h : RdM w B A n ms) (hk : k < n) :
    ∃ (ad : Addr) (m : Nat), A = some ad ∧ Hid (ms.getD k 0 = m) ∧ w.cell? (ad.add k) = some (.int .u64 (m : Int)) := by
  obtain ⟨ad, e, hb, hc⟩ := h.2 (by omega)
  have hl : k < ms.length := by have := h.1; simp at this; omega
  refine ⟨ad, _, e, rfl, hc k _ ?_⟩
  simp [hl]

theorem OwM.form {w : World} {B : Nat} {v : Value} {ms : List Nat} (h : OwM w B v ms) : ∃ A c, v = .slice A ms.length c ∧ RdM w w.heap.size A ms.length ms := by
  rcases h.2 with ⟨rfl, h0⟩ | ⟨g, cap, cur, rfl, hrest⟩
  · have hz : ms = [] := List.eq_nil_of_length_eq_zero h0
    subst hz
    exact ⟨none, 0, rfl, Reads.none_⟩
  · exact ⟨_, cap, rfl, Reads.of_own (c := cap) h⟩

theorem wpList_appM {w : World} {ops : Array Oper} {rest : List Oper} {o : Oper} {a : Act} {Q : Exit → Act → World → Prop} (hgd : o.guard = none) (s x : Operand)
    (ho : o.op = .call { callee := .builtin .append, args := #[s, x], argTypes := #[47, 47] })
    (B : Nat) (z : Nat) (v : Value) (zs : List Nat) (hs : a.eval s = v) (hx : a.eval x = .slice (some ⟨w.heap.size, 0, none⟩) 1 1) (hown : OwM w B v zs) (hB : B ≤ w.heap.size) (hn : zs.length < 1099511627776)
    (h : ∀ v' w', OwM w' B v' (zs ++ [z]) → Below B w w' → wpList Try.prog ops Q rest (a.put o.dst v') w') :
    wpList Try.prog ops Q (o :: rest) a (w.alloc (.cells #[.int .u64 (z : Int)] 36)) := by
  obtain ⟨i0, hi, hz0, hz1, hz2⟩ := info_parts info_set
  refine wpList_append_own (P := Try.prog) _ hgd s x 47 ho B 36 i0 (.int .u64 0) 1 8 Try.underlying47 hi hz0 hz1 hz2 rfl (by decide) v zs.length (nats zs) hs (hown.alloc _) ⟨w.heap.size, 0, none⟩ 1 1 [.int .u64 (z : Int)] hx rfl ?_ ?_ ?_ ?_ ?_ ?_
  · intro j u hj
    match j, hj with
    | 0, hj => simp at hj; subst hj; simp [Addr.add]
  · intro u hu; simp at hu; subst hu; rfl
  · unfold maxLen; omega
  · omega
  · simp; omega
  · intro v' w' hown' hg _
    refine h v' w' ?_ ?_
    · show w'.ownsRow B 36 1 v' (zs ++ [z]).length (nats (zs ++ [z]))
      simpa [nats] using hown'
    · exact ((Below.refl B w).alloc hB _).grown hg (by simp; omega) (fun k hk => (hown.lt k hk).1)

def SetListPost (w : World) (zss : List (List Int)) (e : Ending) (w' : World) : Prop :=
  ∃ v : Value, e = .returned (.tuple #[v, .bool (setsB zss)]) ∧ Below w.heap.size w w' ∧ (setsB zss = true → OwM w' w.heap.size v (masks zss))

theorem masks_take {zss : List (List Int)} {k : Nat} {zs : List Int} (hk : k < zss.length) (hz : zss.getD k [] = zs) : masks (zss.take (k + 1)) = masks (zss.take k) ++ [mk zs] := by
  have e : zss[k] = zs := by rw [← hz]; simp [hk]
  rw [List.take_add_one, List.getElem?_eq_getElem hk, masks, List.map_append, e]; rfl

set_option maxHeartbeats 1000000 in
theorem groupSetList_any {n c : Nat} {A : Option Addr} {zss : List (List Int)} (w : World) (hr : RdL w w.heap.size A n zss) (hn : n < 1099511627776) (hsh : Short zss) :
    Calls Try.prog 31 #[.slice A n c] w (SetListPost w zss) := by
  have hl' := hid hr.1
  have hr' := hid hr
  have hsh' := hid hsh
  clear hr hsh
  by_cases h12 : n ≤ 12
  · have hb0 := hid ((Below.refl w.heap.size w).alloc (Nat.le_refl _) (.cells #[] 36))
    have he : Hid (OwM (w.alloc (.cells #[] 36)) w.heap.size (.slice (some ⟨w.heap.size, 0, none⟩) 0 0) (masks (zss.take 0))) := hid (World.ownsRow_lit w #[] 0 (Nat.le_refl _) (by decide) rfl)
    go_enter Try.func31, Try.ntmps31
    go_wp2
    go_loopw [4, 15] (fun o i wr => ∃ k : Nat, k ≤ n ∧ i = .int .i64 k ∧ OwM wr w.heap.size o (masks (zss.take k)) ∧ Below w.heap.size w wr ∧ Hid (∀ j, j < k → gvalid (zss.getD j []) = true)) (fun _ i _ => n - (intOf i).toNat)
    case atStart => exact ⟨0, by omega, rfl, he.out, hb0.out, hid (fun j h => by omega)⟩
    case round =>
      obtain ⟨k, hk, rfl, hown, hbel, hall⟩ := hrel
      have hsz := hbel.size
      by_cases hlt : k < n
      · obtain ⟨ad, Ai, m, ci, zs, rfl, hz, hm, hc, hri⟩ := RdL.at' (hr'.out.below hbel) hlt
        have hml : m < 1099511627776 := by
          have := hsh'.out k (by rw [hl'.out]; exact hlt)
          rw [hz.out, hm.out] at this; exact this
        have hri' := hid hri
        clear hri
        have hkl : (masks (zss.take k)).length < 1099511627776 := by
          have := List.length_take_le k zss
          rw [masks, List.length_map]; omega
        cases hg : gvalid zs with
        | true =>
          have hnew := hid (masks_take (zss := zss) (k := k) (by rw [hl'.out]; exact hlt) hz.out)
          go_wp2_with (first
            | (go_at_call 27; (with_reducible refine (groupSetOf_any _ hri'.out hml).mono ?_); rw [hg, maskR_yes hg]; rintro e w' ⟨rfl, rfl⟩)
            | (at_builtin; refine wpList_appM rfl (.tmp 26) (.tmp 28) rfl w.heap.size (mk zs) _ _ rfl rfl hown hsz hkl ?_; intro v' w1 hown' hbel'))
          go_roundw
          case rel => exact ⟨k + 1, by omega, by go_num, by rw [hnew.out]; exact hown', hbel.trans hbel', hid (fun j hj => by
            by_cases e : j = k
            · subst e; rw [hz.out]; exact hg
            · exact hall.out j (by omega))⟩
          case measure => simp [intOf]; omega
        | false =>
          have hbad := hid (setsB_bad (zss := zss) (k := k) (by rw [hl'.out]; exact hlt) (by rw [hz.out]; exact hg))
          go_wp2_with (go_at_call 27; (with_reducible refine (groupSetOf_any _ hri'.out hml).mono ?_); rw [hg]; rintro e w' ⟨rfl, rfl⟩)
          go_ret2
          exact ⟨_, by rw [hbad.out]; rfl, hbel, fun h => by rw [hbad.out] at h; cases h⟩
      · have hfin := setsB_all (zss := zss) (fun i hi => hall.out i (by rw [hl'.out] at hi; omega))
        have hfin' : Hid (setsB zss = true) := hid (by rw [hfin, hl'.out]; simpa using h12)
        have hmk := hid (show masks (zss.take k) = masks zss by rw [List.take_of_length_le (by rw [hl'.out]; omega)])
        clear hfin
        go_wp2
        go_ret2
        exact ⟨_, by rw [hfin'.out]; rfl, hbel, fun _ => by rw [← hmk.out]; exact hown⟩
  · have hbad := hid (setsB_long (zss := zss) (by rw [hl'.out]; omega))
    go_enter Try.func31, Try.ntmps31
    go_wp2
    go_ret2
    exact ⟨_, by rw [hbad.out]; rfl, Below.refl _ _, fun h => by rw [hbad.out] at h; cases h⟩

theorem has_masks {zss : List (List Int)} (hs : setsB zss = true) {x : Int} (hx : grB x = true) {k m : Nat} (hk : k < zss.length) (hm : (masks zss).getD k 0 = m) : m < 32 ∧ m.testBit x.toNat = hasB (zss.getD k []) x := by
  have hv := setsB_get hs hk
  have e : m = mk (zss.getD k []) := by rw [← hm]; simp [masks, hk]
  obtain ⟨h0, h4⟩ := grB_true.1 hx
  obtain ⟨g, rfl⟩ := Int.eq_ofNat_of_zero_le h0
  rw [e, Int.toNat_natCast]
  exact ⟨mk_lt hv, (hasB_valid hv (by omega)).symm⟩

set_option maxHeartbeats 1000000 in
theorem GroupsNamed_impl {n c : Nat} {A : Option Addr} {zss : List (List Int)} (x : Int) (w : World) (hr : RdL w w.heap.size A n zss) (hn : n < 1099511627776) (hsh : Short zss) :
    Calls Try.prog 15 #[.slice A n c, .int .i64 x] w (NewI w (namedR zss x)) := by
  have hl' := hid hr.1
  have hsh' := hid hsh
  have hr' := hid hr
  clear hr hsh
  cases h1 : setsB zss with
  | false =>
    go_enter Try.func15, Try.ntmps15
    go_wp2_with (go_at_call 31; (with_reducible refine (groupSetList_any _ hr'.out hn hsh'.out).mono ?_); rintro e w1 ⟨v, rfl, hb1, _⟩; rw [h1])
    go_ret
    exact ⟨_, rfl, by rw [namedR_no1 h1]; exact OwI.empty_lit w1 hb1.size, hb1.alloc hb1.size _⟩
  | true =>
    cases h2 : grB x with
    | false =>
      go_enter Try.func15, Try.ntmps15
      go_wp2_with (first
        | (go_at_call 31; (with_reducible refine (groupSetList_any _ hr'.out hn hsh'.out).mono ?_); rintro e w1 ⟨v, rfl, hb1, _⟩; rw [h1])
        | (go_at_call 32; (with_reducible refine (groupExists_any _ _).mono ?_); rw [h2]; rintro e w2 ⟨rfl, rfl⟩))
      go_ret
      exact ⟨_, rfl, by rw [namedR_no2 h2]; exact OwI.empty_lit w1 hb1.size, hb1.alloc hb1.size _⟩
    | true =>
      have hml : Hid ((masks zss).length = n) := hid (by rw [masks, List.length_map, hl'.out])
      go_enter Try.func15, Try.ntmps15
      go_wp2_with fail
      refine (groupSetList_any _ hr'.out hn hsh'.out).mono ?_
      rintro e w1 ⟨v, rfl, hb1, ho⟩
      rw [h1]
      have hom := ho h1
      clear ho
      obtain ⟨Am, cm, rfl, hrm⟩ := OwM.form hom
      rw [hml.out]
      have hrm' : Hid (RdM w1 w1.heap.size Am n (masks zss)) := hid (by rw [hml.out] at hrm; exact hrm)
      have hb1' := hid hb1
      have hsz1 := hb1.size
      clear hom hrm hb1
      go_wp2_with (go_at_call 32; (with_reducible refine (groupExists_any _ _).mono ?_); rw [h2]; rintro e w2 ⟨rfl, rfl⟩)
      go_loopw [7, 26] (fun o i wr => ∃ k : Nat, k ≤ n ∧ i = .int .i64 k ∧ OwI wr w1.heap.size o (namedTo zss x k) ∧ Below w1.heap.size w1 wr) (fun _ i _ => n - (intOf i).toNat)
      case atStart => exact ⟨0, by omega, rfl, OwI.empty_lit w1 (Nat.le_refl _), (Below.refl _ _).alloc (Nat.le_refl _) _⟩
      case round =>
        obtain ⟨k, hk, rfl, hown, hbel⟩ := hrel
        have hsz := hbel.size
        have hll := namedTo_len zss x k
        by_cases hlt : k < n
        · obtain ⟨ad, m, rfl, hm, hc⟩ := RdM.at' (Reads.below hrm'.out hbel) hlt
          obtain ⟨hm32, htb⟩ := has_masks h1 h2 (by rw [hl'.out]; exact hlt) hm.out
          have htb' := hid htb
          clear htb
          cases hg : hasB (zss.getD k []) x with
          | true =>
            have hnew := hid (namedTo_hit (zss := zss) (x := x) (k := k) hg)
            have hg' := hid hg
            clear hg
            go_wp2_with (first
              | (go_at_call 33; (with_reducible refine (has_any _ _ hm32 h2 _).mono ?_); rw [htb'.out, hg'.out]; rintro e w' ⟨rfl, rfl⟩)
              | (at_builtin; refine wpList_app1 rfl (.tmp 34) (.tmp 36) rfl w1.heap.size k _ _ rfl rfl hown hsz (by omega) ?_; intro v' w3 hown' hbel'))
            go_roundw
            case rel => exact ⟨k + 1, by omega, by go_num, by rw [hnew.out]; exact hown', hbel.trans hbel'⟩
            case measure => simp [intOf]; omega
          | false =>
            have hnew := hid (namedTo_miss (zss := zss) (x := x) (k := k) hg)
            have hg' := hid hg
            clear hg
            go_wp2_with (go_at_call 33; (with_reducible refine (has_any _ _ hm32 h2 _).mono ?_); rw [htb'.out, hg'.out]; rintro e w' ⟨rfl, rfl⟩)
            go_roundw
            case rel => exact ⟨k + 1, by omega, by go_num, by rw [hnew.out]; exact hown, hbel⟩
            case measure => simp [intOf]; omega
        · have hfin := hid (show namedTo zss x k = namedR zss x by rw [namedR_yes h1 h2, hl'.out, show k = n by omega])
          go_wp2
          go_ret
          exact ⟨_, rfl, by rw [← hfin.out]; exact hown.more hsz1, hb1'.out.trans (hbel.mono hsz1)⟩

end Go.Proofs.Ytcibhhmklbnbaaa
