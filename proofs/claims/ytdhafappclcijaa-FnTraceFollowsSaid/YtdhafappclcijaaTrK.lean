/-
  The draws of traces: l92Traces, DrawTracesValid, DrawTraceOrder, DrawTraceCycle. No condition (l6Open reads at most 2000 bytes).
-/
import Derived.Test.YtdhafappclcijaaTrJ
import Derived.Lib.AppendZerosOnto
namespace Go.Proofs.Ytdhafappclcijaa
open Go.RowKit
set_option linter.unusedVariables false


theorem zeroCells_one (z : Value) (n : Nat) : (Builtin.zeroCells #[z] n).toList = List.replicate n z := by
  apply List.ext_getElem?
  intro i
  by_cases hi : i < n
  · simp [Builtin.zeroCells, hi, Nat.mod_one]
  · rw [List.getElem?_eq_none (by simp [Builtin.zeroCells]; omega), List.getElem?_eq_none (by simp; omega)]

/-- append(s, make([]T, k)...) to a slice of the call's own -/
theorem run_append_own_zeros {P : Program} (w : World) (base : Nat) (t tn ty e : TypeId) (i : TypeInfo) (z : Value) (kn kq : IntKind) (bytes : Nat) (ht : P.underlying t = some (.slice e)) (htn : P.underlying tn = some (.int kn)) (hi : P.info? e = some i) (hz : i.zero = some z)
    (hsize : i.size = 1) (hby : i.bytes = bytes) (hzs : z.cells = #[z]) (h1z : z.oneCell' = true) (v : Value) (n : Nat) (xs : List Value) (hown : w.ownsRow base e 1 v n xs)
    (k : Nat) (h0 : 0 < k) (hk : n + k < 1099511627776) (hb : bytes ≤ 100) (hbase : base ≤ w.heap.size) :
    ∃ v' w', (Builtin.append_ #[t, tn] ty #[v, .int kq k]).run P w = .ok v' w' ∧ w'.ownsRow base e 1 v' (n + k) (xs ++ List.replicate k z) ∧ w.grownBy w' v.ownBlock := by
  have hkb : k * i.bytes ≤ 281474976710656 := by rw [hby]; exact Nat.le_trans (Nat.mul_le_mul_left k hb) (by omega)
  have hnb : (n + k) * i.bytes ≤ 140737488355328 := by rw [hby]; exact Nat.le_trans (Nat.mul_le_mul_left (n + k) hb) (by omega)
  have h63 : n + k ≤ maxLen := by simp only [maxLen]; omega
  have hlen : (xs ++ List.replicate k z).length = (n + k) * 1 := by rw [List.length_append, hown.1, List.length_replicate]; omega
  have grown : ∀ (old : Nat), old < n + k → ∀ (row : Option Nat),
      (w.drew.alloc (.cells (xs.toArray ++ Builtin.zeroCells z.cells k ++ Builtin.zeroCells z.cells (grownCap w (n + k) old e - (n + k))) e)).ownsRow base e 1
        (.slice (some ⟨w.heap.size, 0, none⟩) (n + k) (grownCap w (n + k) old e)) (n + k) (xs ++ List.replicate k z) ∧
      w.grownBy (w.drew.alloc (.cells (xs.toArray ++ Builtin.zeroCells z.cells k ++ Builtin.zeroCells z.cells (grownCap w (n + k) old e - (n + k))) e)) row := by
    intro old ho row
    have hge := grownCap_ge w (n + k) old e
    have hcm : grownCap w (n + k) old e ≤ maxLen := grownCap_le_maxLen w (n + k) old e h63
    refine ⟨⟨hlen, .inr ⟨w.heap.size, _, _, rfl, hbase, heap_alloc_new w.drew _, hge, hcm, ?_, ?_⟩⟩, ⟨rfl, rfl, rfl, by simp, fun j hj _ => by first | exact heap_alloc_old w.drew _ j hj | exact heap_alloc_old w.drew _ hj⟩⟩
    · have := hown.1
      simp only [Array.size_append, List.size_toArray, size_zeroCells, hzs, hown.1]
      simp
      omega
    · simp only [Array.toList_append, List.append_assoc, hzs, zeroCells_one]
      rw [← List.append_assoc, ← hlen]
      exact List.take_left
  rcases hown.2 with ⟨rfl, rfl⟩ | ⟨g, cap, cur, rfl, hbg, hg, hnc, hcm, hcs, htake⟩
  · have hx : xs = [] := List.eq_nil_of_length_eq_zero (by simpa using hown.1)
    subst hx
    have hr := Lib.run_append_nil_zeros (P := P) w t tn ty e i z kq kn ht htn hi hz k h0 (by omega) (by omega) hkb
    have hgr := grown 0 (by omega) (Value.ownBlock (.slice none 0 0))
    simp only [Nat.zero_add, List.nil_append, Array.empty_append] at hgr ⊢
    exact ⟨_, _, hr, hgr.1, hgr.2⟩
  · by_cases hroom : n + k ≤ cap
    · have hfit : n * 1 + 0 + (List.replicate k z).length ≤ cur.size := by rw [List.length_replicate, hcs]; omega
      have hst := run_storeCells_at P g (n * 1) e (List.replicate k z) 0 cur w hg hfit (fun u hu => by rw [List.eq_of_mem_replicate hu]; exact h1z)
      simp only [Nat.add_zero] at hst
      simp at hst
      have hw : IntKind.i64.wrap (k : Int) = k := by rw [IntKind.wrap_i64]; omega
      have hneg : ¬ ((k : Int) < 0) := by omega
      have hk0 : k ≠ 0 := by omega
      have h48i : ¬ (281474976710656 < (k : Int) * (i.bytes : Int)) := by
        rw [← Int.natCast_mul]
        omega
      have hr : (Builtin.append_ #[t, tn] ty #[.slice (some ⟨g, 0, none⟩) n cap, .int kq k]).run P w =
          .ok (.slice (some ⟨g, 0, none⟩) (n + k) cap) (w.setRow g (cur.toList.take (n * 1) ++ List.replicate k z ++ cur.toList.drop (n * 1 + (List.replicate k z).length)).toArray) := by
        simp [Builtin.append_, run_underlying ht, run_underlying htn, sizeOf, typeInfo, zeroValue, hi, hz, asInt, asIntOf, hw, hneg, hk0, h48i, hsize, hroom, Addr.add_lit, hzs, zeroCells_one, hst]
      refine ⟨_, _, hr, ⟨hlen, .inr ⟨g, cap, _, rfl, hbg, setRow_heap w g cur _ e _ hg, hroom, hcm, ?_, ?_⟩⟩, ⟨rfl, rfl, rfl, by simp, fun j _ hj => setRow_other w g j _ (fun e => hj (by simp [Value.ownBlock, e]))⟩⟩
      · simp only [List.size_toArray, List.length_append, List.length_take, List.length_drop, Array.length_toList, List.length_replicate]
        simp only [List.length_replicate] at hfit
        omega
      · rw [htake, ← hlen]
        exact List.take_left
    · have holds : ∀ j u, xs[j]? = some u → w.drew.cell? ((⟨g, 0, none⟩ : Addr).add j) = some u := hown.cells (g := g) rfl
      have hf := run_firstCells_some (P := P) w.drew i.size n ⟨g, 0, none⟩ n cap xs (by rw [hsize]; exact hown.1) holds
      have hr := Lib.run_append_grow_zeros (P := P) w t tn ty e i z kq kn ht htn hi hz (some ⟨g, 0, none⟩) n cap xs hf k h0 (by omega) (by omega) (by omega) hkb (growslice_fits (by omega) hnb)
      have hgr := grown cap (by omega) (Value.ownBlock (.slice (some ⟨g, 0, none⟩) n cap))
      exact ⟨_, _, hr, hgr.1, hgr.2⟩

theorem wpList_appZ {w : World} {ops : Array Oper} {rest : List Oper} {o : Oper} {a : Act} {Q : Exit → Act → World → Prop} (hgd : o.guard = none) (s x : Operand)
    (ho : o.op = .call { callee := .builtin .append, args := #[s, x], argTypes := #[23, 3] })
    (B k : Nat) (v : Value) (zss : List (List Int)) (hs : a.eval s = v) (hx : a.eval x = .int .i64 k) (hown : OwLL w B v zss) (hB : B ≤ w.heap.size) (h0 : 0 < k) (hn : zss.length + k < 1099511627776)
    (h : ∀ v' w', OwLL w' B v' (zss ++ List.replicate k []) → Below B w w' → wpList Try.prog ops Q rest (a.put o.dst v') w') :
    wpList Try.prog ops Q (o :: rest) a w := by
  obtain ⟨i0, hi, hz0, hz1, hz2⟩ := info_parts info_ints
  obtain ⟨vals, hl, hv, hin⟩ := hown
  obtain ⟨v', w', hr, hown', hg⟩ := run_append_own_zeros (P := Try.prog) w B 23 3 o.type 25 i0 (.slice none 0 0) .i64 .i64 24 Try.underlying23 Try.underlying3 hi hz0 hz1 hz2 rfl rfl v vals.length vals hv k h0 (by omega) (by decide) hB
  have hbel := (Below.refl B w).grown hg hB (fun j hj => (hv.lt j hj).1)
  refine Lib.wpList_append_run w hgd s x _ _ ho v _ hs hx v' w' hr (h v' w' ⟨vals ++ List.replicate k (Value.slice none 0 0), by simp [hl], by rw [OwV, List.length_append, List.length_replicate]; exact hown', fun i hi' => ?_⟩ hbel)
  have hi2 : i < zss.length + k := by simpa using hi'
  by_cases e : i < zss.length
  · have e1 : (vals ++ List.replicate k (Value.slice none 0 0)).getD i undef = vals.getD i undef := by
      have : i < vals.length := by omega
      simp [List.getElem?_append, this]
    have e2 : (zss ++ List.replicate k []).getD i [] = zss.getD i [] := by simp [List.getElem?_append, e]
    rw [e1, e2]
    exact own_of_block (hin i e) fun j hj => hg.block j ((hin i e).lt j hj).2 (fun h => own_ne hv (hin i e) h.symm hj)
  · have e3 : ¬ i < vals.length := by omega
    have e4 : i - vals.length < k := by omega
    have e1 : (vals ++ List.replicate k (Value.slice none 0 0)).getD i undef = Value.slice none 0 0 := by
      simp [List.getElem?_append, e3, e4]
    have e2 : (zss ++ List.replicate k []).getD i [] = [] := by
      have e5 : i - zss.length < k := by omega
      simp [List.getElem?_append, e, e5]
    rw [e1, e2]
    exact World.ownsRow_nil w' B _ 1

theorem OwI.baseT {w : World} {lo n c : Nat} {A : Option Addr} {zs : List Int} (h : OwI w lo (.slice A n c) zs) (hn : 0 < n) : ∃ b, A = some ⟨b, 0, none⟩ ∧ zs.length = n ∧ lo ≤ b := by
  rcases h.2 with ⟨e, h0⟩ | ⟨g, cap, cur, e, hl, _⟩
  · injection e with e1 e2 e3
    omega
  · injection e with e1 e2 e3
    exact ⟨g, e1, e2.symm, hl⟩

theorem OwI.lenT {w : World} {lo n c : Nat} {A : Option Addr} {zs : List Int} (h : OwI w lo (.slice A n c) zs) : zs.length = n := by
  rcases h.2 with ⟨e, h0⟩ | ⟨g, cap, cur, e, hl, _⟩
  · injection e with e1 e2 e3
    omega
  · injection e with e1 e2 e3
    exact e2.symm

def Sh10 (zss : List (List Int)) : Prop := ∀ t ∈ zss, t.length ≤ 10

theorem Sh10.nil : Sh10 [] := fun t h => by simp at h

theorem Sh10.snoc {zss : List (List Int)} {zs : List Int} (h : Sh10 zss) (hz : zs.length ≤ 10) : Sh10 (zss ++ [zs]) := fun t ht => by
  rcases List.mem_append.1 ht with ht | ht
  · exact h t ht
  · simp at ht; subst ht; exact hz

theorem Sh10.zeros {zss : List (List Int)} (h : Sh10 zss) (k : Nat) : Sh10 (zss ++ List.replicate k []) := fun t ht => by
  rcases List.mem_append.1 ht with ht | ht
  · exact h t ht
  · rw [List.eq_of_mem_replicate ht]; simp

theorem Sh10.sht {zss : List (List Int)} (h : Sh10 zss) : ShT zss := fun t ht => by have := h t ht; omega

def TrsPost (B g P : Nat) (w : World) (e : Ending) (w' : World) : Prop :=
  ∃ (v : Value) (zss : List (List Int)), e = .returned v ∧ OwLL w' w.heap.size v zss ∧ zss.length ≤ 11 ∧ Sh10 zss ∧ Rdr w' B g (P + 200) ∧ w.grownBy w' (some g)

set_option maxHeartbeats 4000000 in
theorem l92Traces_any {B g P : Nat} (w : World) (h : Rdr w B g P) (hP : P ≤ 800000) :
    Calls Try.prog 30 #[.pointer (some ⟨g, 0, none⟩)] w (TrsPost B g P w) := by
  have hg := h.lt
  have h' := hid h
  clear h
  go_enter Try.func30, Try.ntmps30
  go_wp2_with fail
  refine (l92Order_any w h'.out (by omega)).mono ?_
  rintro e w1 ⟨ov, order, rfl, hord, hol, hrd1, hgr1⟩
  have hz1 := hgr1.size
  have hb2 := (Below.refl w1.heap.size w1).alloc (Nat.le_refl _) (.cells #[] 25)
  have ho1 := Ow.of hord
  obtain ⟨Ao, co, rfl, _⟩ := hord.form
  obtain ⟨no, hno⟩ : ∃ no, order.length = no := ⟨_, rfl⟩
  rw [hno] at ho1 hol ⊢
  have hE2 := hid (OwLL.empty_lit (lo := w1.heap.size) w1 (Nat.le_refl _))
  have ho2 := hid (ho1.below hb2 (Nat.le_refl _))
  have hrd2 := hid (hrd1.below hb2 (by omega))
  have hgr2 := hid (grown_below hgr1 (hb2.mono hz1))
  clear hb2 ho1 hord hno hrd1 hgr1 h'
  go_wp2_with fail
  refine (pick_any 6 _ hrd2.out (by omega) (by omega) (by omega)).mono ?_
  rintro e w3 ⟨n0, rfl, hn0, hn1, hrd3, hgr3, hs3⟩
  have hE3 := hid (hE2.out.pick hgr3 (by omega))
  have ho3 := hid (ho2.out.pick hgr3 hg)
  have hgr3' := hid (grown_set hgr2.out hgr3)
  have hrd3' := hid hrd3
  have hz3 : w1.heap.size ≤ w3.heap.size := by have := hgr3.size; simp at this; omega
  obtain ⟨n, rfl⟩ := Int.eq_ofNat_of_zero_le hn0
  have hn5 : n ≤ 5 := by omega
  clear hE2 ho2 hrd2 hgr2 hrd3 hgr3 hs3 hn0 hn1
  go_wp2
  go_loopw [4, 6] (fun o i wr => ∃ (k : Nat) (zss : List (List Int)), k ≤ n ∧ i = .int .i64 k ∧ Hid (OwLL wr w1.heap.size o zss) ∧ Hid (zss.length = k) ∧ Hid (Sh10 zss) ∧ Hid (Ow wr w.heap.size w1.heap.size (.slice Ao no co) order) ∧ Hid (Rdr wr B g (P + 22 + 14 * k)) ∧ Hid (w.grownBy wr (some g)) ∧ w1.heap.size ≤ wr.heap.size) (fun _ i _ => n - (intOf i).toNat)
  case atStart => exact ⟨0, [], by omega, rfl, hE3, hid rfl, hid Sh10.nil, ho3, hid (hrd3'.out.le (by omega)), hgr3', hz3⟩
  case round =>
    clear hE3 ho3 hrd3' hgr3' hz3
    obtain ⟨k, zss, hk, rfl, hown, hzl, hsh, hord, hrd, hgr, hz⟩ := hrel
    have hgl : g < w.heap.size := hg
    by_cases hlt : k < n
    · have hkn : (k : Int) < (n : Int) := by omega
      go_wp2_with fail
      refine (l92Trace_any wr hrd.out (by omega) (hord.out.le hz) hg (by omega)).mono ?_
      rintro e w4 ⟨tv, ts, rfl, ht, htl, hrd4, hgr4⟩
      obtain ⟨At, ct, rfl, _⟩ := ht.form
      obtain ⟨nt, hnt⟩ : ∃ nt, ts.length = nt := ⟨_, rfl⟩
      rw [hnt] at ht htl ⊢
      have ht' := hid ht
      have hrd4' := hid hrd4
      have hgr4' := hid hgr4
      have hz4 := hgr4.size
      clear ht hrd4 hgr4 hnt hrd
      go_upto_region 8 with (fail)
      go_cut [30] (fun b wx => ∃ b0 : Bool, b = .bool b0 ∧ (b0 = true → 1 < nt) ∧ Hid (OwI wx wr.heap.size (.slice At nt ct) ts) ∧ Hid (Rdr wx B g (P + 22 + 14 * k + no + 1)) ∧ Hid (wr.grownBy wx (some g)))
      case first =>
        by_cases h1 : 1 < nt
        · have h1' : (1 : Int) < (nt : Int) := by omega
          go_wp2_with fail
          refine (pick_any 6 _ hrd4'.out (by omega) (by omega) (by omega)).mono ?_
          rintro e w5 ⟨y, rfl, hy0, hy1, hrd5, hgr5, hs5⟩
          have a1 := hid (ht'.out.pick hgr5 (by omega))
          have a2 := hid (grown_set hgr4'.out hgr5)
          have a3 := hid hrd5
          clear hgr5 hs5 hrd5
          go_wp2
          go_meet
          exact ⟨_, rfl, fun _ => h1, a1, a3, a2⟩
        · have h1' : ¬ (1 : Int) < (nt : Int) := by omega
          go_wp2
          go_meet
          exact ⟨false, rfl, (fun h => by cases h), ht', hid (hrd4'.out.le (by omega)), hgr4'⟩
      case rest =>
        clear ht' hrd4' hgr4' hz4
        obtain ⟨b0, rfl, hb0, ht, hrd, hgr4⟩ := hcut
        obtain ⟨w5, rfl⟩ : ∃ w5, wc = w5 := ⟨_, rfl⟩
        go_upto_if 30 with (fail)
        go_cut [7] (fun t wx => t = .slice At nt ct ∧ Hid (∃ ys, OwI wx wr.heap.size (.slice At nt ct) ys) ∧ Hid (Rdr wx B g (P + 22 + 14 * k + no + 2)) ∧ Hid (wr.grownBy wx (some g)))
        case first =>
          cases b0 with
          | false =>
            go_wp2
            go_meet
            exact ⟨rfl, hid ⟨ts, ht.out⟩, hid (hrd.out.le (by omega)), hgr4⟩
          | true =>
            have h1 := hb0 rfl
            have i1 : (1 : Int) ≤ (nt : Int) - 1 := by omega
            have i2 : (nt : Int) - 1 ≤ 1000000 := by omega
            obtain ⟨b, rfl, hnt, hbl⟩ := ht.out.baseT (by omega)
            go_wp2_with fail
            refine (pick_any ((nt : Int) - 1) _ hrd.out (by omega) i1 i2).mono ?_
            rintro e w6 ⟨y, rfl, hy0, hy1, hrd6, hgr6, hs6⟩
            obtain ⟨j, rfl⟩ := Int.eq_ofNat_of_zero_le hy0
            have hz6 : wr.heap.size ≤ w6.heap.size := Nat.le_trans hgr4.out.size hgr6.size
            have t6 := hid (ht.out.pick hgr6 (by omega))
            have hgr6' := hid (grown_set hgr4.out hgr6)
            have hrd6' := hid hrd6
            clear ht hrd hgr4 hrd6 hgr6 hs6 hb0
            have j1 : j < nt := by omega
            have j2 : j + 1 < nt := by omega
            have j3 : (j : Int) < (nt : Int) := by omega
            have j4 : (j : Int) + 1 < (nt : Int) := by omega
            obtain ⟨x, hx⟩ : ∃ x, ts[j]? = some x := ⟨_, List.getElem?_eq_getElem (by omega)⟩
            obtain ⟨y, hy⟩ : ∃ y, ts[j + 1]? = some y := ⟨_, List.getElem?_eq_getElem (by omega)⟩
            obtain ⟨c1, f1⟩ := t6.out.cellT hnt hx
            obtain ⟨c2, f2⟩ := t6.out.cellT hnt hy
            have p1 := t6.out.putT hnt j y
            have p2 := p1.putT (by simpa using hnt) (j + 1) x
            obtain ⟨c3, f3⟩ := p1.cellT (by simpa using hnt) (j := j + 1) (z := y) (by rw [List.getElem?_set_ne (by omega)]; exact hy)
            have p2' := hid p2
            have bs := hid ((((Below.refl wr.heap.size w6).setCell (p := ⟨b, j, none⟩) hbl (.int .i64 y))).setCell (p := ⟨b, j + 1, none⟩) hbl (.int .i64 x))
            clear p1 p2 hx hy t6
            go_wp2
            go_meet
            exact ⟨rfl, hid ⟨_, p2'.out⟩, hid ((hrd6'.out.below bs.out (by omega)).le (by omega)), hid (grown_below hgr6'.out bs.out)⟩
        case rest =>
          clear ht hrd hgr4 hb0
          obtain ⟨rfl, hys, hrd, hgr4⟩ := hcut
          obtain ⟨ys, hys⟩ := hys.out
          have hyl := hys.lenT
          have hz4 := hgr4.out.size
          have hL := hown.out.pick hgr4.out (by omega)
          have hO := hid (hord.out.pick hgr4.out hg)
          have hG := hid (grown_set hgr.out hgr4.out)
          have hrd' := hid hrd
          have hys' := hys.more hz
          clear hown hord hgr hgr4 hrd hys
          obtain ⟨w7, rfl⟩ : ∃ w7, wc = w7 := ⟨_, rfl⟩
          go_wp2_with (at_builtin; refine wpList_appS rfl (.tmp 53) (.tmp 55) rfl w1.heap.size _ _ ys zss rfl rfl hL hys' (by omega) (by rw [hzl.out]; omega) ?_; intro v' w' hown' hbel')
          go_roundw
          case rel => exact ⟨k + 1, _, by omega, by go_num, hid hown', hid (by simp [hzl.out]), hid (hsh.out.snoc (by omega)), hid (hO.out.below hbel' (Nat.le_refl _)), hid ((hrd'.out.out.below hbel' (by omega)).le (by omega)), hid (grown_below hG.out (hbel'.mono hz1)), Nat.le_trans (by omega) hbel'.size⟩
          case measure => simp [intOf]; omega
    · have hkn : ¬ (k : Int) < (n : Int) := by omega
      have hke : k = n := by omega
      subst hke
      clear hord
      go_wp2_with fail
      refine (pick_any 20 _ hrd.out (by omega) (by omega) (by omega)).mono ?_
      rintro e w4 ⟨x, rfl, hx0, hx1, hrd4, hgr4, hs4⟩
      have hL := hown.out.pick hgr4 (by omega)
      have hG := hid (grown_set hgr.out hgr4)
      have hz4 : w1.heap.size ≤ w4.heap.size := Nat.le_trans hz hgr4.size
      have hrd4' := hid hrd4
      clear hown hgr hrd hgr4 hs4 hrd4
      rcases (show x = 0 ∨ x = 1 ∨ x = 2 ∨ 3 ≤ x by omega) with rfl | rfl | rfl | hx3
      · obtain ⟨W, hW⟩ : ∃ W, w4.alloc (.cells #[.int .i64 3, .int .i64 3] 3) = W := ⟨_, rfl⟩
        have b1 : Below w4.heap.size w4 W := by rw [← hW]; exact (Below.refl w4.heap.size w4).alloc (Nat.le_refl _) _
        have l1 : OwI W w1.heap.size (.slice (some ⟨w4.heap.size, 0, none⟩) 2 2) [3, 3] := by rw [← hW]; exact World.ownsRow_lit w4 #[.int .i64 3, .int .i64 3] 2 hz4 (by decide) rfl
        have hsW := hid (show W.heap.size = w4.heap.size + 1 by rw [← hW]; simp)
        have hzW := hid (show w1.heap.size ≤ W.heap.size by rw [hsW.out]; omega)
        have hWW := hid hW
        have hL1 := hL.below b1
        have b1' := hid (b1.mono hz4)
        clear hL hW b1
        go_wp2_with (at_builtin; rw [hWW.out]; refine wpList_appS rfl (.tmp 61) (.tmp 63) rfl w1.heap.size _ _ [3, 3] zss rfl (by first | rfl | (rw [hsW.out]; rfl)) hL1 l1 hzW.out (by rw [hzl.out]; omega) ?_; intro v' w' hown' hbel')
        have hbb := hid (b1'.out.trans hbel')
        clear hbel' hL1 l1
        go_ret
        exact ⟨_, _, rfl, hown'.more (by omega), by simp [hzl.out]; omega, hsh.out.snoc (by simp), (hrd4'.out.below hbb.out (by omega)).le (by omega), grown_below hG.out (hbb.out.mono hz1)⟩
      · go_wp2_with fail
        refine (pick_any 14 _ hrd4'.out (by omega) (by omega) (by omega)).mono ?_
        rintro e w5 ⟨y, rfl, hy0, hy1, hrd5, hgr5, hs5⟩
        have hL5 := hL.pick hgr5 (by omega)
        have hG5 := hid (grown_set hG.out hgr5)
        have hz5 : w1.heap.size ≤ w5.heap.size := Nat.le_trans hz4 hgr5.size
        have hrd5' := hid hrd5
        obtain ⟨W, hW⟩ : ∃ W, w5.alloc (.cells #[.int .i64 (y - 1)] 3) = W := ⟨_, rfl⟩
        have b1 : Below w5.heap.size w5 W := by rw [← hW]; exact (Below.refl w5.heap.size w5).alloc (Nat.le_refl _) _
        have l1 : OwI W w1.heap.size (.slice (some ⟨w5.heap.size, 0, none⟩) 1 1) [y - 1] := by rw [← hW]; exact World.ownsRow_lit w5 #[.int .i64 (y - 1)] 1 hz5 (by decide) rfl
        have hsW := hid (show W.heap.size = w5.heap.size + 1 by rw [← hW]; simp)
        have hzW := hid (show w1.heap.size ≤ W.heap.size by rw [hsW.out]; omega)
        have hWW := hid hW
        have hL1 := hL5.below b1
        have b1' := hid (b1.mono hz5)
        clear hL hW hL5 hG hrd4' hgr5 hs5 hrd5 b1
        go_wp2_with (at_builtin; rw [hWW.out]; refine wpList_appS rfl (.tmp 67) (.tmp 72) rfl w1.heap.size _ _ [y - 1] zss rfl (by first | rfl | (rw [hsW.out]; rfl)) hL1 l1 hzW.out (by rw [hzl.out]; omega) ?_; intro v' w' hown' hbel')
        have hbb := hid (b1'.out.trans hbel')
        clear hbel' hL1 l1
        go_ret
        exact ⟨_, _, rfl, hown'.more (by omega), by simp [hzl.out]; omega, hsh.out.snoc (by simp), (hrd5'.out.below hbb.out (by omega)).le (by omega), grown_below hG5.out (hbb.out.mono hz1)⟩
      · go_wp2_with (at_builtin; refine wpList_appZ rfl (.tmp 76) (.const (.int .i64 6)) rfl w1.heap.size 6 _ zss rfl rfl hL hz4 (by omega) (by rw [hzl.out]; omega) ?_; intro v' w' hown' hbel')
        go_ret
        exact ⟨_, _, rfl, hown'.more (by omega), by simp [hzl.out]; omega, hsh.out.zeros 6, (hrd4'.out.below hbel' (by omega)).le (by omega), grown_below hG.out (hbel'.mono hz1)⟩
      · have x0 : (x == 0) = false := by simp; omega
        have x1 : (x == 1) = false := by simp; omega
        have x2 : (x == 2) = false := by simp; omega
        have hL' := hid hL
        obtain ⟨Al, cl, rfl, _⟩ := hL.form
        clear hL
        go_wp2
        go_ret
        exact ⟨_, zss, rfl, hL'.out.more (by omega), by rw [hzl.out]; omega, hsh.out, hrd4'.out.le (by omega), hG.out⟩

def DrawT (w : World) (e : Ending) (w' : World) : Prop :=
  ∃ (v : Value) (zss : List (List Int)), e = .returned v ∧ OwLL w' w.heap.size v zss ∧ zss.length ≤ 11 ∧ Sh10 zss ∧ Below w.heap.size w w'

set_option maxHeartbeats 1000000 in
theorem DrawTracesValid_any {a : Option Addr} {len cap : Nat} {zs : List Int} (w : World) (h : RowIs .u8 w a len cap zs) :
    Calls Try.prog 26 #[.slice a len cap] w (DrawT w) := by
  have h' := hid h
  clear h
  go_enter Try.func26, Try.ntmps26
  go_wp2_with fail
  refine (l6Open_any w h'.out).mono ?_
  rintro e w1 ⟨rfl, hrd, hb, hs⟩
  have hb' := hid hb
  have hs' := Nat.le_of_eq hs
  have hs2 := Nat.le_of_eq hs.symm
  clear hs hb
  go_wp2_with fail
  refine (l92Traces_any w1 hrd (by omega)).mono ?_
  rintro e w2 ⟨v, zss, rfl, hown, hl, hsh, _, hgr⟩
  go_wp2
  go_ret
  exact ⟨v, zss, rfl, hown.more (by omega), hl, hsh, hb'.out.grown hgr (by omega) (fun k hk => by injection hk with hk; omega)⟩

set_option maxHeartbeats 1000000 in
theorem DrawTraceOrder_any {a : Option Addr} {len cap : Nat} {zs : List Int} (w : World) (h : RowIs .u8 w a len cap zs) :
    Calls Try.prog 15 #[.slice a len cap] w (DrawT w) := by
  have h' := hid h
  clear h
  go_enter Try.func15, Try.ntmps15
  go_wp2_with fail
  refine (l6Open_any w h'.out).mono ?_
  rintro e w1 ⟨rfl, hrd, hb, hs⟩
  have hb' := hid hb
  have hs' := Nat.le_of_eq hs
  have hs2 := Nat.le_of_eq hs.symm
  clear hs hb
  go_wp2_with fail
  refine (l92Traces_any w1 hrd (by omega)).mono ?_
  rintro e w2 ⟨v, zss, rfl, hown, hl, hsh, _, hgr⟩
  go_wp2
  go_ret
  exact ⟨v, zss, rfl, hown.more (by omega), hl, hsh, hb'.out.grown hgr (by omega) (fun k hk => by injection hk with hk; omega)⟩

set_option maxHeartbeats 1000000 in
theorem DrawTraceCycle_any {a : Option Addr} {len cap : Nat} {zs : List Int} (w : World) (h : RowIs .u8 w a len cap zs) :
    Calls Try.prog 23 #[.slice a len cap] w (DrawT w) := by
  have h' := hid h
  clear h
  go_enter Try.func23, Try.ntmps23
  go_wp2_with fail
  refine (l6Open_any w h'.out).mono ?_
  rintro e w1 ⟨rfl, hrd, hb, hs⟩
  have hb' := hid hb
  have hs' := Nat.le_of_eq hs
  have hs2 := Nat.le_of_eq hs.symm
  clear hs hb
  go_wp2_with fail
  refine (l92Traces_any w1 hrd (by omega)).mono ?_
  rintro e w2 ⟨v, zss, rfl, hown, hl, hsh, _, hgr⟩
  go_wp2
  go_ret
  exact ⟨v, zss, rfl, hown.more (by omega), hl, hsh, hb'.out.grown hgr (by omega) (fun k hk => by injection hk with hk; omega)⟩

def DrawTwoT (w : World) (e : Ending) (w' : World) : Prop :=
  ∃ (v u : Value) (xs ys : List Int), e = .returned (.tuple #[v, u]) ∧ OwI w' w.heap.size v xs ∧ OwI w' w.heap.size u ys ∧ xs.length ≤ 10 ∧ ys.length ≤ 10 ∧ Below w.heap.size w w'

set_option maxHeartbeats 2000000 in
theorem DrawTraceFollows_any {a : Option Addr} {len cap : Nat} {zs : List Int} (w : World) (h : RowIs .u8 w a len cap zs) :
    Calls Try.prog 28 #[.slice a len cap] w (DrawTwoT w) := by
  have h' := hid h
  clear h
  go_enter Try.func28, Try.ntmps28
  go_wp2_with fail
  refine (l6Open_any w h'.out).mono ?_
  rintro e w1 ⟨rfl, hrd, hb, hs⟩
  have hb' := hid hb
  have hs' := Nat.le_of_eq hs
  have hs2 := Nat.le_of_eq hs.symm
  clear hs hb
  go_wp2_with fail
  refine (l92Order_any w1 hrd (by omega)).mono ?_
  rintro e w2 ⟨ov, order, rfl, hord, hol, hrd2, hgr2⟩
  have hz2 := hgr2.size
  have ho2 := Ow.of hord
  obtain ⟨Ao, co, rfl, _⟩ := hord.form
  obtain ⟨no, hno⟩ : ∃ no, order.length = no := ⟨_, rfl⟩
  rw [hno] at ho2 hol ⊢
  have hno' := hid hno
  have hB2 := hid (hb'.out.grown hgr2 (by omega) (fun k hk => by injection hk with hk; omega))
  clear hord hno hrd hgr2
  go_wp2_with fail
  refine (l92Trace_any w2 hrd2 (by omega) ho2 (by omega) (by omega)).mono ?_
  rintro e w3 ⟨tv, ts, rfl, ht, htl, hrd3, hgr3⟩
  have ho3 := hid (ho2.pick hgr3 (by omega))
  have hz3 := hgr3.size
  have hB3 := hid (hB2.out.grown hgr3 (by omega) (fun k hk => by injection hk with hk; omega))
  obtain ⟨At, ct, rfl, _⟩ := ht.form
  obtain ⟨nt, hnt⟩ : ∃ nt, ts.length = nt := ⟨_, rfl⟩
  rw [hnt] at ht htl ⊢
  have ht' := hid ht
  clear ho2 hgr3 hrd2 hB2 ht
  go_wp2_with fail
  refine (pick_any 3 w3 hrd3 (by omega) (by omega) (by omega)).mono ?_
  rintro e w4 ⟨x, rfl, hx0, hx1, hrd4, hgr4, hs4⟩
  have ho4 := hid (ho3.out.pick hgr4 (by omega))
  have ht4 := hid (ht'.out.pick hgr4 (by omega))
  have hz4 := hgr4.size
  have hB4 := hid (hB3.out.grown hgr4 (by omega) (fun k hk => by injection hk with hk; omega))
  clear ho3 ht' hB3 hgr4 hs4 hrd3
  have fin : ∀ (v6 : World) (ys : List Int), OwI v6 w2.heap.size (.slice At nt ct) ys → Ow v6 w1.heap.size w2.heap.size (.slice Ao no co) order → Below w.heap.size w v6 →
      DrawTwoT w (.returned (.tuple #[.slice At nt ct, .slice Ao no co])) v6 := fun v6 ys h1 h2 h3 =>
    ⟨_, _, ys, order, rfl, h1.more (by omega), h2.1.more (by omega), by have := h1.lenT; omega, by rw [hno'.out]; omega, h3⟩
  have fin' := hid fin
  clear fin
  by_cases hx : x = 0
  · subst hx
    by_cases hn0 : 0 < nt
    · have i0 : (0 : Int) < (nt : Int) := by omega
      have i1 : (1 : Int) ≤ (nt : Int) := by omega
      have i2 : (nt : Int) ≤ 1000000 := by omega
      obtain ⟨b, rfl, hyl, hbl⟩ := ht4.out.baseT hn0
      go_wp2_with fail
      refine (pick_any (nt : Int) w4 hrd4 (by omega) i1 i2).mono ?_
      rintro e w5 ⟨y, rfl, hy0, hy1, hrd5, hgr5, hs5⟩
      have ho5 := hid (ho4.out.pick hgr5 (by omega))
      have ht5 := hid (ht4.out.pick hgr5 (by omega))
      have hz5 := hgr5.size
      have hB5 := hid (hB4.out.grown hgr5 (by omega) (fun k hk => by injection hk with hk; omega))
      clear ho4 ht4 hB4 hgr5 hs5 hrd4
      go_wp2_with fail
      refine (pick_any 13 w5 hrd5 (by omega) (by omega) (by omega)).mono ?_
      rintro e w6 ⟨z, rfl, hz0, hz1, hrd6, hgr6, hs6⟩
      have ho6 := hid (ho5.out.pick hgr6 (by omega))
      have ht6 := hid (ht5.out.pick hgr6 (by omega))
      have hz6 := hgr6.size
      have hB6 := hid (hB5.out.grown hgr6 (by omega) (fun k hk => by injection hk with hk; omega))
      clear ho5 ht5 hB5 hgr6 hs6 hrd5 hrd6
      obtain ⟨j, rfl⟩ := Int.eq_ofNat_of_zero_le hy0
      obtain ⟨q, hq⟩ : ∃ q, ts[j]? = some q := ⟨_, List.getElem?_eq_getElem (by omega)⟩
      obtain ⟨c1, f1⟩ := ht6.out.cellT hyl hq
      have p1 := hid (ht6.out.putT hyl j z)
      have bs := hid ((Below.refl w2.heap.size w6).setCell (p := ⟨b, j, none⟩) (by omega) (.int .i64 z))
      have oo := hid (ho6.out.below bs.out (Nat.le_refl _))
      have bb := hid (hB6.out.trans (bs.out.mono (by omega)))
      clear ho6 ht6 hB6 hq
      go_wp2
      go_ret2
      exact fin'.out _ _ p1.out oo.out bb.out
    · have i0 : ¬ (0 : Int) < (nt : Int) := by omega
      go_wp2
      go_ret2
      exact fin'.out _ _ ht4.out ho4.out hB4.out
  · have hx' : (x == 0) = false := by rw [beq_eq_false_iff_ne]; exact hx
    go_wp2
    go_ret2
    exact fin'.out _ _ ht4.out ho4.out hB4.out
end Go.Proofs.Ytdhafappclcijaa
