/-
  The walk of the law FnTraceFewer. No condition.
-/
import Derived.Test.YtdhafappclcijaaTlM
import Derived.Test.YtdhafappclcijaaTlN
import Derived.Deep.RegionHeld3
namespace Go.Proofs.Ytdhafappclcijaa
open Go.RowKit
set_option linter.unusedVariables false
set_option linter.unusedSimpArgs false

theorem RdT.cutR {w : World} {B n k cap : Nat} {ad : Addr} {zss : List (List Int)} (h : RdT w B (some ad) n zss) (hk : k ≤ n) (hc : n ≤ cap) : RdT w B (some (if cap = k then ad else ad.add k)) (n - k) (zss.drop k) := by
  have hl := h.1
  refine ⟨by rw [List.length_drop, hl], fun h0 => ?_⟩
  obtain ⟨ad', e, hb, hcell⟩ := h.2 (by omega)
  injection e with e
  subst e
  rw [if_neg (by omega)]
  refine ⟨_, rfl, by rw [block_of_add]; exact hb, fun i zs hz => ?_⟩
  rw [add_of_add]
  exact hcell _ zs (by rw [← hz, List.getElem?_drop])

theorem OwV.baseV {w : World} {lo n c : Nat} {A : Option Addr} {vals : List Value} (h : OwV w lo (.slice A n c) vals) (hn : 0 < n) : ∃ g, A = some ⟨g, 0, none⟩ ∧ vals.length = n ∧ lo ≤ g := by
  rcases h.2 with ⟨e, h0⟩ | ⟨g, cap, cur, e, hl, _⟩
  · injection e with e1 e2 e3
    omega
  · injection e with e1 e2 e3
    exact ⟨g, e1, e2.symm, hl⟩

theorem OwLL.baseT {w : World} {lo n c : Nat} {A : Option Addr} {zss : List (List Int)} (h : OwLL w lo (.slice A n c) zss) (hn : 0 < n) : ∃ g, A = some ⟨g, 0, none⟩ := by
  obtain ⟨vals, _, hv, _⟩ := h
  obtain ⟨g, e, _⟩ := hv.baseV hn
  exact ⟨g, e⟩

theorem step_appA {w : World} {ops : Array Oper} {o : Oper} {a : Act} {K : Act → World → Prop} {Q : Exit → Act → World → Prop} {E : Prop} (hgd : o.guard = none) (s x : Operand)
    (ho : o.op = .call { callee := .builtin .append, args := #[s, x], argTypes := #[23, 23] }) {B m c : Nat} {v : Value} {xss yss : List (List Int)} {A : Option Addr} (hs : a.eval s = v) (hx : a.eval x = .slice A m c)
    (hown : OwA w B v xss) (hr : RdT w B A m yss) (hB : B ≤ w.heap.size) (hn : xss.length + m < 1099511627776)
    (h : ∀ v' w', OwA w' B v' (xss ++ yss) → Below B w w' → K (a.put o.dst v') w') : if Region.wanted o (yielded ops a.tmps) = true then Oper.wp Try.prog o a w K Q else E := by
  have hw : Region.wanted o (yielded ops a.tmps) = true := by simp [Region.wanted, hgd]
  rw [if_pos hw]
  obtain ⟨news, hin, hc⟩ := hr.vals
  obtain ⟨v', w', h1, h2, _, h4⟩ := run_appA (ty := o.type) (c := c) hown hin (by rw [hin.1, hr.1]) (fun e => by
    rcases Nat.eq_zero_or_pos m with h0 | h0
    · exact h0
    · obtain ⟨ad, h9, _⟩ := hr.2 h0
      rw [e] at h9; cases h9) hc hB hn
  exact Lib.wp_append_run w s x _ _ ho v _ hs hx v' w' h1 (h v' w' h2 h4)
/-- a store of a slice into a slice of slices of the law's own -/
theorem OwA.put {w : World} {lo b n c m ci k : Nat} {Ai : Option Addr} {zss : List (List Int)} {us : List Int} (h : OwA w lo (.slice (some ⟨b, 0, none⟩) n c) zss) (hk : k < n) (hr : RdI w lo Ai m us) (hmc : m ≤ ci) (hcc : ci ≤ 9223372036854775807) :
    (∃ v, w.cell? ⟨b, k, none⟩ = some v ∧ w.frozen? ⟨b, k, none⟩ = false) ∧ OwA (w.setCell ⟨b, k, none⟩ (.slice Ai m ci)) lo (.slice (some ⟨b, 0, none⟩) n c) (zss.set k us) ∧ lo ≤ b := by
  obtain ⟨vals, hv, hin⟩ := h
  obtain ⟨b', e, hvl, hlb⟩ := hv.baseV (by omega)
  injection e with e
  injection e with e _ _
  subst e
  have ho : w.ownsRow lo 25 1 (.slice (some ⟨b, 0, none⟩) n c) n vals := by
    rw [OwV, hvl] at hv; exact hv
  have hkl : k < vals.length := by omega
  refine ⟨⟨vals[k], ?_, ho.frozenAt k⟩, ⟨vals.set k (.slice Ai m ci), ?_, ?_⟩, hlb⟩
  · rw [ho.cellAt k (by omega), List.getElem?_eq_getElem hkl]
  · rw [OwV, List.length_set, hvl]; exact (ho.stored k _).1
  · refine InR.keep (w := w) ⟨by rw [List.length_set, List.length_set, hin.1], fun i zs hz => ?_⟩ fun p hp => World.cell?_setCell_other w _ _ _ (fun e => by have := congrArg Addr.block e; simp at this; omega)
    by_cases e : k = i
    · subst e
      rw [List.getElem?_set_self (by rw [← hin.1]; exact hkl)] at hz
      injection hz with hz
      subst hz
      exact ⟨Ai, ci, by rw [List.getElem?_set_self hkl, hr.len], by rw [hr.len]; exact hr, by rw [hr.len]; exact hmc, hcc⟩
    · rw [List.getElem?_set_ne e] at hz
      rw [List.getElem?_set_ne e]
      exact hin.2 i zs hz

set_option maxRecDepth 100000 in
set_option maxHeartbeats 8000000 in
theorem lawTraceFewer {a b : Option Addr} {len cap len2 cap2 : Nat} {cs : List Int} (w : World) (h : RowIs .u8 w a len cap cs) :
    Calls Try.prog 9 #[.slice a len cap, .slice b len2 cap2] w fun e w' => e = .returned (.bool true) ∧ Below w.heap.size w w' := by
  have h' := hid h
  clear h
  by_cases hbig : len ≤ 1048576
  · by_cases hbig2 : len2 ≤ 1048576
    case neg =>
      go_enter Try.func9, Try.ntmps9
      go_wp2
      go_ret
      exact ⟨rfl, Below.refl _ _⟩
    go_enter Try.func9, Try.ntmps9
    go_wp2_with fail
    refine (DrawTraceOrder_any w h'.out).mono ?_
    rintro e w1 ⟨v, zss, rfl, hT, hl1, hsh, hb1⟩
    have hB1 := hid hb1
    have hs1 := hb1.size
    have hS := hid hsh.sht
    have hS10 := hid hsh
    obtain ⟨A, n, c, rfl, hn, hnc, hc⟩ := hT.atT
    have hT1 := hid hT
    rw [hn] at hl1
    have hn' := hid hn
    clear hT hsh hb1 hn
    obtain ⟨K, hK⟩ : ∃ K, okT zss = K := ⟨_, rfl⟩
    obtain ⟨O, hO⟩ : ∃ O, toR zss = O := ⟨_, rfl⟩
    obtain ⟨m, hm⟩ : ∃ m, O.length = m := ⟨_, rfl⟩
    have hm12 : m ≤ 12 := by rw [← hm, ← hO]; exact toR_len
    have hK := hid hK
    have hO := hid hO
    have hm := hid hm
    go_wp2_with fail
    refine (TraceOrder_isI hK.out hO.out hm.out w1 hT1.out.rdT (by omega) hS.out).mono ?_
    rintro e w2 ⟨A2, c2, rfl, ho, hb, hoc, hoc2⟩
    have lo_2 := hid (Lv.ofI ho)
    have hT2 := hid (hT1.out.below hb)
    have hB2 := hid (hB1.out.trans (hb.mono hs1))
    have hs2 := hb.size
    clear ho hb hT1 hB1
    go_wp2_with fail
    refine (TraceOrder_isS hK.out hO.out hm.out w2 hT2.out.rdT (by omega) hS.out).mono ?_
    rintro e w3 ⟨A3, c3, rfl, hp, hb, hpc, hpc2⟩
    have lp_3 := hid (Lv.ofI hp)
    have lo_3 := hid (lo_2.out.step hb)
    have hT3 := hid (hT2.out.below hb)
    have hB3 := hid (hB2.out.trans (hb.mono (by omega)))
    have hs3 := hb.size
    clear hp hb hT2 hB2 lo_2
    have hKK : (K != K) = false := by cases K <;> rfl
    have hKE : (K == K) = true := by cases K <;> rfl
    go_wp2_with fail
    refine (sameInts_self w3 lo_3.out.at_ lp_3.out.at_ (by omega)).mono ?_
    rintro e w4 ⟨rfl, hq⟩
    have lo_4 := hid (lo_3.out.quiet hq)
    have lp_4 := hid (lp_3.out.quiet hq)
    have hT4 := hid (hT3.out.quiet hq)
    have hB4 := hid (hB3.out.trans (hq.below _))
    have hs4 : w3.heap.size ≤ w4.heap.size := Nat.le_of_eq hq.size.symm
    clear hq lo_3 lp_3 hT3 hB3
    cases K with
    | false =>
      go_wp2_with fail
      refine (sameInts_self w4 lo_4.out.at_ lp_4.out.at_ (by omega)).mono ?_
      rintro e w5 ⟨rfl, hq⟩
      have lo_5 := hid (lo_4.out.quiet hq)
      have lp_5 := hid (lp_4.out.quiet hq)
      have hT5 := hid (hT4.out.quiet hq)
      have hB5 := hid (hB4.out.trans (hq.below _))
      have hs5 : w4.heap.size ≤ w5.heap.size := Nat.le_of_eq hq.size.symm
      clear hq lo_4 lp_4 hT4 hB4
      go_wp2
      go_ret
      exact ⟨rfl, hB5.out⟩
    | true =>
      by_cases h0 : n = 0
      · have h0' : ((n : Int) == 0) = true := by simp [h0]
        clear h0
        go_wp2_with fail
        refine (sameInts_self w4 lo_4.out.at_ lp_4.out.at_ (by omega)).mono ?_
        rintro e w5 ⟨rfl, hq⟩
        have lo_5 := hid (lo_4.out.quiet hq)
        have lp_5 := hid (lp_4.out.quiet hq)
        have hT5 := hid (hT4.out.quiet hq)
        have hB5 := hid (hB4.out.trans (hq.below _))
        have hs5 : w4.heap.size ≤ w5.heap.size := Nat.le_of_eq hq.size.symm
        clear hq lo_4 lp_4 hT4 hB4
        go_wp2
        go_ret
        exact ⟨rfl, hB5.out⟩
      · have h0' : ((n : Int) == 0) = false := by simp [h0]
        have hpos : 0 < n := by omega
        obtain ⟨g, rfl⟩ := hT4.out.baseT hpos
        have hmlt : len2 % n < n := Nat.mod_lt _ hpos
        have t1 : (len2 : Int).tmod (n : Int) = ((len2 % n : Nat) : Int) := by rw [Int.tmod_eq_emod_of_nonneg (by omega)]; simp
        generalize len2 % n = k at hmlt t1
        have hr2 := hid hT4.out.rdT
        have hKt := hid hK.out
        clear h0 lo_4 lp_4
        go_wp2_with fail
        have hkc : k ≤ c := by omega
        have hkn : k ≤ n := by omega
        have hk1 : (k : Int) + 1 ≤ (n : Int) := by omega
        have hk1' : k + 1 ≤ n := by omega
        have hk1c : k + 1 ≤ c := by omega
        have hw1 : IntKind.i64.wrap ((k : Int) + 1) = (k : Int) + 1 := IntWalk.i64_in _ (by omega)
        have hz1 : (0 : Int) ≤ (k : Int) + 1 := by omega
        have ht1 : ((k : Int) + 1).toNat = k + 1 := by omega
        obtain ⟨ad2, had2, hrr⟩ : ∃ ad2 : Addr, Hid ((if c = k + 1 then some (⟨g, 0, none⟩ : Addr) else some ⟨g, k + 1, none⟩) = some ad2) ∧ Hid (RdT w4 w4.heap.size (some ad2) (n - (k + 1)) (zss.drop (k + 1))) := by
          have h0 := RdT.cutR (k := k + 1) (cap := c) hr2.out hk1' hnc
          by_cases e : c = k + 1
          · rw [if_pos e] at h0
            exact ⟨_, hid (if_pos e), hid h0⟩
          · rw [if_neg e] at h0
            exact ⟨⟨g, k + 1, none⟩, hid (if_neg e), hid (by simpa [Addr.add] using h0)⟩
        have hx1 := hid (RdT.take hr2.out hkn)
        refine wp_region_held_drew (S := fun _ => True) (by kernel_rfl) trivial (fun hHeld => ?_)
        refine wpAnyH_take (i := 1) (oi := _) (v := ?v1) rfl (by kernel_rfl) (by kernel_rfl) (by kernel_rfl) (fun _ _ _ h => h) (Or.inl ⟨by kernel_rfl, ?h1⟩) (by assumption) ?r1
        case h1 => ((intro w hSw; (try dsimp only at hSw); go_simp) <;> (with_reducible rfl))
        try simp only [List.getElem_toArray, List.getElem_cons_zero, List.getElem_cons_succ, Act.put, List.setIfInBounds_toArray, List.set_cons_zero, List.set_cons_succ]
        refine wpAnyH_take (i := 2) (oi := _) (v := ?v2) rfl (by kernel_rfl) (by kernel_rfl) (by kernel_rfl) (fun _ _ _ h => h) (Or.inl ⟨by kernel_rfl, ?h2⟩) (by assumption) ?r2
        case h2 => ((intro w hSw; (try dsimp only at hSw); go_simp) <;> (with_reducible rfl))
        try simp only [List.getElem_toArray, List.getElem_cons_zero, List.getElem_cons_succ, Act.put, List.setIfInBounds_toArray, List.set_cons_zero, List.set_cons_succ]
        refine wpAnyH_take (i := 3) (oi := _) (v := ?v3) rfl (by kernel_rfl) (by kernel_rfl) (by kernel_rfl) (fun _ _ _ h => h) (Or.inl ⟨by kernel_rfl, ?h3⟩) (by assumption) ?r3
        case h3 => ((intro w hSw; (try dsimp only at hSw); go_simp) <;> (with_reducible rfl))
        try simp only [List.getElem_toArray, List.getElem_cons_zero, List.getElem_cons_succ, Act.put, List.setIfInBounds_toArray, List.set_cons_zero, List.set_cons_succ]
        refine wpAnyH_take (i := 5) (oi := _) (v := ?v5) rfl (by kernel_rfl) (by kernel_rfl) (by kernel_rfl) (fun _ _ _ h => h) (Or.inl ⟨by kernel_rfl, ?h5⟩) (by assumption) ?r5
        case h5 => ((intro w hSw; (try dsimp only at hSw); go_simp) <;> (with_reducible rfl))
        try simp only [List.getElem_toArray, List.getElem_cons_zero, List.getElem_cons_succ, Act.put, List.setIfInBounds_toArray, List.set_cons_zero, List.set_cons_succ]
        refine wpAnyH_take (i := 6) (oi := _) (v := ?v6) rfl (by kernel_rfl) (by kernel_rfl) (by kernel_rfl) (fun _ _ _ h => h) (Or.inl ⟨by kernel_rfl, ?h6⟩) (by assumption) ?r6
        case h6 => ((intro w hSw; (try dsimp only at hSw); go_simp) <;> (with_reducible rfl))
        try simp only [List.getElem_toArray, List.getElem_cons_zero, List.getElem_cons_succ, Act.put, List.setIfInBounds_toArray, List.set_cons_zero, List.set_cons_succ]
        refine wpAnyH_take (i := 7) (oi := _) (v := ?v7) rfl (by kernel_rfl) (by kernel_rfl) (by kernel_rfl) (fun _ _ _ h => h) (Or.inl ⟨by kernel_rfl, ?h7⟩) (by assumption) ?r7
        case h7 => ((intro w hSw; (try dsimp only at hSw); go_simp) <;> (with_reducible rfl))
        try simp only [List.getElem_toArray, List.getElem_cons_zero, List.getElem_cons_succ, Act.put, List.setIfInBounds_toArray, List.set_cons_zero, List.set_cons_succ]
        refine wpAnyH_take (i := 8) (oi := _) (v := .slice (some ad2) (n - (k + 1)) (c - (k + 1))) rfl (by kernel_rfl) (by kernel_rfl) (by kernel_rfl) (fun _ _ _ h => h) (Or.inl ⟨by kernel_rfl, ?h8⟩) (by assumption) ?r8
        case h8 => (intro w hSw; go_simp; exact had2.out)
        try simp only [List.getElem_toArray, List.getElem_cons_zero, List.getElem_cons_succ, Act.put, List.setIfInBounds_toArray, List.set_cons_zero, List.set_cons_succ]
        refine wpAnyH_ready (rs := [0]) (by kernel_rfl) (by simp) ?_
        refine AllReadyH.cons (o := _) rfl (fun K hK => ?_) AllReadyH.nil
        go_simp
        refine hK.out _ _ trivial (fun hHeld => ?_)
        clear hK K
        try simp only [List.getElem_toArray, List.getElem_cons_zero, List.getElem_cons_succ, Act.put, List.setIfInBounds_toArray, List.set_cons_zero, List.set_cons_succ]
        refine wpAnyH_ready (rs := [4]) (by kernel_rfl) (by simp) ?_
        refine AllReadyH.cons (o := _) rfl (fun K hK => ?_) AllReadyH.nil
        refine step_appA rfl (.tmp 68) (.tmp 71) rfl (B := w4.heap.size) (xss := []) (yss := zss.take k) rfl rfl (OwA.empty_lit w4.drew) (RdT.alloc (w := w4.drew) hx1.out (Nat.le_refl _) _) (by simp) (by simp; omega) ?_
        intro v3 w5 hown3 hb3
        refine hK.out _ _ trivial (fun hHeld => ?_)
        clear hK K
        try simp only [List.getElem_toArray, List.getElem_cons_zero, List.getElem_cons_succ, Act.put, List.setIfInBounds_toArray, List.set_cons_zero, List.set_cons_succ]
        have hB45 := hid ((((Below.refl w4.heap.size w4).drew).alloc (Nat.le_refl _) (.cells #[] 25)).trans hb3)
        have hsz5 := hB45.out.size
        have hrr5 := hid (RdT.below hrr.out hB45.out)
        refine wpAnyH_ready (rs := [9]) (by kernel_rfl) (by simp) ?_
        refine AllReadyH.cons (o := _) rfl (fun K hK => ?_) AllReadyH.nil
        refine step_appA rfl (.tmp 72) (.tmp 76) rfl (B := w4.heap.size) (xss := [] ++ zss.take k) (yss := zss.drop (k + 1)) rfl rfl hown3 hrr5.out hsz5 (by simp; omega) ?_
        intro v4 w6 hown4 hb4
        refine hK.out _ _ trivial (fun hHeld => ?_)
        clear hK K
        try simp only [List.getElem_toArray, List.getElem_cons_zero, List.getElem_cons_succ, Act.put, List.setIfInBounds_toArray, List.set_cons_zero, List.set_cons_succ]
        refine wpAnyH_take (i := 10) (oi := _) (v := ?v10) rfl (by kernel_rfl) (by kernel_rfl) (by kernel_rfl) (fun _ _ _ h => h) (Or.inl ⟨by kernel_rfl, ?h10⟩) (by assumption) ?r10
        case h10 => ((intro w hSw; (try dsimp only at hSw); go_simp) <;> (with_reducible rfl))
        try simp only [List.getElem_toArray, List.getElem_cons_zero, List.getElem_cons_succ, Act.put, List.setIfInBounds_toArray, List.set_cons_zero, List.set_cons_succ]
        refine wpAnyH_done (by kernel_rfl) ?_ _
        have hB46 := hid (hB45.out.trans hb4)
        have hsz6 := hB46.out.size
        rw [List.nil_append] at hown4
        have hT6 := hid (hT4.out.below hB46.out)
        have hB6 := hid (hB4.out.trans (hB46.out.mono (by omega)))
        have hL6 := hid hown4
        have hE := hid (OwA.empty_lit w6)
        have hR := hid (RdT.alloc hT6.out.rdT (Nat.le_refl _) (.cells #[] 25))
        have hsz := hid (show w6.heap.size ≤ (w6.alloc (.cells #[] 25)).heap.size by simp)
        have b6 := hid ((Below.refl w6.heap.size w6).alloc (Nat.le_refl _) (.cells #[] 25))
        clear hown4 hown3 hb3 hb4 hw1 ht1 hT4 hx1 hrr hrr5 had2
        go_wp2_with (at_builtin; refine wpList_appA rfl (.tmp 78) (.tmp 79) rfl (B := w6.heap.size) (xss := []) (yss := zss) rfl rfl hE.out hR.out hsz.out (by simp; omega) ?_; intro v7 w7 hA7 hb7)
        have hz67 : w6.heap.size ≤ w7.heap.size := Nat.le_trans hsz.out hb7.size
        have hb67 := hid (b6.out.trans hb7)
        rw [List.nil_append] at hA7
        obtain ⟨A7, c7, rfl, -, hc7, hc72⟩ := hA7.form hz67
        rw [hn'.out] at hA7 hc7 ⊢
        obtain ⟨b7, rfl⟩ : ∃ b7, A7 = some ⟨b7, 0, none⟩ := by
          obtain ⟨vals, hv, _⟩ := hA7
          obtain ⟨q, e, _⟩ := hv.baseV hpos
          exact ⟨q, e⟩
        obtain ⟨ad', Ak, mk, ck, tk, e, htk, hmk, -, hck, hrk, hmck, hcck⟩ := hT6.out.rdT.at_ hmlt
        injection e with e
        subst e
        have hgl : g < w6.heap.size := by have := World.block_lt_of_cell? w6 _ hck; rwa [block_of_add] at this
        have hck7 : w7.cell? ⟨g, k, none⟩ = some (.slice Ak mk ck) := by
          have h1 := (hb67.out.cell (p := (⟨g, 0, none⟩ : Addr).add k) (by rw [block_of_add]; exact hgl)).trans hck
          rwa [Addr.add_lit, Nat.zero_add] at h1
        obtain ⟨hf, hhf⟩ : ∃ hf, mk / 2 = hf := ⟨_, rfl⟩
        have hmk2 : hf ≤ mk := by omega
        have hmk9 : mk ≤ 10 := by rw [← hmk.out]; exact hS10.out _ (List.mem_of_getElem? htk.out)
        have hrc := hid (Reads.below (RdI.cutT hrk.out hmk2) hb67.out)
        obtain ⟨⟨vo, c0, f0⟩, hP, hlb⟩ := hA7.put hmlt hrc.out (by omega) hcck
        have hP := hid hP
        have kn : (k : Int) < (n : Int) := by omega
        have k0 : (0 : Int) ≤ (k : Int) := by omega
        have hne : b7 ≠ g := by omega
        have t2 : IntKind.i64.wrap ((mk : Int) / 2) = (hf : Int) := by rw [IntWalk.i64_in _ (by omega)]; omega
        have mk2 : hf ≤ ck := by omega
        have mk3 : (hf : Int) ≤ (ck : Int) := by omega
        have mk0 : (0 : Int) ≤ (hf : Int) := by omega
        have hA7' := hid hA7
        obtain ⟨w8, hw8⟩ : ∃ W, (w7.setCell ⟨b7, k, none⟩ (.slice Ak hf ck)).drew = W := ⟨_, rfl⟩
        have b8 : Below w6.heap.size w7 w8 := by rw [← hw8]; exact ((Below.refl w6.heap.size w7).setCell (p := ⟨b7, k, none⟩) hlb _).drew
        have hP8 := hid (show OwA w8 w6.heap.size (.slice (some ⟨b7, 0, none⟩) n c7) (zss.set k (tk.take hf)) by rw [← hw8]; exact hP.out)
        have hz8 : w6.heap.size ≤ w8.heap.size := Nat.le_trans hz67 b8.size
        have hL8 := hid (hL6.out.below (hb67.out.trans b8) (by omega))
        have hB8 := hid (hB6.out.trans ((hb67.out.trans b8).mono (by omega)))
        have hck8 := hid ((b8.cell (p := ⟨g, k, none⟩) hgl).trans hck7)
        replace hw8 := hid hw8
        clear hA7 hb7 hE hR b6 hrk hck hT6 hB6 hL6 hrc t1 hP b8
        clear hhf
        refine wp_region_held_drew (S := fun W => W.cell? ⟨g, k, none⟩ = some (.slice Ak mk ck)) (by kernel_rfl) hck7 (fun hHeld => ?_)
        refine wpAnyH_take (i := 0) (oi := _) (v := ?vc0) rfl (by kernel_rfl) (by kernel_rfl) (by kernel_rfl) (fun _ _ _ h => h) (Or.inl ⟨by kernel_rfl, ?hc0⟩) (by assumption) ?rc0
        case hc0 => ((intro w hSw; (try dsimp only at hSw); go_simp) <;> (with_reducible rfl))
        try simp only [List.getElem_toArray, List.getElem_cons_zero, List.getElem_cons_succ, Act.put, List.setIfInBounds_toArray, List.set_cons_zero, List.set_cons_succ]
        refine wpAnyH_take (i := 1) (oi := _) (v := ?vc1) rfl (by kernel_rfl) (by kernel_rfl) (by kernel_rfl) (fun _ _ _ h => h) (Or.inl ⟨by kernel_rfl, ?hc1⟩) (by assumption) ?rc1
        case hc1 => ((intro w hSw; (try dsimp only at hSw); go_simp) <;> (with_reducible rfl))
        try simp only [List.getElem_toArray, List.getElem_cons_zero, List.getElem_cons_succ, Act.put, List.setIfInBounds_toArray, List.set_cons_zero, List.set_cons_succ]
        refine wpAnyH_take (i := 2) (oi := _) (v := ?vc2) rfl (by kernel_rfl) (by kernel_rfl) (by kernel_rfl) (fun _ _ _ h => h) (Or.inl ⟨by kernel_rfl, ?hc2⟩) (by assumption) ?rc2
        case hc2 => ((intro w hSw; (try dsimp only at hSw); go_simp) <;> (with_reducible rfl))
        try simp only [List.getElem_toArray, List.getElem_cons_zero, List.getElem_cons_succ, Act.put, List.setIfInBounds_toArray, List.set_cons_zero, List.set_cons_succ]
        refine wpAnyH_take (i := 3) (oi := _) (v := ?vc3) rfl (by kernel_rfl) (by kernel_rfl) (by kernel_rfl) (fun _ _ _ h => h) (Or.inl ⟨by kernel_rfl, ?hc3⟩) (by assumption) ?rc3
        case hc3 => ((intro w hSw; (try dsimp only at hSw); go_simp) <;> (with_reducible rfl))
        try simp only [List.getElem_toArray, List.getElem_cons_zero, List.getElem_cons_succ, Act.put, List.setIfInBounds_toArray, List.set_cons_zero, List.set_cons_succ]
        refine wpAnyH_take (i := 4) (oi := _) (v := ?vc4) rfl (by kernel_rfl) (by kernel_rfl) (by kernel_rfl) (fun _ _ _ h => h) (Or.inl ⟨by kernel_rfl, ?hc4⟩) (by assumption) ?rc4
        case hc4 => ((intro w hSw; (try dsimp only at hSw); go_simp) <;> (with_reducible rfl))
        try simp only [List.getElem_toArray, List.getElem_cons_zero, List.getElem_cons_succ, Act.put, List.setIfInBounds_toArray, List.set_cons_zero, List.set_cons_succ]
        refine wpAnyH_take (i := 5) (oi := _) (v := ?vc5) rfl (by kernel_rfl) (by kernel_rfl) (by kernel_rfl) (fun _ _ _ h => h) (Or.inl ⟨by kernel_rfl, ?hc5⟩) (by assumption) ?rc5
        case hc5 => ((intro w hSw; (try dsimp only at hSw); go_simp) <;> (with_reducible rfl))
        try simp only [List.getElem_toArray, List.getElem_cons_zero, List.getElem_cons_succ, Act.put, List.setIfInBounds_toArray, List.set_cons_zero, List.set_cons_succ]
        refine wpAnyH_take (i := 6) (oi := _) (v := ?vc6) rfl (by kernel_rfl) (by kernel_rfl) (by kernel_rfl) (fun _ _ _ h => h) (Or.inl ⟨by kernel_rfl, ?hc6⟩) (by assumption) ?rc6
        case hc6 => ((intro w hSw; (try dsimp only at hSw); go_simp) <;> (with_reducible rfl))
        try simp only [List.getElem_toArray, List.getElem_cons_zero, List.getElem_cons_succ, Act.put, List.setIfInBounds_toArray, List.set_cons_zero, List.set_cons_succ]
        refine wpAnyH_take (i := 7) (oi := _) (v := ?vc7) rfl (by kernel_rfl) (by kernel_rfl) (by kernel_rfl) (fun _ _ _ h => h) (Or.inl ⟨by kernel_rfl, ?hc7⟩) (by assumption) ?rc7
        case hc7 => ((intro w hSw; (try dsimp only at hSw); go_simp) <;> (with_reducible rfl))
        try simp only [List.getElem_toArray, List.getElem_cons_zero, List.getElem_cons_succ, Act.put, List.setIfInBounds_toArray, List.set_cons_zero, List.set_cons_succ]
        refine wpAnyH_take (i := 8) (oi := _) (v := ?vc8) rfl (by kernel_rfl) (by kernel_rfl) (by kernel_rfl) (fun _ _ _ h => h) (Or.inl ⟨by kernel_rfl, ?hc8⟩) (by assumption) ?rc8
        case hc8 => ((intro w hSw; (try dsimp only at hSw); go_simp) <;> (with_reducible rfl))
        try simp only [List.getElem_toArray, List.getElem_cons_zero, List.getElem_cons_succ, Act.put, List.setIfInBounds_toArray, List.set_cons_zero, List.set_cons_succ]
        refine wpAnyH_take (i := 9) (oi := _) (v := ?vc9) rfl (by kernel_rfl) (by kernel_rfl) (by kernel_rfl) (fun _ _ _ h => h) (Or.inl ⟨by kernel_rfl, ?hc9⟩) (by assumption) ?rc9
        case hc9 => ((intro w hSw; (try dsimp only at hSw); go_simp) <;> (with_reducible rfl))
        try simp only [List.getElem_toArray, List.getElem_cons_zero, List.getElem_cons_succ, Act.put, List.setIfInBounds_toArray, List.set_cons_zero, List.set_cons_succ]
        refine wpAnyH_take (i := 10) (oi := _) (v := ?vc10) rfl (by kernel_rfl) (by kernel_rfl) (by kernel_rfl) (fun _ _ _ h => h) (Or.inl ⟨by kernel_rfl, ?hc10⟩) (by assumption) ?rc10
        case hc10 => ((intro w hSw; (try dsimp only at hSw); go_simp) <;> (with_reducible rfl))
        try simp only [List.getElem_toArray, List.getElem_cons_zero, List.getElem_cons_succ, Act.put, List.setIfInBounds_toArray, List.set_cons_zero, List.set_cons_succ]
        refine wpAnyH_take (i := 11) (oi := _) (v := ?vc11) rfl (by kernel_rfl) (by kernel_rfl) (by kernel_rfl) (fun _ _ _ h => h) (Or.inl ⟨by kernel_rfl, ?hc11⟩) (by assumption) ?rc11
        case hc11 => ((intro w hSw; (try dsimp only at hSw); go_simp) <;> (with_reducible rfl))
        try simp only [List.getElem_toArray, List.getElem_cons_zero, List.getElem_cons_succ, Act.put, List.setIfInBounds_toArray, List.set_cons_zero, List.set_cons_succ]
        refine wpAnyH_take (i := 12) (oi := _) (v := .slice Ak hf ck) rfl (by kernel_rfl) (by kernel_rfl) (by kernel_rfl) (fun _ _ _ h => h) (Or.inl ⟨by kernel_rfl, ?hc12⟩) (by assumption) ?rc12
        case hc12 => (intro w hSw; go_simp)
        try simp only [List.getElem_toArray, List.getElem_cons_zero, List.getElem_cons_succ, Act.put, List.setIfInBounds_toArray, List.set_cons_zero, List.set_cons_succ]
        refine wpAnyH_take (i := 13) (oi := _) (v := ?vc13) rfl (by kernel_rfl) (by kernel_rfl) (by kernel_rfl) (fun _ _ _ h => h) (Or.inl ⟨by kernel_rfl, ?hc13⟩) (by assumption) ?rc13
        case hc13 => ((intro w hSw; (try dsimp only at hSw); go_simp) <;> (with_reducible rfl))
        try simp only [List.getElem_toArray, List.getElem_cons_zero, List.getElem_cons_succ, Act.put, List.setIfInBounds_toArray, List.set_cons_zero, List.set_cons_succ]
        refine wpAnyH_ready (rs := [14]) (by kernel_rfl) (by simp) ?_
        refine AllReadyH.cons (o := _) rfl (fun K hK => ?_) AllReadyH.nil
        go_simp
        rw [hw8.out]
        refine hK.out _ _ hck8.out (fun hHeld => ?_)
        clear hK K
        try simp only [List.getElem_toArray, List.getElem_cons_zero, List.getElem_cons_succ, Act.put, List.setIfInBounds_toArray, List.set_cons_zero, List.set_cons_succ]
        refine wpAnyH_done (by kernel_rfl) ?_ _
        clear hck7 c0 f0 t2 hA7' hck8 hne
        have o1 := hid (fewer_drop hKt.out k)
        have o2 := hid (fewer_cut hKt.out htk.out hf)
        have hS1 := hid (show ShT (zss.take k ++ zss.drop (k + 1)) from fun t ht => by
          rcases List.mem_append.1 ht with ht | ht
          · exact hS.out t (List.mem_of_mem_take ht)
          · exact hS.out t (List.mem_of_mem_drop ht))
        have hS2 := hid (show ShT (zss.set k (tk.take hf)) from fun t ht => by
          rcases List.mem_or_eq_of_mem_set ht with ht | ht
          · exact hS.out t ht
          · rw [ht, List.length_take, hmk.out]; omega)
        have hl2 : (zss.set k (tk.take hf)).length = n := by rw [List.length_set, hn'.out]
        obtain ⟨L, hL⟩ : ∃ L, zss.take k ++ zss.drop (k + 1) = L := ⟨_, rfl⟩
        have hLn : L.length < 1099511627776 := by rw [← hL, List.length_append, List.length_take, List.length_drop, hn'.out]; omega
        rw [hL] at hL8 o1 hS1
        obtain ⟨A9, c9, rfl, hr8, -, -⟩ := hL8.out.form (by omega)
        have hr8 := hid hr8
        clear hL hL8
        go_wp2_with fail
        refine (TraceOrder_isI o1.out rfl rfl w8 hr8.out hLn hS1.out).mono ?_
        rintro e w9 ⟨A10, c10, rfl, -, hb9, -, -⟩
        have hP9 := hid (hP8.out.below hb9 hz8)
        have hB9 := hid (hB8.out.trans (hb9.mono (by omega)))
        have hz9 : w6.heap.size ≤ w9.heap.size := Nat.le_trans hz8 hb9.size
        have hr9 := hid (show RdT w9 w9.heap.size (some ⟨b7, 0, none⟩) n (zss.set k (tk.take hf)) by
          obtain ⟨A', c', e, h9, -, -⟩ := hP9.out.form hz9
          injection e with e1 e2 e3
          rw [hl2] at h9
          rw [e1]; exact h9)
        clear hb9 hP8 hB8 hr8 hP9
        go_wp2_with fail
        refine (TraceOrder_isI o2.out rfl rfl w9 hr9.out (by omega) hS2.out).mono ?_
        rintro e w10 ⟨A11, c11, rfl, -, hb10, -, -⟩
        have hB10 := hid (hB9.out.trans (hb10.mono (by omega)))
        clear hb10
        go_wp2
        go_ret
        exact ⟨rfl, hB10.out⟩
  · go_enter Try.func9, Try.ntmps9
    go_wp2
    go_ret
    exact ⟨rfl, Below.refl _ _⟩
end Go.Proofs.Ytdhafappclcijaa
