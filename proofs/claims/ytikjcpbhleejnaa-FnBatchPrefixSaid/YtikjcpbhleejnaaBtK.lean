/-
  The draws of chapter 4: l91Sizes, DrawBatchCut: short lists of ints of their own and small limits. No condition.
-/
import Derived.Test.YtikjcpbhleejnaaDrawA
import Derived.Test.YtikjcpbhleejnaaBtJ
namespace Go.Proofs.Ytikjcpbhleejnaa
open Go.RowKit

def SzPost (B g P : Nat) (w : World) (e : Ending) (w' : World) : Prop :=
  ∃ (v : Value) (zs : List Int) (x y : Int), e = .returned (.tuple #[v, .int .i64 x, .int .i64 y]) ∧ OwI w' w.heap.size v zs ∧ zs.length ≤ 21 ∧ 0 ≤ x ∧ x ≤ 100 ∧ 0 ≤ y ∧ y ≤ 21 ∧ Rdr w' B g (P + 40) ∧ w.grownBy w' (some g)

theorem OwI.below3 {w w' : World} {lo : Nat} {v : Value} {zs : List Int} (h : OwI w lo v zs) (hb : Below w.heap.size w w') : OwI w' lo v zs :=
  own_of_block h fun k hk => hb.block k (h.lt k hk).2

theorem OwI.formB {w : World} {lo n : Nat} {v : Value} {zs : List Int} (h : OwI w lo v zs) (hn : zs.length = n) (h0 : 1 ≤ n) : ∃ b cap, v = .slice (some ⟨b, 0, none⟩) n cap ∧ lo ≤ b ∧ b < w.heap.size := by
  subst hn
  rcases h.2 with ⟨_, h1⟩ | ⟨g, cap, cur, e, hb, hg, _⟩
  · omega
  · exact ⟨g, cap, e, hb, (Array.getElem?_eq_some_iff.1 hg).1⟩

theorem OwI.at_set {w : World} {lo b n cap : Nat} {zs : List Int} (h : OwI w lo (.slice (some ⟨b, 0, none⟩) n cap) zs) (hn : zs.length = n) {j : Nat} (hj : j < n) :
    w.cell? ⟨b, j, none⟩ = some (.int .i64 (zs.getD j 0)) ∧ w.frozen? ⟨b, j, none⟩ = false ∧ ∀ q, OwI (w.setCell ⟨b, j, none⟩ (.int .i64 q)) lo (.slice (some ⟨b, 0, none⟩) n cap) (zs.set j q) := by
  have ho : w.ownsRow lo 3 1 (.slice (some ⟨b, 0, none⟩) n cap) n (ints zs) := by
    rw [OwI, hn] at h; exact h
  refine ⟨?_, ho.frozenAt j, fun q => ?_⟩
  · rw [ho.cellAt j (by omega)]
    have : j < zs.length := by omega
    simp [this]
  · rw [OwI, List.length_set, hn, ints, List.map_set]
    exact (ho.stored j (.int .i64 q)).1

set_option maxHeartbeats 4000000 in
theorem l91Sizes_any {B g P : Nat} (w : World) (h : Rdr w B g P) (hP : P ≤ 900000) :
    Calls Try.prog 20 #[.pointer (some ⟨g, 0, none⟩)] w (SzPost B g P w) := by
  have hg := h.lt
  have h' := hid h
  clear h
  go_enter Try.func20, Try.ntmps20
  go_wp2_with fail
  refine (pick_any 20 w h'.out (by omega) (by omega) (by omega)).mono ?_
  rintro e w1 ⟨x, rfl, hx0, hx1, hrd1, hgr1, hs1⟩
  have hgr1 := hid hgr1
  have hsz1 : w.heap.size ≤ w1.heap.size := hgr1.out.size
  have hE := hid (OwI.empty_lit (B := w.heap.size) w1 hsz1)
  have hbe := hid ((Below.refl w.heap.size w1).alloc hsz1 (.cells #[] 3))
  have hrd2 := hrd1.below hbe.out hg
  have hgr2 := hid (grown_below hgr1.out hbe.out)
  obtain ⟨u, hu⟩ : ∃ u, w1.heap.size = u := ⟨_, rfl⟩
  rw [hu] at hE
  clear hgr1 hrd1 hs1 hbe
  go_wp2_with fail
  generalize hW : w1.alloc _ = W at hrd2 hE hgr2 ⊢
  clear hW hu hsz1
  obtain ⟨o, ho⟩ : ∃ o : Value, .slice (some ⟨u, 0, none⟩) 0 0 = o := ⟨_, rfl⟩
  rw [ho] at hE ⊢
  refine (pick_any 12 W hrd2 (by omega) (by omega) (by omega)).mono ?_
  rintro e w3 ⟨n0, rfl, hn0, hn1, hrd3, hgr3, hs3⟩
  have hE3 := hid (hE.out.pick hgr3 hg)
  have hgr4 := hid (grown_set hgr2.out hgr3)
  clear hs3 hgr3 hrd2 hE hgr2
  go_wp2_with fail
  refine (pick_any 16 w3 hrd3 (by omega) (by omega) (by omega)).mono ?_
  rintro e w4 ⟨y, rfl, hy0, hy1, hrd4, hgr5, hs5⟩
  have hE4 := hid (hE3.out.pick hgr5 hg)
  have hgr6 := hid (grown_set hgr4.out hgr5)
  clear hs5 hgr5 hrd3 hE3 hgr4
  go_upto_if 18 with (fail)
  go_cut [7] (fun nn wx => ∃ k : Nat, nn = .int .i64 k ∧ k ≤ 21 ∧ Hid (OwI wx w.heap.size o []) ∧ Rdr wx B g (P + 4) ∧ Hid (w.grownBy wx (some g)))
  case first =>
    go_wp2_with fail
    · refine (pick_any 3 w4 hrd4 (by omega) (by omega) (by omega)).mono ?_
      rintro e w5 ⟨z, rfl, hz0, hz1, hrd5, hgr7, hs7⟩
      have hE5 := hid (hE4.out.pick hgr7 hg)
      have hgr8 := hid (grown_set hgr6.out hgr7)
      clear hs7 hgr7 hrd4 hE4 hgr6
      obtain ⟨z, rfl⟩ := Int.eq_ofNat_of_zero_le hz0
      go_wp2
      go_meet
      exact ⟨19 + z, by go_num, by omega, hE5, hrd5.le (by omega), hgr8⟩
    · obtain ⟨n0, rfl⟩ := Int.eq_ofNat_of_zero_le hn0
      go_meet
      exact ⟨n0, rfl, by omega, hE4, hrd4.le (by omega), hgr6⟩
  case rest =>
    clear hrd4 hE4 hgr6
    obtain ⟨n, rfl, hn, hE5, hrd5, hgr5⟩ := hcut
    go_wp2_with fail
    go_loopw [6, 8] (fun o i wr => ∃ (k : Nat) (zs : List Int), k ≤ n ∧ i = .int .i64 k ∧ Hid (OwI wr w.heap.size o zs) ∧ Hid (zs.length = k) ∧ Rdr wr B g (P + 4 + k) ∧ Hid (w.grownBy wr (some g))) (fun _ i _ => n - (intOf i).toNat)
    case atStart => exact ⟨0, [], by omega, rfl, hE5, hid rfl, hrd5, hgr5⟩
    case round =>
      obtain ⟨k, zs, hk, rfl, hown, hzl, hrd, hgr⟩ := hrel
      by_cases hlt : k < n
      · go_wp2_with fail
        all_goals
          refine (pick_any _ wr hrd (by omega) (by omega) (by omega)).mono ?_
          rintro e w6 ⟨z, rfl, hz0, hz1, hrd6, hgr7, hs7⟩
          have hown6 := hid (hown.out.pick hgr7 hg)
          have hgr8 := hid (grown_set hgr.out hgr7)
          have hsz8 := hgr8.out.size
          have hrd6' := hid hrd6
          clear hs7 hgr7 hrd hown hgr hrd6
          go_wp2_with (at_builtin; refine wpList_app1 rfl (.tmp 27) (.tmp 33) rfl w.heap.size (1 + z) _ _ rfl rfl hown6.out hsz8 (by rw [hzl.out]; omega) ?_; intro v' w7 hown' hbel')
          go_roundw
          case rel => exact ⟨k + 1, _, by omega, by go_num, hid hown', hid (by simp [hzl.out]), (hrd6'.out.below hbel' hg).le (by omega), hid (grown_below hgr8.out hbel')⟩
          case measure => simp [intOf]; omega
      · obtain rfl : k = n := by omega
        have hzl' := hid hzl.out
        clear hzl hlt hk
        go_wp2_with fail
        refine (pick_any 5 wr hrd (by omega) (by omega) (by omega)).mono ?_
        rintro e w6 ⟨y2, rfl, hy20, hy21, hrd6, hgr7, hs7⟩
        have hown6 := hid (hown.out.pick hgr7 hg)
        have hgr8 := hid (grown_set hgr.out hgr7)
        clear hs7 hgr7 hrd hown hgr
        go_wp2_with fail
        refine (pick_any 24 w6 hrd6 (by omega) (by omega) (by omega)).mono ?_
        rintro e w7 ⟨s, rfl, hs0, hs1, hrd7, hgr9, hs9⟩
        have hown7 := hid (hown6.out.pick hgr9 hg)
        have hgr10 := hid (grown_set hgr8.out hgr9)
        have hsz10 := hgr10.out.size
        clear hs9 hgr9 hrd6 hown6 hgr8
        rcases (show s = 0 ∨ s = 1 ∨ s = 2 ∨ 3 ≤ s by omega) with rfl | rfl | rfl | hs3
        · have hbel := hid ((Below.refl w.heap.size w7).alloc hsz10 (.cells #[.int .i64 0, .int .i64 1, .int .i64 99, .int .i64 100] 3))
          have hbel3 := hid ((Below.refl w7.heap.size w7).alloc (Nat.le_refl _) (.cells #[.int .i64 0, .int .i64 1, .int .i64 99, .int .i64 100] 3))
          have hrd8 := hrd7.below hbel.out hg
          have hown8 := hid (OwI.below3 hown7.out hbel3.out)
          have hgr11 := hid (grown_below hgr10.out hbel.out)
          have hL : Hid ((w7.alloc (.cells #[.int .i64 0, .int .i64 1, .int .i64 99, .int .i64 100] 3)).heap[w7.heap.size]? = some (.cells #[.int .i64 0, .int .i64 1, .int .i64 99, .int .i64 100] 3 (0, 0))) := hid (heap_alloc_new w7 _)
          clear hrd7 hown7 hgr10 hbel hbel3
          go_wp2_with fail
          generalize hW : w7.alloc _ = W at hrd8 hown8 hgr11 hL ⊢
          have hgW : w7.heap.size ≠ g := by omega
          have hW3 : w7.heap.size < W.heap.size := (Array.getElem?_eq_some_iff.1 hL.out).1
          clear hW
          refine (pick_any 4 W hrd8 (by omega) (by omega) (by omega)).mono ?_
          rintro e w9 ⟨r, rfl, hr0, hr1, hrd9, hgr12, hs12⟩
          have hown9 := hid (hown8.out.pick hgr12 hg)
          have hgr13 := hid (grown_set hgr11.out hgr12)
          have hL9 : Hid (w9.heap[w7.heap.size]? = some (.cells #[.int .i64 0, .int .i64 1, .int .i64 99, .int .i64 100] 3 (0, 0))) := hid ((hgr12.block _ hW3 (fun e => hgW (by injection e))).trans hL.out)
          clear hs12 hgr12 hrd8 hown8 hgr11 hL
          obtain ⟨q, hq, hq0, hq1⟩ : ∃ q, w9.cell? ⟨w7.heap.size, r.toNat, none⟩ = some (.int .i64 q) ∧ 0 ≤ q ∧ q ≤ 100 := by
            rcases (show r = 0 ∨ r = 1 ∨ r = 2 ∨ r = 3 by omega) with rfl | rfl | rfl | rfl
            · exact ⟨0, by rw [show (0 : Int).toNat = 0 from rfl, cell_of_row w9 _ 0 _ _ (0, 0) hL9.out]; rfl, by omega, by omega⟩
            · exact ⟨1, by rw [show (1 : Int).toNat = 1 from rfl, cell_of_row w9 _ 1 _ _ (0, 0) hL9.out]; rfl, by omega, by omega⟩
            · exact ⟨99, by rw [show (2 : Int).toNat = 2 from rfl, cell_of_row w9 _ 2 _ _ (0, 0) hL9.out]; rfl, by omega, by omega⟩
            · exact ⟨100, by rw [show (3 : Int).toNat = 3 from rfl, cell_of_row w9 _ 3 _ _ (0, 0) hL9.out]; rfl, by omega, by omega⟩
          obtain ⟨u2, rfl⟩ := Int.eq_ofNat_of_zero_le hr0
          rw [Int.toNat_natCast] at hq
          have hrd9' := hid hrd9
          clear hrd9 hL9
          go_wp2
          go_ret3
          exact ⟨_, zs, _, _, rfl, hown9.out, by rw [hzl'.out]; omega, hq0, hq1, by omega, by omega, hrd9'.out.le (by omega), hgr13.out⟩
        · have hbel := hid ((Below.refl w.heap.size w7).alloc hsz10 (.cells #[.int .i64 0, .int .i64 20, .int .i64 21] 3))
          have hbel3 := hid ((Below.refl w7.heap.size w7).alloc (Nat.le_refl _) (.cells #[.int .i64 0, .int .i64 20, .int .i64 21] 3))
          have hrd8 := hrd7.below hbel.out hg
          have hown8 := hid (OwI.below3 hown7.out hbel3.out)
          have hgr11 := hid (grown_below hgr10.out hbel.out)
          have hL : Hid ((w7.alloc (.cells #[.int .i64 0, .int .i64 20, .int .i64 21] 3)).heap[w7.heap.size]? = some (.cells #[.int .i64 0, .int .i64 20, .int .i64 21] 3 (0, 0))) := hid (heap_alloc_new w7 _)
          clear hrd7 hown7 hgr10 hbel hbel3
          go_wp2_with fail
          generalize hW : w7.alloc _ = W at hrd8 hown8 hgr11 hL ⊢
          have hgW : w7.heap.size ≠ g := by omega
          have hW3 : w7.heap.size < W.heap.size := (Array.getElem?_eq_some_iff.1 hL.out).1
          clear hW
          refine (pick_any 3 W hrd8 (by omega) (by omega) (by omega)).mono ?_
          rintro e w9 ⟨r, rfl, hr0, hr1, hrd9, hgr12, hs12⟩
          have hown9 := hid (hown8.out.pick hgr12 hg)
          have hgr13 := hid (grown_set hgr11.out hgr12)
          have hL9 : Hid (w9.heap[w7.heap.size]? = some (.cells #[.int .i64 0, .int .i64 20, .int .i64 21] 3 (0, 0))) := hid ((hgr12.block _ hW3 (fun e => hgW (by injection e))).trans hL.out)
          clear hs12 hgr12 hrd8 hown8 hgr11 hL
          obtain ⟨q, hq, hq0, hq1⟩ : ∃ q, w9.cell? ⟨w7.heap.size, r.toNat, none⟩ = some (.int .i64 q) ∧ 0 ≤ q ∧ q ≤ 21 := by
            rcases (show r = 0 ∨ r = 1 ∨ r = 2 by omega) with rfl | rfl | rfl
            · exact ⟨0, by rw [show (0 : Int).toNat = 0 from rfl, cell_of_row w9 _ 0 _ _ (0, 0) hL9.out]; rfl, by omega, by omega⟩
            · exact ⟨20, by rw [show (1 : Int).toNat = 1 from rfl, cell_of_row w9 _ 1 _ _ (0, 0) hL9.out]; rfl, by omega, by omega⟩
            · exact ⟨21, by rw [show (2 : Int).toNat = 2 from rfl, cell_of_row w9 _ 2 _ _ (0, 0) hL9.out]; rfl, by omega, by omega⟩
          obtain ⟨u2, rfl⟩ := Int.eq_ofNat_of_zero_le hr0
          rw [Int.toNat_natCast] at hq
          have hrd9' := hid hrd9
          clear hrd9 hL9
          go_wp2
          go_ret3
          exact ⟨_, zs, _, _, rfl, hown9.out, by rw [hzl'.out]; omega, by omega, by omega, hq0, hq1, hrd9'.out.le (by omega), hgr13.out⟩
        · by_cases hk0 : 0 < k
          · obtain ⟨b, cap, rfl, hb1, hb2⟩ := hown7.out.formB hzl'.out hk0
            go_wp2_with fail
            refine (pick_any (k : Int) w7 hrd7 (by omega) (by omega) (by omega)).mono ?_
            rintro e w8 ⟨j, rfl, hj0, hj1, hrd8, hgr11, hs11⟩
            have hown8 := hid (hown7.out.pick hgr11 hg)
            have hgr12 := hid (grown_set hgr10.out hgr11)
            clear hs11 hgr11 hrd7 hown7 hgr10
            go_wp2_with fail
            refine (pick_any 2 w8 hrd8 (by omega) (by omega) (by omega)).mono ?_
            rintro e w9 ⟨r, rfl, hr0, hr1, hrd9, hgr13, hs13⟩
            have hown9 := hid (hown8.out.pick hgr13 hg)
            have hgr14 := hid (grown_set hgr12.out hgr13)
            clear hs13 hgr13 hrd8 hown8 hgr12
            obtain ⟨j, rfl⟩ := Int.eq_ofNat_of_zero_le hj0
            obtain ⟨q, hq⟩ : ∃ q, r * (5 + x + 1) = q := ⟨_, rfl⟩
            have hq0 : 0 ≤ q ∧ q ≤ 25 := by
              rcases (show r = 0 ∨ r = 1 by omega) with rfl | rfl <;> omega
            obtain ⟨hcell, hfr, hset⟩ := hown9.out.at_set hzl'.out (show j < k by omega)
            have hset' := hid (hset q)
            have hbs := hid ((Below.refl w.heap.size w9).setCell (p := ⟨b, j, none⟩) hb1 (.int .i64 q))
            have hrd9' := hid hrd9
            clear hset hrd9 hown9
            go_wp2
            go_ret3
            exact ⟨_, zs.set j q, _, _, rfl, hset'.out, by rw [List.length_set, hzl'.out]; omega, by omega, by omega, by omega, by omega, (hrd9'.out.below hbs.out hg).le (by omega), grown_below hgr14.out hbs.out⟩
          · have hrd7' := hid hrd7
            clear hrd7
            go_wp2
            go_ret3
            exact ⟨_, zs, _, _, rfl, hown7.out, by rw [hzl'.out]; omega, by omega, by omega, by omega, by omega, hrd7'.out.le (by omega), hgr10.out⟩
        · have hx3 : (s == 0) = false := by simp; omega
          have hx4 : (s == 1) = false := by simp; omega
          have hx5 : (s == 2) = false := by simp; omega
          have hrd7' := hid hrd7
          clear hrd7
          go_wp2
          go_ret3
          exact ⟨_, zs, _, _, rfl, hown7.out, by rw [hzl'.out]; omega, by omega, by omega, by omega, by omega, hrd7'.out.le (by omega), hgr10.out⟩

def DrawBt (w : World) (e : Ending) (w' : World) : Prop :=
  ∃ (v : Value) (zs : List Int) (x y : Int), e = .returned (.tuple #[v, .int .i64 x, .int .i64 y]) ∧ OwI w' w.heap.size v zs ∧ zs.length ≤ 21 ∧ 0 ≤ x ∧ x ≤ 100 ∧ 0 ≤ y ∧ y ≤ 21 ∧ Below w.heap.size w w'

set_option maxHeartbeats 1000000 in
theorem DrawBatchCut_any {a : Option Addr} {len cap : Nat} {zs : List Int} (w : World) (h : RowIs .u8 w a len cap zs) :
    Calls Try.prog 11 #[.slice a len cap] w (DrawBt w) := by
  have h' := hid h
  clear h
  go_enter Try.func11, Try.ntmps11
  go_wp2_with fail
  refine (l6Open_any w h'.out).mono ?_
  rintro e w1 ⟨rfl, hrd, hb, hs⟩
  have hb' := hid hb
  have hs' := Nat.le_of_eq hs
  have hs2 := Nat.le_of_eq hs.symm
  clear hs hb
  go_wp2_with fail
  refine (l91Sizes_any w1 hrd (by omega)).mono ?_
  rintro e w2 ⟨v, xs, x, y, rfl, hown, hl, hx0, hx1, hy0, hy1, _, hgr⟩
  go_wp2
  go_ret3
  exact ⟨v, xs, x, y, rfl, hown.more (by omega), hl, hx0, hx1, hy0, hy1, hb'.out.grown hgr (by omega) (fun k hk => by injection hk with hk; omega)⟩

theorem results_tmp4 {fn : Func} {t u v x : Tmp} (h : fn.results = #[.tmp t, .tmp u, .tmp v, .tmp x]) (tmps : Array Value) (P : Program) (w : World) :
    (results fn tmps).run P w = .ok (.tuple #[tmps.getD t undef, tmps.getD u undef, tmps.getD v undef, tmps.getD x undef]) w := by
  simp [results, h]

def DrawFt (w : World) (e : Ending) (w' : World) : Prop :=
  ∃ (v u : Value) (xs ys : List Int) (x y : Int), e = .returned (.tuple #[v, .int .i64 x, .int .i64 y, u]) ∧ OwI w' w.heap.size v xs ∧ OwI w' w.heap.size u ys ∧ xs.length ≤ 21 ∧ ys.length ≤ 21 ∧ 0 ≤ x ∧ x ≤ 100 ∧ 0 ≤ y ∧ y ≤ 21 ∧ Below w.heap.size w w'

set_option maxHeartbeats 4000000 in
theorem DrawBatchFits_any {a : Option Addr} {len cap : Nat} {zs : List Int} (w : World) (h : RowIs .u8 w a len cap zs) :
    Calls Try.prog 17 #[.slice a len cap] w (DrawFt w) := by
  have h' := hid h
  clear h
  go_enter Try.func17, Try.ntmps17
  go_wp2_with fail
  refine (l6Open_any w h'.out).mono ?_
  rintro e w1 ⟨rfl, hrd, hb, hs⟩
  obtain ⟨g, hgw⟩ : ∃ g, w.heap.size = g := ⟨_, rfl⟩
  have hb' := hid hb
  have hgw' := hid hgw
  rw [hgw] at hrd ⊢
  have hg1 : g < w1.heap.size := by omega
  clear hs hb hgw
  go_wp2_with fail
  refine (l91Sizes_any w1 hrd (by omega)).mono ?_
  rintro e w2 ⟨v, xs, x, y, rfl, hown, hl, hx0, hx1, hy0, hy1, hrd2, hgr⟩
  obtain ⟨A, c, rfl, hrx⟩ := hown.form
  have hsz2 := hgr.size
  have fin : Hid (∀ (wN : World) (u : Value) (ys : List Int), w2.grownBy wN (some g) → OwI wN w2.heap.size u ys → ys.length ≤ 21 → DrawFt w (.returned (.tuple #[.slice A xs.length c, .int .i64 x, .int .i64 y, u])) wN) := hid (fun wN u ys hgN hu hyl =>
    ⟨_, u, xs, ys, x, y, rfl, (hown.pick hgN hg1).more (by rw [hgw'.out]; omega), hu.more (by rw [hgw'.out]; omega), hl, hyl, hx0, hx1, hy0, hy1, (hb'.out.grown hgr (by rw [hgw'.out]; omega) (fun k hk => by injection hk with hk; rw [hgw'.out]; omega)).grown hgN (by rw [hgw'.out]; omega) (fun k hk => by injection hk with hk; rw [hgw'.out]; omega)⟩)
  have hl' := hid hl
  have hrx' := hid hrx
  obtain ⟨n, hn⟩ : ∃ n, xs.length = n := ⟨_, rfl⟩
  rw [hn] at hl hrx' fin ⊢
  have hg2 : g < w2.heap.size := by omega
  clear hown hgr hrx hl' hn
  go_wp2_with fail
  refine (BatchCut_spec x y w2 hrx'.out (by omega)).mono ?_
  rintro e w3 ⟨u, rfl, hown3, hb3⟩
  have hyl := cut_len (xs := xs) (B := x) (M := y)
  have hyb := cut_in (xs := xs) (B := x) (M := y)
  obtain ⟨ys, hys⟩ : ∃ ys, cutR xs x y = ys := ⟨_, rfl⟩
  rw [hys] at hown3 hyl hyb
  have hyb : Hid (∀ i, i < ys.length → 1 ≤ ys.getD i 0 ∧ ys.getD i 0 ≤ 20) := hid (fun i hi => by
    have := hyb _ (getD_mem' hi)
    simpa [inB] using this)
  obtain ⟨A3, c3, rfl, _⟩ := hown3.form
  have hgr3 := hid (grown_below (⟨rfl, rfl, rfl, Nat.le_refl _, fun _ _ _ => rfl⟩ : w2.grownBy w2 (some g)) hb3)
  have hrd3 := hrd2.below hb3 hg2
  have hown3 := hid hown3
  obtain ⟨m, hm⟩ : ∃ m, ys.length = m := ⟨_, rfl⟩
  have hm' := hid hm
  rw [hm] at hown3 hyl hyb ⊢
  clear hb3 hrd2 hys hm hrx'
  go_wp2_with fail
  refine (pick_any 6 w3 hrd3 (by omega) (by omega) (by omega)).mono ?_
  rintro e w4 ⟨s, rfl, hs0, hs1, hrd4, hgr5, hs5⟩
  have hown4 := hid (hown3.out.pick hgr5 hg2)
  have hgr4 := hid (grown_set hgr3.out hgr5)
  have hsz4 := hgr4.out.size
  clear hs5 hgr5 hrd3 hown3 hgr3
  rcases (show s = 0 ∨ s = 1 ∨ s = 2 ∨ 3 ≤ s by omega) with rfl | rfl | rfl | hs3
  · by_cases hm0 : 0 < m
    · obtain ⟨b, cap, hbe, hb1, hb2⟩ := hown4.out.formB hm'.out hm0
      injection hbe with e1 _ e3
      subst e1; subst e3
      go_wp2_with fail
      refine (pick_any (m : Int) w4 hrd4 (by omega) (by omega) (by omega)).mono ?_
      rintro e w5 ⟨j, rfl, hj0, hj1, hrd5, hgr6, hs6⟩
      have hown5 := hid (hown4.out.pick hgr6 hg2)
      have hgr7 := hid (grown_set hgr4.out hgr6)
      clear hs6 hgr6 hrd4 hown4 hgr4
      obtain ⟨j, rfl⟩ := Int.eq_ofNat_of_zero_le hj0
      obtain ⟨hcell, hfr, hset⟩ := hown5.out.at_set hm'.out (show j < m by omega)
      have hset' := hid hset
      obtain ⟨z, hz⟩ : ∃ z, ys.getD j 0 = z := ⟨_, rfl⟩
      have hzb := hyb.out j (by omega)
      rw [hz] at hcell hzb
      obtain ⟨hz0, hz1⟩ := hzb
      have hrd5' : Hid (Rdr w5.drew g g (0 + 40 + 1 + 1)) := hid hrd5
      clear hset hz hrd5
      have hgb : b ≠ g := by omega
      have hstore : ∀ (W : World) (q : Int), w5.grownBy W (some g) → W.cell? ⟨b, j, none⟩ = some (.int .i64 z) ∧ W.frozen? ⟨b, j, none⟩ = false ∧ DrawFt w (.returned (.tuple #[.slice A n c, .int .i64 x, .int .i64 y, .slice (some ⟨b, 0, none⟩) m c3])) (W.setCell ⟨b, j, none⟩ (.int .i64 q)) := fun W q hW => by
        have ho := hown5.out.pick hW hg2
        obtain ⟨h1, h2, h3⟩ := ho.at_set hm'.out (show j < m by omega)
        have hW2 := grown_set hgr7.out hW
        refine ⟨?_, h2, fin.out _ _ (ys.set j q) (grown_below hW2 ((Below.refl w2.heap.size W).setCell (p := ⟨b, j, none⟩) hb1 (.int .i64 q))) (h3 q) (by rw [List.length_set, hm'.out]; omega)⟩
        rw [World.cell?_of_block (hW.block b (World.block_lt_of_cell? w5 _ hcell) (fun e => hgb (by injection e)))]
        exact hcell
      have hst' := hid hstore
      clear hstore
      go_wp2_with fail
      go_region_with (first | (go_at_call 30; (with_reducible refine (pick_any 3 w5.drew hrd5'.out (by omega) (by omega) (by omega)).mono ?_); rintro e w6 ⟨r, rfl, hr0, hr1, hrd6, hgr8, hs8⟩; have hgr8 : Hid (w5.grownBy w6 (some g)) := hid ⟨hgr8.os, hgr8.tape, hgr8.output, hgr8.size, hgr8.block⟩; obtain ⟨hc6, hf6, _⟩ := hst'.out w6 0 hgr8.out; clear hrd6 hs8))
      all_goals
        go_wp2
        ((try simp only [Exit.inBlock, Exit.then]); refine bodyPost_ret (results_tmp4 rfl _ _ _) rfl ?_)
        exact (hst'.out w6 _ hgr8.out).2.2
    · go_wp2
      ((try simp only [Exit.inBlock, Exit.then]); refine bodyPost_ret (results_tmp4 rfl _ _ _) rfl ?_)
      exact fin.out _ _ ys hgr4.out hown4.out (by rw [hm'.out]; omega)
  · have hsz4' : w2.heap.size ≤ w4.heap.size := hsz4
    have hE := hid (OwI.empty_lit (B := w2.heap.size) w4 hsz4)
    have hbE := hid ((Below.refl w2.heap.size w4).alloc hsz4 (.cells #[] 3))
    have hgrE := hid (grown_below hgr4.out hbE.out)
    clear hrd4 hbE hown4
    go_wp2_with fail
    go_loopw [10, 12] (fun o i wr => ∃ (k : Nat) (zs : List Int), k ≤ n ∧ i = .int .i64 k ∧ Hid (OwI wr w2.heap.size o zs) ∧ Hid (zs.length = k) ∧ Hid (w2.grownBy wr (some g))) (fun _ i _ => n - (intOf i).toNat)
    case atStart => exact ⟨0, [], by omega, rfl, hE, hid rfl, hgrE⟩
    case round =>
      obtain ⟨k, zs, hk, rfl, hown, hzl, hgr⟩ := hrel
      have hsz := hgr.out.size
      by_cases hlt : k < n
      · go_wp2_with (at_builtin; refine wpList_app1 rfl (.tmp 56) (.tmp 57) rfl w2.heap.size 1 _ _ rfl rfl hown.out hsz (by rw [hzl.out]; omega) ?_; intro v' w7 hown' hbel')
        go_roundw
        case rel => exact ⟨k + 1, _, by omega, by go_num, hid hown', hid (by simp [hzl.out]), hid (grown_below hgr.out hbel')⟩
        case measure => simp [intOf]; omega
      · go_wp2
        ((try simp only [Exit.inBlock, Exit.then]); refine bodyPost_ret (results_tmp4 rfl _ _ _) rfl ?_)
        exact fin.out _ _ zs hgr.out hown.out (by rw [hzl.out]; omega)
  · by_cases hm1 : 1 < m
    · obtain ⟨b, cap, hbe, hb1, hb2⟩ := hown4.out.formB hm'.out (by omega)
      injection hbe with e1 _ e3
      subst e1; subst e3
      obtain ⟨hcell, hfr, hset⟩ := hown4.out.at_set hm'.out (show 0 < m by omega)
      obtain ⟨z, hz⟩ : ∃ z, ys.getD 0 0 = z := ⟨_, rfl⟩
      have hzb := hyb.out 0 (by omega)
      rw [hz] at hcell hzb
      obtain ⟨hz0, hz2⟩ := hzb
      have hz' := hid hz
      clear hz
      by_cases hz1 : 1 < z
      · obtain ⟨w5, hw5⟩ : ∃ w5, w4.setCell ⟨b, 0, none⟩ (.int .i64 (z - 1)) = w5 := ⟨_, rfl⟩
        have hown5 := hset (z - 1)
        rw [hw5] at hown5
        have hlen5 : (ys.set 0 (z - 1)).length = m := by rw [List.length_set, hm'.out]
        obtain ⟨hcell5, hfr5, hset5⟩ := hown5.at_set hlen5 (show 1 < m by omega)
        obtain ⟨z2, hz2'⟩ : ∃ z2, (ys.set 0 (z - 1)).getD 1 0 = z2 := ⟨_, rfl⟩
        have hz3 : ys.getD 1 0 = z2 := by rw [← hz2']; simp
        have hzb2 := hyb.out 1 (by omega)
        rw [hz3] at hzb2
        rw [hz2'] at hcell5
        obtain ⟨hz4, hz5⟩ := hzb2
        have hB5 : Below w2.heap.size w4 w5 := by rw [← hw5]; exact (Below.refl w2.heap.size w4).setCell (p := ⟨b, 0, none⟩) hb1 (.int .i64 (z - 1))
        have hfin := hid (fin.out (w5.setCell ⟨b, 1, none⟩ (.int .i64 (z2 + 1))) _ _ (grown_below hgr4.out (hB5.setCell (p := ⟨b, 1, none⟩) hb1 (.int .i64 (z2 + 1)))) (hset5 (z2 + 1)) (by rw [List.length_set, hlen5]; omega))
        rw [← hw5] at hcell5 hfr5 hfin
        clear hset hset5 hown5 hlen5 hz2' hz3 hB5 hw5 hrd4
        go_wp2
        ((try simp only [Exit.inBlock, Exit.then]); refine bodyPost_ret (results_tmp4 rfl _ _ _) rfl ?_)
        exact hfin.out
      · clear hset
        go_wp2
        ((try simp only [Exit.inBlock, Exit.then]); refine bodyPost_ret (results_tmp4 rfl _ _ _) rfl ?_)
        exact fin.out _ _ ys hgr4.out hown4.out (by rw [hm'.out]; omega)
    · go_wp2
      ((try simp only [Exit.inBlock, Exit.then]); refine bodyPost_ret (results_tmp4 rfl _ _ _) rfl ?_)
      exact fin.out _ _ ys hgr4.out hown4.out (by rw [hm'.out]; omega)
  · have hx3 : (s == 0) = false := by simp; omega
    have hx4 : (s == 1) = false := by simp; omega
    have hx5 : (s == 2) = false := by simp; omega
    go_wp2
    ((try simp only [Exit.inBlock, Exit.then]); refine bodyPost_ret (results_tmp4 rfl _ _ _) rfl ?_)
    exact fin.out _ _ ys hgr4.out hown4.out (by rw [hm'.out]; omega)

end Go.Proofs.Ytikjcpbhleejnaa
