/-
  The draws of chapter 3: l91Lengths, l91Live and the four draws: short lists of ints of their own. No condition.
-/
import Derived.Test.YtgejohkdgcoeeaaDrawA
import Derived.Test.YtgejohkdgcoeeaaCmE
namespace Go.Proofs.Ytgejohkdgcoeeaa
open Go.RowKit

def LenPost (B g P : Nat) (w : World) (e : Ending) (w' : World) : Prop :=
  ∃ (v : Value) (zs : List Int), e = .returned v ∧ OwI w' w.heap.size v zs ∧ zs.length ≤ 14 ∧ Rdr w' B g (P + 40) ∧ w.grownBy w' (some g)

theorem OwI.below2 {w w' : World} {lo : Nat} {v : Value} {zs : List Int} (h : OwI w lo v zs) (hb : Below w.heap.size w w') : OwI w' lo v zs :=
  own_of_block h fun k hk => hb.block k (h.lt k hk).2

theorem own_form {w : World} {lo : Nat} {v : Value} {zs : List Int} (h : OwI w lo v zs) (h0 : 1 ≤ zs.length) : ∃ b cap, v = .slice (some ⟨b, 0, none⟩) zs.length cap ∧ lo ≤ b ∧ b < w.heap.size := by
  obtain ⟨b, cap, e, h1, h2⟩ := h.row (by omega)
  exact ⟨b, cap, e, h1, h2⟩

set_option maxHeartbeats 4000000 in
theorem l91Lengths_any {B g P : Nat} (w : World) (h : Rdr w B g P) (hP : P ≤ 900000) :
    Calls Try.prog 25 #[.pointer (some ⟨g, 0, none⟩)] w (LenPost B g P w) := by
  have hg := h.lt
  have h' := hid h
  clear h
  go_enter Try.func25, Try.ntmps25
  go_wp2
  go_loopw [3, 4] (fun o i wr => ∃ (k : Nat) (zs : List Int), k ≤ 7 ∧ i = .int .i64 k ∧ Hid (OwI wr w.heap.size o zs) ∧ Hid (zs.length = k) ∧ Rdr wr B g (P + 3 * k) ∧ Hid (w.grownBy wr (some g))) (fun _ i _ => 7 - (intOf i).toNat)
  case atStart =>
    exact ⟨0, [], by omega, rfl, OwI.empty_lit w (Nat.le_refl _), hid rfl, h'.out.below ((Below.refl w.heap.size w).alloc (Nat.le_refl _) _) hg, World.grownBy_alloc w _ _⟩
  case round =>
    obtain ⟨k, zs, hk, rfl, hown, hzl, hrd, hgr⟩ := hrel
    go_wp2_with fail
    refine (pick_any 7 wr hrd (by omega) (by omega) (by omega)).mono ?_
    rintro e w1 ⟨x, rfl, hx0, hx1, hrd1, hgr1, hs1⟩
    have hown1 := hid (hown.out.pick hgr1 hg)
    have hgr2 := hid (grown_set hgr.out hgr1)
    clear hs1 hgr1 hrd hown hgr
    by_cases hlt : (k : Int) < 1 + x
    · have hk7 : k < 7 := by omega
      go_wp2_with fail
      refine (pick_any 9 w1 hrd1 (by omega) (by omega) (by omega)).mono ?_
      rintro e w2 ⟨y, rfl, hy0, hy1, hrd2, hgr3, hs3⟩
      have hown2 := hid (hown1.out.pick hgr3 hg)
      have hgr4 := hid (grown_set hgr2.out hgr3)
      clear hs3 hgr3 hrd1 hown1 hgr2
      go_wp2_with fail
      refine (pick_any 8 w2 hrd2 (by omega) (by omega) (by omega)).mono ?_
      rintro e w3 ⟨z, rfl, hz0, hz1, hrd3, hgr5, hs5⟩
      have hown3 := hid (hown2.out.pick hgr5 hg)
      have hgr6 := hid (grown_set hgr4.out hgr5)
      have hsz6 := hgr6.out.size
      clear hs5 hgr5 hrd2 hown2 hgr4
      obtain ⟨q, hq⟩ : ∃ q, y + z / 7 * 90 = q := ⟨_, rfl⟩
      have hrd3' := hid hrd3
      clear hrd3
      go_wp2_with (at_builtin; refine wpList_app1 rfl (.tmp 13) (.tmp 21) rfl w.heap.size q _ _ rfl rfl hown3.out hsz6 (by rw [hzl.out]; omega) ?_; intro v' w4 hown' hbel')
      go_roundw
      case rel => exact ⟨k + 1, _, by omega, by go_num, hid hown', hid (by simp [hzl.out]), (hrd3'.out.below hbel' hg).le (by omega), hid (grown_below hgr6.out hbel')⟩
      case measure => simp [intOf]; omega
    · have hzl1 : 1 ≤ zs.length := by rw [hzl.out]; omega
      have hzl7 : zs.length ≤ 7 := by rw [hzl.out]; omega
      obtain ⟨b, cap, rfl, hb1, hb2⟩ := own_form hown1.out hzl1
      obtain ⟨n, hn⟩ : ∃ n, zs.length = n := ⟨_, rfl⟩
      rw [hn] at hzl1 hzl7 hown1 ⊢
      have hn' := hid hn
      clear hn hzl
      go_wp2_with fail
      refine (pick_any 20 w1 hrd1 (by omega) (by omega) (by omega)).mono ?_
      rintro e w2 ⟨y, rfl, hy0, hy1, hrd2, hgr3, hs3⟩
      have hown2 := hid (hown1.out.pick hgr3 hg)
      have hgr4 := hid (grown_set hgr2.out hgr3)
      have hb3 : b < w2.heap.size := Nat.lt_of_lt_of_le hb2 hgr3.size
      clear hs3 hgr3 hrd1 hown1 hgr2
      have hsz4 := hgr4.out.size
      rcases (show y = 0 ∨ y = 1 ∨ 2 ≤ y by omega) with rfl | rfl | hy2
      · go_wp2_with fail
        refine (pick_any (n : Int) w2 hrd2 (by omega) (by omega) (by omega)).mono ?_
        rintro e w3 ⟨z, rfl, hz0, hz1, hrd3, hgr5, hs5⟩
        have hown3 := hid (hown2.out.pick hgr5 hg)
        have hgr6 := hid (grown_set hgr4.out hgr5)
        have hb4 : b < w3.heap.size := Nat.lt_of_lt_of_le hb3 hgr5.size
        have hsz6 := hgr6.out.size
        clear hs5 hgr5 hrd2 hown2 hgr4
        have hbel := hid ((Below.refl w.heap.size w3).alloc hsz6 (.cells #[.int .i64 (-1), .int .i64 99, .int .i64 100] 3))
        have hbel3 := hid ((Below.refl w3.heap.size w3).alloc (Nat.le_refl _) (.cells #[.int .i64 (-1), .int .i64 99, .int .i64 100] 3))
        have hrd4 := hrd3.below hbel.out hg
        have hown4 := hid (OwI.below2 hown3.out hbel3.out)
        have hgr7 := hid (grown_below hgr6.out hbel.out)
        have hL : Hid ((w3.alloc (.cells #[.int .i64 (-1), .int .i64 99, .int .i64 100] 3)).heap[w3.heap.size]? = some (.cells #[.int .i64 (-1), .int .i64 99, .int .i64 100] 3 (0, 0))) := hid (heap_alloc_new w3 _)
        clear hrd3 hown3 hgr6 hbel hbel3
        go_wp2_with fail
        generalize hW : w3.alloc _ = W at hrd4 hown4 hgr7 hL ⊢
        have hgW : w3.heap.size ≠ g := by omega
        have hW3 : w3.heap.size < W.heap.size := (Array.getElem?_eq_some_iff.1 hL.out).1
        clear hW
        refine (pick_any 3 W hrd4 (by omega) (by omega) (by omega)).mono ?_
        rintro e w5 ⟨u, rfl, hu0, hu1, hrd5, hgr8, hs8⟩
        have hown5 := hid (hown4.out.pick hgr8 hg)
        have hgr9 := hid (grown_set hgr7.out hgr8)
        have hL5 : Hid (w5.heap[w3.heap.size]? = some (.cells #[.int .i64 (-1), .int .i64 99, .int .i64 100] 3 (0, 0))) := hid ((hgr8.block _ hW3 (fun e => hgW (by injection e))).trans hL.out)
        clear hs8 hgr8 hrd4 hown4 hgr7 hL
        obtain ⟨j, rfl⟩ := Int.eq_ofNat_of_zero_le hz0
        have hjn : j < n := by omega
        obtain ⟨q, hq⟩ : ∃ q, w5.cell? ⟨w3.heap.size, u.toNat, none⟩ = some (.int .i64 q) := by
          rcases (show u = 0 ∨ u = 1 ∨ u = 2 by omega) with rfl | rfl | rfl
          · exact ⟨-1, by rw [show (0 : Int).toNat = 0 from rfl, cell_of_row w5 _ 0 _ _ (0, 0) hL5.out]; rfl⟩
          · exact ⟨99, by rw [show (1 : Int).toNat = 1 from rfl, cell_of_row w5 _ 1 _ _ (0, 0) hL5.out]; rfl⟩
          · exact ⟨100, by rw [show (2 : Int).toNat = 2 from rfl, cell_of_row w5 _ 2 _ _ (0, 0) hL5.out]; rfl⟩
        obtain ⟨u2, rfl⟩ := Int.eq_ofNat_of_zero_le hu0
        rw [Int.toNat_natCast] at hq
        have ho5 : Hid (w5.ownsRow w.heap.size 3 1 (.slice (some ⟨b, 0, none⟩) n cap) n (ints zs)) := hid (by
          have := hown5.out
          rw [OwI, hn'.out] at this; exact this)
        have hcell : w5.cell? ⟨b, j, none⟩ = some (.int .i64 (zs.getD j 0)) := by
          rw [ho5.out.cellAt j (by omega)]
          have : j < zs.length := by rw [hn'.out]; exact hjn
          simp [this]
        have hfr : w5.frozen? ⟨b, j, none⟩ = false := ho5.out.frozenAt j
        have hst := hid (ho5.out.stored j (.int .i64 q))
        have hbs := hid ((Below.refl w.heap.size w5).setCell (p := ⟨b, j, none⟩) hb1 (.int .i64 q))
        have hrd5' := hid hrd5
        clear hown5 hrd5
        go_wp2
        go_ret
        refine ⟨_, zs.set j q, rfl, ?_, by rw [List.length_set, hn'.out]; omega, (hrd5'.out.below hbs.out hg).le (by omega), grown_below hgr9.out hbs.out⟩
        rw [OwI, List.length_set, hn'.out, ints, List.map_set]
        exact hst.out.1
      · have ho2 : Hid (w2.ownsRow w.heap.size 3 1 (.slice (some ⟨b, 0, none⟩) n cap) n (ints zs)) := hid (by
          have := hown2.out
          rw [OwI, hn'.out] at this; exact this)
        have hsr := hid (Reads.of_own (c := cap) ho2.out)
        have hrd2' := hid hrd2
        clear hrd2
        go_wp2_with (at_builtin; refine wpList_appN rfl (.tmp 40) (.tmp 41) rfl w.heap.size w2.heap.size _ zs zs ⟨b, 0, none⟩ n cap rfl rfl hown2.out hsr.out (by omega) hsz4 (by rw [hn'.out]; omega) (by omega) ?_; intro v' w4 hown' hbel')
        go_ret
        exact ⟨_, _, rfl, hown', by simp [hn'.out]; omega, (hrd2'.out.below hbel' hg).le (by omega), grown_below hgr4.out hbel'⟩
      · have hx3 : (y == 0) = false := by simp; omega
        have hx4 : (y == 1) = false := by simp; omega
        have hrd2' := hid hrd2
        clear hrd2
        go_wp2
        go_ret
        exact ⟨_, zs, rfl, hown2.out, by rw [hn'.out]; omega, hrd2'.out.le (by omega), hgr4.out⟩

set_option maxHeartbeats 4000000 in
theorem l91Live_any {B g P m : Nat} (w : World) (h : Rdr w B g P) (hP : P ≤ 900000) (hm : m ≤ 20) :
    Calls Try.prog 31 #[.pointer (some ⟨g, 0, none⟩), .int .i64 m] w fun e w' => ∃ (v : Value) (zs : List Int), e = .returned v ∧ OwI w' w.heap.size v zs ∧ zs.length ≤ 21 ∧ w.grownBy w' (some g) := by
  have hg := h.lt
  have h' := hid h
  clear h
  go_enter Try.func31, Try.ntmps31
  go_wp2
  go_loopw [5, 6] (fun o i wr => ∃ (k : Nat) (zs : List Int), k ≤ m ∧ i = .int .i64 k ∧ Hid (OwI wr w.heap.size o zs) ∧ Hid (zs.length ≤ k) ∧ Rdr wr B g (P + k) ∧ Hid (w.grownBy wr (some g))) (fun _ i _ => m - (intOf i).toNat)
  case atStart =>
    exact ⟨0, [], by omega, rfl, OwI.empty_lit w (Nat.le_refl _), hid (by simp), h'.out.below ((Below.refl w.heap.size w).alloc (Nat.le_refl _) _) hg, World.grownBy_alloc w _ _⟩
  case round =>
    obtain ⟨k, zs, hk, rfl, hown, hzl, hrd, hgr⟩ := hrel
    by_cases hlt : k < m
    · go_wp2_with fail
      refine (pick_any 4 wr hrd (by omega) (by omega) (by omega)).mono ?_
      rintro e w1 ⟨x, rfl, hx0, hx1, hrd1, hgr1, hs1⟩
      have hown1 := hid (hown.out.pick hgr1 hg)
      have hgr2 := hid (grown_set hgr.out hgr1)
      have hsz := hgr2.out.size
      have hrd1' := hid hrd1
      have hzl' := hzl.out
      clear hs1 hgr1 hrd hown hgr hrd1
      by_cases hx : 0 < x
      · go_wp2_with (at_builtin; refine wpList_app1 rfl (.tmp 16) (.tmp 18) rfl w.heap.size (k : Int) _ _ rfl rfl hown1.out hsz (by omega) ?_; intro v' w4 hown' hbel')
        go_roundw
        case rel => exact ⟨k + 1, _, by omega, by go_num, hid hown', hid (by simp; omega), hrd1'.out.below hbel' hg, hid (grown_below hgr2.out hbel')⟩
        case measure => simp [intOf]; omega
      · go_wp2
        go_roundw
        case rel => exact ⟨k + 1, zs, by omega, by go_num, hown1, hid (by omega), hrd1'.out, hgr2⟩
        case measure => simp [intOf]; omega
    · have hzl' := hzl.out
      go_wp2_with fail
      refine (pick_any 20 wr hrd (by omega) (by omega) (by omega)).mono ?_
      rintro e w1 ⟨x, rfl, hx0, hx1, hrd1, hgr1, hs1⟩
      have hown1 := hid (hown.out.pick hgr1 hg)
      have hgr2 := hid (grown_set hgr.out hgr1)
      clear hs1 hgr1 hrd hown hgr
      by_cases hx : x = 0
      · subst hx
        go_wp2_with fail
        refine (pick_any 9 w1 hrd1 (by omega) (by omega) (by omega)).mono ?_
        rintro e w2 ⟨y, rfl, hy0, hy1, hrd2, hgr3, hs3⟩
        have hown2 := hid (hown1.out.pick hgr3 hg)
        have hgr4 := hid (grown_set hgr2.out hgr3)
        have hsz := hgr4.out.size
        clear hs3 hgr3 hrd1 hrd2 hown1 hgr2
        go_wp2_with (at_builtin; refine wpList_app1 rfl (.tmp 23) (.tmp 27) rfl w.heap.size (y - 1) _ _ rfl rfl hown2.out hsz (by omega) ?_; intro v' w4 hown' hbel')
        go_ret
        exact ⟨_, _, rfl, hown', by simp; omega, grown_below hgr4.out hbel'⟩
      · have hx' : (x == 0) = false := by rw [beq_eq_false_iff_ne]; exact hx
        clear hx hrd1
        go_wp2
        go_ret
        exact ⟨_, zs, rfl, hown1.out, by omega, hgr2.out⟩

def DrawIx (w : World) (e : Ending) (w' : World) : Prop :=
  ∃ (v : Value) (zs : List Int), e = .returned v ∧ OwI w' w.heap.size v zs ∧ zs.length ≤ 14 ∧ Below w.heap.size w w'

def DrawLd (w : World) (e : Ending) (w' : World) : Prop :=
  ∃ (v u : Value) (xs ys : List Int), e = .returned (.tuple #[v, u]) ∧ OwI w' w.heap.size v xs ∧ OwI w' w.heap.size u ys ∧ (∃ m : Nat, Ow w' w.heap.size m v xs ∧ Ow w' m w'.heap.size u ys) ∧ xs.length ≤ 14 ∧ ys.length ≤ 21 ∧ Below w.heap.size w w'

def DrawNd (w : World) (e : Ending) (w' : World) : Prop :=
  ∃ (v : Value) (zs : List Int) (x : Int), e = .returned (.tuple #[v, .int .i64 x]) ∧ OwI w' w.heap.size v zs ∧ zs.length ≤ 14 ∧ Below w.heap.size w w'

set_option maxHeartbeats 1000000 in
theorem DrawCommitIndex_any {a : Option Addr} {len cap : Nat} {zs : List Int} (w : World) (h : RowIs .u8 w a len cap zs) :
    Calls Try.prog 11 #[.slice a len cap] w (DrawIx w) := by
  have h' := hid h
  clear h
  go_enter Try.func11, Try.ntmps11
  go_wp2_with fail
  refine (l6Open_any w h'.out).mono ?_
  rintro e w1 ⟨rfl, hrd, hb, hs⟩
  have hb' := hid hb
  have hs' := Nat.le_of_eq hs
  have hs2 := Nat.le_of_eq hs.symm
  clear hs hb
  go_wp2_with fail
  refine (l91Lengths_any w1 hrd (by omega)).mono ?_
  rintro e w2 ⟨v, xs, rfl, hown, hl, _, hgr⟩
  go_wp2
  go_ret
  exact ⟨v, xs, rfl, hown.more (by omega), hl, hb'.out.grown hgr (by omega) (fun k hk => by injection hk with hk; omega)⟩

set_option maxHeartbeats 1000000 in
theorem DrawCommitLeader_any {a : Option Addr} {len cap : Nat} {zs : List Int} (w : World) (h : RowIs .u8 w a len cap zs) :
    Calls Try.prog 14 #[.slice a len cap] w (DrawLd w) := by
  have h' := hid h
  clear h
  go_enter Try.func14, Try.ntmps14
  go_wp2_with fail
  refine (l6Open_any w h'.out).mono ?_
  rintro e w1 ⟨rfl, hrd, hb, hs⟩
  have hb' := hid hb
  have hs' := Nat.le_of_eq hs
  have hs2 := Nat.le_of_eq hs.symm
  clear hs hb
  go_wp2_with fail
  refine (l91Lengths_any w1 hrd (by omega)).mono ?_
  rintro e w2 ⟨v, xs, rfl, hown, hl, hrd2, hgr⟩
  obtain ⟨A2, c2, rfl, _⟩ := hown.form
  have hz := hgr.size
  go_wp2_with fail
  refine (l91Live_any w2 hrd2 (by omega) (by omega)).mono ?_
  rintro e w3 ⟨u, ys, rfl, hown2, hl2, hgr2⟩
  have hown3 := hown.pick hgr2 (by omega)
  have hO : Ow w3 w.heap.size w2.heap.size (.slice A2 xs.length c2) xs := ⟨hown3.more (by omega), fun k hk => (hown.lt k hk).2⟩
  go_wp2
  go_ret2
  exact ⟨_, u, xs, ys, rfl, hown3.more (by omega), hown2.more (by omega), ⟨w2.heap.size, hO, Ow.of hown2⟩, hl, hl2, (hb'.out.grown hgr (by omega) (fun k hk => by injection hk with hk; omega)).grown hgr2 (by omega) (fun k hk => by injection hk with hk; omega)⟩

set_option maxHeartbeats 1000000 in
theorem DrawCommitRepair_any {a : Option Addr} {len cap : Nat} {zs : List Int} (w : World) (h : RowIs .u8 w a len cap zs) :
    Calls Try.prog 18 #[.slice a len cap] w (DrawLd w) := by
  have h' := hid h
  clear h
  go_enter Try.func18, Try.ntmps18
  go_wp2_with fail
  refine (DrawCommitLeader_any w h'.out).mono ?_
  rintro e w1 ⟨v, u, xs, ys, rfl, h1, h2, h3, h4, h5, h6⟩
  have H := hid (And.intro h1 (And.intro h2 (And.intro h3 (And.intro h4 (And.intro h5 h6)))))
  clear h1 h2 h3 h4 h5 h6
  go_wp2
  go_ret2
  exact ⟨v, u, xs, ys, rfl, H.out⟩

set_option maxHeartbeats 1000000 in
theorem DrawCommitNeeded_any {a : Option Addr} {len cap : Nat} {zs : List Int} (w : World) (h : RowIs .u8 w a len cap zs) :
    Calls Try.prog 22 #[.slice a len cap] w (DrawNd w) := by
  have h' := hid h
  clear h
  go_enter Try.func22, Try.ntmps22
  go_wp2_with fail
  refine (l6Open_any w h'.out).mono ?_
  rintro e w1 ⟨rfl, hrd, hb, hs⟩
  have hb' := hid hb
  have hs' := Nat.le_of_eq hs
  have hs2 := Nat.le_of_eq hs.symm
  clear hs hb
  go_wp2_with fail
  refine (l91Lengths_any w1 hrd (by omega)).mono ?_
  rintro e w2 ⟨v, xs, rfl, hown, hl, hrd2, hgr⟩
  have hown' := hid hown
  have hgr' := hid hgr
  have hz := hgr.size
  clear hown hgr hrd
  go_wp2_with fail
  refine (pick_any 11 w2 hrd2 (by omega) (by omega) (by omega)).mono ?_
  rintro e w3 ⟨x, rfl, hx0, hx1, hrd3, hgr3, hs3⟩
  have hown3 := hid (hown'.out.pick hgr3 (by omega))
  have hgr4 := hid (grown_set hgr'.out hgr3)
  clear hs3 hgr3 hrd2 hown' hgr'
  go_wp2_with fail
  refine (pick_any 20 w3 hrd3 (by omega) (by omega) (by omega)).mono ?_
  rintro e w4 ⟨y, rfl, hy0, hy1, hrd4, hgr5, hs5⟩
  have hown5 := hid (hown3.out.pick hgr5 (by omega))
  have hgr6 := hid (grown_set hgr4.out hgr5)
  clear hs5 hgr5 hrd3 hrd4 hown3 hgr4
  go_wp2
  go_ret2
  exact ⟨v, xs, _, rfl, hown5.out.more (by omega), hl, hb'.out.grown hgr6.out (by omega) (fun k hk => by injection hk with hk; omega)⟩
end Go.Proofs.Ytgejohkdgcoeeaa
