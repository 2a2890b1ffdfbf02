/-
  The draws of lists of sets: l91Sets, DrawGroupsNamed, DrawGroupsLinked: they return slices of slices of their own, and a group. No condition.
-/
import Derived.Test.YtcibhhmklbnbaaaOwnL
namespace Go.Proofs.Ytcibhhmklbnbaaa
open Go.RowKit

def Sh6 (zss : List (List Int)) : Prop := ∀ i, (zss.getD i []).length ≤ 6

theorem Sh6.nil : Sh6 [] := fun i => by simp

theorem Sh6.snoc {zss : List (List Int)} {zs : List Int} (h : Sh6 zss) (hz : zs.length ≤ 6) : Sh6 (zss ++ [zs]) := by
  intro i
  by_cases e : i < zss.length
  · have e2 : (zss ++ [zs]).getD i [] = zss.getD i [] := by simp [List.getElem?_append, e]
    rw [e2]; exact h i
  · by_cases e3 : i = zss.length
    · have e2 : (zss ++ [zs]).getD i [] = zs := by rw [e3]; simp
      rw [e2]; exact hz
    · have e2 : (zss ++ [zs]).getD i [] = [] := by
        have : (zss ++ [zs]).length ≤ i := by simp; omega
        simp [List.getElem?_eq_none this]
      rw [e2]; simp

theorem Sh6.short {zss : List (List Int)} (h : Sh6 zss) : Short zss := fun i _ => by have := h i; omega

def SetsPost (B g P : Nat) (w : World) (e : Ending) (w' : World) : Prop :=
  ∃ (v : Value) (zss : List (List Int)), e = .returned v ∧ OwLL w' w.heap.size v zss ∧ zss.length ≤ 13 ∧ Sh6 zss ∧ Rdr w' B g (P + 200) ∧ w.grownBy w' (some g)

theorem OwI.below' {w w' : World} {lo : Nat} {v : Value} {zs : List Int} (h : OwI w lo v zs) (hb : Below w.heap.size w w') : OwI w' lo v zs := OwI.below h hb

set_option maxHeartbeats 4000000 in
theorem l91Sets_any {B g P : Nat} (w : World) (h : Rdr w B g P) (hP : P ≤ 800000) :
    Calls Try.prog 29 #[.pointer (some ⟨g, 0, none⟩)] w (SetsPost B g P w) := by
  have hg := h.lt
  have h0 := hid (h.below ((Below.refl w.heap.size w).alloc (Nat.le_refl _) (.cells #[] 23)) hg)
  have hgr0 := hid (World.grownBy_alloc w (.cells #[] 23) (some g))
  have ho0 := hid (OwLL.empty_lit (lo := w.heap.size) w (Nat.le_refl _))
  clear h
  go_enter Try.func29, Try.ntmps29
  go_wp2_with fail
  refine (pick_any 6 _ h0.out (by omega) (by omega) (by omega)).mono ?_
  rintro e w1 ⟨x, rfl, hx0, hx1, hrd1, hgr1, hs1⟩
  have ho1 := hid (ho0.out.pick hgr1 hg)
  have hgr1' := hid (grown_set hgr0.out hgr1)
  clear hgr1 hs1 h0 hgr0 ho0
  go_wp2_with fail
  refine (pick_any 16 _ hrd1 (by omega) (by omega) (by omega)).mono ?_
  rintro e w2 ⟨y, rfl, hy0, hy1, hrd2, hgr2, hs2⟩
  have ho2 := hid (ho1.out.pick hgr2 hg)
  have hgr2' := hid (grown_set hgr1'.out hgr2)
  clear hgr2 hs2 hrd1 hgr1' ho1
  go_upto_if 13 with (fail)
  go_cut [4] (fun n wx => ∃ m : Nat, n = .int .i64 m ∧ m ≤ 13 ∧ Rdr wx B g (P + 3) ∧ OwLL wx w.heap.size (.slice (some ⟨w.heap.size, 0, none⟩) 0 0) [] ∧ w.grownBy wx (some g))
  case first =>
    by_cases hy : y = 0
    · subst hy
      go_wp2_with fail
      refine (pick_any 3 _ hrd2 (by omega) (by omega) (by omega)).mono ?_
      rintro e w3 ⟨z, rfl, hz0, hz1, hrd3, hgr3, hs3⟩
      have ho3 := hid (ho2.out.pick hgr3 hg)
      have hgr3' := hid (grown_set hgr2'.out hgr3)
      clear hgr3 hs3
      go_wp2
      go_meet
      exact ⟨(11 + z).toNat, by rw [Int.toNat_of_nonneg (by omega)], by omega, hrd3, ho3.out, hgr3'.out⟩
    · have hy' : (y == 0) = false := by rw [beq_eq_false_iff_ne]; exact hy
      clear hy
      go_wp2
      go_meet
      exact ⟨x.toNat, by rw [Int.toNat_of_nonneg hx0], by omega, hrd2.le (by omega), ho2.out, hgr2'.out⟩
  case rest =>
    clear hrd2 ho2 hgr2' hx0 hx1 hy0 hy1
    obtain ⟨m, rfl, hm, hrd, ho, hgr⟩ := hcut
    have hrd' := hid hrd
    have ho' := hid ho
    have hgr' := hid hgr
    clear hrd ho hgr
    go_wp2
    go_loopw [3, 5] (fun o i wr => ∃ (k : Nat) (zss : List (List Int)), k ≤ m ∧ i = .int .i64 k ∧ OwLL wr w.heap.size o zss ∧ Hid (zss.length = k) ∧ Hid (Sh6 zss) ∧ Rdr wr B g (P + 3 + 12 * k) ∧ w.grownBy wr (some g)) (fun _ i _ => m - (intOf i).toNat)
    case atStart => exact ⟨0, [], by omega, rfl, ho'.out, rfl, Sh6.nil, hrd'.out, hgr'.out⟩
    case round =>
      obtain ⟨k, zss, hk, rfl, hown, hzl, hsh, hrd, hgr⟩ := hrel
      by_cases hlt : k < m
      · have hown' := hid hown
        have hgr' := hid hgr
        clear hown hgr
        go_wp2_with fail
        refine (pick_any 5 _ hrd (by omega) (by omega) (by omega)).mono ?_
        rintro e w3 ⟨x3, rfl, hx30, hx31, hrd3, hgr3, hs3⟩
        have ho3 := hid (hown'.out.pick hgr3 hg)
        have hgr3' := hid (grown_set hgr'.out hgr3)
        have hsz3 := hgr3'.out.size
        have hb3 := hid ((Below.refl w3.heap.size w3).alloc (Nat.le_refl _) (.cells #[.int .i64 x3] 3))
        have hs3' := hid (OwI.one_lit (B := w3.heap.size) w3 (Nat.le_refl _) x3)
        have hrd3' := hid (hrd3.below hb3.out hrd3.lt)
        have hg3 := hrd3.lt
        have hgr3'' := hid (World.grownBy_alloc w3 (.cells #[.int .i64 x3] 3) (some g))
        clear hgr3 hs3 hrd hown' hgr' hrd3
        go_upto_region 10 with (fail)
        go_cut [32] (fun t wx => ∃ b : Bool, t = .bool b ∧ (b = true → x3 < 4) ∧ OwI wx w3.heap.size (.slice (some ⟨w3.heap.size, 0, none⟩) 1 1) [x3] ∧ Rdr wx B g (P + 3 + 12 * k + 2) ∧ w3.grownBy wx (some g))
        case first =>
          by_cases hx4 : x3 < 4
          · go_wp2_with fail
            refine (pick_any 2 _ hrd3'.out (by omega) (by omega) (by omega)).mono ?_
            rintro e w4 ⟨y4, rfl, hy40, hy41, hrd4, hgr4, hs4⟩
            have ha := hid (hs3'.out.pick hgr4 hg3)
            have hc := hid (grown_set hgr3''.out hgr4)
            have hd := hid hrd4
            clear hgr4 hs4 hrd4
            go_wp2
            go_meet
            exact ⟨_, rfl, (fun _ => hx4), ha.out, hd.out.le (by omega), hc.out⟩
          · go_wp2
            go_meet
            exact ⟨false, rfl, (fun h => by cases h), hs3'.out, hrd3'.out.le (by omega), hgr3''.out⟩
        case rest =>
          clear hs3' hrd3' hgr3'' hb3
          obtain ⟨b, rfl, hb4, hs4, hrd4, hgr4⟩ := hcut
          have hs4' := hid hs4
          have hrd4' := hid hrd4
          have hgr4' := hid hgr4
          clear hs4 hrd4 hgr4
          obtain ⟨w5, rfl⟩ : ∃ w5, wc = w5 := ⟨_, rfl⟩
          go_upto_if 32 with (fail)
          go_cut [7] (fun s wx => ∃ ys : List Int, OwI wx w3.heap.size s ys ∧ ys.length ≤ 6 ∧ Rdr wx B g (P + 3 + 12 * k + 3) ∧ w3.grownBy wx (some g))
          case first =>
            cases b with
            | false =>
              go_wp2
              go_meet
              exact ⟨[x3], hs4'.out, by simp, hrd4'.out.le (by omega), hgr4'.out⟩
            | true =>
              have hx4 := hb4 rfl
              go_wp2_with fail
              refine (pick_any (4 - x3) _ hrd4'.out (by omega) (by omega) (by omega)).mono ?_
              rintro e w6 ⟨y6, rfl, hy60, hy61, hrd6, hgr6, hs6⟩
              have ha := hs4'.out.pick hgr6 hg3
              have hc := grown_set hgr4'.out hgr6
              have hsz6 := hc.size
              have hd := hid hrd6
              have hc' := hid hc
              clear hgr6 hs6 hrd6 hc
              go_wp2_with (at_builtin; refine wpList_app1 rfl (.tmp 33) (.tmp 41) rfl w3.heap.size (x3 + 1 + y6) _ _ rfl rfl ha hsz6 (by simp) ?_; intro v' w7 hown7 hbel7)
              go_meet
              exact ⟨_, hown7, by simp, hd.out.below hbel7 hg3, grown_below hc'.out hbel7⟩
          case rest =>
            clear hs4' hrd4' hgr4'
            obtain ⟨ys, hs5, hyl, hrd5, hgr5⟩ := hcut
            have hs5' := hid hs5
            have hgr5' := hid hgr5
            clear hs5 hgr5
            go_wp2_with fail
            refine (pick_any 20 _ hrd5 (by omega) (by omega) (by omega)).mono ?_
            rintro e w8 ⟨y8, rfl, hy80, hy81, hrd8, hgr8, hs8⟩
            have hs8' := hid (hs5'.out.pick hgr8 hg3)
            have hgr8' := hid (grown_set hgr5'.out hgr8)
            have hrd8' := hid hrd8
            clear hgr8 hs8 hrd8 hrd5 hs5' hgr5'
            go_upto_if 45 with (fail)
            go_cut [7] (fun s wx => ∃ ys : List Int, OwI wx w3.heap.size s ys ∧ ys.length ≤ 6 ∧ Rdr wx B g (P + 3 + 12 * k + 12) ∧ w3.grownBy wx (some g))
            case first =>
              by_cases hy : y8 = 0
              · subst hy
                go_wp2_with fail
                refine (l91Set_any _ hrd8'.out (by omega)).mono ?_
                rintro e w9 ⟨v9, zs9, rfl, hown9, hl9, hrd9, hgr9⟩
                have hsz8 := hgr8'.out.size
                have ha := hid (hown9.more hsz8)
                have hc := hid (grown_set hgr8'.out hgr9)
                have hd := hid hrd9
                clear hown9 hgr9 hrd9
                go_wp2
                go_meet
                exact ⟨zs9, ha.out, hl9, hd.out.le (by omega), hc.out⟩
              · have hy' : (y8 == 0) = false := by rw [beq_eq_false_iff_ne]; exact hy
                clear hy
                go_wp2
                go_meet
                exact ⟨ys, hs8'.out, hyl, hrd8'.out.le (by omega), hgr8'.out⟩
            case rest =>
              clear hs8' hrd8' hgr8' hyl
              obtain ⟨ys, hs9, hyl, hrd9, hgr9⟩ := hcut
              obtain ⟨w9, rfl⟩ : ∃ w9, w9 = wc := ⟨_, rfl⟩
              have hsz9 := hgr9.size
              have hO := ho3.out.pick hgr9 hg
              obtain ⟨A7, c7, rfl, _⟩ := hs9.form
              have hI := hs9.more hsz3
              have hG := hid (grown_set hgr3'.out hgr9)
              have hzk : zss.length < 1099511627776 := by rw [hzl.out]; omega
              have hrd9' := hid hrd9
              clear hs9 hrd9 hgr9
              have hsz9' := Nat.le_trans hsz3 hsz9
              go_wp2_with (at_builtin; refine wpList_appS rfl (.tmp 48) (.tmp 50) rfl w.heap.size (.slice A7 ys.length c7) u3 ys zss rfl rfl hO hI hsz9' hzk ?_; intro v' w10 hown10 hbel10)
              go_roundw
              case rel => exact ⟨k + 1, _, by omega, by go_num, hown10, hid (by simp [hzl.out]), hid (hsh.out.snoc hyl), (hrd9'.out.below hbel10 hg).le (by omega), grown_below hG.out hbel10⟩
              case measure => simp [intOf]; omega
      · go_wp2
        go_ret
        exact ⟨_, zss, rfl, hown, by rw [hzl.out]; omega, hsh.out, hrd.le (by omega), hgr⟩

def DrawL (w : World) (e : Ending) (w' : World) : Prop :=
  ∃ (v : Value) (zss : List (List Int)) (x : Int), e = .returned (.tuple #[v, .int .i64 x]) ∧ OwLL w' w.heap.size v zss ∧ zss.length ≤ 13 ∧ Sh6 zss ∧ Below w.heap.size w w'

set_option maxHeartbeats 1000000 in
theorem DrawGroupsNamed_any {a : Option Addr} {len cap : Nat} {zs : List Int} (w : World) (h : RowIs .u8 w a len cap zs) :
    Calls Try.prog 14 #[.slice a len cap] w (DrawL w) := by
  have h' := hid h
  clear h
  go_enter Try.func14, Try.ntmps14
  go_wp2_with fail
  refine (l6Open_any w h'.out).mono ?_
  rintro e w1 ⟨rfl, hrd, hb, hs⟩
  have hb' := hid hb
  have hs' := Nat.le_of_eq hs
  have hs2 := Nat.le_of_eq hs.symm
  clear hs hb
  go_wp2_with fail
  refine (l91Sets_any w1 hrd (by omega)).mono ?_
  rintro e w2 ⟨v, zss, rfl, hown, hl, hsh, hrd2, hgr⟩
  have ho2 := hid (hown.more (lo' := w.heap.size) (by omega))
  have hB2 := hid (hb'.out.grown hgr (by omega) (fun k hk => by injection hk with hk; omega))
  have hz2 := hgr.size
  have ho2' := hid hown
  have hsh' := hid hsh
  clear hown hgr hsh hrd
  go_wp2_with fail
  refine (pick_any 5 _ hrd2 (by omega) (by omega) (by omega)).mono ?_
  rintro e w3 ⟨x, rfl, hx0, hx1, hrd3, hgr3, hs3⟩
  have ho3 := hid (ho2'.out.pick hgr3 (by omega))
  have hB3 := hid (hB2.out.grown hgr3 (by omega) (fun k hk => by injection hk with hk; omega))
  have hz3 := hgr3.size
  clear hgr3 hs3 hrd2 ho2'
  go_wp2_with fail
  refine (pick_any 20 _ hrd3 (by omega) (by omega) (by omega)).mono ?_
  rintro e w4 ⟨y, rfl, hy0, hy1, hrd4, hgr4, hs4⟩
  have ho4 := hid (ho3.out.pick hgr4 (by omega))
  have hB4 := hid (hB3.out.grown hgr4 (by omega) (fun k hk => by injection hk with hk; omega))
  have hz4 := hgr4.size
  clear hgr4 hs4 hrd3 ho3
  go_wp2_with fail
  refine (pick_any 3 _ hrd4 (by omega) (by omega) (by omega)).mono ?_
  rintro e w5 ⟨z, rfl, hz0, hz1, hrd5, hgr5, hs5⟩
  have ho5 := hid (ho4.out.pick hgr5 (by omega))
  have hB5 := hid (hB4.out.grown hgr5 (by omega) (fun k hk => by injection hk with hk; omega))
  have hz5 := hgr5.size
  clear hgr5 hs5 hrd4 ho4 hrd5
  go_wp2
  go_ret2
  exact ⟨v, zss, _, rfl, ho5.out.more (by omega), hl, hsh'.out, hB5.out⟩

set_option maxHeartbeats 1000000 in
theorem DrawGroupsLinked_any {a : Option Addr} {len cap : Nat} {zs : List Int} (w : World) (h : RowIs .u8 w a len cap zs) :
    Calls Try.prog 17 #[.slice a len cap] w (DrawL w) := by
  have h' := hid h
  clear h
  go_enter Try.func17, Try.ntmps17
  go_wp2_with fail
  refine (DrawGroupsNamed_any w h'.out).mono ?_
  rintro e w1 ⟨v, zss, x, rfl, hown, hl, hsh, hb⟩
  have hall := hid (And.intro hown (And.intro hl (And.intro hsh hb)))
  clear hown hl hsh hb
  go_wp2
  go_ret2
  exact ⟨v, zss, x, rfl, hall.out.1, hall.out.2.1, hall.out.2.2.1, hall.out.2.2.2⟩

end Go.Proofs.Ytcibhhmklbnbaaa
