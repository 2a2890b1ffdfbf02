/-
  The walk of the law FnStampMaxOrder. No condition.
-/
import Derived.Test.YtmnkamonkmoapaaSmF
namespace Go.Proofs.Ytmnkamonkmoapaa
open Go.RowKit

theorem drop_rev {zs : List St} {j : Nat} {x : St} (hx : zs[j]? = some x) : (zs.drop j).reverse = (zs.drop (j + 1)).reverse ++ [x] := by
  obtain ⟨h1, h2⟩ := List.getElem?_eq_some_iff.1 hx
  rw [List.drop_eq_getElem_cons h1, h2]; simp

def MaxIs (l : List St) (m m2 : Int) (o : Bool) : Prop := maxR l = (m, m2) ∧ maxOk l = o

set_option maxHeartbeats 2000000 in
theorem lawStampMaxOrder {a : Option Addr} {len cap : Nat} {zb : List Int} (w : World) (h : RowIs .u8 w a len cap zb) :
    Calls Try.prog 6 #[.slice a len cap] w fun e w' => e = .returned (.bool true) ∧ Below w.heap.size w w' := by
  have hl : len ≤ 9223372036854775807 := by
    rcases h with ⟨rfl, rfl, rfl, rfl⟩ | ⟨x, rfl, hl, hm, _⟩
    · omega
    · unfold maxLen at hm; omega
  by_cases hbig : 1048576 < len
  · clear h
    go_enter Try.func6, Try.ntmps6
    go_wp2
    go_ret
    exact ⟨rfl, Below.refl _ _⟩
  · have h' := hid h
    clear h
    go_enter Try.func6, Try.ntmps6
    go_wp2_with fail
    refine (DrawStampMax_any w h'.out).mono ?_
    rintro e w1 ⟨v, zs, rfl, ho, hl, hb1⟩
    have hw1 := hb1.size
    have hB1 := hid hb1
    clear hb1
    obtain ⟨A, c, rfl, hr, hc, hc2⟩ := ho.form
    obtain ⟨n, hn⟩ : ∃ n, zs.length = n := ⟨_, rfl⟩
    rw [hn] at hr hc hl ⊢
    have hnl : n < 1099511627776 := by omega
    have hr := hid hr
    have hn := hid hn
    clear ho
    obtain ⟨m, m2, hm⟩ : ∃ m m2, maxR zs = (m, m2) := ⟨_, _, rfl⟩
    have hm1 := hid (show (maxR zs).1 = m by rw [hm])
    have hm2 := hid (show (maxR zs).2 = m2 by rw [hm])
    have hm := hid hm
    obtain ⟨ok, hok⟩ : ∃ ok, maxOk zs = ok := ⟨_, rfl⟩
    have hok := hid hok
    go_wp2_with fail
    refine (StampMax_impl _ hr.out hnl hc hc2).mono ?_
    unfold MaxPost
    rw [hm1.out, hm2.out, hok.out]
    rintro e w2 ⟨rfl, hb2⟩
    have hz2 := hb2.size
    have r2 := hid ((hr.out.below hb2).below (below1 w2 (.cells #[.int .i64 m, .int .i64 m2] 24)))
    have B2 := hid ((hB1.out.trans (hb2.mono hw1)).alloc (o := .cells #[.int .i64 m, .int .i64 m2] 24) (by omega))
    have V2 := hid (hb2.alloc (o := .cells #[.int .i64 m, .int .i64 m2] 24) (by omega))
    have P2 := hid (At2.new w2 24 m m2)
    have hz2' : w2.heap.size < (w2.alloc (.cells #[.int .i64 m, .int .i64 m2] 24)).heap.size := by simp
    clear hb2
    go_wp2_with fail
    refine (StampMax_spec _ r2.out hnl).mono ?_
    unfold MaxPost
    rw [hm1.out, hm2.out, hok.out]
    rintro e w3 ⟨rfl, hb3⟩
    have hz3 := hb3.size
    have B3 := hid ((B2.out.trans (hb3.mono (by omega))).alloc (o := .cells #[.int .i64 m, .int .i64 m2] 24) (by omega))
    have V3 := hid ((V2.out.trans (hb3.mono (by omega))).alloc (o := .cells #[.int .i64 m, .int .i64 m2] 24) (by omega))
    have P3 := hid ((P2.out.below hb3 hz2').alloc (.cells #[.int .i64 m, .int .i64 m2] 24))
    have Q3 := hid (At2.new w3 24 m m2)
    have hz3' : w2.heap.size < w3.heap.size := by omega
    clear hb3 r2 P2 V2 B2
    cases ok with
    | false =>
      obtain ⟨x0, x1, _, _⟩ := P3.out.cells
      obtain ⟨y0, y1, _, _⟩ := Q3.out.cells
      go_wp2
      go_ret
      exact ⟨rfl, B3.out⟩
    | true =>
      obtain ⟨x0, x1, x2, x3⟩ := P3.out.cells
      obtain ⟨y0, y1, _, _⟩ := Q3.out.cells
      have hR : Hid (MaxIs (zs.reverse) m m2 true) := hid ⟨by rw [maxR_same (l := zs) hok.out (by simp) (by simp), hm.out], by rw [maxOk_rev (l := zs) (by simp) (by simp)]; exact hok.out⟩
      go_wp2
      clear x0 x1 x2 x3 y0 y1
      obtain ⟨w4, hw4⟩ : ∃ w4, w3.alloc (.cells #[.int .i64 m, .int .i64 m2] 24) = w4 := ⟨_, rfl⟩
      rw [hw4] at B3 V3 P3
      have z4 : w4.heap.size = w3.heap.size + 1 := by rw [← hw4]; simp
      have P4 := hid (P3.out.alloc (.cells #[] 24))
      have V4 := hid (V3.out.alloc (o := .cells #[] 24) (by omega))
      have O4 : Hid (OwS (w4.alloc (.cells #[] 24)) w4.heap.size (.slice (some ⟨w3.heap.size + 1, 0, none⟩) 0 0) []) := hid (by have := OwS.empty_lit (B := w4.heap.size) w4 (Nat.le_refl _); rw [z4] at this ⊢; exact this)
      have z5 : w4.heap.size ≤ (w4.alloc (.cells #[] 24)).heap.size := by simp
      rw [hw4]
      clear hw4
      have z24 : w2.heap.size < w4.heap.size := by omega
      have z14 : w1.heap.size ≤ w4.heap.size := by omega
      clear z4
      go_loopw [8, 9] (fun o i wr => ∃ (j : Nat) (bs : List St), j ≤ n ∧ i = .int .i64 ((j : Int) - 1) ∧ OwS wr w4.heap.size o bs ∧ Hid (bs = (zs.drop j).reverse) ∧ Hid (At2 wr w2.heap.size 24 m m2) ∧ Hid (Below w1.heap.size w1 wr) ∧ w4.heap.size ≤ wr.heap.size) (fun _ i _ => (intOf i + 1).toNat)
      case atStart => exact ⟨n, [], by omega, rfl, O4.out, hid (by rw [List.drop_eq_nil_of_le (by rw [hn.out]; exact Nat.le_refl _)]; rfl), P4, V4, z5⟩
      case round =>
        obtain ⟨j, bs, hj, rfl, hown, hbs, hp, hV, hz6⟩ := hrel
        have hzV := hV.out.size
        by_cases h0 : j = 0
        · subst h0
          rw [show ((0 : Nat) : Int) - 1 = -1 by decide]
          have hbs2 : bs = zs.reverse := by rw [hbs.out, List.drop_zero]
          have hR2 := hR.out
          rw [← hbs2] at hR2
          have hm3 := hid (show (maxR bs).1 = m by rw [hR2.1])
          have hm4 := hid (show (maxR bs).2 = m2 by rw [hR2.1])
          have hok2 := hid hR2.2
          have hbl : bs.length < 1099511627776 := by rw [hbs2, List.length_reverse, hn.out]; omega
          obtain ⟨A9, c9, rfl, r9, h9, h92⟩ := hown.form
          have r9 := hid r9
          have B9 := hid (hB1.out.trans (hV.out.mono hw1))
          have hpl := hp.out.lt
          clear hbs2 hR2 hown
          go_wp2_with fail
          refine (StampMax_impl _ r9.out hbl h9 h92).mono ?_
          unfold MaxPost
          rw [hm3.out, hm4.out, hok2.out]
          rintro e w6 ⟨rfl, hb6⟩
          have P6 := hid (hp.out.below hb6 hpl)
          have hz7 := hb6.size
          have B6 := hid ((B9.out.trans (hb6.mono (by omega))).alloc (o := .cells #[.int .i64 m, .int .i64 m2] 24) (by omega))
          obtain ⟨x0, x1, _, _⟩ := P6.out.cells
          have hpl6 : w2.heap.size < w6.heap.size := by omega
          clear hb6
          go_wp2
          go_ret
          exact ⟨rfl, B6.out⟩
        · obtain ⟨j', rfl⟩ : ∃ j', j = j' + 1 := ⟨j - 1, by omega⟩
          rw [show ((j' + 1 : Nat) : Int) - 1 = (j' : Int) by omega]
          have hjn : j' < n := by omega
          have hrr := hid (hr.out.below hV.out)
          obtain ⟨b, off, t, g, rfl, hx, hb, d0, d1⟩ := hrr.out.at_ hjn
          have i0 : (0 : Int) ≤ (j' : Int) := by omega
          have i1 : (j' : Int) < (n : Int) := by omega
          have hbl : bs.length < 1099511627776 := by rw [hbs.out, List.length_reverse, List.length_drop, hn.out]; omega
          clear h0
          go_wp2_with (at_builtin; refine wpList_appSt rfl (.tmp 55) (.tmp 60) rfl w4.heap.size t g _ bs rfl rfl hown hz6 hbl ?_; intro v' w5 hown5 hbel5)
          have hz7 := hbel5.size
          have P5 := hid (hp.out.below hbel5 z24)
          have V5 := hid (hV.out.trans (hbel5.mono z14))
          go_roundw
          case rel => exact ⟨j', bs ++ [(t, g)], by omega, rfl, hown5, hid (by rw [hbs.out, ← drop_rev hx.out]), P5, V5, by omega⟩
          case measure => simp [intOf]
end Go.Proofs.Ytmnkamonkmoapaa
