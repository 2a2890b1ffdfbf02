/-
  The walks of the law FnLinkedSame. No condition.
-/
import Derived.Test.YtdahnideolaniaaDrawB
import Derived.Test.YtdahnideolaniaaExB
import Derived.Test.YtdahnideolaniaaPureD
namespace Go.Proofs.Ytdahnideolaniaa
open Go.RowKit

theorem RdL.step {w w' : World} {n : Nat} {A : Option Addr} {zss : List (List Int)} (h : RdL w w.heap.size A n zss) (hb : Below w.heap.size w w') : RdL w' w'.heap.size A n zss := (h.below hb).more hb.size
theorem RdL.stepQ {w w' : World} {n : Nat} {A : Option Addr} {zss : List (List Int)} (h : RdL w w.heap.size A n zss) (hq : Qt w w') : RdL w' w'.heap.size A n zss := by
  rw [hq.size]; exact h.quiet hq

theorem common_at {wr W : World} {n m c d : Nat} {A A' : Option Addr} {xs ys R : List Int} (hb : Below wr.heap.size wr W) (hR : commonR xs ys = R) (hx : RdI wr wr.heap.size A n xs) (hy : RdI wr wr.heap.size A' m ys) (hn : n < 1099511627776) (hm : m < 1099511627776) :
    Calls Try.prog 15 #[.slice A n c, .slice A' m d] W fun e w' => ∃ (A3 : Option Addr) (c3 : Nat), e = .returned (.slice A3 R.length c3) ∧ Below wr.heap.size wr w' := by
  refine (GroupsCommon_impl W (Reads.more (Reads.below hx hb) hb.size) (Reads.more (Reads.below hy hb) hb.size) hn hm).mono fun e w' ⟨v, he, ho, hb2⟩ => ?_
  rw [hR] at ho
  obtain ⟨A3, c3, e3, _⟩ := ho.form
  exact ⟨A3, c3, by rw [he, e3], hb.trans (hb2.mono hb.size)⟩

set_option maxHeartbeats 2000000 in
theorem lawLinkedSame {a b : Option Addr} {len cap len2 cap2 : Nat} {cs : List Int} (w : World) (h : RowIs .u8 w a len cap cs) :
    Calls Try.prog 6 #[.slice a len cap, .slice b len2 cap2] w fun e w' => e = .returned (.bool true) ∧ Below w.heap.size w w' := by
  have h' := hid h
  clear h
  by_cases hbig : len ≤ 1048576
  · by_cases hbig2 : len2 ≤ 1048576
    case neg =>
      go_enter Try.func6, Try.ntmps6
      go_wp2
      go_ret
      exact ⟨rfl, Below.refl _ _⟩
    go_enter Try.func6, Try.ntmps6
    go_wp2_with fail
    refine (DrawGroupsLinked_any w h'.out).mono ?_
    rintro e w1 ⟨v, zss, x, rfl, ho, hzl, hsh, hb1⟩
    obtain ⟨A, c, rfl, hr1⟩ := ho.form
    have hr1' := hid hr1
    have hB1 := hid hb1
    have hs1 := hb1.size
    have hsh' := hid hsh.short
    have hsh6 := hid hsh
    clear ho hr1 hb1 hsh
    obtain ⟨R, hR⟩ : ∃ R, linkedR zss x = R := ⟨_, rfl⟩
    have hRl : R.length ≤ 5 := by rw [← hR]; exact linkedR_len zss x
    have hR' := hid hR
    clear hR
    go_wp2_with fail
    refine (GroupsLinked_impl x _ hr1'.out (by omega) hsh'.out).mono ?_
    rw [hR'.out]
    rintro e w2 ⟨v, rfl, ho, hb⟩
    have lg_2 := hid (Lv.ofI ho)
    have hr2 := hid (hr1'.out.step hb)
    have hB2 := hid (hB1.out.trans (hb.mono hs1))
    have hs2 := hB2.out.size
    clear ho hb hB1 hr1'
    obtain ⟨A2, c2, rfl⟩ := lg_2.out.rd
    go_wp2_with fail
    refine (GroupsLinked_spec x _ hr2.out (by omega) hsh'.out).mono ?_
    rw [hR'.out]
    rintro e w3 ⟨v, rfl, ho, hb⟩
    have lp_3 := hid (Lv.ofI ho)
    have lg_3 := hid (lg_2.out.step hb)
    have hr3 := hid (hr2.out.step hb)
    have hB3 := hid (hB2.out.trans (hb.mono hs2))
    have hs3 := hB3.out.size
    clear ho hb hB2 hr2 lg_2
    obtain ⟨A3, c3, rfl⟩ := lp_3.out.rd
    go_wp2_with fail
    refine (sameInts_any _ lg_3.out.at_ lp_3.out.at_ (by omega) (by omega)).mono ?_
    rw [sameB_self]
    rintro e w4 ⟨rfl, hq⟩
    have lg_4 := hid (lg_3.out.quiet hq)
    have lp_4 := hid (lp_3.out.quiet hq)
    have hr4 := hid (hr3.out.stepQ hq)
    have hB4 := hid (hB3.out.trans (hq.below _))
    have hs4 := hB4.out.size
    clear hq hB3 hr3 lg_3 lp_3
    by_cases h0 : R.length = 0
    · have hz : ((R.length : Int) == 0) = true := by simp [h0]
      have h0' := hid h0
      clear h0
      go_wp2_with fail
      refine (sameInts_any _ lg_4.out.at_ lp_4.out.at_ (by omega) (by omega)).mono ?_
      rw [sameB_self]
      rintro e w5 ⟨rfl, hq⟩
      go_wp2
      go_ret
      exact ⟨rfl, hB4.out.trans (hq.below _)⟩
    · have hz : ((R.length : Int) == 0) = false := by rw [beq_eq_false_iff_ne]; omega
      have hgood := linked_good (zss := zss) (x := x) (by rw [hR'.out]; omega)
      obtain ⟨h1, h2⟩ := goodB_true hgood
      have h1' := hid h1
      have h2' := hid h2
      have hR0 : 0 < R.length := by omega
      clear h0 hgood h1 h2
      obtain ⟨n, hn⟩ : ∃ n, zss.length = n := ⟨_, rfl⟩
      rw [hn] at hzl
      rw [hn]
      have hr4' := hid (show RdL w4 w4.heap.size A n zss by rw [← hn]; exact hr4.out)
      have hn' := hid hn
      clear hn hr4
      have hmlt : len2 % R.length < R.length := Nat.mod_lt _ hR0
      have t1 : (len2 : Int).tmod (R.length : Int) = ((len2 % R.length : Nat) : Int) := by rw [Int.tmod_eq_emod_of_nonneg (by omega)]; simp
      generalize len2 % R.length = j at hmlt t1
      obtain ⟨ad, z, e2, hzj, hc⟩ := RdI.at' lg_4.out.at_ hmlt
      subst e2
      have hmem : z ∈ R := by
        rw [← hzj.out]
        have : R.getD j 0 = R[j] := by simp [hmlt]
        rw [this]; exact List.getElem_mem hmlt
      have hRz : linkedR zss z = R := by
        rw [← hR'.out] at hmem ⊢
        rw [linkedR_yes h1'.out h2'.out, elemsM_mem] at hmem
        have hgz : grB z = true := grB_true.2 (by omega)
        rw [linkedR_yes h1'.out hgz, linkedR_yes h1'.out h2'.out, link_same h1'.out h2'.out hgz hmem.2]
      have hRz' := hid hRz
      clear hmem hRz
      go_wp2_with fail
      refine (GroupsLinked_impl z _ hr4'.out (by omega) hsh'.out).mono ?_
      rw [hRz'.out]
      rintro e w5 ⟨v, rfl, ho, hb⟩
      have lh_5 := hid (Lv.ofI ho)
      have lg_5 := hid (lg_4.out.step hb)
      have hB5 := hid (hB4.out.trans (hb.mono hs4))
      clear ho hb
      obtain ⟨A5, c5, rfl⟩ := lh_5.out.rd
      go_wp2_with fail
      refine (sameInts_any _ lh_5.out.at_ lg_5.out.at_ (by omega) (by omega)).mono ?_
      rw [sameB_self]
      rintro e w6 ⟨rfl, hq⟩
      go_wp2
      go_ret
      exact ⟨rfl, hB5.out.trans (hq.below _)⟩
  · go_enter Try.func6, Try.ntmps6
    go_wp2
    go_ret
    exact ⟨rfl, Below.refl _ _⟩

end Go.Proofs.Ytdahnideolaniaa
