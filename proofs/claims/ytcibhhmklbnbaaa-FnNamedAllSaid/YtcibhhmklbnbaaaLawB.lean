/-
  The walks of the law FnLinkedSame. No condition.
-/
import Derived.Test.YtcibhhmklbnbaaaDrawB
import Derived.Test.YtcibhhmklbnbaaaExB
import Derived.Test.YtcibhhmklbnbaaaPureD
namespace Go.Proofs.Ytcibhhmklbnbaaa
open Go.RowKit

theorem RdL.step {w w' : World} {n : Nat} {A : Option Addr} {zss : List (List Int)} (h : RdL w w.heap.size A n zss) (hb : Below w.heap.size w w') : RdL w' w'.heap.size A n zss := (h.below hb).more hb.size

theorem RdL.stepQ {w w' : World} {n : Nat} {A : Option Addr} {zss : List (List Int)} (h : RdL w w.heap.size A n zss) (hq : Qt w w') : RdL w' w'.heap.size A n zss := by
  rw [hq.size]; exact h.quiet hq

theorem common_at {wr W : World} {n m c d : Nat} {A A' : Option Addr} {xs ys R : List Int} (hb : Below wr.heap.size wr W) (hR : commonR xs ys = R) (hx : RdI wr wr.heap.size A n xs) (hy : RdI wr wr.heap.size A' m ys) (hn : n < 1099511627776) (hm : m < 1099511627776) :
    Calls Try.prog 12 #[.slice A n c, .slice A' m d] W fun e w' => ∃ (A3 : Option Addr) (c3 : Nat), e = .returned (.slice A3 R.length c3) ∧ Below wr.heap.size wr w' := by
  refine (GroupsCommon_impl W (Reads.more (Reads.below hx hb) hb.size) (Reads.more (Reads.below hy hb) hb.size) hn hm).mono fun e w' ⟨v, he, ho, hb2⟩ => ?_
  rw [hR] at ho
  obtain ⟨A3, c3, e3, _⟩ := ho.form
  exact ⟨A3, c3, by rw [he, e3], hb.trans (hb2.mono hb.size)⟩

end Go.Proofs.Ytcibhhmklbnbaaa
