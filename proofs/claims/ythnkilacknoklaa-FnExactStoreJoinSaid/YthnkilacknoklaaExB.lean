/-
  The walks of the exact laws of GroupsCommon and GroupsUnion: the law returns true and writes nothing that was there. No condition.
-/
import Derived.Test.YthnkilacknoklaaMgA
namespace Go.Proofs.Ythnkilacknoklaa
open Go.RowKit

theorem sameB_self (zs : List Int) : sameB zs zs = true := by simp [sameB]

theorem commonR_len (xs ys : List Int) : (commonR xs ys).length ≤ xs.length := by
  unfold commonR
  split
  · exact List.length_filter_le _ _
  · simp

theorem unionR_len (xs ys : List Int) : (unionR xs ys).length ≤ 5 := by
  unfold unionR
  split
  · exact List.length_filter_le _ (grps 5)
  · simp

end Go.Proofs.Ythnkilacknoklaa
