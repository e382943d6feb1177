/-
  What the walk of laws.FnExactLines asks of the row's first world.
-/
import Derived.Test.YtdhncpkcbeggmaaDoorW5
import Derived.Test.YtdhncpkcbeggmaaDoorShaped
namespace Go.Proofs.YtdhncpkcbeggmaaDoor
theorem facts_FnExactLines {p : Prop} {W : World} (_ : p) (hsh : W.ShapedOpen Tryd.prog) : SomeMax W ∧ 3 < W.heap.size := some_max_of hsh
end Go.Proofs.YtdhncpkcbeggmaaDoor
