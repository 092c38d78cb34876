/-
  ARGUMENTS OPENED: lists of graphs.
-/
import Derived.Test.YtgjmefcognoepaaPOg
import Derived.Test.YtgjmefcognoepaaPG6
namespace Go.Proofs.Ytgjmefcognoepaa.Pr
open Go Go.RowKit Go.Maps Go.WideMaps

theorem open_GraphS {H : Type} {enc : TypeId × Value → H} {W : World} {fuel : Nat} {cs : List Value} {y : DataW H × List MemPlace} (h : Rdg enc W fuel 22 cs y) :
    ∃ (a : Option Addr) (cap : Nat) (l : List Gr), cs = [.slice a l.length cap] ∧ RowIn FGr 3 (fun b => b < W.heap.size) W a l ∧ l.length ≤ 9223372036854775807 ∧ ∀ x ∈ l, x.fits :=
  open_rows FGr 3 22 34 Try.underlying22 (by kernel_rfl) (by omega) Gr.fits open_Graph h

end Go.Proofs.Ytgjmefcognoepaa.Pr
