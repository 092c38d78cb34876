/-
  THE WALKS: impl.NumText writes the numeral; laws.FnExactNumText answers true.
-/
import Derived.Test.YtngnmfoephegmaaDoorLaid
import Derived.Test.YtngnmfoephegmaaDoorNumWalk
import Derived.Lib.AppendIntMem
namespace Go.Proofs.YtngnmfoephegmaaDoor
open Go Go.ChangeShapes Go.WideShapes Go.ChangeAt Go.WideMaps Go.WideElems Go.RowKit

set_option maxHeartbeats 400000 in
theorem implNumText (n : Int) (h0 : -9223372036854775808 ≤ n) (h1 : n ≤ 9223372036854775807) (w : World) (hp : Pow w) :
    Calls Tryd.prog 65 #[.int .i64 n] w fun e w' => e = .returned (.string ⟨(Lib.itoa n).toArray⟩) ∧ Below w.heap.size w w' := by
  have H0 := Lib.hid h0
  have H1 := Lib.hid h1
  clear h0 h1
  go_enter Tryd.func65, Tryd.ntmps65
  go_wp2_with (go_at_call 69; refine (Tryd.strconv_Itoa n H0.out H1.out _ hp).mono ?_; rintro e w' ⟨rfl, k, os, rfl⟩)
  go_ret
  exact ⟨rfl, Lib.below_grow _ _ (Nat.le_refl _) _ _⟩

end Go.Proofs.YtngnmfoephegmaaDoor
