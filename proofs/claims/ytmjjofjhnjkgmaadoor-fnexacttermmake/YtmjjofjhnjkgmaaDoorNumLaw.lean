/-
  THE WALKS: impl.NumText writes the numeral; laws.FnExactNumText answers true.
-/
import Derived.Test.YtmjjofjhnjkgmaaDoorLaid
import Derived.Test.YtmjjofjhnjkgmaaDoorNumWalk
import Derived.Lib.AppendIntMem
namespace Go.Proofs.YtmjjofjhnjkgmaaDoor
open Go Go.ChangeShapes Go.WideShapes Go.ChangeAt Go.WideMaps Go.WideElems Go.RowKit

set_option maxHeartbeats 400000 in
theorem implNumText (n : Int) (h0 : -9223372036854775808 ≤ n) (h1 : n ≤ 9223372036854775807) (w : World) (hp : Pow w) :
    Calls Tryd.prog 41 #[.int .i64 n] w fun e w' => e = .returned (.string ⟨(Lib.itoa n).toArray⟩) ∧ Below w.heap.size w w' := by
  have H0 := Lib.hid h0
  have H1 := Lib.hid h1
  clear h0 h1
  go_enter Tryd.func41, Tryd.ntmps41
  go_wp2_with (go_at_call 61; refine (Tryd.strconv_Itoa n H0.out H1.out _ hp).mono ?_; rintro e w' ⟨rfl, k, os, rfl⟩)
  go_ret
  exact ⟨rfl, Lib.below_grow _ _ (Nat.le_refl _) _ _⟩

set_option maxHeartbeats 400000 in
theorem law_FnExactNumText (n : Int) (h0 : -9223372036854775808 ≤ n) (h1 : n ≤ 9223372036854775807) (w : World) (hp : Pow w) :
    Calls Tryd.prog 14 #[.int .i64 n] w fun e w' => e = .returned (.bool true) ∧ Below w.heap.size w w' := by
  have H0 := Lib.hid h0
  have H1 := Lib.hid h1
  clear h0 h1
  go_enter Tryd.func14, Tryd.ntmps14
  go_wp2_with fail
  refine (specNumText n H0.out H1.out _).mono ?_
  rintro e w1 ⟨rfl, hb1⟩
  have hp1 := hp.stays hb1 (Nat.le_refl _)
  go_wp2_with fail
  refine (implNumText n H0.out H1.out _ hp1).mono ?_
  rintro e w2 ⟨rfl, hb2⟩
  have hb := hb1.trans (hb2.mono hb1.size)
  clear hb1 hb2
  go_wp2
  go_ret
  exact ⟨rfl, hb⟩

end Go.Proofs.YtmjjofjhnjkgmaaDoor
