/-
  impl.Compose answers as the reference does.
-/
import Derived.Test.YtgjmefcognoepaaPA7
import Derived.Test.YtgjmefcognoepaaPLC
namespace Go.Proofs.Ytgjmefcognoepaa.Pr
open Go Go.RowKit Go.Maps Go.WideMaps

theorem NewPost.any {g : Gr} {w : World} {e : Ending} {w' : World} (h : NewPost g w e w') : ∃ (f t : Int) (L : List Int) (ok : Bool), e = .returned (.tuple #[.agg (gcells f t L).toArray, .bool ok]) ∧ L.length = 36 ∧ (ok = true → f = g.f ∧ t = g.t ∧ Tab L g.rs ∧ RightA g.rs) ∧ (ok = false → ¬ RightA g.rs) ∧ Below w.heap.size w w' := by
  obtain ⟨h1, hb⟩ := h
  rcases h1 with ⟨L, rfl, hT, hR⟩ | ⟨rfl, hR⟩
  · exact ⟨_, _, L, true, rfl, hT.len, fun _ => ⟨rfl, rfl, hT, hR⟩, fun h => (by cases h), hb⟩
  · exact ⟨_, _, z36, false, rfl, by simp, fun h => (by cases h), fun _ => hR, hb⟩

end Go.Proofs.Ytgjmefcognoepaa.Pr
