/-
  THE WALK over spec.TermSize; laws.FnExactTermSize answers true.
-/
import Derived.Test.YtngnmfoephegmaaDoorSize
namespace Go.Proofs.YtngnmfoephegmaaDoor
open Go Go.RowKit

theorem parts_kids {l : List UInt8} {t : Tm} (h : rdAll l = some t) : (partsOf l).2 = t.kids.map Tm.text := by
  unfold partsOf
  rw [h]
  cases t with
  | num n => rfl
  | sym b => rfl
  | con name args => rfl
theorem kids_read {l : List UInt8} {t a : Tm} (h : rdAll l = some t) (ha : a ∈ t.kids) : rdAll a.text = some a ∧ a.text.length < l.length := by
  obtain ⟨hw, hx, hl⟩ := rdAll_sound h
  have h1 := kids_len ha
  rw [hx] at h1
  exact ⟨rdAll_text (kids_wf hw a ha) (by omega), h1⟩

/-- What the loop over the arguments holds. -/
def PartsRel (w : World) (xs : List ByteArray) (ts : List Tm) (rb : Nat) (vs : Value) (v4 v5 : Value) (wr : World) : Prop :=
  ∃ k : Nat, v5 = .int .i64 (k : Int) ∧ k ≤ xs.length ∧ v4 = .int .i64 (1 + (sizes (ts.take k) : Int)) ∧ wr.ownsRow rb 9 1 vs xs.length (strCells xs) ∧ Below w.heap.size w wr

end Go.Proofs.YtngnmfoephegmaaDoor
