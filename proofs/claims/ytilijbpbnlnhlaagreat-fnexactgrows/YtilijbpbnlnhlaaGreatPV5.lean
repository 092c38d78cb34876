/-
  THE WALK of spec.ExpVars.
-/
import Derived.Test.YtilijbpbnlnhlaaGreatPV4
namespace Go.Proofs.YtilijbpbnlnhlaaGreat.Pr
open Go Go.RowKit Go.Maps Go.WideMaps

open Classical in
/-- What ExpVars answers. -/
noncomputable def varsAns (u : Ru) (n : Int) : List ByteArray := if RuleOk u ∧ 0 ≤ n ∧ n < (u.es.length : Int) then varsIn u.es n.toNat else []
theorem varsAns_ok {u : Ru} {n : Nat} (h : RuleOk u) (hn : n < u.es.length) : varsAns u (n : Int) = varsIn u.es n := by
  unfold varsAns
  rw [if_pos ⟨h, by omega, by omega⟩]
  rfl
theorem varsAns_no {u : Ru} {n : Int} (h : ¬ (RuleOk u ∧ 0 ≤ n ∧ n < (u.es.length : Int))) : varsAns u n = [] := if_neg h
theorem varsIn_len (es : List It) (n : Nat) : (varsIn es n).length ≤ n + 1 := by rw [← varsTo_all]; exact varsTo_len es n (n + 1)
theorem varsAns_len (u : Ru) (n : Int) : (varsAns u n).length ≤ 60 := by
  by_cases h : RuleOk u ∧ 0 ≤ n ∧ n < (u.es.length : Int)
  · unfold varsAns
    rw [if_pos h]
    have := varsIn_len u.es n.toNat
    have := h.1.good.few
    omega
  · rw [varsAns_no h]; simp
/-- What both answer, and where it lies. -/
def VarsPost (u : Ru) (n : Int) (w : World) (e : Ending) (w' : World) : Prop := (∃ v : Value, e = .returned v ∧ w'.ownsRow w.heap.size 9 1 v (varsAns u n).length (txtCells (varsAns u n))) ∧ Below w.heap.size w w'

end Go.Proofs.YtilijbpbnlnhlaaGreat.Pr
