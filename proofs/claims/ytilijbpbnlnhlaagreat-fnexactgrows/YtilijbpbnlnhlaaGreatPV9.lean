/-
  THE WALK of impl.ExpVars: hasForm, isExpPlace, partsOf, namesAt, inOrder.
-/
import Derived.Test.YtilijbpbnlnhlaaGreatPV5
import Derived.Test.YtilijbpbnlnhlaaGreatPV8
import Derived.Test.YtilijbpbnlnhlaaGreatPIA
namespace Go.Proofs.YtilijbpbnlnhlaaGreat.Pr
open Go Go.RowKit Go.Maps Go.WideMaps Go.Sort Go.Proofs

theorem ranked_named {u : Ru} (hw : u.wt ≤ 1048576) {P : List Nat} (hr : P.Pairwise (· < ·)) (hl : ∀ m ∈ P, m < u.es.length) (hp : P.length ≤ 1048576) : Ranked (named u.es P) := by
  refine ⟨named_apart _ _, named_rise hr, fun p hp => ?_, ?_⟩
  · obtain ⟨a, ha, rfl⟩ := List.mem_map.1 hp
    have hal := hl a ((firsts_sub u.es P).subset ha)
    show (expAt u.es a).s.size ≤ _
    rw [expAt_lt hal]
    have h1 := wsum_mem It.wt (List.getElem_mem hal)
    unfold Ru.wt wtExpS at hw
    have h2 : u.es[a].s.size ≤ u.es[a].wt := by unfold It.wt; omega
    omega
  · unfold named
    rw [List.length_map]
    exact Nat.le_trans (firsts_len _ _) hp

def PoPost (w2 : World) (P : List Nat) (e : Ending) (w' : World) : Prop := (∃ g cap : Nat, e = .returned (.slice (some ⟨g, 0, none⟩) P.length cap) ∧ w'.ownsRow w2.heap.size 3 1 (.slice (some ⟨g, 0, none⟩) P.length cap) P.length (intCells (ints P))) ∧ Below w2.heap.size w2 w'
def NaPost (w2 : World) (es : List It) (P : List Nat) (e : Ending) (w' : World) : Prop := (∃ (B n : Nat) (D : DataW Unit), e = .returned (.map (some B)) ∧ NameMap D (named es P) ∧ w'.ownsMap Tryz.prog 9 (plainElem Tryz.prog 3) B n D) ∧ Below w2.heap.size w2 w'
def IoPost (w2 : World) (xs : List ByteArray) (e : Ending) (w' : World) : Prop := (∃ v : Value, e = .returned v ∧ w'.ownsRow w2.heap.size 9 1 v xs.length (txtCells xs)) ∧ Below w2.heap.size w2 w'

end Go.Proofs.YtilijbpbnlnhlaaGreat.Pr
