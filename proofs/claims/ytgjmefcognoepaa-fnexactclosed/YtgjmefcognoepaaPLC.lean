/-
  What the law of Compose asks of the program's own; stores of three cells.
-/
import Derived.Test.YtgjmefcognoepaaPG5
namespace Go.Proofs.Ytgjmefcognoepaa.Pr
open Go Go.RowKit Go.Maps Go.WideMaps

theorem below_set3 {w0 W : World} {P : Nat} {x y z : Value} (hb : Below w0.heap.size w0 W) (hP : w0.heap.size ≤ P) : Below w0.heap.size w0 (((W.setCell ⟨P, 0, none⟩ x).setCell ⟨P, 1, none⟩ y).setCell ⟨P, 2, none⟩ z) := below_set (below_set (below_set hb 0 x hP) 1 y hP) 2 z hP
theorem cell_set1 {W : World} {P o b i : Nat} {x v : Value} (h : W.cell? ⟨b, i, none⟩ = some v) (hb : b < P) : (W.setCell ⟨P, o, none⟩ x).cell? ⟨b, i, none⟩ = some v := by
  rw [← h]
  unfold World.cell?
  rw [heap_setCell_other W ⟨P, o, none⟩ b x (by show b ≠ P; omega)]
theorem cell_set3 {W : World} {P b i : Nat} {x y z v : Value} (h : W.cell? ⟨b, i, none⟩ = some v) (hb : b < P) : (((W.setCell ⟨P, 0, none⟩ x).setCell ⟨P, 1, none⟩ y).setCell ⟨P, 2, none⟩ z).cell? ⟨b, i, none⟩ = some v := cell_set1 (cell_set1 (cell_set1 h hb) hb) hb
theorem cell_new {W : World} {b i : Nat} {o : Obj} {v : Value} (h : W.cell? ⟨b, i, none⟩ = some v) : (W.alloc o).cell? ⟨b, i, none⟩ = some v := by
  rw [← h]
  unfold World.cell?
  rw [heap_alloc_old W o (cell_lt h)]
theorem fgr_all {S : Nat → Prop} {w w' : World} {vs : List Value} {g : Gr} (h : FGr S w vs g) (hS : ∀ b, S b → b < w.heap.size) (hb : Below w.heap.size w w') : FGr (fun b => b < w'.heap.size) w' vs g :=
  FGr_keeps.2 _ _ _ _ _ (FGr_keeps.1 _ _ _ _ _ h (Same.below hS hb)) (fun b h => Nat.lt_of_lt_of_le (hS b h) hb.size)

end Go.Proofs.Ytgjmefcognoepaa.Pr
