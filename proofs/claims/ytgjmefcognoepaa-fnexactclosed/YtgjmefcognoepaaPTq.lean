/-
  THE LAWS' OWN COPYING, with one word more: what it lays anew are plain rows, in which nothing is frozen.
-/
import Derived.Test.YtgjmefcognoepaaPTr
namespace Go.Proofs.Ytgjmefcognoepaa.Pr
open Go Go.RowKit Go.Maps Go.WideMaps

/-- All blocks from n on are rows with nothing frozen in them. -/
def Plain (n : Nat) (w : World) : Prop := ∀ b, n ≤ b → b < w.heap.size → ∃ cur ty, w.heap[b]? = some (.cells cur ty (0, 0))
theorem Plain.start (w : World) : Plain w.heap.size w := fun _ h1 h2 => by omega
theorem Plain.alloc {n : Nat} {w : World} (h : Plain n w) (cs : Array Value) (ty : TypeId) : Plain n (w.alloc (.cells cs ty)) := by
  intro b h1 h2
  have hs : (w.alloc (.cells cs ty)).heap.size = w.heap.size + 1 := by simp
  by_cases hb : b < w.heap.size
  · rw [heap_alloc_old w _ hb]; exact h b h1 hb
  · obtain rfl : b = w.heap.size := by omega
    exact ⟨cs, ty, heap_alloc_new w _⟩
theorem Plain.setCell {n : Nat} {w : World} (h : Plain n w) (g o : Nat) (u : Value) : Plain n (w.setCell ⟨g, o, none⟩ u) := by
  intro b h1 h2
  have hs : (w.setCell ⟨g, o, none⟩ u).heap.size = w.heap.size := by simp [World.setCell]
  obtain ⟨cur, ty, hc⟩ := h b h1 (by omega)
  by_cases hb : b = g
  · subst hb
    exact ⟨cur.setIfInBounds o u, ty, heap_setCell_same w b o cur ty u hc⟩
  · exact ⟨cur, ty, (heap_setCell_other w ⟨g, o, none⟩ b u hb).trans hc⟩
theorem Plain.step {n : Nat} {w w' : World} (h : Plain n w) (hb : Below w.heap.size w w') (h' : Plain w.heap.size w') : Plain n w' := by
  intro b h1 h2
  by_cases hl : b < w.heap.size
  · rw [hb.block b hl]; exact h b h1 hl
  · exact h' b (by omega) h2
theorem Plain.setAll : ∀ {n : Nat} {w : World} (_ : Plain n w) (g o : Nat) (vs : List Value), Plain n (Pr.setAll w g o vs)
  | _, _, h, _, _, [] => h
  | _, _, h, g, o, v :: r => Plain.setAll (h.setCell g o v) g (o + 1) r
theorem Plain.frozen {n : Nat} {w : World} (h : Plain n w) {b : Nat} (h1 : n ≤ b) (h2 : b < w.heap.size) (o : Nat) : w.frozen? ⟨b, o, none⟩ = false := by
  obtain ⟨cur, ty, hc⟩ := h b h1 h2
  exact frozen_row hc o

def TpRelIntS (w : World) (xs : List Int) (g : Nat) (v4 : Value) (wr : World) : Prop :=
  ∃ k : Nat, v4 = .int .i64 (k : Int) ∧ k ≤ xs.length ∧ wr.ownsRow w.heap.size 3 1 (.slice (some ⟨g, 0, none⟩) xs.length xs.length) xs.length (intCells (xs.take k ++ List.replicate (xs.length - k) 0)) ∧ Below w.heap.size w wr ∧ Plain w.heap.size wr

end Go.Proofs.Ytgjmefcognoepaa.Pr
