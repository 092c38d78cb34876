/-
  THE LAWS' OWN HELPERS over lists of numbers and of texts.
-/
import Derived.Test.YtgjmefcognoepaaPB
namespace Go.Proofs.Ytgjmefcognoepaa.Pr
open Go Go.RowKit Go.Maps Go.WideMaps

theorem infoIntS : (Try.prog.info? 3).map (fun i => (i.zero, i.size, i.bytes)) = some (some (.int .i64 0), 1, 8) := by kernel_rfl
def intCells (xs : List Int) : List Value := xs.map (fun x => .int .i64 x)
def EqIntSRel (w : World) (n : Nat) (v : Value) (wr : World) : Prop := ∃ k : Nat, Below w.heap.size w wr ∧ v = .int .i64 (k : Int) ∧ k ≤ n

def ToRelIntS (w : World) (xs : List Int) (g : Nat) (v4 : Value) (wr : World) : Prop :=
  ∃ k : Nat, v4 = .int .i64 (k : Int) ∧ k ≤ xs.length ∧ wr.ownsRow w.heap.size 3 1 (.slice (some ⟨g, 0, none⟩) xs.length xs.length) xs.length (intCells (xs.take k ++ List.replicate (xs.length - k) 0)) ∧ Below w.heap.size w wr
theorem own_IntS {w : World} {base : Nat} {g cap : Nat} {xs : List Int} (h : w.ownsRow base 3 1 (.slice (some ⟨g, 0, none⟩) xs.length cap) xs.length (intCells xs)) (hg : g < w.heap.size) (hb : base ≤ g) : IntsIn (Seg base w.heap.size) w (some ⟨g, 0, none⟩) xs := by
  intro i hi
  refine ⟨g, 0, rfl, ⟨hb, hg⟩, ?_⟩
  rw [Nat.zero_add, h.cellAt i (by omega)]
  simp [intCells, hi]

def wtIntS (xs : List Int) : Nat := xs.length
theorem infoStringS : (Try.prog.info? 9).map (fun i => (i.zero, i.size, i.bytes)) = some (some (.string ⟨#[]⟩), 1, 16) := by kernel_rfl
def txtCells (xs : List ByteArray) : List Value := xs.map (fun x => .string x)
def EqStringSRel (w : World) (n : Nat) (v : Value) (wr : World) : Prop := ∃ k : Nat, Below w.heap.size w wr ∧ v = .int .i64 (k : Int) ∧ k ≤ n

def ToRelStringS (w : World) (xs : List ByteArray) (g : Nat) (v4 : Value) (wr : World) : Prop :=
  ∃ k : Nat, v4 = .int .i64 (k : Int) ∧ k ≤ xs.length ∧ wr.ownsRow w.heap.size 9 1 (.slice (some ⟨g, 0, none⟩) xs.length xs.length) xs.length (txtCells (xs.take k ++ List.replicate (xs.length - k) ⟨#[]⟩)) ∧ Below w.heap.size w wr
theorem own_StringS {w : World} {base : Nat} {g cap : Nat} {xs : List ByteArray} (h : w.ownsRow base 9 1 (.slice (some ⟨g, 0, none⟩) xs.length cap) xs.length (txtCells xs)) (hg : g < w.heap.size) (hb : base ≤ g) : TxtsIn (Seg base w.heap.size) w (some ⟨g, 0, none⟩) xs := by
  intro i hi
  refine ⟨g, 0, rfl, ⟨hb, hg⟩, ?_⟩
  rw [Nat.zero_add, h.cellAt i (by omega)]
  simp [txtCells, hi]

def wtStringS (xs : List ByteArray) : Nat := wsum ByteArray.size xs + xs.length
def SzRelStringS (w : World) (l : List ByteArray) (L : Int) (v1 v4 : Value) (wr : World) : Prop :=
  ∃ k : Nat, Below w.heap.size w wr ∧ v4 = .int .i64 (k : Int) ∧ k ≤ l.length ∧ v1 = .int .i64 (L - (l.length : Int) - (wsum ByteArray.size (l.take k) : Int)) ∧ ((wsum ByteArray.size (l.take k) : Int) + l.length ≤ L)
end Go.Proofs.Ytgjmefcognoepaa.Pr
