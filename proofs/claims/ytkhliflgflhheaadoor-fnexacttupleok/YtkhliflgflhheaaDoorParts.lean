/-
  laws.FnExactTermParts answers true.
-/
import Derived.Test.YtkhliflgflhheaaDoorText
namespace Go.Proofs.YtkhliflgflhheaaDoor
open Go Go.RowKit Go.Maps Go.WideMaps

theorem strs_inj : ∀ {xs ys : List ByteArray}, xs.map lst = ys.map lst → xs = ys
  | [], [], _ => rfl
  | [], y :: ys, h => by simp at h
  | x :: xs, [], h => by simp at h
  | x :: xs, y :: ys, h => by
    simp only [List.map_cons, List.cons.injEq] at h
    rw [lst_inj h.1, strs_inj h.2]

/-- A row outlives a call that leaves old memory alone. -/
theorem row_kept {w w' : World} {base : Nat} {e : TypeId} {size : Nat} {v : Value} {n : Nat} {xs : List Value} (h : w.ownsRow base e size v n xs) (hb : Below w.heap.size w w') : w'.ownsRow base e size v n xs := by
  have hg : w.grownBy w' none := ⟨hb.os, hb.tape, hb.output, hb.size, fun k hk _ => hb.block k hk⟩
  exact h.kept hg (by cases hv : v.ownBlock <;> simp)

def EqRel (w : World) (n : Nat) (v : Value) (wr : World) : Prop := ∃ k : Nat, Below w.heap.size w wr ∧ v = .int .i64 (k : Int) ∧ k ≤ n

set_option maxRecDepth 100000 in
set_option maxHeartbeats 1000000 in
theorem eqStringS_any (xs : List ByteArray) (b1 b2 : Nat) (u v : Value) (w : World) (hu : w.ownsRow b1 9 1 u xs.length (strCells xs)) (hv : w.ownsRow b2 9 1 v xs.length (strCells xs)) (hn : xs.length ≤ 2000000) :
    Calls Tryd.prog 46 #[u, v] w fun e w' => e = .returned (.bool true) ∧ Below w.heap.size w w' := by
  obtain ⟨a1, c1, rfl⟩ := owns_shape hu
  obtain ⟨a2, c2, rfl⟩ := owns_shape hv
  have HU := Lib.hid hu
  have HV := Lib.hid hv
  clear hu hv
  have hne : ((xs.length : Int) != (xs.length : Int)) = false := by simp
  go_enter Tryd.func46, Tryd.ntmps46
  go_wp2
  go_loopw [5] (fun v wr => EqRel w xs.length v wr) (fun v _ => (xs.length - (intOf v).toNat))
  case atStart => exact ⟨0, Below.refl _ _, rfl, Nat.zero_le _⟩
  case round =>
    obtain ⟨k, hb, rfl, hk⟩ := hrel
    by_cases hlt : k < xs.length
    · have hu := row_kept HU.out hb
      have hv := row_kept HV.out hb
      obtain ⟨g1, cap1, hg1, _, _⟩ := hu.form (by omega)
      simp only [Value.slice.injEq, true_and] at hg1
      obtain ⟨rfl, rfl⟩ := hg1
      obtain ⟨g2, cap2, hg2, _, _⟩ := hv.form (by omega)
      simp only [Value.slice.injEq, true_and] at hg2
      obtain ⟨rfl, rfl⟩ := hg2
      have hx : wr.cell? ⟨g1, k, none⟩ = some (.string xs[k]) := by
        rw [hu.cellAt k (by omega)]
        simp [strCells, hlt]
      have hy : wr.cell? ⟨g2, k, none⟩ = some (.string xs[k]) := by
        rw [hv.cellAt k (by omega)]
        simp [strCells, hlt]
      generalize xs[k] = x at *
      have hxx : (x.toList != x.toList) = false := by simp
      have HR := Lib.hid (fun q => (⟨k + 1, below_drewN hb q, by go_num, by omega⟩ : EqRel w xs.length (.int .i64 ((k : Int) + 1)) (wr.drewN q)))
      clear hu hv hb
      go_wp2
      go_quiet (fail)
      go_wp2
      go_roundw
      case rel => exact HR.out _
      case measure => simp [intOf]; omega
    · have hlt2 : decide ((k : Int) < (xs.length : Int)) = false := decide_eq_false (by omega)
      go_wp2
      go_ret
      exact ⟨rfl, hb⟩

/-- The digits of k, ahead of those that are there. -/
def digs : Nat → Nat → List UInt8 → List UInt8
  | 0, _, acc => acc
  | f + 1, k, acc => if k = 0 then acc else digs f (k / 10) (UInt8.ofNat (48 + k % 10) :: acc)
def markOf (k : Nat) : List UInt8 := 109 :: digs 2000 k []
theorem digs_zero (f : Nat) (acc : List UInt8) : digs f 0 acc = acc := by
  cases f with
  | zero => rw [digs]
  | succ f => rw [digs, if_pos rfl]
theorem digs_step {f k : Nat} (acc : List UInt8) (h : 0 < k) (hf : k ≤ f) : ∃ f', k / 10 ≤ f' ∧ digs f k acc = digs f' (k / 10) (UInt8.ofNat (48 + k % 10) :: acc) := by
  cases f with
  | zero => omega
  | succ f => exact ⟨f, by omega, by rw [digs, if_neg (by omega)]⟩

def MarkRel (w : World) (k : Nat) (v0 v3 : Value) (wr : World) : Prop :=
  ∃ (f k' : Nat) (s : ByteArray), Below w.heap.size w wr ∧ v0 = .int .i64 (k' : Int) ∧ v3 = .string s ∧ k' ≤ f ∧ s.size + k' ≤ k ∧ digs f k' (lst s) = digs 2000 k []

theorem owns_set {w : World} {base : Nat} {e : TypeId} {g cap n : Nat} {cells : List Value} (h : w.ownsRow base e 1 (.slice (some ⟨g, 0, none⟩) n cap) n cells) {i : Nat} (_hi : i < n) (u : Value) :
    (w.setCell ⟨g, i, none⟩ u).ownsRow base e 1 (.slice (some ⟨g, 0, none⟩) n cap) n (cells.set i u) := by
  refine ⟨by rw [List.length_set]; exact h.1, ?_⟩
  rcases h.2 with ⟨h', _⟩ | ⟨g', cap', cur, hv, hg, hh, h1, h2, h3, h4⟩
  · cases h'
  · simp only [Value.slice.injEq, Option.some.injEq, Addr.mk.injEq, true_and, and_true] at hv
    obtain ⟨rfl, rfl⟩ := hv
    refine .inr ⟨g, cap, cur.setIfInBounds i u, rfl, hg, heap_setCell_same w g i _ _ u hh, h1, h2, by rw [Array.size_setIfInBounds]; exact h3, ?_⟩
    rw [Array.toList_setIfInBounds, ← h4, List.take_set]

def MarksOk (ms : List ByteArray) : Prop := ∀ j (h : j < ms.length), lst ms[j] = markOf (1 + j)

def MarkRowRel (w : World) (B : Nat) (v : Value) (xs : List ByteArray) (v1 v5 : Value) (wr : World) : Prop :=
  ∃ (i : Nat) (ms : List ByteArray), v5 = .int .i64 (i : Int) ∧ v1 = .int .i64 (1 + (i : Int)) ∧ i ≤ xs.length ∧ ms.length = i ∧ MarksOk ms ∧ wr.ownsRow B 9 1 v xs.length (strCells (ms ++ xs.drop i)) ∧ Below B w wr

def HeldRel (w : World) (n : Nat) (v1 v5 : Value) (wr : World) : Prop := ∃ i : Nat, Below w.heap.size w wr ∧ v1 = .int .i64 (1 + (i : Int)) ∧ v5 = .int .i64 (i : Int) ∧ i ≤ n

end Go.Proofs.YtkhliflgflhheaaDoor
