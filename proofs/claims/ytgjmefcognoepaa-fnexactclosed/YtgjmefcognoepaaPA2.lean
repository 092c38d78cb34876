/-
  THE PROGRAM's GRAPHS: isArcPlace, strengthOf, newArcGraph.
-/
import Derived.Test.YtgjmefcognoepaaPA1
import Derived.Deep.MidRow
import Derived.StillTailTactics
namespace Go.Proofs.Ytgjmefcognoepaa.Pr
open Go Go.RowKit Go.Maps Go.WideMaps

def gcells (f t : Int) (L : List Int) : List Value := .int .i64 f :: .int .i64 t :: L.map (Value.int .u8)
theorem gcells_len {f t : Int} {L : List Int} (h : L.length = 36) : (gcells f t L).length = 38 := by simp [gcells, h]
theorem gcells_at {f t : Int} {L : List Int} (hL : L.length = 36) {m : Nat} (hm : m < 36) : (gcells f t L)[2 + m]? = some (.int .u8 (gd L m)) := by
  unfold gcells gd
  rw [show 2 + m = m + 1 + 1 by omega, List.getElem?_cons_succ, List.getElem?_cons_succ, List.getElem?_map, List.getElem?_eq_getElem (by omega), List.getD_eq_getElem?_getD, List.getElem?_eq_getElem (by omega)]
  rfl
theorem gcells_set (f t : Int) (L : List Int) (m : Nat) (v : Int) : (gcells f t L).toArray.setIfInBounds (2 + m) (.int .u8 v) = (gcells f t (L.set m v)).toArray := by
  unfold gcells
  rw [List.setIfInBounds_toArray, show 2 + m = m + 1 + 1 by omega, List.set_cons_succ, List.set_cons_succ, List.map_set]
theorem gcells_one (f t : Int) (L : List Int) : (gcells f t L).toArray.all (·.oneCell') = true := by
  refine all_oneCell_toArray fun v hv => ?_
  unfold gcells at hv
  simp only [List.mem_cons, List.mem_map] at hv
  rcases hv with rfl | rfl | ⟨x, _, rfl⟩ <;> rfl
abbrev z36 : List Int := List.replicate 36 0
theorem infoSAG : (Try.prog.info? 49).map (·.size) = some 38 := by kernel_rfl

/-- A graph's block. -/
def GB (w : World) (B : Nat) (f t : Int) (L : List Int) : Prop := w.heap[B]? = some (.cells (gcells f t L).toArray 49 (0, 0))
theorem GB.cell {w : World} {B : Nat} {f t : Int} {L : List Int} (h : GB w B f t L) (hL : L.length = 36) {m : Nat} (hm : m < 36) : w.cell? ⟨B, 2 + m, none⟩ = some (.int .u8 (gd L m)) := by
  rw [cell_of_row w B (2 + m) _ _ _ h, List.getElem?_toArray]
  exact gcells_at hL hm
theorem GB.c0 {w : World} {B : Nat} {f t : Int} {L : List Int} (h : GB w B f t L) : w.cell? ⟨B, 0, none⟩ = some (.int .i64 f) := by rw [cell_of_row w B 0 _ _ _ h]; rfl
theorem GB.c1 {w : World} {B : Nat} {f t : Int} {L : List Int} (h : GB w B f t L) : w.cell? ⟨B, 1, none⟩ = some (.int .i64 t) := by rw [cell_of_row w B 1 _ _ _ h]; rfl
theorem GB.set {w : World} {B : Nat} {f t : Int} {L : List Int} (h : GB w B f t L) (m : Nat) (v : Int) : GB (w.setCell ⟨B, 2 + m, none⟩ (.int .u8 v)) B f t (L.set m v) := by
  have := heap_setCell_same w B (2 + m) _ _ (.int .u8 v) h
  rw [gcells_set] at this
  exact this
theorem GB.below {w w' : World} {B : Nat} {f t : Int} {L : List Int} (h : GB w B f t L) (hb : Below w.heap.size w w') : GB w' B f t L := (hb.block _ (lt_of_block h)).trans h
theorem GB.lt {w : World} {B : Nat} {f t : Int} {L : List Int} (h : GB w B f t L) : B < w.heap.size := lt_of_block h
theorem GB.fz {w : World} {B : Nat} {f t : Int} {L : List Int} (h : GB w B f t L) (j : Nat) : w.frozen? ⟨B, j, none⟩ = false := frozen_of_row w B j _ _ h
theorem GB.other {w : World} {B : Nat} {f t : Int} {L : List Int} (h : GB w B f t L) (a : Addr) (v : Value) (hn : B ≠ a.block) : GB (w.setCell a v) B f t L := (heap_setCell_other w a B v hn).trans h
theorem below_setRow {w W : World} (h : Below w.heap.size w W) {g : Nat} (cs : Array Value) (hg : w.heap.size ≤ g) : Below w.heap.size w (W.setRow g cs) :=
  ⟨h.os, h.tape, h.output, by rw [size_setRow]; exact h.size, fun b hb => by rw [setRow_other W g b cs (by omega)]; exact h.block b hb⟩

theorem below_drew {B : Nat} {a w : World} (h : Below B a w) : Below B a w.drew := ⟨h.os, h.tape, h.output, h.size, h.block⟩

theorem arcPlace_any (n : Int) (w : World) : Calls Try.prog 26 #[.int .i64 n] w fun e w' => e = .returned (.bool (decide (0 ≤ n) && decide (n < 6))) ∧ w' = w := by
  by_cases h1 : 0 ≤ n
  · by_cases h2 : n < 6
    · have h3 : decide (0 ≤ n) = true := decide_eq_true h1
      have h4 : decide (n < 6) = true := decide_eq_true h2
      rw [h3, h4]
      go_enter Try.func26, Try.ntmps26
      go_wp2
      go_ret
      exact ⟨rfl, rfl⟩
    · have h3 : decide (0 ≤ n) = true := decide_eq_true h1
      have h4 : decide (n < 6) = false := decide_eq_false h2
      rw [h3, h4]
      go_enter Try.func26, Try.ntmps26
      go_wp2
      go_ret
      exact ⟨rfl, rfl⟩
  · have h3 : decide (0 ≤ n) = false := decide_eq_false h1
    rw [h3]
    go_enter Try.func26, Try.ntmps26
    go_wp2
    go_ret
    exact ⟨rfl, rfl⟩
theorem strength_any (s : Bool) (w : World) : Calls Try.prog 27 #[.bool s] w fun e w' => e = .returned (.int .u8 (strOf s)) ∧ w' = w := by
  cases s with
  | true =>
    go_enter Try.func27, Try.ntmps27
    go_wp2
    go_ret
    exact ⟨rfl, rfl⟩
  | false =>
    go_enter Try.func27, Try.ntmps27
    go_wp2
    go_ret
    exact ⟨rfl, rfl⟩

theorem built_graph (f t : Int) : Try.prog.built 49 [(0, .int .i64 f), (1, .int .i64 t)] = some (gcells f t z36).toArray := by kernel_rfl
theorem built_none : Try.prog.built 49 [] = some (gcells 0 0 z36).toArray := by kernel_rfl
theorem wpList_build_is {P : Program} {ops : Array Oper} {rest : List Oper} {o : Oper} {a : Act} {w : World} {Q : Exit → Act → World → Prop} (hg : o.guard = none) (t : TypeId) (parts : Array (Nat × Operand)) (ho : o.op = .build t parts) (vs : List (Nat × Value)) (cells : Array Value)
    (hv : (parts.map fun (i, x) => (i, a.eval x)).toList = vs) (hb : P.built t vs = some cells) (h : wpList P ops Q rest (a.put o.dst (.agg cells)) w) : wpList P ops Q (o :: rest) a w := by
  refine wpList_build hg t parts ho (by rw [hv, hb]; rfl) ?_
  rw [hv, hb]
  exact h

theorem at_store {P : Program} {ops : Array Oper} {rest : List Oper} {d : Option Tmp} {p : String} {t0 : TypeId} {af : Array _} {a : Act} {w : World} {Q : Exit → Act → World → Prop} (ty : TypeId) (x y : Tmp)
    (h : wpList P ops Q ({ dst := d, op := .store ty (.tmp x) (.tmp y), type := t0, pos := p, after := af, guard := none } :: rest) a w) : wpList P ops Q ({ dst := d, op := .store ty (.tmp x) (.tmp y), type := t0, pos := p, after := af, guard := none } :: rest) a w := h
theorem at_load {P : Program} {ops : Array Oper} {rest : List Oper} {d : Option Tmp} {p : String} {t0 : TypeId} {af : Array _} {a : Act} {w : World} {Q : Exit → Act → World → Prop} (ty : TypeId) (x : Tmp)
    (h : wpList P ops Q ({ dst := d, op := .load ty (.tmp x), type := t0, pos := p, after := af, guard := none } :: rest) a w) : wpList P ops Q ({ dst := d, op := .load ty (.tmp x), type := t0, pos := p, after := af, guard := none } :: rest) a w := h
theorem at_build {P : Program} {ops : Array Oper} {rest : List Oper} {d : Option Tmp} {p : String} {t0 : TypeId} {af : Array _} {a : Act} {w : World} {Q : Exit → Act → World → Prop} (ty : TypeId) (ps : Array (Nat × Operand))
    (h : wpList P ops Q ({ dst := d, op := .build ty ps, type := t0, pos := p, after := af, guard := none } :: rest) a w) : wpList P ops Q ({ dst := d, op := .build ty ps, type := t0, pos := p, after := af, guard := none } :: rest) a w := h

/-- The last key ahead of k. -/
def LastIs (l : List Ar) (k : Nat) (z : Int) : Prop := (k = 0 → z = -1) ∧ ∀ j (h : j < l.length), k = j + 1 → z = 6 * l[j].a + l[j].b
def NgRel (w w1 : World) (g : Gr) (v5 v16 : Value) (wr : World) : Prop :=
  ∃ (k : Nat) (z : Int) (L : List Int), v16 = .int .i64 (k : Int) ∧ v5 = .int .i64 z ∧ k ≤ g.rs.length ∧ LastIs g.rs k z ∧ Tab L (g.rs.take k) ∧ (∀ i (h : i < g.rs.length), i < k → inA g.rs[i].a ∧ inA g.rs[i].b) ∧
    (∀ i (h : i + 1 < g.rs.length), i + 1 < k → arcKey g.rs[i] < arcKey g.rs[i + 1]) ∧ GB wr (w.heap.size + 2) g.f g.t L ∧ Below w.heap.size w wr ∧
    wr.heap[w.heap.size]? = w1.heap[w.heap.size]? ∧ wr.heap[w.heap.size + 1]? = w1.heap[w.heap.size + 1]?
def NewPost (g : Gr) (w : World) (e : Ending) (w' : World) : Prop :=
  ((∃ L, e = .returned (.tuple #[.agg (gcells g.f g.t L).toArray, .bool true]) ∧ Tab L g.rs ∧ RightA g.rs) ∨ (e = .returned (.tuple #[.agg (gcells 0 0 z36).toArray, .bool false]) ∧ ¬ RightA g.rs)) ∧ Below w.heap.size w w'

theorem key_apart {l : List Ar} (hpl : ∀ i (h : i < l.length), inA l[i].a ∧ inA l[i].b) (hup : ∀ i (h : i + 1 < l.length), arcKey l[i] < arcKey l[i + 1]) {x : Ar} (hx : inA x.a ∧ inA x.b) (hl : ∀ h : 0 < l.length, 6 * (l[l.length - 1]'(by omega)).a + (l[l.length - 1]'(by omega)).b < 6 * x.a + x.b) :
    ∀ y ∈ l, ¬ (y.a = x.a ∧ y.b = x.b) := by
  have R : RightA l := ⟨hpl, hup⟩
  intro y hy ⟨h1, h2⟩
  obtain ⟨i, hi, rfl⟩ := List.getElem_of_mem hy
  have h3 := hl (by omega)
  have p1 := hpl i hi
  have p2 := hpl (l.length - 1) (by omega)
  unfold inA at p1 p2
  by_cases he : i = l.length - 1
  · subst he; omega
  · have := List.pairwise_iff_getElem.1 R.sorted i (l.length - 1) hi (by omega) (by omega)
    unfold arcKey at this
    omega

end Go.Proofs.Ytgjmefcognoepaa.Pr
