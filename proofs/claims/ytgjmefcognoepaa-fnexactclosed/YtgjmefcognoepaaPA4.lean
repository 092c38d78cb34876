/-
  TABLES as values: a place of a table, a row of it, a place of a row.
-/
import Derived.Test.YtgjmefcognoepaaPA3
import Derived.Deep.WholeRow
namespace Go.Proofs.Ytgjmefcognoepaa.Pr
open Go Go.RowKit Go.Maps Go.WideMaps

def tcells (L : List Int) : List Value := L.map (Value.int .u8)
def rcells (L : List Int) (a : Nat) : List Value := (List.range 6).map fun o => .int .u8 (gd L (6 * a + o))
theorem rcells_at {L : List Int} {a o : Nat} (ho : o < 6) : (rcells L a)[o]? = some (.int .u8 (gd L (6 * a + o))) := by
  unfold rcells
  rw [List.getElem?_map, List.getElem?_range ho]
  rfl
theorem tcells_at {L : List Int} (hL : L.length = 36) {m : Nat} (hm : m < 36) : (tcells L)[m]? = some (.int .u8 (gd L m)) := by
  unfold tcells gd
  rw [List.getElem?_map, List.getElem?_eq_getElem (by omega), List.getD_eq_getElem?_getD, List.getElem?_eq_getElem (by omega)]
  rfl
theorem rcells_one (L : List Int) (a : Nat) : (rcells L a).toArray.all (·.oneCell') = true := by
  refine all_oneCell_toArray fun v hv => ?_
  unfold rcells at hv
  rw [List.mem_map] at hv
  obtain ⟨x, _, rfl⟩ := hv
  rfl
theorem row_of_tab {L : List Int} (hL : L.length = 36) {a : Nat} (ha : a < 6) : (tcells L).toArray.extract (a * 6) (a * 6 + 6) = (rcells L a).toArray := by
  apply Array.ext_getElem?
  intro i
  rw [Array.getElem?_extract, List.getElem?_toArray, List.getElem?_toArray]
  by_cases hi : i < 6
  · rw [if_pos (by simp [tcells, hL]; omega), tcells_at hL (by omega), rcells_at hi, show a * 6 + i = 6 * a + i by omega]
  · rw [if_neg (by simp [tcells, hL]; omega)]
    symm
    rw [List.getElem?_eq_none_iff]
    simp [rcells]
    omega
theorem infoRow : (Try.prog.info? 45).map (·.size) = some 6 := by kernel_rfl
theorem infoTab : (Try.prog.info? 47).map (·.size) = some 36 := by kernel_rfl
theorem infoStr : (Try.prog.info? 44).map (·.size) = some 1 := by kernel_rfl
theorem run_sizeOf_is {P : Program} {t : TypeId} {n : Nat} (h : (P.info? t).map (·.size) = some n) (w : World) : (sizeOf t).run P w = .ok n w := by
  cases hq : P.info? t with
  | none => rw [hq] at h; cases h
  | some i =>
    rw [hq] at h
    simp only [Option.map_some, Option.some.injEq] at h
    subst h
    simp [sizeOf, typeInfo, Sem.run_bind, hq]
theorem run_isAgg {P : Program} {t : TypeId} {d : TypeDesc} (hu : P.underlying t = some d) (w : World) : (isAgg t).run P w = .ok (match d with | .struct _ | .array _ _ => true | _ => false) w := by
  unfold isAgg
  rw [Sem.run_bind, run_underlying hu w]
  cases d <;> simp
theorem run_index_tab {L : List Int} (hL : L.length = 36) {a : Nat} (ha : a < 6) (w : World) :
    (Instr.index 47 (.agg (tcells L).toArray) (.int .i64 (a : Int))).run Try.prog w = .ok (.agg (rcells L a).toArray) w := by
  have h1 : (a : Int) < 6 := by omega
  simp [Instr.index, asIntOf, Sem.run_bind, run_underlying Try.underlying47, run_sizeOf_is infoRow, part, run_isAgg Try.underlying45, h1, ha]
  have := congrArg Array.toList (row_of_tab hL ha)
  simpa using this
theorem run_index_row {L : List Int} {a o : Nat} (ho : o < 6) (w : World) :
    (Instr.index 45 (.agg (rcells L a).toArray) (.int .i64 (o : Int))).run Try.prog w = .ok (.int .u8 (gd L (6 * a + o))) w := by
  have h2 := rcells_at (L := L) (a := a) ho
  simp [Instr.index, asIntOf, Sem.run_bind, run_underlying Try.underlying45, run_sizeOf_is infoStr, part, run_isAgg Try.underlying44, h2, ho]
theorem wpList_index_is {P : Program} {ops : Array Oper} {rest : List Oper} {o : Oper} {a : Act} {w : World} {Q : Exit → Act → World → Prop} (hg : o.guard = none) (ty : TypeId) (x i : Operand) (ho : o.op = .index ty x i) (u j v : Value) (hu : a.eval x = u) (hj : a.eval i = j)
    (hr : (Instr.index ty u j).run P w = .ok v w) (h : wpList P ops Q rest (a.put o.dst v) w) : wpList P ops Q (o :: rest) a w :=
  wpList_plain hg fun _ hK => by
    unfold Oper.wp execOp
    simp only [ho, hu, hj, Sem.run_bind, hr, Result.andThen_ok]
    exact hK _ _ h
theorem at_index {P : Program} {ops : Array Oper} {rest : List Oper} {d : Option Tmp} {p : String} {t0 : TypeId} {af : Array _} {a : Act} {w : World} {Q : Exit → Act → World → Prop} (ty : TypeId) (x y : Tmp)
    (h : wpList P ops Q ({ dst := d, op := .index ty (.tmp x) (.tmp y), type := t0, pos := p, after := af, guard := none } :: rest) a w) : wpList P ops Q ({ dst := d, op := .index ty (.tmp x) (.tmp y), type := t0, pos := p, after := af, guard := none } :: rest) a w := h
theorem GB.tab {w : World} {B : Nat} {f t : Int} {L : List Int} (h : GB w B f t L) (hL : L.length = 36) : w.rangeAt B 2 (tcells L) := fun j v hv => by
  have hj : j < 36 := by have := (List.getElem?_eq_some_iff.1 hv).1; simpa [tcells, hL] using this
  rw [tcells_at hL hj] at hv
  rw [h.cell hL hj]
  exact hv
theorem GB.row {w : World} {B : Nat} {f t : Int} {L : List Int} (h : GB w B f t L) (hL : L.length = 36) {a : Nat} (ha : a < 6) : w.rangeAt B (2 + a * 6) (rcells L a) := fun j v hv => by
  have hj : j < 6 := by have := (List.getElem?_eq_some_iff.1 hv).1; simpa [rcells] using this
  rw [rcells_at hj] at hv
  rw [show 2 + a * 6 + j = 2 + (6 * a + j) by omega, h.cell hL (by omega)]
  exact hv

end Go.Proofs.Ytgjmefcognoepaa.Pr
