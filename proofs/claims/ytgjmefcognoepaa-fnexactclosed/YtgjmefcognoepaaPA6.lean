/-
  A table as a field, two tables compared; the walk over the program's falls.
-/
import Derived.Test.YtgjmefcognoepaaPA5
namespace Go.Proofs.Ytgjmefcognoepaa.Pr
open Go Go.RowKit Go.Maps Go.WideMaps

theorem run_field_tab {f t : Int} {L : List Int} (hL : L.length = 36) (w : World) : (Instr.field 49 (.agg (gcells f t L).toArray) 2).run Try.prog w = .ok (.agg (tcells L).toArray) w := by
  have he : (gcells f t L).toArray.extract 2 38 = (tcells L).toArray := by
    apply Array.ext_getElem?
    intro i
    rw [Array.getElem?_extract, List.getElem?_toArray, List.getElem?_toArray, List.size_toArray, gcells_len hL]
    by_cases hi : i < 36
    · rw [if_pos (by omega), gcells_at hL hi, tcells_at hL hi]
    · rw [if_neg (by omega)]
      symm
      rw [List.getElem?_eq_none_iff]
      simp [tcells]
      omega
  have he2 := congrArg Array.toList he
  simp [Instr.field, Sem.run_bind, run_underlying Try.underlying49, run_sizeOf_is infoTab, part, run_isAgg Try.underlying47, asAgg]
  simpa using he2

theorem eqItems_all {P : Program} (w : World) (d : Nat) (e : TypeId) (c : Nat) (xs ys : Array Value) (r : Nat → Bool) : ∀ is : List Nat,
    (∀ i ∈ is, ∃ a b, (part e xs (i * c)).run P w = .ok a w ∧ (part e ys (i * c)).run P w = .ok b w ∧ (Op.equalIn d e a b).run P w = .ok (r i) w) → (Op.eqItems d e c xs ys is).run P w = .ok (is.all r) w
  | [], _ => by simp [Op.eqItems]
  | i :: is, h => by
    obtain ⟨a, b, h1, h2, h3⟩ := h i (by simp)
    have ih := eqItems_all w d e c xs ys r is (fun j hj => h j (by simp [hj]))
    simp only [Op.eqItems, Sem.run_bind, h1, h2, h3, Result.andThen_ok]
    cases hr : r i with
    | false => simp [hr]
    | true => simp [hr, ih]
theorem infoE {t : TypeId} {n : Nat} (h : (Try.prog.info? t).map (·.size) = some n) : ∃ i, Try.prog.info? t = some i := by
  cases hq : Try.prog.info? t with
  | none => rw [hq] at h; cases h
  | some i => exact ⟨i, rfl⟩
theorem cellsRow : Try.prog.cellsOf 45 = 6 := by kernel_rfl
theorem cellsStr : Try.prog.cellsOf 44 = 1 := by kernel_rfl
theorem run_eq_row (A B : List Int) (a d : Nat) (w : World) : (Op.equalIn (d + 2) 45 (.agg (rcells A a).toArray) (.agg (rcells B a).toArray)).run Try.prog w = .ok ((List.range 6).all fun o => gd A (6 * a + o) == gd B (6 * a + o)) w := by
  obtain ⟨i, hi⟩ := infoE infoStr
  rw [run_equalIn_array w (d + 1) _ _ Try.underlying45 hi, cellsStr]
  refine eqItems_all w _ _ _ _ _ _ _ fun o ho => ?_
  have ho6 : o < 6 := List.mem_range.1 ho
  refine ⟨.int .u8 (gd A (6 * a + o)), .int .u8 (gd B (6 * a + o)), ?_, ?_, run_equalIn_int w d _ _ _ _ _ Try.underlying44⟩
  · simp [part, Sem.run_bind, run_isAgg Try.underlying44, rcells_at (L := A) (a := a) ho6]
  · simp [part, Sem.run_bind, run_isAgg Try.underlying44, rcells_at (L := B) (a := a) ho6]
theorem run_eq_tab {A B : List Int} (hA : A.length = 36) (hB : B.length = 36) (d : Nat) (w : World) : (Op.equalIn (d + 3) 47 (.agg (tcells A).toArray) (.agg (tcells B).toArray)).run Try.prog w = .ok (decide (A = B)) w := by
  obtain ⟨i, hi⟩ := infoE infoRow
  rw [run_equalIn_array w (d + 2) _ _ Try.underlying47 hi, cellsRow]
  rw [eqItems_all w (d + 2) _ _ _ _ (fun a => (List.range 6).all fun o => gd A (6 * a + o) == gd B (6 * a + o)) _ fun a ha => ?_]
  · congr 1
    rw [Bool.eq_iff_iff, decide_eq_true_iff]
    constructor
    · intro h
      refine gd_ext hA hB fun m hm => ?_
      rw [List.all_eq_true] at h
      have h2 := h (m / 6) (List.mem_range.2 (by omega))
      rw [List.all_eq_true] at h2
      have h3 := h2 (m % 6) (List.mem_range.2 (by omega))
      rw [show 6 * (m / 6) + m % 6 = m by omega] at h3
      simpa using h3
    · rintro rfl
      simp
  · have ha6 : a < 6 := List.mem_range.1 ha
    refine ⟨.agg (rcells A a).toArray, .agg (rcells B a).toArray, ?_, ?_, run_eq_row A B a d w⟩
    · have := congrArg Array.toList (row_of_tab hA ha6)
      simp [part, Sem.run_bind, run_isAgg Try.underlying45, run_sizeOf_is infoRow]
      simpa using this
    · have := congrArg Array.toList (row_of_tab hB ha6)
      simp [part, Sem.run_bind, run_isAgg Try.underlying45, run_sizeOf_is infoRow]
      simpa using this

theorem exec_load_row {P : Program} {a : Act} {o : Oper} {W : World} (ty : TypeId) (x : Operand) (ho : o.op = .load ty x) (B : Nat) (hx : a.eval x = .pointer (some ⟨B, 0, none⟩)) (t : TypeId) (cs : Array Value) (fr : Nat × Nat) (d : TypeDesc)
    (hg : W.heap[B]? = some (.cells cs t fr)) (hu : P.underlying ty = some d) (hd : (match d with | .struct _ | .array _ _ => true | _ => false) = true) (hi : (P.info? ty).map (·.size) = some cs.size) : (execOp a.eval o).run P W = .ok (.value (.agg cs)) W := by
  unfold execOp
  simp only [ho, hx, Instr.loadAt, Instr.sureAddr, Sem.run_bind, Sem.run_pure, Result.andThen_ok, run_loadVar_row W B t ty cs fr d hg hu hd hi]
theorem exec_load_mid {P : Program} {a : Act} {o : Oper} {W : World} (ty : TypeId) (x : Operand) (ho : o.op = .load ty x) (B k : Nat) (hx : a.eval x = .pointer (some ⟨B, k, none⟩)) (cs : List Value) (d : TypeDesc)
    (hg : W.rangeAt B k cs) (hu : P.underlying ty = some d) (hd : d.isRow = true) (hi : (P.info? ty).map (·.size) = some cs.length) : (execOp a.eval o).run P W = .ok (.value (.agg cs.toArray)) W := by
  unfold execOp
  simp only [ho, hx, Instr.loadAt, Instr.sureAddr, Sem.run_bind, Sem.run_pure, Result.andThen_ok, run_loadVar_mid W B k ty cs d hg hu hd hi]
theorem exec_field_is {P : Program} {a : Act} {o : Oper} {W : World} (ty : TypeId) (x : Operand) (f : Nat) (ho : o.op = .field ty x f) (u v : Value) (hx : a.eval x = u) (hr : (Instr.field ty u f).run P W = .ok v W) : (execOp a.eval o).run P W = .ok (.value v) W := by
  unfold execOp
  simp only [ho, hx, Sem.run_bind, hr, Result.andThen_ok, Sem.run_pure]
theorem exec_neq_agg {P : Program} {a : Act} {o : Oper} {W : World} (ty t2 : TypeId) (x y : Operand) (ho : o.op = .binOp .neq ty x y t2) (xs ys : Array Value) (r : Bool) (hx : a.eval x = .agg xs) (hy : a.eval y = .agg ys) (hm : P.eqGuardType P.depth ty = false)
    (hr : (Op.equalIn 10000 ty (.agg xs) (.agg ys)).run P W = .ok r W) : (execOp a.eval o).run P W = .ok (.value (.bool (!r))) W := by
  unfold execOp
  simp only [ho, hx, hy, Sem.run_bind, run_eqGuard_agg (P := P) W _ _ _ _ _ _ hm, run_neq_struct, hr, Result.andThen_ok, Sem.run_pure]

/-- What falls says of a table. -/
def FallsT (f t : Int) (G : List Int) : Prop := f ≠ t ∨ thenT G G ≠ G ∨ ∃ n, n < 6 ∧ gd G (6 * n + n) = 2

end Go.Proofs.Ytgjmefcognoepaa.Pr
