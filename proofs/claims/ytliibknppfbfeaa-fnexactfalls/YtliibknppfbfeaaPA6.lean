/-
  A table as a field, two tables compared; the walk over the program's falls.
-/
import Derived.Test.YtliibknppfbfeaaPA5
namespace Go.Proofs.Ytliibknppfbfeaa.Pr
open Go Go.RowKit Go.Maps Go.WideMaps

theorem run_field_tab {f t : Int} {L : List Int} (hL : L.length = 36) (w : World) : (Instr.field 50 (.agg (gcells f t L).toArray) 2).run Try.prog w = .ok (.agg (tcells L).toArray) w := by
  have he : (gcells f t L).toArray.extract 2 38 = (tcells L).toArray := by
    apply Array.ext_getElem?
    intro i
    rw [Array.getElem?_extract, List.getElem?_toArray, List.getElem?_toArray, List.size_toArray, gcells_len hL]
    by_cases hi : i < 36
    · rw [if_pos (by omega), gcells_at hL hi, tcells_at hL hi]
    · rw [if_neg (by omega)]
      symm
      rw [List.getElem?_eq_none_iff]
      simp [tcells]
      omega
  have he2 := congrArg Array.toList he
  simp [Instr.field, Sem.run_bind, run_underlying Try.underlying50, run_sizeOf_is infoTab, part, run_isAgg Try.underlying48, asAgg]
  simpa using he2

theorem eqItems_all {P : Program} (w : World) (d : Nat) (e : TypeId) (c : Nat) (xs ys : Array Value) (r : Nat → Bool) : ∀ is : List Nat,
    (∀ i ∈ is, ∃ a b, (part e xs (i * c)).run P w = .ok a w ∧ (part e ys (i * c)).run P w = .ok b w ∧ (Op.equalIn d e a b).run P w = .ok (r i) w) → (Op.eqItems d e c xs ys is).run P w = .ok (is.all r) w
  | [], _ => by simp [Op.eqItems]
  | i :: is, h => by
    obtain ⟨a, b, h1, h2, h3⟩ := h i (by simp)
    have ih := eqItems_all w d e c xs ys r is (fun j hj => h j (by simp [hj]))
    simp only [Op.eqItems, Sem.run_bind, h1, h2, h3, Result.andThen_ok]
    cases hr : r i with
    | false => simp [hr]
    | true => simp [hr, ih]
theorem infoE {t : TypeId} {n : Nat} (h : (Try.prog.info? t).map (·.size) = some n) : ∃ i, Try.prog.info? t = some i := by
  cases hq : Try.prog.info? t with
  | none => rw [hq] at h; cases h
  | some i => exact ⟨i, rfl⟩
theorem cellsRow : Try.prog.cellsOf 46 = 6 := by kernel_rfl
theorem cellsStr : Try.prog.cellsOf 45 = 1 := by kernel_rfl
theorem run_eq_row (A B : List Int) (a d : Nat) (w : World) : (Op.equalIn (d + 2) 46 (.agg (rcells A a).toArray) (.agg (rcells B a).toArray)).run Try.prog w = .ok ((List.range 6).all fun o => gd A (6 * a + o) == gd B (6 * a + o)) w := by
  obtain ⟨i, hi⟩ := infoE infoStr
  rw [run_equalIn_array w (d + 1) _ _ Try.underlying46 hi, cellsStr]
  refine eqItems_all w _ _ _ _ _ _ _ fun o ho => ?_
  have ho6 : o < 6 := List.mem_range.1 ho
  refine ⟨.int .u8 (gd A (6 * a + o)), .int .u8 (gd B (6 * a + o)), ?_, ?_, run_equalIn_int w d _ _ _ _ _ Try.underlying45⟩
  · simp [part, Sem.run_bind, run_isAgg Try.underlying45, rcells_at (L := A) (a := a) ho6]
  · simp [part, Sem.run_bind, run_isAgg Try.underlying45, rcells_at (L := B) (a := a) ho6]
theorem run_eq_tab {A B : List Int} (hA : A.length = 36) (hB : B.length = 36) (d : Nat) (w : World) : (Op.equalIn (d + 3) 48 (.agg (tcells A).toArray) (.agg (tcells B).toArray)).run Try.prog w = .ok (decide (A = B)) w := by
  obtain ⟨i, hi⟩ := infoE infoRow
  rw [run_equalIn_array w (d + 2) _ _ Try.underlying48 hi, cellsRow]
  rw [eqItems_all w (d + 2) _ _ _ _ (fun a => (List.range 6).all fun o => gd A (6 * a + o) == gd B (6 * a + o)) _ fun a ha => ?_]
  · congr 1
    rw [Bool.eq_iff_iff, decide_eq_true_iff]
    constructor
    · intro h
      refine gd_ext hA hB fun m hm => ?_
      rw [List.all_eq_true] at h
      have h2 := h (m / 6) (List.mem_range.2 (by omega))
      rw [List.all_eq_true] at h2
      have h3 := h2 (m % 6) (List.mem_range.2 (by omega))
      rw [show 6 * (m / 6) + m % 6 = m by omega] at h3
      simpa using h3
    · rintro rfl
      simp
  · have ha6 : a < 6 := List.mem_range.1 ha
    refine ⟨.agg (rcells A a).toArray, .agg (rcells B a).toArray, ?_, ?_, run_eq_row A B a d w⟩
    · have := congrArg Array.toList (row_of_tab hA ha6)
      simp [part, Sem.run_bind, run_isAgg Try.underlying46, run_sizeOf_is infoRow]
      simpa using this
    · have := congrArg Array.toList (row_of_tab hB ha6)
      simp [part, Sem.run_bind, run_isAgg Try.underlying46, run_sizeOf_is infoRow]
      simpa using this

theorem exec_load_row {P : Program} {a : Act} {o : Oper} {W : World} (ty : TypeId) (x : Operand) (ho : o.op = .load ty x) (B : Nat) (hx : a.eval x = .pointer (some ⟨B, 0, none⟩)) (t : TypeId) (cs : Array Value) (fr : Nat × Nat) (d : TypeDesc)
    (hg : W.heap[B]? = some (.cells cs t fr)) (hu : P.underlying ty = some d) (hd : (match d with | .struct _ | .array _ _ => true | _ => false) = true) (hi : (P.info? ty).map (·.size) = some cs.size) : (execOp a.eval o).run P W = .ok (.value (.agg cs)) W := by
  unfold execOp
  simp only [ho, hx, Instr.loadAt, Instr.sureAddr, Sem.run_bind, Sem.run_pure, Result.andThen_ok, run_loadVar_row W B t ty cs fr d hg hu hd hi]
theorem exec_load_mid {P : Program} {a : Act} {o : Oper} {W : World} (ty : TypeId) (x : Operand) (ho : o.op = .load ty x) (B k : Nat) (hx : a.eval x = .pointer (some ⟨B, k, none⟩)) (cs : List Value) (d : TypeDesc)
    (hg : W.rangeAt B k cs) (hu : P.underlying ty = some d) (hd : d.isRow = true) (hi : (P.info? ty).map (·.size) = some cs.length) : (execOp a.eval o).run P W = .ok (.value (.agg cs.toArray)) W := by
  unfold execOp
  simp only [ho, hx, Instr.loadAt, Instr.sureAddr, Sem.run_bind, Sem.run_pure, Result.andThen_ok, run_loadVar_mid W B k ty cs d hg hu hd hi]
theorem exec_field_is {P : Program} {a : Act} {o : Oper} {W : World} (ty : TypeId) (x : Operand) (f : Nat) (ho : o.op = .field ty x f) (u v : Value) (hx : a.eval x = u) (hr : (Instr.field ty u f).run P W = .ok v W) : (execOp a.eval o).run P W = .ok (.value v) W := by
  unfold execOp
  simp only [ho, hx, Sem.run_bind, hr, Result.andThen_ok, Sem.run_pure]
theorem exec_neq_agg {P : Program} {a : Act} {o : Oper} {W : World} (ty t2 : TypeId) (x y : Operand) (ho : o.op = .binOp .neq ty x y t2) (xs ys : Array Value) (r : Bool) (hx : a.eval x = .agg xs) (hy : a.eval y = .agg ys) (hm : P.eqGuardType P.depth ty = false)
    (hr : (Op.equalIn 10000 ty (.agg xs) (.agg ys)).run P W = .ok r W) : (execOp a.eval o).run P W = .ok (.value (.bool (!r))) W := by
  unfold execOp
  simp only [ho, hx, hy, Sem.run_bind, run_eqGuard_agg (P := P) W _ _ _ _ _ _ hm, run_neq_struct, hr, Result.andThen_ok, Sem.run_pure]

/-- What falls says of a table. -/
def FallsT (f t : Int) (G : List Int) : Prop := f ≠ t ∨ thenT G G ≠ G ∨ ∃ n, n < 6 ∧ gd G (6 * n + n) = 2

set_option maxRecDepth 100000 in
set_option maxHeartbeats 8000000 in
theorem falls_any (f t : Int) (G : List Int) (hG : G.length = 36) (w : World) :
    Calls Try.prog 30 #[.agg (gcells f t G).toArray] w fun e w' => (∃ r : Bool, e = .returned (.bool r) ∧ (r = true ↔ FallsT f t G)) ∧ Below w.heap.size w w' := by
  have hb0 : Below w.heap.size w (w.alloc (.cells (gcells f t G).toArray 50)) := (Below.refl _ _).alloc (Nat.le_refl _) _
  have k0 := heap_alloc_new w (.cells (gcells f t G).toArray 50)
  obtain ⟨w0, hw0⟩ : ∃ w0, w.alloc (.cells (gcells f t G).toArray 50) = w0 := ⟨_, rfl⟩
  rw [hw0] at hb0 k0
  have HB0 := Lib.hid hb0
  have HK0 := Lib.hid (show GB w0 w.heap.size f t G from k0)
  have HG := Lib.hid hG
  have q0 := HK0.out.c0
  have q1 := HK0.out.c1
  have HANS := Lib.hid (fun (r : Bool) (W : World) (hW : Below w.heap.size w W) (h : r = true ↔ FallsT f t G) => (⟨⟨r, rfl, h⟩, hW⟩ : (∃ r' : Bool, Ending.returned (.bool r) = .returned (.bool r') ∧ (r' = true ↔ FallsT f t G)) ∧ Below w.heap.size w W))
  go_enter Try.func30, Try.ntmps30
  by_cases hft : f = t
  · have dft : (f != t) = false := by simpa using hft
    have HFT := Lib.hid hft
    have HTH := Lib.hid (fun (W : World) => then_any f t f t G G hG hG W)
    have HSZ := Lib.hid (gcells_size (f := f) (t := t) hG)
    have HIT := Lib.hid (show (Try.prog.info? 48).map (·.size) = some (tcells G).length by rw [infoTab]; simp [tcells, hG])
    have HFLD := Lib.hid (fun (W : World) => run_field_tab (f := f) (t := t) (L := thenT G G) (thenTo_len _ _ _) W)
    have HEQU := Lib.hid (fun (W : World) => run_eq_tab (A := thenT G G) (B := G) (thenTo_len _ _ _) hG 9997 W)
    have HEQG := Lib.hid (show Try.prog.eqGuardType Try.prog.depth 48 = false by kernel_rfl)
    have k1 : w0.heap[w.heap.size]? = some (.cells (gcells f t G).toArray 50 (0, 0)) := k0
    have hB1 : Below w0.heap.size w0 w0 := Below.refl _ _
    have hlt := lt_of_block k0
    clear hft k0 hG hb0
    go_wp2
    refine wp_region_held_drew (S := fun w' => w'.cell? ⟨w.heap.size, 0, none⟩ = some (.int .i64 f) ∧ w'.cell? ⟨w.heap.size, 1, none⟩ = some (.int .i64 t) ∧ w'.heap[w.heap.size]? = some (.cells (gcells f t G).toArray 50 (0, 0)) ∧ Below w0.heap.size w0 w') (by kernel_rfl) ⟨q0, q1, k1, below_drew hB1⟩ (fun hHeld => ?_)
    refine wpAnyH_take (i := 0) (v := ?_) rfl (by kernel_rfl) (by kernel_rfl) (by kernel_rfl) (fun _ _ _ h => h) (Or.inl ⟨by rfl, ?_⟩) (by assumption) ?_
    rotate_left
    · (intro w9 hSw; (try dsimp only at hSw); go_simp; try with_reducible rfl)
    try simp only [Act.put, List.getElem_toArray, List.getElem_cons_zero, List.getElem_cons_succ, List.setIfInBounds_toArray, List.set_cons_zero, List.set_cons_succ]
    refine wpAnyH_take (i := 1) (v := ?_) rfl (by kernel_rfl) (by kernel_rfl) (by kernel_rfl) (fun _ _ _ h => h) (Or.inl ⟨by rfl, ?_⟩) (by assumption) ?_
    rotate_left
    · (intro w9 hSw; (try dsimp only at hSw); go_simp; try with_reducible rfl)
    try simp only [Act.put, List.getElem_toArray, List.getElem_cons_zero, List.getElem_cons_succ, List.setIfInBounds_toArray, List.set_cons_zero, List.set_cons_succ]
    refine wpAnyH_take (i := 2) (v := ?_) rfl (by kernel_rfl) (by kernel_rfl) (by kernel_rfl) (fun _ _ _ h => h) (Or.inl ⟨by rfl, ?_⟩) (by assumption) ?_
    rotate_left
    · (intro w9 hSw; (try dsimp only at hSw); go_simp; try with_reducible rfl)
    try simp only [Act.put, List.getElem_toArray, List.getElem_cons_zero, List.getElem_cons_succ, List.setIfInBounds_toArray, List.set_cons_zero, List.set_cons_succ]
    refine wpAnyH_take (i := 3) (v := ?_) rfl (by kernel_rfl) (by kernel_rfl) (by kernel_rfl) (fun _ _ _ h => h) (Or.inl ⟨by rfl, ?_⟩) (by assumption) ?_
    rotate_left
    · (intro w9 hSw; (try dsimp only at hSw); go_simp; try with_reducible rfl)
    try simp only [Act.put, List.getElem_toArray, List.getElem_cons_zero, List.getElem_cons_succ, List.setIfInBounds_toArray, List.set_cons_zero, List.set_cons_succ]
    refine wpAnyH_take (i := 4) (v := ?_) rfl (by kernel_rfl) (by kernel_rfl) (by kernel_rfl) (fun _ _ _ h => h) (Or.inl ⟨by rfl, ?_⟩) (by assumption) ?_
    rotate_left
    · (intro w9 hSw; (try dsimp only at hSw); go_simp; try with_reducible rfl)
    try simp only [Act.put, List.getElem_toArray, List.getElem_cons_zero, List.getElem_cons_succ, List.setIfInBounds_toArray, List.set_cons_zero, List.set_cons_succ]
    refine wpAnyH_take (i := 5) (v := ?_) rfl (by kernel_rfl) (by kernel_rfl) (by kernel_rfl) (fun _ _ _ h => h) (Or.inl ⟨by rfl, ?_⟩) (by assumption) ?_
    rotate_left
    · (intro w9 hSw; (try dsimp only at hSw); go_simp; try with_reducible rfl)
    try simp only [Act.put, List.getElem_toArray, List.getElem_cons_zero, List.getElem_cons_succ, List.setIfInBounds_toArray, List.set_cons_zero, List.set_cons_succ]
    refine wpAnyH_take (i := 6) (v := .agg (gcells f t G).toArray) rfl (by kernel_rfl) (by kernel_rfl) (by kernel_rfl) (fun _ _ _ h => h) (Or.inl ⟨by rfl, ?_⟩) (by assumption) ?_
    · intro w9 hSw
      exact exec_load_row 50 (.tmp 1) rfl w.heap.size rfl _ _ (0, 0) _ hSw.2.2.1 Try.underlying50 rfl HSZ.out
    try simp only [Act.put, List.getElem_toArray, List.getElem_cons_zero, List.getElem_cons_succ, List.setIfInBounds_toArray, List.set_cons_zero, List.set_cons_succ]
    refine wpAnyH_take (i := 7) (v := .agg (gcells f t G).toArray) rfl (by kernel_rfl) (by kernel_rfl) (by kernel_rfl) (fun _ _ _ h => h) (Or.inl ⟨by rfl, ?_⟩) (by assumption) ?_
    · intro w9 hSw
      exact exec_load_row 50 (.tmp 1) rfl w.heap.size rfl _ _ (0, 0) _ hSw.2.2.1 Try.underlying50 rfl HSZ.out
    try simp only [Act.put, List.getElem_toArray, List.getElem_cons_zero, List.getElem_cons_succ, List.setIfInBounds_toArray, List.set_cons_zero, List.set_cons_succ]
    refine wpAnyH_take (i := 10) (v := ?_) rfl (by kernel_rfl) (by kernel_rfl) (by kernel_rfl) (fun _ _ _ h => h) (Or.inl ⟨by rfl, ?_⟩) (by assumption) ?_
    rotate_left
    · (intro w9 hSw; (try dsimp only at hSw); go_simp; try with_reducible rfl)
    try simp only [Act.put, List.getElem_toArray, List.getElem_cons_zero, List.getElem_cons_succ, List.setIfInBounds_toArray, List.set_cons_zero, List.set_cons_succ]
    refine wpAnyH_take (i := 11) (v := .agg (tcells G).toArray) rfl (by kernel_rfl) (by kernel_rfl) (by kernel_rfl) (fun _ _ _ h => h) (Or.inl ⟨by rfl, ?_⟩) (by assumption) ?_
    · intro w9 hSw
      exact exec_load_mid 48 (.tmp 14) rfl w.heap.size 2 rfl _ _ (GB.tab (show GB w9 w.heap.size f t G from hSw.2.2.1) HG.out) Try.underlying48 rfl HIT.out
    try simp only [Act.put, List.getElem_toArray, List.getElem_cons_zero, List.getElem_cons_succ, List.setIfInBounds_toArray, List.set_cons_zero, List.set_cons_succ]
    refine wpAnyH_ready (rs := [8]) (by kernel_rfl) (by simp) ?_
    refine AllReadyH.cons rfl (fun K hK => ?_) AllReadyH.nil
    go_simp
    go_at_call 21
    refine (HTH.out _).mono ?_
    rintro e3 w3 ⟨rfl, hb3⟩
    have hb3' : Below w0.heap.size w0 w3 := below_step hHeld.2.2.2 hb3
    have z30 := (hb3'.cell (p := ⟨w.heap.size, 0, none⟩) hlt).trans q0
    have z31 := (hb3'.cell (p := ⟨w.heap.size, 1, none⟩) hlt).trans q1
    have z32 := (hb3'.block _ hlt).trans k1
    clear hb3
    go_wp2_with fail
    refine hK.out _ _ ⟨z30, z31, z32, hb3'⟩ (fun hHeld2 => ?_)
    clear hK K
    try simp only [Act.put, List.getElem_toArray, List.getElem_cons_zero, List.getElem_cons_succ, List.setIfInBounds_toArray, List.set_cons_zero, List.set_cons_succ]
    refine wpAnyH_take (i := 9) (v := .agg (tcells (thenT G G)).toArray) rfl (by kernel_rfl) (by kernel_rfl) (by kernel_rfl) (fun _ _ _ h => h) (Or.inl ⟨by rfl, ?_⟩) (by assumption) ?_
    · intro w9 hSw
      exact exec_field_is 50 (.tmp 12) 2 rfl (.agg (gcells f t (thenT G G)).toArray) _ rfl (HFLD.out _)
    try simp only [Act.put, List.getElem_toArray, List.getElem_cons_zero, List.getElem_cons_succ, List.setIfInBounds_toArray, List.set_cons_zero, List.set_cons_succ]
    refine wpAnyH_take (i := 12) (v := .bool (!decide (thenT G G = G))) rfl (by kernel_rfl) (by kernel_rfl) (by kernel_rfl) (fun _ _ _ h => h) (Or.inl ⟨by rfl, ?_⟩) (by assumption) ?_
    · intro w9 hSw
      exact exec_neq_agg 48 _ (.tmp 13) (.tmp 15) rfl _ _ _ rfl rfl HEQG.out (HEQU.out _)
    try simp only [Act.put, List.getElem_toArray, List.getElem_cons_zero, List.getElem_cons_succ, List.setIfInBounds_toArray, List.set_cons_zero, List.set_cons_succ]
    refine wpAnyH_take (i := 13) (v := ?_) rfl (by kernel_rfl) (by kernel_rfl) (by kernel_rfl) (fun _ _ _ h => h) (Or.inl ⟨by rfl, ?_⟩) (by assumption) ?_
    rotate_left
    · (intro w9 hSw; (try dsimp only at hSw); go_simp; try with_reducible rfl)
    try simp only [Act.put, List.getElem_toArray, List.getElem_cons_zero, List.getElem_cons_succ, List.setIfInBounds_toArray, List.set_cons_zero, List.set_cons_succ]
    refine wpAnyH_done (by kernel_rfl) ?_ _
    have HB3 := Lib.hid (below_step HB0.out hb3')
    have HK3 := Lib.hid (show GB w3 w.heap.size f t G from z32)
    clear hHeld hHeld2 z30 z31 z32 hb3' k1 q0 q1 HTH hB1 dft
    by_cases hsame : thenT G G = G
    · have hds : (!decide (thenT G G = G)) = false := by simp [hsame]
      have HSM := Lib.hid hsame
      rw [hds]
      clear hsame hds HFLD HEQU
      go_wp2
      go_loopw [18] (fun v18 wr => ∃ n : Nat, v18 = .int .i64 (n : Int) ∧ n ≤ 6 ∧ (∀ i, i < n → gd G (6 * i + i) ≠ 2) ∧ Below w3.heap.size w3 wr) (fun v18 _ => (6 - (intOf v18).toNat))
      case atStart => exact ⟨0, rfl, by omega, fun i h => by omega, Below.refl _ _⟩
      case round =>
        obtain ⟨n, rfl, hn, hno, hb⟩ := hrel
        have HNO := Lib.hid hno
        have HBW := Lib.hid (below_step HB3.out hb)
        have HBR := Lib.hid hb
        have HKW := Lib.hid (HK3.out.below hb)
        clear hno hb
        by_cases hn6 : n < 6
        · have hd : decide ((n : Int) < 6) = true := decide_eq_true (by omega)
          have sc : wr.cell? ⟨w.heap.size, 2 + n * 6 + n, none⟩ = some (.int .u8 (gd G (6 * n + n))) := by
            rw [show 2 + n * 6 + n = 2 + (6 * n + n) by omega]
            exact HKW.out.cell HG.out (by omega)
          have hi1 : (0 : Int) ≤ (n : Int) := by omega
          have hi2 : (n : Int) < 6 := by omega
          have HN6 := Lib.hid hn6
          obtain ⟨x, hx⟩ : ∃ x, gd G (6 * n + n) = x := ⟨_, rfl⟩
          rw [hx] at sc
          by_cases h2 : x = 2
          · have dx : (x == 2) = true := by simpa using h2
            have HP := Lib.hid (HANS.out true wr HBW.out ⟨fun _ => .inr (.inr ⟨n, hn6, by rw [hx, h2]⟩), fun _ => rfl⟩)
            clear hn6 hx h2 HANS
            go_wp2
            go_ret
            exact HP.out
          · have dx : (x == 2) = false := by simpa using h2
            have HR := Lib.hid (show ∀ i, i < n + 1 → gd G (6 * i + i) ≠ 2 from fun i hi => by
              by_cases he : i = n
              · subst he; rw [hx]; exact h2
              · exact HNO.out i (by omega))
            clear hn6 hx h2 HANS
            go_wp2
            go_roundw
            case rel => exact ⟨n + 1, by go_num, by have := HN6.out; omega, HR.out, HBR.out⟩
            case measure => (have := HN6.out; simp [intOf] <;> omega)
        · obtain rfl : n = 6 := by omega
          have hd : decide ((6 : Int) < 6) = false := by simp
          have HP := Lib.hid (HANS.out false wr HBW.out ⟨fun h => (by cases h), fun h => by
            rcases h with h | h | ⟨i, hi, h⟩
            · exact absurd HFT.out h
            · exact absurd HSM.out h
            · exact absurd h (HNO.out i hi)⟩)
          clear hn6 HANS
          go_wp2
          go_ret
          exact HP.out
    · have hds : (!decide (thenT G G = G)) = true := by simp [hsame]
      have HP := Lib.hid (HANS.out true w3 HB3.out ⟨fun _ => .inr (.inl hsame), fun _ => rfl⟩)
      rw [hds]
      clear hsame hds HFLD HEQU HANS
      go_wp2
      go_ret
      exact HP.out
  · have dft : (f != t) = true := by simpa using hft
    have HP := Lib.hid (fun q : Nat => HANS.out true (w0.drewN q) (below_drewN HB0.out q) ⟨fun _ => .inl hft, fun _ => rfl⟩)
    clear hft k0 hG hb0 HANS
    go_wp2
    go_quiet (fail)
    go_wp2
    go_ret
    exact HP.out _

end Go.Proofs.Ytliibknppfbfeaa.Pr
