/-
  THE WALK over spec.Compose.
-/
import Derived.Test.YtgjmefcognoepaaPG3
namespace Go.Proofs.Ytgjmefcognoepaa.Pr
open Go Go.RowKit Go.Maps Go.WideMaps

def arcCells (xs : List Ar) : List Value := xs.flatMap fun x => [.int .i64 x.a, .int .i64 x.b, .bool x.s]
theorem arcCells_len : ∀ xs : List Ar, (arcCells xs).length = xs.length * 3
  | [] => rfl
  | x :: r => by
    have := arcCells_len r
    unfold arcCells at this ⊢
    rw [List.flatMap_cons, List.length_append, this]
    simp
    omega
theorem arcCells_snoc (xs : List Ar) (x : Ar) : arcCells (xs ++ [x]) = arcCells xs ++ [.int .i64 x.a, .int .i64 x.b, .bool x.s] := by simp [arcCells]
theorem hown_add3 (g o j : Nat) : (⟨g, o, none⟩ : Addr).add j = ⟨g, o + j, none⟩ := by
  unfold Addr.add
  by_cases h : j = 0 <;> simp [h]
theorem push_arc {B : Nat} {v : Value} {xs : List Ar} {w w0 : World} (hown : w.ownsRow B 59 3 v xs.length (arcCells xs)) (x : Ar) (hn : xs.length ≤ 1048576) (hb : Below B w0 w) (hB : B ≤ w.heap.size) :
    ∃ g' cap w', (∀ ty, (Builtin.append_ #[36, 36] ty #[v, .slice (some ⟨w.heap.size, 0, none⟩) 1 1]).run Try.prog (w.alloc (.cells #[.int .i64 x.a, .int .i64 x.b, .bool x.s] 59)) = .ok (.slice (some ⟨g', 0, none⟩) (xs.length + 1) cap) w') ∧
      w'.ownsRow B 59 3 (.slice (some ⟨g', 0, none⟩) (xs.length + 1) cap) (xs ++ [x]).length (arcCells (xs ++ [x])) ∧ Below B w0 w' ∧ (∀ b, b < w.heap.size → v.ownBlock ≠ some b → w'.heap[b]? = w.heap[b]?) ∧ w.heap.size ≤ w'.heap.size := by
  obtain ⟨i0, hi0, hz0, hz1, hz2⟩ := info_parts infoArc
  obtain ⟨g', cap, w', a1, a2, a3, a4, a5⟩ := run_append_lies (P := Try.prog) (w.alloc (.cells #[.int .i64 x.a, .int .i64 x.b, .bool x.s] 59)) 36 0 B 59 i0 _ 3 24 Try.underlying36 hi0 hz0 hz1 hz2 rfl (by omega) v xs.length _ (hown.alloc _) ⟨w.heap.size, 0, none⟩ 1 1 [.int .i64 x.a, .int .i64 x.b, .bool x.s] rfl
    (fun j u hu => by
      have hc := cell_of_row _ w.heap.size j _ _ _ (heap_alloc_new w (.cells #[.int .i64 x.a, .int .i64 x.b, .bool x.s] 59))
      rw [hown_add3, Nat.zero_add, hc, List.getElem?_toArray]
      exact hu) (by intro u hu; simp at hu; rcases hu with rfl | rfl | rfl <;> rfl) (by omega) (by unfold maxLen; omega) (by omega) (by simp; omega) _ rfl
  have hk := (hb.alloc hB (.cells #[.int .i64 x.a, .int .i64 x.b, .bool x.s] 59)).grown a3 (by simp; omega) (own_ge hown)
  refine ⟨g', cap, w', fun ty => a1, ?_, hk, fun b hb2 hne => ?_, ?_⟩
  · rw [List.length_append, arcCells_snoc]; exact a2
  · rw [a3.block b (by simp; omega) (fun e => hne e.symm), heap_alloc_old w _ hb2]
  · have := a3.size; simp at this; omega

theorem results_row_two {P : Program} {fn : Func} {p u : Tmp} {ty : TypeId} (h : fn.results = #[.cell p ty, .tmp u]) (tmps : Array Value) (w : World) (g : Nat) (t : TypeId) (cs : Array Value) (fr : Nat × Nat) (d : TypeDesc)
    (hp : tmps.getD p undef = .pointer (some ⟨g, 0, none⟩)) (hg : w.heap[g]? = some (.cells cs t fr))
    (hu : P.underlying ty = some d) (hd : (match d with | .struct _ | .array _ _ => true | _ => false) = true) (hi : (P.info? ty).map (·.size) = some cs.size) :
    (results fn tmps).run P w = .ok (.tuple #[.agg cs, tmps.getD u undef]) w := by
  rw [results_cell_tmp h, hp]
  simp [asAddr, Result.andThen, run_loadVar_row w g t ty cs fr d hg hu hd hi]

/-- An append whose run is known, at a plain region. -/
theorem wpList_append_at {P : Program} {w w' : World} {ops : Array Oper} {rest : List Oper} {o : Oper} {a : Act} {Q : Exit → Act → World → Prop} (hgd : o.guard = none) (s x : Operand) (t : TypeId) (ho : o.op = .call { callee := .builtin .append, args := #[s, x], argTypes := #[t, t] })
    {v u v' : Value} (hs : a.eval s = v) (hx : a.eval x = u) (hrun : ∀ ty, (Builtin.append_ #[t, t] ty #[v, u]).run P w = .ok v' w') (h : wpList P ops Q rest (a.put o.dst v') w') : wpList P ops Q (o :: rest) a w :=
  wpList_plain hgd fun _ hK => by
    unfold Oper.wp execOp
    simp only [ho, resolve, invoke, builtin, Sem.run_bind, Sem.run_pure, Result.andThen_ok, List.map_toArray, List.map_cons, List.map_nil, hs, hx, hrun]
    exact hK _ _ h
/-- A row is as it was when a cell of a block that is not its own is set. -/
theorem row_set {w : World} {base g i : Nat} {e : TypeId} {size : Nat} {v : Value} {n : Nat} {xs : List Value} (h : w.ownsRow base e size v n xs) (hg : g < base) (u : Value) : (w.setCell ⟨g, i, none⟩ u).ownsRow base e size v n xs :=
  h.kept (grown_set w g i u) (by
    cases hv : v.ownBlock with
    | none => simp
    | some b => have := own_ge h b hv; simp; omega)

/-- Three cells of a block are set. -/
theorem set3 {w0 W : World} {P : Nat} {a b c : Value} {T : TypeId} (h : W.heap[P]? = some (.cells #[a, b, c] T (0, 0))) (x y z : Value) (hb : Below w0.heap.size w0 W) (hP : w0.heap.size ≤ P) :
    (((W.setCell ⟨P, 0, none⟩ x).setCell ⟨P, 1, none⟩ y).setCell ⟨P, 2, none⟩ z).heap[P]? = some (.cells #[x, y, z] T (0, 0)) ∧ Below w0.heap.size w0 (((W.setCell ⟨P, 0, none⟩ x).setCell ⟨P, 1, none⟩ y).setCell ⟨P, 2, none⟩ z) ∧
    (∀ j : Nat, j ≠ P → (((W.setCell ⟨P, 0, none⟩ x).setCell ⟨P, 1, none⟩ y).setCell ⟨P, 2, none⟩ z).heap[j]? = W.heap[j]?) := by
  refine ⟨?_, below_set (below_set (below_set hb 0 x hP) 1 y hP) 2 z hP, fun j hj => ?_⟩
  · have h1 := heap_setCell_same W P 0 _ _ x h
    have h2 := heap_setCell_same _ P 1 _ _ y h1
    have h3 := heap_setCell_same _ P 2 _ _ z h2
    simpa using h3
  · rw [heap_setCell_other _ ⟨P, 2, none⟩ _ _ hj, heap_setCell_other _ ⟨P, 1, none⟩ _ _ hj, heap_setCell_other _ ⟨P, 0, none⟩ _ _ hj]
theorem cells3 {W : World} {P : Nat} {a b c : Value} {T : TypeId} (h : W.heap[P]? = some (.cells #[a, b, c] T (0, 0))) :
    W.cell? ⟨P, 0, none⟩ = some a ∧ W.cell? ⟨P, 1, none⟩ = some b ∧ W.cell? ⟨P, 2, none⟩ = some c ∧ W.frozen? ⟨P, 0, none⟩ = false ∧ W.frozen? ⟨P, 1, none⟩ = false ∧ W.frozen? ⟨P, 2, none⟩ = false :=
  ⟨(cell_of_row _ P 0 _ _ _ h).trans rfl, (cell_of_row _ P 1 _ _ _ h).trans rfl, (cell_of_row _ P 2 _ _ _ h).trans rfl, frozen_row h 0, frozen_row h 1, frozen_row h 2⟩

open Classical in
noncomputable def compAns (g h : Gr) : Gr × Bool := if RightA g.rs ∧ RightA h.rs ∧ g.t = h.f then (⟨g.f, h.t, compA g.rs h.rs⟩, true) else (⟨0, 0, []⟩, false)
theorem compAns_ok {g h : Gr} (h1 : RightA g.rs) (h2 : RightA h.rs) (h3 : g.t = h.f) : compAns g h = (⟨g.f, h.t, compA g.rs h.rs⟩, true) := if_pos ⟨h1, h2, h3⟩
theorem compAns_no {g h : Gr} (h1 : ¬ (RightA g.rs ∧ RightA h.rs ∧ g.t = h.f)) : compAns g h = (⟨0, 0, []⟩, false) := if_neg h1
def CmpPost (g h : Gr) (w : World) (e : Ending) (w' : World) : Prop :=
  ∃ v, e = .returned (.tuple #[.agg #[.int .i64 (compAns g h).1.f, .int .i64 (compAns g h).1.t, v], .bool (compAns g h).2]) ∧ w'.ownsRow w.heap.size 59 3 v (compAns g h).1.rs.length (arcCells (compAns g h).1.rs) ∧ Below w.heap.size w w'

def OutIs (w : World) (G : Nat) (gc hc : Array Value) (g h : Gr) (m : Nat) (wr : World) : Prop :=
  ∃ v, wr.heap[w.heap.size]? = some (.cells gc 38 (0, 0)) ∧ wr.heap[w.heap.size + 1]? = some (.cells hc 38 (0, 0)) ∧ wr.heap[w.heap.size + 2]? = some (.cells #[.int .i64 0, .int .i64 0, .slice none 0 0] 38 (0, 0)) ∧
    wr.heap[G]? = some (.cells #[.int .i64 g.f, .int .i64 h.t, v] 38 (0, 0)) ∧ wr.ownsRow (G + 1) 59 3 v (arcsTo g.rs h.rs m).length (arcCells (arcsTo g.rs h.rs m)) ∧ Below w.heap.size w wr

def CmARel (w : World) (G : Nat) (gc hc : Array Value) (g h : Gr) (v7 : Value) (wr : World) : Prop := ∃ a : Nat, v7 = .int .i64 (a : Int) ∧ a ≤ 6 ∧ OutIs w G gc hc g h (6 * a) wr
def CmBRel (w : World) (G : Nat) (gc hc : Array Value) (g h : Gr) (a : Nat) (v8 : Value) (wr : World) : Prop := ∃ b : Nat, v8 = .int .i64 (b : Int) ∧ b ≤ 6 ∧ OutIs w G gc hc g h (6 * a + b) wr
def fH (a b : Nat) (x y : Ar) : Bool := hit x y (a : Int) (b : Int)
def fS (a b : Nat) (x y : Ar) : Bool := hitS x y (a : Int) (b : Int)
def CmIRel (wb : World) (g h : List Ar) (a b : Nat) (v9 v10 v11 : Value) (wr : World) : Prop :=
  ∃ i : Nat, v11 = .int .i64 (i : Int) ∧ i ≤ g.length ∧ v9 = .bool (found (fH a b) g h i 0) ∧ v10 = .bool (found (fS a b) g h i 0) ∧ Below wb.heap.size wb wr
def CmKRel (wb : World) (g h : List Ar) (a b i : Nat) (v9 v10 v12 : Value) (wr : World) : Prop :=
  ∃ k : Nat, v12 = .int .i64 (k : Int) ∧ k ≤ h.length ∧ v9 = .bool (found (fH a b) g h i k) ∧ v10 = .bool (found (fS a b) g h i k) ∧ Below wb.heap.size wb wr

set_option maxRecDepth 100000 in
set_option maxHeartbeats 4000000 in
theorem specCompose_any (g h : Gr) (vg vh : List Value) (S : Nat → Prop) (w : World) (hF1 : FGr S w vg g) (hF2 : FGr S w vh h) (hS : ∀ b, S b → b < w.heap.size) (hl1 : g.rs.length ≤ 1048576) (hl2 : h.rs.length ≤ 1048576) :
    Calls Try.prog 14 #[.agg vg.toArray, .agg vh.toArray] w (CmpPost g h w) := by
  have hG := hF1
  have hH := hF2
  obtain ⟨ag, cg, rfl, r1⟩ := hF1
  obtain ⟨ah, ch, rfl, r2⟩ := hF2
  have hb0 := alloc3_below w (.cells #[.int .i64 g.f, .int .i64 g.t, .slice ag g.rs.length cg] 38) (.cells #[.int .i64 h.f, .int .i64 h.t, .slice ah h.rs.length ch] 38) (.cells #[.int .i64 0, .int .i64 0, .slice none 0 0] 38)
  have k0 := alloc3_0 w (.cells #[.int .i64 g.f, .int .i64 g.t, .slice ag g.rs.length cg] 38) (.cells #[.int .i64 h.f, .int .i64 h.t, .slice ah h.rs.length ch] 38) (.cells #[.int .i64 0, .int .i64 0, .slice none 0 0] 38)
  have k1 := alloc3_1 w (.cells #[.int .i64 g.f, .int .i64 g.t, .slice ag g.rs.length cg] 38) (.cells #[.int .i64 h.f, .int .i64 h.t, .slice ah h.rs.length ch] 38) (.cells #[.int .i64 0, .int .i64 0, .slice none 0 0] 38)
  have k2 := alloc3_2 w (.cells #[.int .i64 g.f, .int .i64 g.t, .slice ag g.rs.length cg] 38) (.cells #[.int .i64 h.f, .int .i64 h.t, .slice ah h.rs.length ch] 38) (.cells #[.int .i64 0, .int .i64 0, .slice none 0 0] 38)
  obtain ⟨w0, hw0⟩ : ∃ w0, ((w.alloc (.cells #[.int .i64 g.f, .int .i64 g.t, .slice ag g.rs.length cg] 38)).alloc (.cells #[.int .i64 h.f, .int .i64 h.t, .slice ah h.rs.length ch] 38)).alloc (.cells #[.int .i64 0, .int .i64 0, .slice none 0 0] 38) = w0 := ⟨_, rfl⟩
  rw [hw0] at hb0 k0 k1 k2
  have HG := Lib.hid (fun (W : World) (hW : Below w.heap.size w W) => FGr_keeps.1 _ _ _ _ _ hG (Same.below hS hW))
  have HH := Lib.hid (fun (W : World) (hW : Below w.heap.size w W) => FGr_keeps.1 _ _ _ _ _ hH (Same.below hS hW))
  have HS := Lib.hid (fun (W : World) (hW : Below w.heap.size w W) (b : Nat) (hb : S b) => Nat.lt_of_lt_of_le (hS b hb) hW.size)
  have HR1 := Lib.hid (fun (W : World) (hW : Below w.heap.size w W) => RowIn.kept FAr_keeps r1 (Same.below hS hW))
  have HR2 := Lib.hid (fun (W : World) (hW : Below w.heap.size w W) => RowIn.kept FAr_keeps r2 (Same.below hS hW))
  have HB0 := Lib.hid hb0
  have HK0 := Lib.hid k0
  have HK1 := Lib.hid k1
  have HK2 := Lib.hid k2
  have q0 := cell_of_row _ w.heap.size 0 _ _ _ k0
  have q1 := cell_of_row _ w.heap.size 1 _ _ _ k0
  have q2 := cell_of_row _ w.heap.size 2 _ _ _ k0
  simp only [List.getElem?_toArray, List.getElem?_cons_zero, List.getElem?_cons_succ] at q0 q1 q2
  clear hG hH hS r1 r2 hb0 k0 k1 k2
  go_enter Try.func14, Try.ntmps14
  go_wp2_with fail
  refine (specRight_any g _ S w0 (HG.out w0 HB0.out) (HS.out w0 HB0.out) hl1).mono ?_
  rintro e w1 ⟨⟨r, rfl, hr⟩, hb1⟩
  have HB1 := Lib.hid (below_step HB0.out hb1)
  have k0 := (hb1.block _ (lt_of_block HK0.out)).trans HK0.out
  have k1 := (hb1.block _ (lt_of_block HK1.out)).trans HK1.out
  have k2 := (hb1.block _ (lt_of_block HK2.out)).trans HK2.out
  clear hb1 HK0 HK1 HK2 q0 q1 q2
  have HNO := Lib.hid (fun (W : World) (hW : Below w.heap.size w W) (k2 : W.heap[w.heap.size + 1 + 1]? = some (.cells #[.int .i64 0, .int .i64 0, .slice none 0 0] 38 (0, 0))) (hno : ¬ (RightA g.rs ∧ RightA h.rs ∧ g.t = h.f)) =>
    (⟨(set3 (P := w.heap.size + 1 + 1) k2 (.int .i64 0) (.int .i64 0) (.slice none 0 0) hW (by omega)).1, .slice none 0 0, by rw [compAns_no hno], by rw [compAns_no hno]; exact World.ownsRow_nil _ _ _ _, (set3 (P := w.heap.size + 1 + 1) k2 (.int .i64 0) (.int .i64 0) (.slice none 0 0) hW (by omega)).2.1⟩ :
      (((W.setCell ⟨w.heap.size + 1 + 1, 0, none⟩ (.int .i64 0)).setCell ⟨w.heap.size + 1 + 1, 1, none⟩ (.int .i64 0)).setCell ⟨w.heap.size + 1 + 1, 2, none⟩ (.slice none 0 0)).heap[w.heap.size + 1 + 1]? = some (.cells #[.int .i64 0, .int .i64 0, .slice none 0 0] 38 (0, 0)) ∧
      CmpPost g h w (.returned (.tuple #[.agg #[.int .i64 0, .int .i64 0, .slice none 0 0], .bool false])) (((W.setCell ⟨w.heap.size + 1 + 1, 0, none⟩ (.int .i64 0)).setCell ⟨w.heap.size + 1 + 1, 1, none⟩ (.int .i64 0)).setCell ⟨w.heap.size + 1 + 1, 2, none⟩ (.slice none 0 0))))
  cases r with
  | false =>
    have hno : ¬ RightA g.rs := fun R => by have := hr.2 R; cases this
    obtain ⟨c0, c1, c2, f0, f1, f2⟩ := cells3 (P := w.heap.size + 1 + 1) k2
    have HN := Lib.hid (HNO.out w1 HB1.out k2 (fun R => hno R.1))
    clear HNO hr hno
    go_wp2
    refine bodyPost_ret (results_row_two rfl _ _ (w.heap.size + 1 + 1) 38 #[.int .i64 0, .int .i64 0, .slice none 0 0] (0, 0) _ (by rfl) HN.out.1 Try.underlying38 rfl infoSGraph) rfl ?_
    exact HN.out.2
  | true =>
  have HG1 := Lib.hid (hr.1 rfl)
  have HK0 := Lib.hid k0
  have HK1 := Lib.hid k1
  have HK2 := Lib.hid k2
  have q0 := cell_of_row _ (w.heap.size + 1) 0 _ _ _ k1
  have q1 := cell_of_row _ (w.heap.size + 1) 1 _ _ _ k1
  have q2 := cell_of_row _ (w.heap.size + 1) 2 _ _ _ k1
  simp only [List.getElem?_toArray, List.getElem?_cons_zero, List.getElem?_cons_succ] at q0 q1 q2
  clear hr k0 k1 k2
  go_wp2_with fail
  refine (specRight_any h _ S w1 (HH.out w1 HB1.out) (HS.out w1 HB1.out) hl2).mono ?_
  rintro e w2 ⟨⟨r, rfl, hr⟩, hb2⟩
  have HB2 := Lib.hid (below_step HB1.out hb2)
  have k0 := (hb2.block _ (lt_of_block HK0.out)).trans HK0.out
  have k1 := (hb2.block _ (lt_of_block HK1.out)).trans HK1.out
  have k2 := (hb2.block _ (lt_of_block HK2.out)).trans HK2.out
  clear hb2 HK0 HK1 HK2 q0 q1 q2
  cases r with
  | false =>
    have hno : ¬ RightA h.rs := fun R => by have := hr.2 R; cases this
    obtain ⟨c0, c1, c2, f0, f1, f2⟩ := cells3 (P := w.heap.size + 1 + 1) k2
    have HN := Lib.hid (HNO.out w2 HB2.out k2 (fun R => hno R.2.1))
    clear HNO hr hno
    go_wp2
    refine bodyPost_ret (results_row_two rfl _ _ (w.heap.size + 1 + 1) 38 #[.int .i64 0, .int .i64 0, .slice none 0 0] (0, 0) _ (by rfl) HN.out.1 Try.underlying38 rfl infoSGraph) rfl ?_
    exact HN.out.2
  | true =>
  have HG2 := Lib.hid (hr.1 rfl)
  clear hr
  obtain ⟨g0, g1, g2, -, -, -⟩ := cells3 k0
  obtain ⟨h0, h1, h2, -, -, -⟩ := cells3 k1
  by_cases hgh : g.t = h.f
  · have hne : (g.t != h.f) = false := by simp [hgh]
    have HANS := Lib.hid (compAns_ok HG1.out HG2.out hgh)
    have hf1 := HG1.out.few
    have hf2 := HG2.out.few
    have hGw : w.heap.size + 3 ≤ w2.heap.size := by
      have h1 := lt_of_block k2
      omega
    have k0' := (heap_alloc_old w2 (.cells #[.int .i64 g.f, .int .i64 h.t, .slice none 0 0] 38) (lt_of_block k0)).trans k0
    have k1' := (heap_alloc_old w2 (.cells #[.int .i64 g.f, .int .i64 h.t, .slice none 0 0] 38) (lt_of_block k1)).trans k1
    have k2' := (heap_alloc_old w2 (.cells #[.int .i64 g.f, .int .i64 h.t, .slice none 0 0] 38) (lt_of_block k2)).trans k2
    have HST := Lib.hid (show CmARel w w2.heap.size #[.int .i64 g.f, .int .i64 g.t, .slice ag g.rs.length cg] #[.int .i64 h.f, .int .i64 h.t, .slice ah h.rs.length ch] g h (.int .i64 0) (w2.alloc (.cells #[.int .i64 g.f, .int .i64 h.t, .slice none 0 0] 38)) from
      ⟨0, rfl, by omega, .slice none 0 0, k0', k1', k2', heap_alloc_new w2 _, World.ownsRow_nil _ _ _ _, below_alloc HB2.out _⟩)
    have HGG := Lib.hid hGw
    clear HNO hgh k0 k1 k2 k0' k1' k2' hGw
    go_wp2
    obtain ⟨G, hG⟩ : ∃ G, w2.heap.size = G := ⟨_, rfl⟩
    rw [hG] at HST HGG ⊢
    clear hG g0 g1 g2 h0 h1 h2 hne hw0
    obtain ⟨gc, hgc⟩ : ∃ gc : Array Value, #[.int .i64 g.f, .int .i64 g.t, .slice ag g.rs.length cg] = gc := ⟨_, rfl⟩
    obtain ⟨hc, hhc⟩ : ∃ hc : Array Value, #[.int .i64 h.f, .int .i64 h.t, .slice ah h.rs.length ch] = hc := ⟨_, rfl⟩
    rw [hgc, hhc] at HST
    have HGC := Lib.hid (And.intro hgc hhc)
    clear hgc hhc
    go_loopw [7] (fun v7 wr => CmARel w G gc hc g h v7 wr) (fun v7 _ => (6 - (intOf v7).toNat))
    case atStart => exact HST.out
    case round =>
      obtain ⟨a, rfl, ha, ho⟩ := hrel
      have HO := Lib.hid ho
      clear HST ho
      by_cases hla : a < 6
      · have hd : decide ((a : Int) < 6) = true := decide_eq_true (by omega)
        go_wp2
        go_loopw [8] (fun v8 wr => CmBRel w G gc hc g h a v8 wr) (fun v8 _ => (6 - (intOf v8).toNat))
        case atStart => exact ⟨0, rfl, by omega, HO.out⟩
        case round =>
          obtain ⟨b, rfl, hb, v, o0, o1, o2, oG, ho, hbl⟩ := hrel
          clear HO
          by_cases hlb : b < 6
          · have hd2 : decide ((b : Int) < 6) = true := decide_eq_true (by omega)
            have O0 := Lib.hid o0
            have O1 := Lib.hid o1
            have O2 := Lib.hid o2
            have OG := Lib.hid oG
            have OW := Lib.hid ho
            have HBL := Lib.hid hbl
            have HMI := Lib.hid (fun (i : Nat) (z : Int) (v9 v10 : Bool) (W : World) (hz : z = (i : Int)) (hi : i ≤ g.rs.length) (e1 : v9 = found (fH a b) g.rs h.rs i 0) (e2 : v10 = found (fS a b) g.rs h.rs i 0) (hW : Below wr.heap.size wr W) => (⟨i, by rw [hz], hi, by rw [e1], by rw [e2], hW⟩ : CmIRel wr g.rs h.rs a b (.bool v9) (.bool v10) (.int .i64 z) W))
            clear o0 o1 o2 oG ho hbl
            go_wp2
            go_loopw [9, 10, 11] (fun v9 v10 v11 wq => CmIRel wr g.rs h.rs a b v9 v10 v11 wq) (fun _ _ v11 _ => (g.rs.length - (intOf v11).toNat))
            case atStart => exact ⟨0, rfl, Nat.zero_le _, by rw [found_zero], by rw [found_zero], Below.refl _ _⟩
            case round =>
              obtain ⟨i, rfl, hi, rfl, rfl, hbi⟩ := hrel
              have z0 := (hbi.block _ (lt_of_block O0.out)).trans O0.out
              have z1 := (hbi.block _ (lt_of_block O1.out)).trans O1.out
              rw [← HGC.out.1] at z0
              rw [← HGC.out.2] at z1
              obtain ⟨g0, g1, g2, -, -, -⟩ := cells3 z0
              obtain ⟨h0, h1, h2, -, -, -⟩ := cells3 z1
              have HBI := Lib.hid hbi
              have HBW := Lib.hid (below_step HBL.out hbi)
              clear z0 z1 hbi g0 g1 h0 h1
              by_cases hli : i < g.rs.length
              · have hd3 : decide ((i : Int) < (g.rs.length : Int)) = true := decide_eq_true (by omega)
                have HMK := Lib.hid (fun (k : Nat) (z : Int) (v9 v10 : Bool) (W : World) (hz : z = (k : Int)) (hk : k ≤ h.rs.length) (e1 : v9 = found (fH a b) g.rs h.rs i k) (e2 : v10 = found (fS a b) g.rs h.rs i k) (hW : Below wr.heap.size wr W) => (⟨k, by rw [hz], hk, by rw [e1], by rw [e2], hW⟩ : CmKRel wr g.rs h.rs a b i (.bool v9) (.bool v10) (.int .i64 z) W))
                go_wp2
                go_loopw [9, 10, 12] (fun v9 v10 v12 wq => CmKRel wr g.rs h.rs a b i v9 v10 v12 wq) (fun _ _ v12 _ => (h.rs.length - (intOf v12).toNat))
                case atStart => exact ⟨0, rfl, Nat.zero_le _, rfl, rfl, Below.refl _ _⟩
                case round =>
                  obtain ⟨k, rfl, hk, rfl, rfl, hbk⟩ := hrel
                  have y2 := (hbk.cell (p := ⟨w.heap.size, 2, none⟩) (cell_lt g2)).trans g2
                  have u2 := (hbk.cell (p := ⟨w.heap.size + 1, 2, none⟩) (cell_lt h2)).trans h2
                  have HBK := Lib.hid hbk
                  have HBWK := Lib.hid (below_step HBW.out hbk)
                  clear g2 h2 hbk
                  by_cases hlk : k < h.rs.length
                  · have hd4 : decide ((k : Int) < (h.rs.length : Int)) = true := decide_eq_true (by omega)
                    obtain ⟨b1, o1, vs1, rfl, hS1, hv1, hc1, hF1⟩ := HR1.out _ HBWK.out i hli
                    obtain ⟨b2, o2, vs2, rfl, hS2, hv2, hc2, hF2⟩ := HR2.out _ HBWK.out k hlk
                    obtain rfl := hF1
                    obtain rfl := hF2
                    have x0 : wr.cell? ⟨b1, o1 + i * 3, none⟩ = some (.int .i64 g.rs[i].a) := hc1 0 (by simp)
                    have x1 : wr.cell? ⟨b1, o1 + i * 3 + 1, none⟩ = some (.int .i64 g.rs[i].b) := hc1 1 (by simp)
                    have x2 : wr.cell? ⟨b1, o1 + i * 3 + 2, none⟩ = some (.bool g.rs[i].s) := hc1 2 (by simp)
                    have t0 : wr.cell? ⟨b2, o2 + k * 3, none⟩ = some (.int .i64 h.rs[k].a) := hc2 0 (by simp)
                    have t1 : wr.cell? ⟨b2, o2 + k * 3 + 1, none⟩ = some (.int .i64 h.rs[k].b) := hc2 1 (by simp)
                    have t2 : wr.cell? ⟨b2, o2 + k * 3 + 2, none⟩ = some (.bool h.rs[k].s) := hc2 2 (by simp)
                    have e1 := found_step (f := fH a b) hli hlk
                    have e2 := found_step (f := fS a b) hli hlk
                    obtain ⟨⟨xa, xb, xs⟩, hx⟩ : ∃ x, g.rs[i] = x := ⟨_, rfl⟩
                    obtain ⟨⟨ya, yb, ys⟩, hy⟩ : ∃ x, h.rs[k] = x := ⟨_, rfl⟩
                    rw [hx] at x0 x1 x2 e1 e2
                    rw [hy] at t0 t1 t2 e1 e2
                    dsimp only at x0 x1 x2 t0 t1 t2
                    obtain ⟨fd, hfd⟩ : ∃ fd, found (fH a b) g.rs h.rs i k = fd := ⟨_, rfl⟩
                    obtain ⟨sd, hsd⟩ : ∃ sd, found (fS a b) g.rs h.rs i k = sd := ⟨_, rfl⟩
                    rw [hfd] at e1 ⊢
                    rw [hsd] at e2 ⊢
                    have HMISS := Lib.hid (fun (hm : ¬ ((xa = (a : Int) ∧ xb = ya) ∧ yb = (b : Int))) (W : World) hW => HMK.out (k + 1) ((k : Int) + 1) fd sd W (by omega) (by omega) (by
                      rw [e1, show fH a b ⟨xa, xb, xs⟩ ⟨ya, yb, ys⟩ = false by simp [fH, hit]; intro h1 h2 h3; exact hm ⟨⟨h1, h2⟩, h3⟩, Bool.or_false]) (by
                      rw [e2, show fS a b ⟨xa, xb, xs⟩ ⟨ya, yb, ys⟩ = false by simp [fS, hitS, hit]; intro h1 h2 h3; exact absurd ⟨⟨h1, h2⟩, h3⟩ hm, Bool.or_false]) hW)
                    have HHIT := Lib.hid (fun (hm : (xa = (a : Int) ∧ xb = ya) ∧ yb = (b : Int)) (W : World) hW => HMK.out (k + 1) ((k : Int) + 1) true (sd || xs || ys) W (by omega) (by omega) (by
                      rw [e1, show fH a b ⟨xa, xb, xs⟩ ⟨ya, yb, ys⟩ = true by simp [fH, hit, hm.1.1, hm.1.2, hm.2], Bool.or_true]) (by
                      rw [e2, show fS a b ⟨xa, xb, xs⟩ ⟨ya, yb, ys⟩ = (xs || ys) by simp [fS, hitS, hit, hm.1.1, hm.1.2, hm.2], Bool.or_assoc]) hW)
                    clear hc1 hc2 hv1 hv2 hS1 hS2 hx hy hfd hsd e1 e2 HBWK HBI HMK HMI
                    by_cases m1 : xa = (a : Int)
                    · have d1 : (xa == (a : Int)) = true := by simpa using m1
                      by_cases m2 : xb = ya
                      · have d2 : (xb == ya) = true := by simpa using m2
                        by_cases m3 : yb = (b : Int)
                        · have d3 : (yb == (b : Int)) = true := by simpa using m3
                          have HR := Lib.hid (HHIT.out ⟨⟨m1, m2⟩, m3⟩)
                          clear HMISS HHIT m1 m2 m3
                          cases sd with
                          | true =>
                            rw [Bool.true_or, Bool.true_or] at HR
                            go_wp2
                            go_quiet (fail)
                            go_wp2
                            go_roundw
                            case rel => exact HR.out _ (below_drewN HBK.out _)
                            case measure => (simp [intOf] <;> omega)
                          | false =>
                          cases xs with
                          | true =>
                            rw [Bool.false_or, Bool.true_or] at HR
                            go_wp2
                            go_quiet (fail)
                            go_wp2
                            go_roundw
                            case rel => exact HR.out _ (below_drewN HBK.out _)
                            case measure => (simp [intOf] <;> omega)
                          | false =>
                            rw [Bool.false_or, Bool.false_or] at HR
                            go_wp2
                            go_quiet (fail)
                            go_wp2
                            go_roundw
                            case rel => exact HR.out _ (below_drewN HBK.out _)
                            case measure => (simp [intOf] <;> omega)
                        · have d3 : (yb == (b : Int)) = false := by simpa using m3
                          have HR := Lib.hid (HMISS.out (fun h => m3 h.2))
                          clear HMISS HHIT m1 m2 m3
                          go_wp2
                          go_quiet (fail)
                          go_wp2
                          go_roundw
                          case rel => exact HR.out _ (below_drewN HBK.out _)
                          case measure => (simp [intOf] <;> omega)
                      · have d2 : (xb == ya) = false := by simpa using m2
                        have HR := Lib.hid (HMISS.out (fun h => m2 h.1.2))
                        clear HMISS HHIT m1 m2
                        go_wp2
                        go_quiet (fail)
                        go_wp2
                        go_roundw
                        case rel => exact HR.out _ (below_drewN HBK.out _)
                        case measure => (simp [intOf] <;> omega)
                    · have d1 : (xa == (a : Int)) = false := by simpa using m1
                      have HR := Lib.hid (HMISS.out (fun h => m1 h.1.1))
                      clear HMISS HHIT m1
                      go_wp2
                      go_quiet (fail)
                      go_wp2
                      go_roundw
                      case rel => exact HR.out _ (below_drewN HBK.out _)
                      case measure => (simp [intOf] <;> omega)
                  · obtain rfl : k = h.rs.length := by omega
                    have hd4 : decide ((h.rs.length : Int) < (h.rs.length : Int)) = false := by simp
                    have HR := Lib.hid (HMI.out (i + 1) ((i : Int) + 1) _ _ wr (by omega) (by omega) (found_row (f := fH a b) hli) (found_row (f := fS a b) hli) (below_step HBI.out HBK.out))
                    go_wp2
                    go_roundw
                    case rel => exact HR.out
                    case measure => (simp [intOf] <;> omega)
              · obtain rfl : i = g.rs.length := by omega
                have hd3 : decide ((g.rs.length : Int) < (g.rs.length : Int)) = false := by simp
                have hpa : pA (6 * a + b) = (a : Int) := by unfold pA; omega
                have hpb : pB (6 * a + b) = (b : Int) := by unfold pB; omega
                have hfm : found (fH a b) g.rs h.rs g.rs.length 0 = meets g.rs h.rs (pA (6 * a + b)) (pB (6 * a + b)) := by rw [hpa, hpb]; exact found_all _ _ _
                have hsm : found (fS a b) g.rs h.rs g.rs.length 0 = meetsS g.rs h.rs (pA (6 * a + b)) (pB (6 * a + b)) := by rw [hpa, hpb]; exact found_all _ _ _
                have z0 := (HBI.out.block _ (lt_of_block O0.out)).trans O0.out
                have z1 := (HBI.out.block _ (lt_of_block O1.out)).trans O1.out
                have z2 := (HBI.out.block _ (lt_of_block O2.out)).trans O2.out
                have zG := (HBI.out.block _ (lt_of_block OG.out)).trans OG.out
                have zW := row_kept OW.out HBI.out
                have hal := arcsTo_len g.rs h.rs (6 * a + b)
                cases hfd : found (fH a b) g.rs h.rs g.rs.length 0 with
                | false =>
                  rw [hfd] at hfm
                  have HR := Lib.hid (show CmBRel w G gc hc g h a (.int .i64 ((b : Int) + 1)) wr from ⟨b + 1, by go_num, by omega, by rw [show 6 * a + (b + 1) = 6 * a + b + 1 by omega]; unfold OutIs; rw [arcsTo_out hfm.symm]; exact ⟨v, z0, z1, z2, zG, zW, HBW.out⟩⟩)
                  clear hfm hsm z0 z1 z2 zG zW O0 O1 O2 OG OW HMI hpa hpb hfd
                  go_wp2
                  go_roundw
                  case rel => exact HR.out
                  case measure => (simp [intOf] <;> omega)
                | true =>
                  rw [hfd] at hfm
                  obtain ⟨sd, hsd⟩ : ∃ sd, found (fS a b) g.rs h.rs g.rs.length 0 = sd := ⟨_, rfl⟩
                  rw [hsd] at hsm ⊢
                  obtain ⟨av, cv, rfl⟩ := owns_shape zW
                  have hge := own_ge zW
                  have hGl := lt_of_block zG
                  obtain ⟨cG0, cG1, cG2, fG0, fG1, fG2⟩ := cells3 zG
                  obtain ⟨g', cap, w4, hrun, ho4, hb4, hk4, hsz4⟩ := push_arc zW ⟨(a : Int), (b : Int), sd⟩ (by omega) (Below.refl (G + 1) wr) hGl
                  have hkk : ∀ j, j ≤ G → w4.heap[j]? = wr.heap[j]? := fun j hj => hk4 j (by omega) (fun e => by have := hge j e; omega)
                  have y0 := (hkk w.heap.size (by have := HGG.out; omega)).trans z0
                  have y1 := (hkk (w.heap.size + 1) (by have := HGG.out; omega)).trans z1
                  have y2 := (hkk (w.heap.size + 2) (by have := HGG.out; omega)).trans z2
                  have yG := (hkk G (Nat.le_refl _)).trans zG
                  have hbw4 : Below w.heap.size w w4 := ⟨hb4.os.trans HBW.out.os, hb4.tape.trans HBW.out.tape, hb4.output.trans HBW.out.output, by have := HBW.out.size; omega, fun j hj => (hb4.block j (by have := HGG.out; omega)).trans (HBW.out.block j hj)⟩
                  have harc : arcsTo g.rs h.rs (6 * a + (b + 1)) = arcsTo g.rs h.rs (6 * a + b) ++ [⟨(a : Int), (b : Int), sd⟩] := by
                    rw [show 6 * a + (b + 1) = 6 * a + b + 1 by omega, arcsTo_in hfm.symm]
                    unfold arcOf
                    rw [← hsm, hpa, hpb]
                  obtain ⟨dG0, dG1, dG2, eG0, eG1, eG2⟩ := cells3 yG
                  have HR := Lib.hid (show CmBRel w G gc hc g h a (.int .i64 ((b : Int) + 1)) (w4.setCell ⟨G, 2, none⟩ (.slice (some ⟨g', 0, none⟩) ((arcsTo g.rs h.rs (6 * a + b)).length + 1) cap)) from
                    ⟨b + 1, by go_num, by omega, by
                      unfold OutIs
                      rw [harc]
                      refine ⟨.slice (some ⟨g', 0, none⟩) ((arcsTo g.rs h.rs (6 * a + b)).length + 1) cap, ?_, ?_, ?_, ?_, row_set ho4 (by omega) _, below_set hbw4 2 _ (by have := HGG.out; omega)⟩
                      · rw [heap_setCell_other _ ⟨G, 2, none⟩ _ _ (show w.heap.size ≠ G by have := HGG.out; omega)]; exact y0
                      · rw [heap_setCell_other _ ⟨G, 2, none⟩ _ _ (show w.heap.size + 1 ≠ G by have := HGG.out; omega)]; exact y1
                      · rw [heap_setCell_other _ ⟨G, 2, none⟩ _ _ (show w.heap.size + 2 ≠ G by have := HGG.out; omega)]; exact y2
                      · have := heap_setCell_same _ G 2 _ _ (.slice (some ⟨g', 0, none⟩) ((arcsTo g.rs h.rs (6 * a + b)).length + 1) cap) yG
                        simpa using this⟩)
                  have HRUN := Lib.hid hrun
                  dsimp only at HRUN
                  clear hfm hsm z0 z1 z2 zG zW O0 O1 O2 OG OW HMI hpa hpb hfd hsd hge hrun ho4 hb4 hk4 hkk y0 y1 y2 yG hbw4 harc
                  generalize (arcsTo g.rs h.rs (6 * a + b)).length = al at *
                  go_wp2_with (first
                    | (at_builtin
                       refine wpList_append_at rfl (.tmp 108) (.tmp 113) _ rfl rfl rfl HRUN.out ?_))
                  go_roundw
                  case rel => exact HR.out
                  case measure => (simp [intOf] <;> omega)
          · obtain rfl : b = 6 := by omega
            have hd2 : decide ((6 : Int) < 6) = false := by simp
            have HR := Lib.hid (show CmARel w G gc hc g h (.int .i64 ((a : Int) + 1)) wr from ⟨a + 1, by go_num, by omega, by rw [show 6 * (a + 1) = 6 * a + 6 by omega]; exact ⟨v, o0, o1, o2, oG, ho, hbl⟩⟩)
            clear o0 o1 o2 oG ho hbl
            go_wp2
            go_roundw
            case rel => exact HR.out
            case measure => (simp [intOf] <;> omega)
      · obtain rfl : a = 6 := by omega
        have hd : decide ((6 : Int) < 6) = false := by simp
        obtain ⟨v, o0, o1, o2, oG, ho, hbl⟩ := HO.out
        obtain ⟨av, cv, rfl⟩ := owns_shape ho
        obtain ⟨c0, c1, c2, f0, f1, f2⟩ := cells3 (P := w.heap.size + 1 + 1) o2
        obtain ⟨cG0, cG1, cG2, fG0, fG1, fG2⟩ := cells3 oG
        obtain ⟨s1, s2, s3⟩ := set3 (P := w.heap.size + 1 + 1) o2 (.int .i64 g.f) (.int .i64 h.t) (.slice av (arcsTo g.rs h.rs (6 * 6)).length cv) hbl (by omega)
        have HS1 := Lib.hid s1
        have hGl := lt_of_block oG
        have HP := Lib.hid (show CmpPost g h w (.returned (.tuple #[.agg #[.int .i64 g.f, .int .i64 h.t, .slice av (arcsTo g.rs h.rs (6 * 6)).length cv], .bool true])) _ from ⟨_, by rw [HANS.out], by
          rw [HANS.out]
          exact owns_mono (show w.heap.size ≤ G + 1 by have := HGG.out; omega) (row_set (row_set (row_set ho (by have := HGG.out; omega) _) (by have := HGG.out; omega) _) (by have := HGG.out; omega) _), s2⟩)
        clear HO o0 o1 o2 oG ho hbl s1 s2 s3
        generalize (arcsTo g.rs h.rs (6 * 6)).length = al at *
        go_wp2
        refine bodyPost_ret (results_row_two rfl _ _ (w.heap.size + 1 + 1) 38 #[.int .i64 g.f, .int .i64 h.t, .slice av al cv] (0, 0) _ (by rfl) HS1.out Try.underlying38 rfl infoSGraph) rfl ?_
        exact HP.out
  · have hne : (g.t != h.f) = true := by simpa using hgh
    obtain ⟨c0, c1, c2, f0, f1, f2⟩ := cells3 (P := w.heap.size + 1 + 1) k2
    have HN := Lib.hid (HNO.out w2 HB2.out k2 (fun R => hgh R.2.2))
    clear HNO hgh
    go_wp2
    refine bodyPost_ret (results_row_two rfl _ _ (w.heap.size + 1 + 1) 38 #[.int .i64 0, .int .i64 0, .slice none 0 0] (0, 0) _ (by rfl) HN.out.1 Try.underlying38 rfl infoSGraph) rfl ?_
    exact HN.out.2

end Go.Proofs.Ytgjmefcognoepaa.Pr
