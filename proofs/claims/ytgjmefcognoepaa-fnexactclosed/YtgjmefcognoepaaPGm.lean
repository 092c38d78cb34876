/-
  MARKS in arcs and graphs: what is written into a copy stays in it; an answer's own row bears what was written.
-/
import Derived.Test.YtgjmefcognoepaaPGp
import Derived.Test.YtgjmefcognoepaaPG4
namespace Go.Proofs.Ytgjmefcognoepaa.Pr
open Go Go.RowKit Go.Maps Go.WideMaps

/-- Nothing but blocks of S has turned. -/
structure Off (S : Nat → Prop) (w w' : World) : Prop where
  os : w'.os = w.os
  tape : w'.tape = w.tape
  output : w'.output = w.output
  size : w'.heap.size = w.heap.size
  block : ∀ b, ¬ S b → w'.heap[b]? = w.heap[b]?
theorem Off.refl (S : Nat → Prop) (w : World) : Off S w w := ⟨rfl, rfl, rfl, rfl, fun _ _ => rfl⟩
theorem Off.set {S : Nat → Prop} {w W : World} (h : Off S w W) {g : Nat} (hg : S g) (o : Nat) (u : Value) : Off S w (W.setCell ⟨g, o, none⟩ u) := by
  have hs : (W.setCell ⟨g, o, none⟩ u).heap.size = W.heap.size := by simp [World.setCell]
  refine ⟨h.os, h.tape, h.output, hs.trans h.size, fun b hb => ?_⟩
  rw [heap_setCell_other W ⟨g, o, none⟩ b u (fun e => hb (e ▸ hg))]
  exact h.block b hb
/-- A row of n times c cells that may be written. -/
def CellRow (S : Nat → Prop) (w : World) (a : Option Addr) (n c : Nat) : Prop := ∀ i, i < n → ∃ (b off : Nat) (cur : Array Value) (ty : TypeId), a = some ⟨b, off, none⟩ ∧ S b ∧ w.heap[b]? = some (.cells cur ty (0, 0)) ∧ off + n * c ≤ cur.size
theorem cell_in {w : World} {b : Nat} {cur : Array Value} {ty : TypeId} (h : w.heap[b]? = some (.cells cur ty (0, 0))) {o : Nat} (ho : o < cur.size) : ∃ v, w.cell? ⟨b, o, none⟩ = some v := ⟨cur[o], (cell_of_row _ b o _ _ _ h).trans (Array.getElem?_eq_getElem ho)⟩
theorem CellRow.set {S : Nat → Prop} {w : World} {b off n c : Nat} (h : CellRow S w (some ⟨b, off, none⟩) n c) (o : Nat) (u : Value) : CellRow S (w.setCell ⟨b, o, none⟩ u) (some ⟨b, off, none⟩) n c := by
  intro i hi
  obtain ⟨b', off', cur, ty, ha, hS, hh, hc⟩ := h i hi
  simp only [Option.some.injEq, Addr.mk.injEq, and_true] at ha
  obtain ⟨rfl, rfl⟩ := ha
  exact ⟨b, off, cur.setIfInBounds o u, ty, rfl, hS, heap_setCell_same w b o cur ty u hh, by rw [Array.size_setIfInBounds]; exact hc⟩
theorem RowIn.cellRow {lo : Nat} {w : World} {a : Option Addr} {xs : List Ar} (h : RowIn FAr 3 (Seg lo w.heap.size) w a xs) (hp : Plain lo w) : CellRow (Seg lo w.heap.size) w a xs.length 3 := by
  intro i hi
  obtain ⟨b, off, vs, ha, hS, hv, hc, hF⟩ := h (xs.length - 1) (by omega)
  obtain rfl := hF
  obtain ⟨cur, ty, hh⟩ := hp b hS.1 hS.2
  have h2 := hc 2 (by simp)
  rw [cell_of_row _ b _ _ _ _ hh] at h2
  obtain ⟨h3, _⟩ := Array.getElem?_eq_some_iff.1 h2
  exact ⟨b, off, cur, ty, ha, hS, hh, by omega⟩

def MkARel (S : Nat → Prop) (w : World) (a : Option Addr) (n : Nat) (k : Int) (v1 v5 : Value) (wr : World) : Prop := ∃ (i : Nat) (z : Int), v5 = .int .i64 (i : Int) ∧ v1 = .int .i64 z ∧ z = k + 3 * i ∧ i ≤ n ∧ Off S w wr ∧ CellRow S wr a n 3

set_option maxRecDepth 100000 in
set_option maxHeartbeats 2000000 in
theorem markArcS_any (a : Option Addr) (cap n : Nat) (S : Nat → Prop) (w : World) (h : CellRow S w a n 3) (k : Int) (hk0 : 0 ≤ k) (hk : k ≤ 1125899906842624) (hn : n ≤ 2097152) :
    Calls Try.prog 20 #[.slice a n cap, .int .i64 k] w fun e w' => e = .returned (.int .i64 (k + 3 * (n : Int))) ∧ Off S w w' := by
  have HC := Lib.hid h
  clear h
  go_enter Try.func20, Try.ntmps20
  go_wp2
  go_loopw [1, 5] (fun v1 v5 wr => MkARel S w a n k v1 v5 wr) (fun _ v5 _ => (n - (intOf v5).toNat))
  case atStart => exact ⟨0, k, rfl, rfl, by omega, Nat.zero_le _, Off.refl _ _, HC.out⟩
  case round =>
    obtain ⟨i, z, rfl, rfl, hz, hi, ho, hc⟩ := hrel
    by_cases hlt : i < n
    · have hd : decide ((i : Int) < (n : Int)) = true := decide_eq_true (by omega)
      obtain ⟨b, off, cur, ty, rfl, hS, hh, hsz⟩ := hc i hlt
      have h1 := heap_setCell_same wr b (off + i * 3) cur ty (.int .i64 z) hh
      have h2 := heap_setCell_same _ b (off + i * 3 + 1) _ ty (.int .i64 (z + 1)) h1
      obtain ⟨w1, hw1⟩ : ∃ w1, wr.setCell ⟨b, off + i * 3, none⟩ (.int .i64 z) = w1 := ⟨_, rfl⟩
      rw [hw1] at h1 h2
      obtain ⟨w2, hw2⟩ : ∃ w2, w1.setCell ⟨b, off + i * 3 + 1, none⟩ (.int .i64 (z + 1)) = w2 := ⟨_, rfl⟩
      rw [hw2] at h2
      obtain ⟨u0, c0⟩ := cell_in hh (o := off + i * 3) (by omega)
      obtain ⟨u1, c1⟩ := cell_in h1 (o := off + i * 3 + 1) (by simp; omega)
      obtain ⟨u2, c2⟩ := cell_in h2 (o := off + i * 3 + 2) (by simp; omega)
      have f0 := frozen_row hh (off + i * 3)
      have f1 := frozen_row h1 (off + i * 3 + 1)
      have f2 := frozen_row h2 (off + i * 3 + 2)
      have hz1 : 0 ≤ z := by omega
      have hz2 : z ≤ 1125899913134080 := by omega
      have HR := Lib.hid (fun (bv : Bool) => (⟨i + 1, z + 1 + 1 + 1, by go_num, rfl, by omega, by omega, by rw [← hw2, ← hw1]; exact ((ho.set hS _ _).set hS _ _).set hS _ _, by rw [← hw2, ← hw1]; exact ((hc.set _ _).set _ _).set _ _⟩ : MkARel S w (some ⟨b, off, none⟩) n k (.int .i64 (z + 1 + 1 + 1)) (.int .i64 ((i : Int) + 1)) (w2.setCell ⟨b, off + i * 3 + 2, none⟩ (.bool bv))))
      clear hh h1 h2 hz hc ho
      go_wp2
      go_roundw
      case rel => exact HR.out _
      case measure => (simp [intOf] <;> omega)
    · obtain rfl : i = n := by omega
      have hd : decide ((i : Int) < (i : Int)) = false := by simp
      have HO := Lib.hid ho
      clear ho hc
      go_wp2
      go_ret
      exact ⟨by rw [hz]; rfl, HO.out⟩

theorem owns_set3 {w : World} {base : Nat} {e : TypeId} {g cap n : Nat} {cells : List Value} (h : w.ownsRow base e 3 (.slice (some ⟨g, 0, none⟩) n cap) n cells) (i : Nat) (u : Value) :
    (w.setCell ⟨g, i, none⟩ u).ownsRow base e 3 (.slice (some ⟨g, 0, none⟩) n cap) n (cells.set i u) := by
  refine ⟨by rw [List.length_set]; exact h.1, ?_⟩
  rcases h.2 with ⟨h', _⟩ | ⟨g', cap', cur, hv, hg, hh, h1, h2, h3, h4⟩
  · cases h'
  · simp only [Value.slice.injEq, Option.some.injEq, Addr.mk.injEq, true_and, and_true] at hv
    obtain ⟨rfl, rfl⟩ := hv
    refine .inr ⟨g, cap, cur.setIfInBounds i u, rfl, hg, heap_setCell_same w g i _ _ u hh, h1, h2, by rw [Array.size_setIfInBounds]; exact h3, ?_⟩
    rw [Array.toList_setIfInBounds, ← h4, List.take_set]
theorem arcCells_set : ∀ (l : List Ar) (i : Nat) (x : Ar), i < l.length → (((arcCells l).set (i * 3) (.int .i64 x.a)).set (i * 3 + 1) (.int .i64 x.b)).set (i * 3 + 2) (.bool x.s) = arcCells (l.set i x)
  | [], _, _, h => by simp at h
  | y :: r, 0, x, _ => by simp [arcCells]
  | y :: r, i + 1, x, h => by
    have ih := arcCells_set r i x (by simpa using h)
    rw [show (i + 1) * 3 = i * 3 + 3 by omega]
    simp only [arcCells, List.flatMap_cons, List.set_cons_succ, List.cons_append, List.nil_append] at ih ⊢
    rw [← ih]
theorem arcCells_get (l : List Ar) (i : Nat) (h : i < l.length) (j : Nat) (hj : j < 3) : (arcCells l)[i * 3 + j]? = ([.int .i64 l[i].a, .int .i64 l[i].b, .bool l[i].s] : List Value)[j]? := by
  induction l generalizing i with
  | nil => simp at h
  | cons x r ih =>
    cases i with
    | zero =>
      have : j = 0 ∨ j = 1 ∨ j = 2 := by omega
      rcases this with rfl | rfl | rfl <;> rfl
    | succ n =>
      have := ih n (by simpa using h)
      rw [show (n + 1) * 3 + j = (n * 3 + j) + 3 by omega]
      simpa [arcCells] using this
/-- What is written into the place i of an answer. -/
def markA (i : Nat) : Ar := ⟨1 + 3 * (i : Int), 1 + 3 * (i : Int) + 1, true⟩
def marksA (n : Nat) : List Ar := (List.range n).map markA
theorem marksA_len (n : Nat) : (marksA n).length = n := by simp [marksA]
theorem marks_set (xs : List Ar) (i : Nat) (h : i < xs.length) : (marksA i ++ xs.drop i).set i (markA i) = marksA (i + 1) ++ xs.drop (i + 1) := by
  have e : marksA (i + 1) = marksA i ++ [markA i] := by simp [marksA, List.range_succ]
  rw [List.set_append_right _ _ (by rw [marksA_len]; exact Nat.le_refl _), marksA_len, Nat.sub_self, e, List.append_assoc]
  congr 1
  rw [List.drop_eq_getElem_cons h]
  rfl

def MkORel (w : World) (B g cap : Nat) (xs : List Ar) (v1 v5 : Value) (wr : World) : Prop := ∃ (i : Nat), v5 = .int .i64 (i : Int) ∧ v1 = .int .i64 (1 + 3 * (i : Int)) ∧ i ≤ xs.length ∧ Off (fun b => b = g) w wr ∧ wr.ownsRow B 59 3 (.slice (some ⟨g, 0, none⟩) xs.length cap) xs.length (arcCells (marksA i ++ xs.drop i))

set_option maxRecDepth 100000 in
set_option maxHeartbeats 2000000 in
theorem markArcS_own (xs : List Ar) (B g cap : Nat) (w : World) (h : w.ownsRow B 59 3 (.slice (some ⟨g, 0, none⟩) xs.length cap) xs.length (arcCells xs)) (hn : xs.length ≤ 2097152) :
    Calls Try.prog 20 #[.slice (some ⟨g, 0, none⟩) xs.length cap, .int .i64 1] w fun e w' => e = .returned (.int .i64 (1 + 3 * (xs.length : Int))) ∧ Off (fun b => b = g) w w' ∧ w'.ownsRow B 59 3 (.slice (some ⟨g, 0, none⟩) xs.length cap) (marksA xs.length).length (arcCells (marksA xs.length)) := by
  have HO := Lib.hid h
  clear h
  go_enter Try.func20, Try.ntmps20
  go_wp2
  go_loopw [1, 5] (fun v1 v5 wr => MkORel w B g cap xs v1 v5 wr) (fun _ v5 _ => (xs.length - (intOf v5).toNat))
  case atStart => exact ⟨0, rfl, rfl, Nat.zero_le _, Off.refl _ _, HO.out⟩
  case round =>
    obtain ⟨i, rfl, rfl, hi, ho, hw⟩ := hrel
    by_cases hlt : i < xs.length
    · have hd : decide ((i : Int) < (xs.length : Int)) = true := decide_eq_true (by omega)
      have hll : (marksA i ++ xs.drop i).length = xs.length := by rw [List.length_append, marksA_len, List.length_drop]; omega
      have e1 := owns_set3 hw (i * 3) (.int .i64 (1 + 3 * (i : Int)))
      have e2 := owns_set3 e1 (i * 3 + 1) (.int .i64 (1 + 3 * (i : Int) + 1))
      have e3 := owns_set3 e2 (i * 3 + 2) (.bool true)
      replace e3 := (show World.ownsRow _ B 59 3 (.slice (some ⟨g, 0, none⟩) xs.length cap) xs.length ((((arcCells (marksA i ++ xs.drop i)).set (i * 3) (.int .i64 (markA i).a)).set (i * 3 + 1) (.int .i64 (markA i).b)).set (i * 3 + 2) (.bool (markA i).s)) from e3)
      rw [arcCells_set _ i (markA i) (by omega), marks_set xs i hlt] at e3
      obtain ⟨w1, hw1⟩ : ∃ w1, wr.setCell ⟨g, i * 3, none⟩ (.int .i64 (1 + 3 * (i : Int))) = w1 := ⟨_, rfl⟩
      rw [hw1] at e1 e2 e3
      obtain ⟨w2, hw2⟩ : ∃ w2, w1.setCell ⟨g, i * 3 + 1, none⟩ (.int .i64 (1 + 3 * (i : Int) + 1)) = w2 := ⟨_, rfl⟩
      rw [hw2] at e2 e3
      have lc : (arcCells (marksA i ++ xs.drop i)).length = xs.length * 3 := by rw [arcCells_len, hll]
      obtain ⟨u0, c0⟩ : ∃ u, wr.cell? ⟨g, i * 3, none⟩ = some u := ⟨_, (hw.cellAt (i * 3) (by omega)).trans (List.getElem?_eq_getElem (by omega))⟩
      obtain ⟨u1, c1⟩ : ∃ u, w1.cell? ⟨g, i * 3 + 1, none⟩ = some u := ⟨_, (e1.cellAt (i * 3 + 1) (by omega)).trans (List.getElem?_eq_getElem (by rw [List.length_set]; omega))⟩
      obtain ⟨u2, c2⟩ : ∃ u, w2.cell? ⟨g, i * 3 + 2, none⟩ = some u := ⟨_, (e2.cellAt (i * 3 + 2) (by omega)).trans (List.getElem?_eq_getElem (by rw [List.length_set, List.length_set]; omega))⟩
      have f0 := row_frozen hw (i * 3)
      have f1 := row_frozen e1 (i * 3 + 1)
      have f2 := row_frozen e2 (i * 3 + 2)
      have hm : ((1 + 3 * (i : Int) + 1 + 1) % 3 == 0) = true := by simp; omega
      have HR := Lib.hid (show MkORel w B g cap xs (.int .i64 (1 + 3 * (i : Int) + 1 + 1 + 1)) (.int .i64 ((i : Int) + 1)) (w2.setCell ⟨g, i * 3 + 2, none⟩ (.bool true)) from ⟨i + 1, by go_num, by go_num, by omega, by rw [← hw2, ← hw1]; exact ((ho.set rfl _ _).set rfl _ _).set rfl _ _, e3⟩)
      clear e1 e2 e3 hw ho lc hll
      go_wp2
      go_roundw
      case rel => exact HR.out
      case measure => (simp [intOf] <;> omega)
    · obtain rfl : i = xs.length := by omega
      have hd : decide ((xs.length : Int) < (xs.length : Int)) = false := by simp
      rw [List.drop_length, List.append_nil] at hw
      have HP := Lib.hid (show Off (fun b => b = g) w wr ∧ wr.ownsRow B 59 3 (.slice (some ⟨g, 0, none⟩) xs.length cap) (marksA xs.length).length (arcCells (marksA xs.length)) from ⟨ho, by rw [marksA_len]; exact hw⟩)
      clear ho hw
      go_wp2
      go_ret
      exact ⟨rfl, HP.out⟩

def HdARel (w : World) (n : Nat) (v1 v5 : Value) (wr : World) : Prop := ∃ i : Nat, v5 = .int .i64 (i : Int) ∧ v1 = .int .i64 (1 + 3 * (i : Int)) ∧ i ≤ n ∧ wr = w

set_option maxRecDepth 100000 in
set_option maxHeartbeats 2000000 in
theorem heldArcS_own (n : Nat) (B : Nat) (v : Value) (w : World) (h : w.ownsRow B 59 3 v n (arcCells (marksA n))) (hn : n ≤ 2097152) :
    Calls Try.prog 21 #[v, .int .i64 1] w fun e w' => e = .returned (.int .i64 (1 + 3 * (n : Int))) ∧ w' = w := by
  obtain ⟨av, cv, rfl⟩ := owns_shape h
  have HO := Lib.hid h
  clear h
  go_enter Try.func21, Try.ntmps21
  go_wp2
  go_loopw [1, 5] (fun v1 v5 wr => HdARel w n v1 v5 wr) (fun _ v5 _ => (n - (intOf v5).toNat))
  case atStart => exact ⟨0, rfl, rfl, Nat.zero_le _, rfl⟩
  case round =>
    obtain ⟨i, rfl, rfl, hi, rfl⟩ := hrel
    by_cases hlt : i < n
    · have hd : decide ((i : Int) < (n : Int)) = true := decide_eq_true (by omega)
      obtain ⟨g, cap, hgv, hbg, hgl⟩ := HO.out.form (by omega)
      simp only [Value.slice.injEq, true_and] at hgv
      obtain ⟨rfl, rfl⟩ := hgv
      have hml : i < (marksA n).length := by rw [marksA_len]; exact hlt
      have hmi : (marksA n)[i] = markA i := by simp [marksA]
      have c0 := (HO.out.cellAt (i * 3 + 0) (by omega)).trans (arcCells_get _ i hml 0 (by omega))
      have c1 := (HO.out.cellAt (i * 3 + 1) (by omega)).trans (arcCells_get _ i hml 1 (by omega))
      have c2 := (HO.out.cellAt (i * 3 + 2) (by omega)).trans (arcCells_get _ i hml 2 (by omega))
      rw [hmi] at c0 c1 c2
      simp only [List.getElem?_cons_zero, List.getElem?_cons_succ, markA, Nat.add_zero] at c0 c1 c2
      have n0 : (1 + 3 * (i : Int) != 1 + 3 * (i : Int)) = false := by simp
      have n1 : (1 + 3 * (i : Int) + 1 != 1 + 3 * (i : Int) + 1) = false := by simp
      have hm : ((1 + 3 * (i : Int) + 1 + 1) % 3 == 0) = true := by simp; omega
      have HR := Lib.hid (show HdARel wr n (.int .i64 (1 + 3 * (i : Int) + 1 + 1 + 1)) (.int .i64 ((i : Int) + 1)) wr from ⟨i + 1, by go_num, by go_num, by omega, rfl⟩)
      clear hml hmi
      go_wp2
      go_roundw
      case rel => exact HR.out
      case measure => (simp [intOf] <;> omega)
    · obtain rfl : i = n := by omega
      have hd : decide ((i : Int) < (i : Int)) = false := by simp
      go_wp2
      go_ret
      exact ⟨rfl, rfl⟩

end Go.Proofs.Ytgjmefcognoepaa.Pr
