/-
  ARGUMENTS OPENED: arcs, graphs.
-/
import Derived.Test.YtgjmefcognoepaaPG1
import Derived.ChangeOld
import Derived.Carry
import Derived.ChangeSlices
import Derived.SliceStrings
namespace Go.Proofs.Ytgjmefcognoepaa.Pr
open Go Go.RowKit Go.Maps Go.WideMaps

/-- What is read at a type, of these cells. -/
abbrev Rdg {H : Type} (enc : TypeId × Value → H) (W : World) (fuel : Nat) (t : TypeId) (cs : List Value) (y : DataW H × List MemPlace) : Prop := DataW.trod enc Try.prog W 0 (fun _ => true) true fuel t cs = some y
theorem max_len : maxLen = 9223372036854775807 := by unfold maxLen; rfl
theorem add_off (b off j : Nat) : (⟨b, off, none⟩ : Addr).add j = ⟨b, off + j, none⟩ := by
  unfold Addr.add
  by_cases h : j = 0 <;> simp [h]

theorem open_rows {H : Type} {enc : TypeId × Value → H} {W : World} {α : Type} (F : Flat α) (c : Nat) (t e : TypeId) (ht : Try.prog.underlying t = some (.slice e)) (hc : Try.prog.cellsOf e = c) (hpos : 0 < c) (Pf : α → Prop)
    (hE : ∀ (fuel : Nat) (cs : List Value) (y : DataW H × List MemPlace), Rdg enc W fuel e cs y → ∃ x : α, F (fun b => b < W.heap.size) W cs x ∧ Pf x) {fuel : Nat} {cs : List Value} {y : DataW H × List MemPlace} (h : Rdg enc W fuel t cs y) :
    ∃ (a : Option Addr) (cap : Nat) (l : List α), cs = [.slice a l.length cap] ∧ RowIn F c (fun b => b < W.heap.size) W a l ∧ l.length ≤ 9223372036854775807 ∧ ∀ x ∈ l, Pf x := by
  rcases DataW.trod_slice ht h with ⟨rfl, _⟩ | ⟨a, len, cap, elems, rest, n, _, rfl, _, _, hl, hm, hlen, hel, _, _⟩
  · exact ⟨none, 0, [], rfl, fun i hi => by simp at hi, by simp, fun x hx => by simp at hx⟩
  · rw [hc] at hel
    have step : ∀ k, k ≤ len → ∃ l : List α, l.length = k ∧ ∀ i (hi : i < l.length), ∃ cs', W.cells? 0 (a.add (i * c)) c = some cs' ∧ F (fun b => b < W.heap.size) W cs' l[i] ∧ Pf l[i] := by
      intro k
      induction k with
      | zero => intro _; exact ⟨[], rfl, fun i hi => by simp at hi⟩
      | succ k ih =>
        intro hk
        obtain ⟨l, hll, hall⟩ := ih (by omega)
        have hb := hel k (by omega)
        rw [List.getElem?_eq_getElem (by omega)] at hb
        obtain ⟨cs', hcs', htr⟩ := Option.bind_eq_some_iff.1 hb
        obtain ⟨x, hx, hp⟩ := hE n cs' _ htr
        refine ⟨l ++ [x], by rw [List.length_append, hll]; rfl, fun i hi => ?_⟩
        by_cases hlt : i < l.length
        · rw [List.getElem_append_left hlt]
          exact hall i hlt
        · rw [List.length_append, List.length_singleton] at hi
          obtain rfl : i = k := by omega
          rw [List.getElem_append_right (by omega)]
          simp only [hll, Nat.sub_self, List.getElem_cons_zero]
          exact ⟨cs', hcs', hx, hp⟩
    obtain ⟨l, hll, hall⟩ := step len (Nat.le_refl _)
    subst hll
    refine ⟨some a, cap, l, rfl, fun i hi => ?_, by have := max_len; omega, fun x hx => ?_⟩
    · obtain ⟨cs', hcs', hx, _⟩ := hall i hi
      obtain ⟨_, hcl, hat⟩ := World.cells?_some hcs'
      obtain ⟨b, off, spot⟩ := a
      have h0 := hat 0 hpos
      rw [List.getElem?_eq_getElem (by omega)] at h0
      have hspot : spot = none := by
        obtain ⟨cs0, hcs0, _⟩ := hall 0 (by omega)
        obtain ⟨_, hcl0, hat0⟩ := World.cells?_some hcs0
        have h00 := hat0 0 hpos
        rw [List.getElem?_eq_getElem (by omega)] at h00
        have := World.cell?_spot h00
        simpa [Addr.add] using this
      subst hspot
      rw [add_off] at h0 hat
      rw [add_off] at h0
      refine ⟨b, off, cs', rfl, cell_lt h0, hcl, fun j hj => ?_, hx⟩
      have := hat j (by omega)
      rw [add_off, List.getElem?_eq_getElem hj] at this
      exact this
    · obtain ⟨i, hi, rfl⟩ := List.getElem_of_mem hx
      obtain ⟨_, _, _, hp⟩ := hall i hi
      exact hp

set_option maxRecDepth 100000 in
theorem open_Arc {H : Type} {enc : TypeId × Value → H} {W : World} (fuel : Nat) (cs : List Value) (y : DataW H × List MemPlace) (h : Rdg enc W fuel 72 cs y) : ∃ x : Ar, FAr (fun b => b < W.heap.size) W cs x ∧ True := by
  obtain ⟨xs, n, _, _, hlen, hxl, hf⟩ := DataW.trod_struct Try.underlying72 h
  have hC : Try.prog.cellsOf 72 = 3 := by kernel_rfl
  match cs, hlen.trans hC with
  | [c0, c1, c2], _ =>
    have k0 : Try.prog.cellsOf 3 = 1 := by kernel_rfl
    have g0 : ∃ y, Rdg enc W n 3 [c0] y := by
      have hj : 0 < xs.length := by rw [hxl]; decide
      have := hf 0 _ rfl
      rw [List.getElem?_eq_getElem hj] at this
      have h2 : DataW.trod enc Try.prog W 0 (fun _ => true) true n 3 ((List.drop 0 [c0, c1, c2]).take (Try.prog.cellsOf 3)) = some _ := this
      rw [k0] at h2
      exact ⟨_, h2⟩
    obtain ⟨y0, g0⟩ := g0
    have k1 : Try.prog.cellsOf 3 = 1 := by kernel_rfl
    have g1 : ∃ y, Rdg enc W n 3 [c1] y := by
      have hj : 1 < xs.length := by rw [hxl]; decide
      have := hf 1 _ rfl
      rw [List.getElem?_eq_getElem hj] at this
      have h2 : DataW.trod enc Try.prog W 0 (fun _ => true) true n 3 ((List.drop 1 [c0, c1, c2]).take (Try.prog.cellsOf 3)) = some _ := this
      rw [k1] at h2
      exact ⟨_, h2⟩
    obtain ⟨y1, g1⟩ := g1
    have k2 : Try.prog.cellsOf 4 = 1 := by kernel_rfl
    have g2 : ∃ y, Rdg enc W n 4 [c2] y := by
      have hj : 2 < xs.length := by rw [hxl]; decide
      have := hf 2 _ rfl
      rw [List.getElem?_eq_getElem hj] at this
      have h2 : DataW.trod enc Try.prog W 0 (fun _ => true) true n 4 ((List.drop 2 [c0, c1, c2]).take (Try.prog.cellsOf 4)) = some _ := this
      rw [k2] at h2
      exact ⟨_, h2⟩
    obtain ⟨y2, g2⟩ := g2
    obtain ⟨z0, e0, _⟩ := DataW.trod_int Try.underlying3 g0
    simp only [List.cons.injEq, and_true] at e0
    subst e0
    obtain ⟨z1, e1, _⟩ := DataW.trod_int Try.underlying3 g1
    simp only [List.cons.injEq, and_true] at e1
    subst e1
    obtain ⟨z2, e2, _⟩ := DataW.trod_bool Try.underlying4 g2
    simp only [List.cons.injEq, and_true] at e2
    subst e2
    exact ⟨⟨z0, z1, z2⟩, rfl, trivial⟩
theorem open_ArcS {H : Type} {enc : TypeId × Value → H} {W : World} {fuel : Nat} {cs : List Value} {y : DataW H × List MemPlace} (h : Rdg enc W fuel 32 cs y) :
    ∃ (a : Option Addr) (cap : Nat) (l : List Ar), cs = [.slice a l.length cap] ∧ RowIn FAr 3 (fun b => b < W.heap.size) W a l ∧ l.length ≤ 9223372036854775807 ∧ ∀ x ∈ l, True :=
  open_rows FAr 3 32 72 Try.underlying32 (by kernel_rfl) (by omega) (fun _ => True) open_Arc h
set_option maxRecDepth 100000 in
theorem open_Graph {H : Type} {enc : TypeId × Value → H} {W : World} (fuel : Nat) (cs : List Value) (y : DataW H × List MemPlace) (h : Rdg enc W fuel 34 cs y) : ∃ x : Gr, FGr (fun b => b < W.heap.size) W cs x ∧ x.fits := by
  obtain ⟨xs, n, _, _, hlen, hxl, hf⟩ := DataW.trod_struct Try.underlying34 h
  have hC : Try.prog.cellsOf 34 = 3 := by kernel_rfl
  match cs, hlen.trans hC with
  | [c0, c1, c2], _ =>
    have k0 : Try.prog.cellsOf 3 = 1 := by kernel_rfl
    have g0 : ∃ y, Rdg enc W n 3 [c0] y := by
      have hj : 0 < xs.length := by rw [hxl]; decide
      have := hf 0 _ rfl
      rw [List.getElem?_eq_getElem hj] at this
      have h2 : DataW.trod enc Try.prog W 0 (fun _ => true) true n 3 ((List.drop 0 [c0, c1, c2]).take (Try.prog.cellsOf 3)) = some _ := this
      rw [k0] at h2
      exact ⟨_, h2⟩
    obtain ⟨y0, g0⟩ := g0
    have k1 : Try.prog.cellsOf 3 = 1 := by kernel_rfl
    have g1 : ∃ y, Rdg enc W n 3 [c1] y := by
      have hj : 1 < xs.length := by rw [hxl]; decide
      have := hf 1 _ rfl
      rw [List.getElem?_eq_getElem hj] at this
      have h2 : DataW.trod enc Try.prog W 0 (fun _ => true) true n 3 ((List.drop 1 [c0, c1, c2]).take (Try.prog.cellsOf 3)) = some _ := this
      rw [k1] at h2
      exact ⟨_, h2⟩
    obtain ⟨y1, g1⟩ := g1
    have k2 : Try.prog.cellsOf 32 = 1 := by kernel_rfl
    have g2 : ∃ y, Rdg enc W n 32 [c2] y := by
      have hj : 2 < xs.length := by rw [hxl]; decide
      have := hf 2 _ rfl
      rw [List.getElem?_eq_getElem hj] at this
      have h2 : DataW.trod enc Try.prog W 0 (fun _ => true) true n 32 ((List.drop 2 [c0, c1, c2]).take (Try.prog.cellsOf 32)) = some _ := this
      rw [k2] at h2
      exact ⟨_, h2⟩
    obtain ⟨y2, g2⟩ := g2
    obtain ⟨z0, e0, _⟩ := DataW.trod_int Try.underlying3 g0
    simp only [List.cons.injEq, and_true] at e0
    subst e0
    obtain ⟨z1, e1, _⟩ := DataW.trod_int Try.underlying3 g1
    simp only [List.cons.injEq, and_true] at e1
    subst e1
    obtain ⟨a2, d2, z2, e2, r2, s2, _⟩ := open_ArcS g2
    simp only [List.cons.injEq, and_true] at e2
    subst e2
    exact ⟨⟨z0, z1, z2⟩, ⟨a2, d2, rfl, r2⟩, s2⟩

end Go.Proofs.Ytgjmefcognoepaa.Pr
