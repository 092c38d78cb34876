/-
  ARGUMENTS OPENED: numbers, texts, exps, literals, rules.
-/
import Derived.Test.YtilijbpbnlnhlaaGreatPTr
import Derived.ChangeOld
import Derived.Carry
import Derived.ChangeSlices
import Derived.SliceStrings
namespace Go.Proofs.YtilijbpbnlnhlaaGreat.Pr
open Go Go.RowKit Go.Maps Go.WideMaps

/-- What is read at a type, of these cells. -/
abbrev Rdg {H : Type} (enc : TypeId × Value → H) (W : World) (fuel : Nat) (t : TypeId) (cs : List Value) (y : DataW H × List MemPlace) : Prop := DataW.trod enc Tryz.prog W 0 (fun _ => true) true fuel t cs = some y
theorem max_len : maxLen = 9223372036854775807 := by unfold maxLen; rfl
theorem add_off (b off j : Nat) : (⟨b, off, none⟩ : Addr).add j = ⟨b, off + j, none⟩ := by
  unfold Addr.add
  by_cases h : j = 0 <;> simp [h]

theorem open_rows {H : Type} {enc : TypeId × Value → H} {W : World} {α : Type} (F : Flat α) (c : Nat) (t e : TypeId) (ht : Tryz.prog.underlying t = some (.slice e)) (hc : Tryz.prog.cellsOf e = c) (hpos : 0 < c) (Pf : α → Prop)
    (hE : ∀ (fuel : Nat) (cs : List Value) (y : DataW H × List MemPlace), Rdg enc W fuel e cs y → ∃ x : α, F (fun b => b < W.heap.size) W cs x ∧ Pf x) {fuel : Nat} {cs : List Value} {y : DataW H × List MemPlace} (h : Rdg enc W fuel t cs y) :
    ∃ (a : Option Addr) (cap : Nat) (l : List α), cs = [.slice a l.length cap] ∧ RowIn F c (fun b => b < W.heap.size) W a l ∧ l.length ≤ 9223372036854775807 ∧ ∀ x ∈ l, Pf x := by
  rcases DataW.trod_slice ht h with ⟨rfl, _⟩ | ⟨a, len, cap, elems, rest, n, _, rfl, _, _, hl, hm, hlen, hel, _, _⟩
  · exact ⟨none, 0, [], rfl, fun i hi => by simp at hi, by simp, fun x hx => by simp at hx⟩
  · rw [hc] at hel
    have step : ∀ k, k ≤ len → ∃ l : List α, l.length = k ∧ ∀ i (hi : i < l.length), ∃ cs', W.cells? 0 (a.add (i * c)) c = some cs' ∧ F (fun b => b < W.heap.size) W cs' l[i] ∧ Pf l[i] := by
      intro k
      induction k with
      | zero => intro _; exact ⟨[], rfl, fun i hi => by simp at hi⟩
      | succ k ih =>
        intro hk
        obtain ⟨l, hll, hall⟩ := ih (by omega)
        have hb := hel k (by omega)
        rw [List.getElem?_eq_getElem (by omega)] at hb
        obtain ⟨cs', hcs', htr⟩ := Option.bind_eq_some_iff.1 hb
        obtain ⟨x, hx, hp⟩ := hE n cs' _ htr
        refine ⟨l ++ [x], by rw [List.length_append, hll]; rfl, fun i hi => ?_⟩
        by_cases hlt : i < l.length
        · rw [List.getElem_append_left hlt]
          exact hall i hlt
        · rw [List.length_append, List.length_singleton] at hi
          obtain rfl : i = k := by omega
          rw [List.getElem_append_right (by omega)]
          simp only [hll, Nat.sub_self, List.getElem_cons_zero]
          exact ⟨cs', hcs', hx, hp⟩
    obtain ⟨l, hll, hall⟩ := step len (Nat.le_refl _)
    subst hll
    refine ⟨some a, cap, l, rfl, fun i hi => ?_, by have := max_len; omega, fun x hx => ?_⟩
    · obtain ⟨cs', hcs', hx, _⟩ := hall i hi
      obtain ⟨_, hcl, hat⟩ := World.cells?_some hcs'
      obtain ⟨b, off, spot⟩ := a
      have h0 := hat 0 hpos
      rw [List.getElem?_eq_getElem (by omega)] at h0
      have hspot : spot = none := by
        obtain ⟨cs0, hcs0, _⟩ := hall 0 (by omega)
        obtain ⟨_, hcl0, hat0⟩ := World.cells?_some hcs0
        have h00 := hat0 0 hpos
        rw [List.getElem?_eq_getElem (by omega)] at h00
        have := World.cell?_spot h00
        simpa [Addr.add] using this
      subst hspot
      rw [add_off] at h0 hat
      rw [add_off] at h0
      refine ⟨b, off, cs', rfl, cell_lt h0, hcl, fun j hj => ?_, hx⟩
      have := hat j (by omega)
      rw [add_off, List.getElem?_eq_getElem hj] at this
      exact this
    · obtain ⟨i, hi, rfl⟩ := List.getElem_of_mem hx
      obtain ⟨_, _, _, hp⟩ := hall i hi
      exact hp

def FNum : Flat Int := fun _ _ vs x => vs = [.int .i64 x]
def FTxt : Flat ByteArray := fun _ _ vs x => vs = [.string x]
theorem ints_in {S : Nat → Prop} {w : World} {a : Option Addr} {l : List Int} (h : RowIn FNum 1 S w a l) : IntsIn S w a l := by
  intro i hi
  obtain ⟨b, off, vs, rfl, h1, _, h3, h4⟩ := h i hi
  unfold FNum at h4
  subst h4
  refine ⟨b, off, rfl, h1, ?_⟩
  have := h3 0 (by simp)
  rw [show off + i * 1 + 0 = off + i from by omega] at this
  exact this
theorem txts_in {S : Nat → Prop} {w : World} {a : Option Addr} {l : List ByteArray} (h : RowIn FTxt 1 S w a l) : TxtsIn S w a l := by
  intro i hi
  obtain ⟨b, off, vs, rfl, h1, _, h3, h4⟩ := h i hi
  unfold FTxt at h4
  subst h4
  refine ⟨b, off, rfl, h1, ?_⟩
  have := h3 0 (by simp)
  rw [show off + i * 1 + 0 = off + i from by omega] at this
  exact this
theorem open_IntS {H : Type} {enc : TypeId × Value → H} {W : World} {fuel : Nat} {cs : List Value} {y : DataW H × List MemPlace} (h : Rdg enc W fuel 23 cs y) :
    ∃ (a : Option Addr) (cap : Nat) (l : List Int), cs = [.slice a l.length cap] ∧ IntsIn (fun b => b < W.heap.size) W a l ∧ l.length ≤ 9223372036854775807 := by
  obtain ⟨a, cap, l, h1, h2, h3, _⟩ := open_rows FNum 1 23 3 Tryz.underlying23 (by kernel_rfl) (by omega) (fun _ => True) (fun fuel cs y h => by
    obtain ⟨n, rfl, _⟩ := DataW.trod_int Tryz.underlying3 h
    exact ⟨n, rfl, trivial⟩) h
  exact ⟨a, cap, l, h1, ints_in h2, h3⟩
theorem open_StringS {H : Type} {enc : TypeId × Value → H} {W : World} {fuel : Nat} {cs : List Value} {y : DataW H × List MemPlace} (h : Rdg enc W fuel 30 cs y) :
    ∃ (a : Option Addr) (cap : Nat) (l : List ByteArray), cs = [.slice a l.length cap] ∧ TxtsIn (fun b => b < W.heap.size) W a l ∧ l.length ≤ 9223372036854775807 ∧ ∀ x ∈ l, x.size ≤ 9223372036854775807 := by
  obtain ⟨a, cap, l, h1, h2, h3, h4⟩ := open_rows FTxt 1 30 9 Tryz.underlying30 (by kernel_rfl) (by omega) (fun x => x.size ≤ 9223372036854775807) (fun fuel cs y h => by
    obtain ⟨s, rfl, _, hs⟩ := DataW.trod_string Tryz.underlying9 h
    exact ⟨s, rfl, by rw [max_len] at hs; exact hs⟩) h
  exact ⟨a, cap, l, h1, txts_in h2, h3, h4⟩
set_option maxRecDepth 100000 in
theorem open_Exp {H : Type} {enc : TypeId × Value → H} {W : World} (fuel : Nat) (cs : List Value) (y : DataW H × List MemPlace) (h : Rdg enc W fuel 68 cs y) : ∃ x : It, FIt (fun b => b < W.heap.size) W cs x ∧ x.fits := by
  obtain ⟨xs, n, _, _, hlen, hxl, hf⟩ := DataW.trod_struct Tryz.underlying68 h
  have hC : Tryz.prog.cellsOf 68 = 3 := by kernel_rfl
  match cs, hlen.trans hC with
  | [c0, c1, c2], _ =>
    have k0 : Tryz.prog.cellsOf 3 = 1 := by kernel_rfl
    have g0 : ∃ y, Rdg enc W n 3 [c0] y := by
      have hj : 0 < xs.length := by rw [hxl]; decide
      have := hf 0 _ rfl
      rw [List.getElem?_eq_getElem hj] at this
      have h2 : DataW.trod enc Tryz.prog W 0 (fun _ => true) true n 3 ((List.drop 0 [c0, c1, c2]).take (Tryz.prog.cellsOf 3)) = some _ := this
      rw [k0] at h2
      exact ⟨_, h2⟩
    obtain ⟨y0, g0⟩ := g0
    have k1 : Tryz.prog.cellsOf 9 = 1 := by kernel_rfl
    have g1 : ∃ y, Rdg enc W n 9 [c1] y := by
      have hj : 1 < xs.length := by rw [hxl]; decide
      have := hf 1 _ rfl
      rw [List.getElem?_eq_getElem hj] at this
      have h2 : DataW.trod enc Tryz.prog W 0 (fun _ => true) true n 9 ((List.drop 1 [c0, c1, c2]).take (Tryz.prog.cellsOf 9)) = some _ := this
      rw [k1] at h2
      exact ⟨_, h2⟩
    obtain ⟨y1, g1⟩ := g1
    have k2 : Tryz.prog.cellsOf 23 = 1 := by kernel_rfl
    have g2 : ∃ y, Rdg enc W n 23 [c2] y := by
      have hj : 2 < xs.length := by rw [hxl]; decide
      have := hf 2 _ rfl
      rw [List.getElem?_eq_getElem hj] at this
      have h2 : DataW.trod enc Tryz.prog W 0 (fun _ => true) true n 23 ((List.drop 2 [c0, c1, c2]).take (Tryz.prog.cellsOf 23)) = some _ := this
      rw [k2] at h2
      exact ⟨_, h2⟩
    obtain ⟨y2, g2⟩ := g2
    obtain ⟨z0, e0, _⟩ := DataW.trod_int Tryz.underlying3 g0
    simp only [List.cons.injEq, and_true] at e0
    subst e0
    obtain ⟨z1, e1, _, s1⟩ := DataW.trod_string Tryz.underlying9 g1
    simp only [List.cons.injEq, and_true] at e1
    subst e1
    obtain ⟨a2, d2, z2, e2, r2, s2⟩ := open_IntS g2
    simp only [List.cons.injEq, and_true] at e2
    subst e2
    exact ⟨⟨z0, z1, z2⟩, ⟨a2, d2, rfl, r2⟩, ⟨by rw [max_len] at s1; exact s1, s2⟩⟩
theorem open_ExpS {H : Type} {enc : TypeId × Value → H} {W : World} {fuel : Nat} {cs : List Value} {y : DataW H × List MemPlace} (h : Rdg enc W fuel 22 cs y) :
    ∃ (a : Option Addr) (cap : Nat) (l : List It), cs = [.slice a l.length cap] ∧ RowIn FIt 3 (fun b => b < W.heap.size) W a l ∧ l.length ≤ 9223372036854775807 ∧ ∀ x ∈ l, x.fits :=
  open_rows FIt 3 22 68 Tryz.underlying22 (by kernel_rfl) (by omega) It.fits open_Exp h
set_option maxRecDepth 100000 in
theorem open_Lit {H : Type} {enc : TypeId × Value → H} {W : World} (fuel : Nat) (cs : List Value) (y : DataW H × List MemPlace) (h : Rdg enc W fuel 25 cs y) : ∃ x : It, FIt (fun b => b < W.heap.size) W cs x ∧ x.fits := by
  obtain ⟨xs, n, _, _, hlen, hxl, hf⟩ := DataW.trod_struct Tryz.underlying25 h
  have hC : Tryz.prog.cellsOf 25 = 3 := by kernel_rfl
  match cs, hlen.trans hC with
  | [c0, c1, c2], _ =>
    have k0 : Tryz.prog.cellsOf 3 = 1 := by kernel_rfl
    have g0 : ∃ y, Rdg enc W n 3 [c0] y := by
      have hj : 0 < xs.length := by rw [hxl]; decide
      have := hf 0 _ rfl
      rw [List.getElem?_eq_getElem hj] at this
      have h2 : DataW.trod enc Tryz.prog W 0 (fun _ => true) true n 3 ((List.drop 0 [c0, c1, c2]).take (Tryz.prog.cellsOf 3)) = some _ := this
      rw [k0] at h2
      exact ⟨_, h2⟩
    obtain ⟨y0, g0⟩ := g0
    have k1 : Tryz.prog.cellsOf 9 = 1 := by kernel_rfl
    have g1 : ∃ y, Rdg enc W n 9 [c1] y := by
      have hj : 1 < xs.length := by rw [hxl]; decide
      have := hf 1 _ rfl
      rw [List.getElem?_eq_getElem hj] at this
      have h2 : DataW.trod enc Tryz.prog W 0 (fun _ => true) true n 9 ((List.drop 1 [c0, c1, c2]).take (Tryz.prog.cellsOf 9)) = some _ := this
      rw [k1] at h2
      exact ⟨_, h2⟩
    obtain ⟨y1, g1⟩ := g1
    have k2 : Tryz.prog.cellsOf 23 = 1 := by kernel_rfl
    have g2 : ∃ y, Rdg enc W n 23 [c2] y := by
      have hj : 2 < xs.length := by rw [hxl]; decide
      have := hf 2 _ rfl
      rw [List.getElem?_eq_getElem hj] at this
      have h2 : DataW.trod enc Tryz.prog W 0 (fun _ => true) true n 23 ((List.drop 2 [c0, c1, c2]).take (Tryz.prog.cellsOf 23)) = some _ := this
      rw [k2] at h2
      exact ⟨_, h2⟩
    obtain ⟨y2, g2⟩ := g2
    obtain ⟨z0, e0, _⟩ := DataW.trod_int Tryz.underlying3 g0
    simp only [List.cons.injEq, and_true] at e0
    subst e0
    obtain ⟨z1, e1, _, s1⟩ := DataW.trod_string Tryz.underlying9 g1
    simp only [List.cons.injEq, and_true] at e1
    subst e1
    obtain ⟨a2, d2, z2, e2, r2, s2⟩ := open_IntS g2
    simp only [List.cons.injEq, and_true] at e2
    subst e2
    exact ⟨⟨z0, z1, z2⟩, ⟨a2, d2, rfl, r2⟩, ⟨by rw [max_len] at s1; exact s1, s2⟩⟩
theorem open_LitS {H : Type} {enc : TypeId × Value → H} {W : World} {fuel : Nat} {cs : List Value} {y : DataW H × List MemPlace} (h : Rdg enc W fuel 26 cs y) :
    ∃ (a : Option Addr) (cap : Nat) (l : List It), cs = [.slice a l.length cap] ∧ RowIn FIt 3 (fun b => b < W.heap.size) W a l ∧ l.length ≤ 9223372036854775807 ∧ ∀ x ∈ l, x.fits :=
  open_rows FIt 3 26 25 Tryz.underlying26 (by kernel_rfl) (by omega) It.fits open_Lit h
set_option maxRecDepth 100000 in
theorem open_Rule {H : Type} {enc : TypeId × Value → H} {W : World} (fuel : Nat) (cs : List Value) (y : DataW H × List MemPlace) (h : Rdg enc W fuel 28 cs y) : ∃ x : Ru, FRu (fun b => b < W.heap.size) W cs x ∧ x.fits := by
  obtain ⟨xs, n, _, _, hlen, hxl, hf⟩ := DataW.trod_struct Tryz.underlying28 h
  have hC : Tryz.prog.cellsOf 28 = 5 := by kernel_rfl
  match cs, hlen.trans hC with
  | [c0, c1, c2, c3, c4], _ =>
    have k0 : Tryz.prog.cellsOf 22 = 1 := by kernel_rfl
    have g0 : ∃ y, Rdg enc W n 22 [c0] y := by
      have hj : 0 < xs.length := by rw [hxl]; decide
      have := hf 0 _ rfl
      rw [List.getElem?_eq_getElem hj] at this
      have h2 : DataW.trod enc Tryz.prog W 0 (fun _ => true) true n 22 ((List.drop 0 [c0, c1, c2, c3, c4]).take (Tryz.prog.cellsOf 22)) = some _ := this
      rw [k0] at h2
      exact ⟨_, h2⟩
    obtain ⟨y0, g0⟩ := g0
    have k1 : Tryz.prog.cellsOf 25 = 3 := by kernel_rfl
    have g1 : ∃ y, Rdg enc W n 25 [c1, c2, c3] y := by
      have hj : 1 < xs.length := by rw [hxl]; decide
      have := hf 1 _ rfl
      rw [List.getElem?_eq_getElem hj] at this
      have h2 : DataW.trod enc Tryz.prog W 0 (fun _ => true) true n 25 ((List.drop 1 [c0, c1, c2, c3, c4]).take (Tryz.prog.cellsOf 25)) = some _ := this
      rw [k1] at h2
      exact ⟨_, h2⟩
    obtain ⟨y1, g1⟩ := g1
    have k2 : Tryz.prog.cellsOf 26 = 1 := by kernel_rfl
    have g2 : ∃ y, Rdg enc W n 26 [c4] y := by
      have hj : 2 < xs.length := by rw [hxl]; decide
      have := hf 2 _ rfl
      rw [List.getElem?_eq_getElem hj] at this
      have h2 : DataW.trod enc Tryz.prog W 0 (fun _ => true) true n 26 ((List.drop 4 [c0, c1, c2, c3, c4]).take (Tryz.prog.cellsOf 26)) = some _ := this
      rw [k2] at h2
      exact ⟨_, h2⟩
    obtain ⟨y2, g2⟩ := g2
    obtain ⟨a0, d0, z0, e0, r0, s0, t0⟩ := open_ExpS g0
    simp only [List.cons.injEq, and_true] at e0
    subst e0
    obtain ⟨z1, ⟨a1_0, d1_0, e1, r1_0⟩, s1⟩ := open_Lit n [c1, c2, c3] y1 g1
    simp only [List.cons.injEq, and_true] at e1
    obtain ⟨rfl, rfl, rfl⟩ := e1
    obtain ⟨a2, d2, z2, e2, r2, s2, t2⟩ := open_LitS g2
    simp only [List.cons.injEq, and_true] at e2
    subst e2
    exact ⟨⟨z0, z1, z2⟩, ⟨a0, d0, a1_0, d1_0, a2, d2, rfl, r0, r1_0, r2⟩, ⟨⟨s0, t0⟩, s1, ⟨s2, t2⟩⟩⟩
end Go.Proofs.YtilijbpbnlnhlaaGreat.Pr
