/-
  ARGUMENTS OPENED: declarations, programs.
-/
import Derived.Test.YtdcfhmbnbfmnbaaPOp
import Derived.Test.YtdcfhmbnbfmnbaaPTp
namespace Go.Proofs.Ytdcfhmbnbfmnbaa.Pr
open Go Go.RowKit Go.Maps Go.WideMaps

set_option maxRecDepth 100000 in
theorem open_Con {H : Type} {enc : TypeId × Value → H} {W : World} (fuel : Nat) (cs : List Value) (y : DataW H × List MemPlace) (h : Rdg enc W fuel 159 cs y) : ∃ x : Cn, FCn (fun b => b < W.heap.size) W cs x ∧ x.fits := by
  obtain ⟨xs, n, _, _, hlen, hxl, hf⟩ := DataW.trod_struct Try.underlying159 h
  have hC : Try.prog.cellsOf 159 = 2 := by kernel_rfl
  match cs, hlen.trans hC with
  | [c0, c1], _ =>
    have k0 : Try.prog.cellsOf 9 = 1 := by kernel_rfl
    have g0 : ∃ y, Rdg enc W n 9 [c0] y := by
      have hj : 0 < xs.length := by rw [hxl]; decide
      have := hf 0 _ rfl
      rw [List.getElem?_eq_getElem hj] at this
      have h2 : DataW.trod enc Try.prog W 0 (fun _ => true) true n 9 ((List.drop 0 [c0, c1]).take (Try.prog.cellsOf 9)) = some _ := this
      rw [k0] at h2
      exact ⟨_, h2⟩
    obtain ⟨y0, g0⟩ := g0
    have k1 : Try.prog.cellsOf 60 = 1 := by kernel_rfl
    have g1 : ∃ y, Rdg enc W n 60 [c1] y := by
      have hj : 1 < xs.length := by rw [hxl]; decide
      have := hf 1 _ rfl
      rw [List.getElem?_eq_getElem hj] at this
      have h2 : DataW.trod enc Try.prog W 0 (fun _ => true) true n 60 ((List.drop 1 [c0, c1]).take (Try.prog.cellsOf 60)) = some _ := this
      rw [k1] at h2
      exact ⟨_, h2⟩
    obtain ⟨y1, g1⟩ := g1
    obtain ⟨z0, e0, _, s0⟩ := DataW.trod_string Try.underlying9 g0
    simp only [List.cons.injEq, and_true] at e0
    subst e0
    obtain ⟨a1, d1, z1, e1, r1, s1, t1⟩ := open_StringS g1
    simp only [List.cons.injEq, and_true] at e1
    subst e1
    exact ⟨⟨z0, z1⟩, ⟨a1, d1, rfl, r1⟩, ⟨by rw [max_len] at s0; exact s0, ⟨s1, t1⟩⟩⟩
theorem open_ConS {H : Type} {enc : TypeId × Value → H} {W : World} {fuel : Nat} {cs : List Value} {y : DataW H × List MemPlace} (h : Rdg enc W fuel 101 cs y) :
    ∃ (a : Option Addr) (cap : Nat) (l : List Cn), cs = [.slice a l.length cap] ∧ RowIn FCn 2 (fun b => b < W.heap.size) W a l ∧ l.length ≤ 9223372036854775807 ∧ ∀ x ∈ l, x.fits :=
  open_rows FCn 2 101 159 Try.underlying101 (by kernel_rfl) (by omega) Cn.fits open_Con h
set_option maxRecDepth 100000 in
theorem open_TypeDecl {H : Type} {enc : TypeId × Value → H} {W : World} (fuel : Nat) (cs : List Value) (y : DataW H × List MemPlace) (h : Rdg enc W fuel 103 cs y) : ∃ x : Td, FTd (fun b => b < W.heap.size) W cs x ∧ x.fits := by
  obtain ⟨xs, n, _, _, hlen, hxl, hf⟩ := DataW.trod_struct Try.underlying103 h
  have hC : Try.prog.cellsOf 103 = 2 := by kernel_rfl
  match cs, hlen.trans hC with
  | [c0, c1], _ =>
    have k0 : Try.prog.cellsOf 9 = 1 := by kernel_rfl
    have g0 : ∃ y, Rdg enc W n 9 [c0] y := by
      have hj : 0 < xs.length := by rw [hxl]; decide
      have := hf 0 _ rfl
      rw [List.getElem?_eq_getElem hj] at this
      have h2 : DataW.trod enc Try.prog W 0 (fun _ => true) true n 9 ((List.drop 0 [c0, c1]).take (Try.prog.cellsOf 9)) = some _ := this
      rw [k0] at h2
      exact ⟨_, h2⟩
    obtain ⟨y0, g0⟩ := g0
    have k1 : Try.prog.cellsOf 101 = 1 := by kernel_rfl
    have g1 : ∃ y, Rdg enc W n 101 [c1] y := by
      have hj : 1 < xs.length := by rw [hxl]; decide
      have := hf 1 _ rfl
      rw [List.getElem?_eq_getElem hj] at this
      have h2 : DataW.trod enc Try.prog W 0 (fun _ => true) true n 101 ((List.drop 1 [c0, c1]).take (Try.prog.cellsOf 101)) = some _ := this
      rw [k1] at h2
      exact ⟨_, h2⟩
    obtain ⟨y1, g1⟩ := g1
    obtain ⟨z0, e0, _, s0⟩ := DataW.trod_string Try.underlying9 g0
    simp only [List.cons.injEq, and_true] at e0
    subst e0
    obtain ⟨a1, d1, z1, e1, r1, s1, t1⟩ := open_ConS g1
    simp only [List.cons.injEq, and_true] at e1
    subst e1
    exact ⟨⟨z0, z1⟩, ⟨a1, d1, rfl, r1⟩, ⟨by rw [max_len] at s0; exact s0, ⟨s1, t1⟩⟩⟩
theorem open_TypeDeclS {H : Type} {enc : TypeId × Value → H} {W : World} {fuel : Nat} {cs : List Value} {y : DataW H × List MemPlace} (h : Rdg enc W fuel 22 cs y) :
    ∃ (a : Option Addr) (cap : Nat) (l : List Td), cs = [.slice a l.length cap] ∧ RowIn FTd 2 (fun b => b < W.heap.size) W a l ∧ l.length ≤ 9223372036854775807 ∧ ∀ x ∈ l, x.fits :=
  open_rows FTd 2 22 103 Try.underlying22 (by kernel_rfl) (by omega) Td.fits open_TypeDecl h
set_option maxRecDepth 100000 in
theorem open_RelDecl {H : Type} {enc : TypeId × Value → H} {W : World} (fuel : Nat) (cs : List Value) (y : DataW H × List MemPlace) (h : Rdg enc W fuel 105 cs y) : ∃ x : Rd, FRd (fun b => b < W.heap.size) W cs x ∧ x.fits := by
  obtain ⟨xs, n, _, _, hlen, hxl, hf⟩ := DataW.trod_struct Try.underlying105 h
  have hC : Try.prog.cellsOf 105 = 3 := by kernel_rfl
  match cs, hlen.trans hC with
  | [c0, c1, c2], _ =>
    have k0 : Try.prog.cellsOf 9 = 1 := by kernel_rfl
    have g0 : ∃ y, Rdg enc W n 9 [c0] y := by
      have hj : 0 < xs.length := by rw [hxl]; decide
      have := hf 0 _ rfl
      rw [List.getElem?_eq_getElem hj] at this
      have h2 : DataW.trod enc Try.prog W 0 (fun _ => true) true n 9 ((List.drop 0 [c0, c1, c2]).take (Try.prog.cellsOf 9)) = some _ := this
      rw [k0] at h2
      exact ⟨_, h2⟩
    obtain ⟨y0, g0⟩ := g0
    have k1 : Try.prog.cellsOf 60 = 1 := by kernel_rfl
    have g1 : ∃ y, Rdg enc W n 60 [c1] y := by
      have hj : 1 < xs.length := by rw [hxl]; decide
      have := hf 1 _ rfl
      rw [List.getElem?_eq_getElem hj] at this
      have h2 : DataW.trod enc Try.prog W 0 (fun _ => true) true n 60 ((List.drop 1 [c0, c1, c2]).take (Try.prog.cellsOf 60)) = some _ := this
      rw [k1] at h2
      exact ⟨_, h2⟩
    obtain ⟨y1, g1⟩ := g1
    have k2 : Try.prog.cellsOf 3 = 1 := by kernel_rfl
    have g2 : ∃ y, Rdg enc W n 3 [c2] y := by
      have hj : 2 < xs.length := by rw [hxl]; decide
      have := hf 2 _ rfl
      rw [List.getElem?_eq_getElem hj] at this
      have h2 : DataW.trod enc Try.prog W 0 (fun _ => true) true n 3 ((List.drop 2 [c0, c1, c2]).take (Try.prog.cellsOf 3)) = some _ := this
      rw [k2] at h2
      exact ⟨_, h2⟩
    obtain ⟨y2, g2⟩ := g2
    obtain ⟨z0, e0, _, s0⟩ := DataW.trod_string Try.underlying9 g0
    simp only [List.cons.injEq, and_true] at e0
    subst e0
    obtain ⟨a1, d1, z1, e1, r1, s1, t1⟩ := open_StringS g1
    simp only [List.cons.injEq, and_true] at e1
    subst e1
    obtain ⟨z2, e2, _⟩ := DataW.trod_int Try.underlying3 g2
    simp only [List.cons.injEq, and_true] at e2
    subst e2
    exact ⟨⟨z0, z1, z2⟩, ⟨a1, d1, rfl, r1⟩, ⟨by rw [max_len] at s0; exact s0, ⟨s1, t1⟩⟩⟩
theorem open_RelDeclS {H : Type} {enc : TypeId × Value → H} {W : World} {fuel : Nat} {cs : List Value} {y : DataW H × List MemPlace} (h : Rdg enc W fuel 23 cs y) :
    ∃ (a : Option Addr) (cap : Nat) (l : List Rd), cs = [.slice a l.length cap] ∧ RowIn FRd 3 (fun b => b < W.heap.size) W a l ∧ l.length ≤ 9223372036854775807 ∧ ∀ x ∈ l, x.fits :=
  open_rows FRd 3 23 105 Try.underlying23 (by kernel_rfl) (by omega) Rd.fits open_RelDecl h
set_option maxRecDepth 100000 in
theorem open_Prog {H : Type} {enc : TypeId × Value → H} {W : World} (fuel : Nat) (cs : List Value) (y : DataW H × List MemPlace) (h : Rdg enc W fuel 26 cs y) : ∃ x : Pg, FPg (fun b => b < W.heap.size) W cs x ∧ x.fits := by
  obtain ⟨xs, n, _, _, hlen, hxl, hf⟩ := DataW.trod_struct Try.underlying26 h
  have hC : Try.prog.cellsOf 26 = 3 := by kernel_rfl
  match cs, hlen.trans hC with
  | [c0, c1, c2], _ =>
    have k0 : Try.prog.cellsOf 22 = 1 := by kernel_rfl
    have g0 : ∃ y, Rdg enc W n 22 [c0] y := by
      have hj : 0 < xs.length := by rw [hxl]; decide
      have := hf 0 _ rfl
      rw [List.getElem?_eq_getElem hj] at this
      have h2 : DataW.trod enc Try.prog W 0 (fun _ => true) true n 22 ((List.drop 0 [c0, c1, c2]).take (Try.prog.cellsOf 22)) = some _ := this
      rw [k0] at h2
      exact ⟨_, h2⟩
    obtain ⟨y0, g0⟩ := g0
    have k1 : Try.prog.cellsOf 23 = 1 := by kernel_rfl
    have g1 : ∃ y, Rdg enc W n 23 [c1] y := by
      have hj : 1 < xs.length := by rw [hxl]; decide
      have := hf 1 _ rfl
      rw [List.getElem?_eq_getElem hj] at this
      have h2 : DataW.trod enc Try.prog W 0 (fun _ => true) true n 23 ((List.drop 1 [c0, c1, c2]).take (Try.prog.cellsOf 23)) = some _ := this
      rw [k1] at h2
      exact ⟨_, h2⟩
    obtain ⟨y1, g1⟩ := g1
    have k2 : Try.prog.cellsOf 24 = 1 := by kernel_rfl
    have g2 : ∃ y, Rdg enc W n 24 [c2] y := by
      have hj : 2 < xs.length := by rw [hxl]; decide
      have := hf 2 _ rfl
      rw [List.getElem?_eq_getElem hj] at this
      have h2 : DataW.trod enc Try.prog W 0 (fun _ => true) true n 24 ((List.drop 2 [c0, c1, c2]).take (Try.prog.cellsOf 24)) = some _ := this
      rw [k2] at h2
      exact ⟨_, h2⟩
    obtain ⟨y2, g2⟩ := g2
    obtain ⟨a0, d0, z0, e0, r0, s0, t0⟩ := open_TypeDeclS g0
    simp only [List.cons.injEq, and_true] at e0
    subst e0
    obtain ⟨a1, d1, z1, e1, r1, s1, t1⟩ := open_RelDeclS g1
    simp only [List.cons.injEq, and_true] at e1
    subst e1
    obtain ⟨a2, d2, z2, e2, r2, s2, t2⟩ := open_RuleS g2
    simp only [List.cons.injEq, and_true] at e2
    subst e2
    exact ⟨⟨z0, z1, z2⟩, ⟨a0, d0, a1, d1, a2, d2, rfl, r0, r1, r2⟩, ⟨⟨s0, t0⟩, ⟨s1, t1⟩, ⟨s2, t2⟩⟩⟩

end Go.Proofs.Ytdcfhmbnbfmnbaa.Pr
