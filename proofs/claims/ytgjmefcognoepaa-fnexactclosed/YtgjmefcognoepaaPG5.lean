/-
  THE WALKS over spec.l08Same and spec.Falls.
-/
import Derived.Test.YtgjmefcognoepaaPG4
namespace Go.Proofs.Ytgjmefcognoepaa.Pr
open Go Go.RowKit Go.Maps Go.WideMaps

def SmRel (w0 : World) (l m : List Ar) (v : Value) (wr : World) : Prop :=
  ∃ k : Nat, v = .int .i64 (k : Int) ∧ k ≤ l.length ∧ (∀ i (h : i < l.length) (h2 : i < m.length), i < k → l[i] = m[i]) ∧ Below w0.heap.size w0 wr

set_option maxRecDepth 100000 in
set_option maxHeartbeats 4000000 in
theorem specSame_any (g h : Gr) (vg vh : List Value) (S1 S2 : Nat → Prop) (w : World) (hF1 : FGr S1 w vg g) (hF2 : FGr S2 w vh h) (hS1 : ∀ b, S1 b → b < w.heap.size) (hS2 : ∀ b, S2 b → b < w.heap.size) (hl1 : g.rs.length ≤ 1048576) (hl2 : h.rs.length ≤ 1048576) :
    Calls Try.prog 24 #[.agg vg.toArray, .agg vh.toArray] w fun e w' => (∃ r : Bool, e = .returned (.bool r) ∧ (r = true ↔ g = h)) ∧ Below w.heap.size w w' := by
  obtain ⟨ag, cg, rfl, r1⟩ := hF1
  obtain ⟨ah, ch, rfl, r2⟩ := hF2
  have hb0 := ((Below.refl w.heap.size w).alloc (Nat.le_refl _) (Obj.cells #[.int .i64 g.f, .int .i64 g.t, .slice ag g.rs.length cg] 38)).alloc (by simp) (Obj.cells #[.int .i64 h.f, .int .i64 h.t, .slice ah h.rs.length ch] 38)
  have k0 := (heap_alloc_old _ (Obj.cells #[.int .i64 h.f, .int .i64 h.t, .slice ah h.rs.length ch] 38) (by simp)).trans (heap_alloc_new w (Obj.cells #[.int .i64 g.f, .int .i64 g.t, .slice ag g.rs.length cg] 38))
  have k1 := heap_alloc2_new w (Obj.cells #[.int .i64 g.f, .int .i64 g.t, .slice ag g.rs.length cg] 38) (Obj.cells #[.int .i64 h.f, .int .i64 h.t, .slice ah h.rs.length ch] 38)
  obtain ⟨w0, hw0⟩ : ∃ w0, (w.alloc (.cells #[.int .i64 g.f, .int .i64 g.t, .slice ag g.rs.length cg] 38)).alloc (.cells #[.int .i64 h.f, .int .i64 h.t, .slice ah h.rs.length ch] 38) = w0 := ⟨_, rfl⟩
  rw [hw0] at hb0 k0 k1
  have HR1 := Lib.hid (fun (W : World) (hW : Below w.heap.size w W) => RowIn.kept FAr_keeps r1 (Same.below hS1 hW))
  have HR2 := Lib.hid (fun (W : World) (hW : Below w.heap.size w W) => RowIn.kept FAr_keeps r2 (Same.below hS2 hW))
  have HB0 := Lib.hid hb0
  have HK0 := Lib.hid k0
  have HK1 := Lib.hid k1
  obtain ⟨g0, g1, g2, -, -, -⟩ := cells3 k0
  obtain ⟨h0, h1, h2, -, -, -⟩ := cells3 k1
  obtain ⟨gf, gt, gs⟩ := g
  obtain ⟨hf, ht, hs⟩ := h
  dsimp only at *
  have HNO := Lib.hid (fun (W : World) (hW : Below w.heap.size w W) (hne : ¬ (gf = hf ∧ gt = ht ∧ gs = hs)) => (⟨⟨false, rfl, by simp; intro a b c; exact hne ⟨a, b, c⟩⟩, hW⟩ : (∃ r : Bool, Ending.returned (.bool false) = .returned (.bool r) ∧ (r = true ↔ (⟨gf, gt, gs⟩ : Gr) = ⟨hf, ht, hs⟩)) ∧ Below w.heap.size w W))
  clear r1 r2 hS1 hS2 hb0 k0 k1
  go_enter Try.func24, Try.ntmps24
  by_cases e0 : gf = hf
  · have d0 : (gf != hf) = false := by simpa using e0
    have E0 := Lib.hid e0
    clear e0
    by_cases e1 : gt = ht
    · have d1 : (gt != ht) = false := by simpa using e1
      have E1 := Lib.hid e1
      clear e1
      by_cases e2 : gs.length = hs.length
      · have d2 : ((gs.length : Int) != (hs.length : Int)) = false := by simp [e2]
        have E2 := Lib.hid e2
        clear e2
        go_wp2
        go_loopw [5] (fun v wr => SmRel w0 gs hs v wr) (fun v _ => (gs.length - (intOf v).toNat))
        case atStart => exact ⟨0, rfl, Nat.zero_le _, fun i _ _ h => by omega, Below.refl _ _⟩
        case round =>
          obtain ⟨k, rfl, hk, hsm, hb⟩ := hrel
          have K0 := (hb.block _ (lt_of_block HK0.out)).trans HK0.out
          have K1 := (hb.block _ (lt_of_block HK1.out)).trans HK1.out
          have hbb := below_step HB0.out hb
          have HBB := Lib.hid hbb
          clear g0 g1 g2 h0 h1 h2
          obtain ⟨g0, g1, g2, -, -, -⟩ := cells3 K0
          obtain ⟨h0, h1, h2, -, -, -⟩ := cells3 K1
          clear g0 g1 h0 h1 K0 K1
          by_cases hlt : k < gs.length
          · have hdl : decide ((k : Int) < (gs.length : Int)) = true := decide_eq_true (by omega)
            have hlt2 : k < hs.length := by have := E2.out; omega
            obtain ⟨b1, o1, vs1, rfl, hS1, hv1, hc1, hF1⟩ := HR1.out _ hbb k hlt
            obtain ⟨b2, o2, vs2, rfl, hS2, hv2, hc2, hF2⟩ := HR2.out _ hbb k hlt2
            obtain rfl := hF1
            obtain rfl := hF2
            have x0 : wr.cell? ⟨b1, o1 + k * 3, none⟩ = some (.int .i64 gs[k].a) := hc1 0 (by simp)
            have x1 : wr.cell? ⟨b1, o1 + k * 3 + 1, none⟩ = some (.int .i64 gs[k].b) := hc1 1 (by simp)
            have x2 : wr.cell? ⟨b1, o1 + k * 3 + 2, none⟩ = some (.bool gs[k].s) := hc1 2 (by simp)
            have t0 : wr.cell? ⟨b2, o2 + k * 3, none⟩ = some (.int .i64 hs[k].a) := hc2 0 (by simp)
            have t1 : wr.cell? ⟨b2, o2 + k * 3 + 1, none⟩ = some (.int .i64 hs[k].b) := hc2 1 (by simp)
            have t2 : wr.cell? ⟨b2, o2 + k * 3 + 2, none⟩ = some (.bool hs[k].s) := hc2 2 (by simp)
            have HEQ := Lib.hid (fun (he : gs[k] = hs[k]) (q : Nat) => (⟨k + 1, by go_num, by omega, fun i h h2 h3 => by
              by_cases hik : i = k
              · subst hik; exact he
              · exact hsm i h h2 (by omega), below_drewN hb q⟩ : SmRel w0 gs hs (.int .i64 ((k : Int) + 1)) (wr.drewN q)))
            have HNE := Lib.hid (fun (he : ¬ gs[k] = hs[k]) (q : Nat) => HNO.out (wr.drewN q) (below_drewN hbb q) (fun h => he (by
              have := h.2.2
              subst this
              rfl)))
            clear hc1 hc2 hv1 hv2 hS1 hS2 hsm HNO hb hbb
            obtain ⟨⟨xa, xb, xs⟩, hx⟩ : ∃ x, gs[k] = x := ⟨_, rfl⟩
            obtain ⟨⟨ya, yb, ys⟩, hy⟩ : ∃ x, hs[k] = x := ⟨_, rfl⟩
            rw [hx] at x0 x1 x2 HEQ HNE
            rw [hy] at t0 t1 t2 HEQ HNE
            dsimp only at x0 x1 x2 t0 t1 t2
            clear hx hy
            by_cases m0 : xa = ya
            · have n0 : (xa == ya) = true := by simpa using m0
              by_cases m1 : xb = yb
              · have n1 : (xb == yb) = true := by simpa using m1
                by_cases m2 : xs = ys
                · have n2 : (xs == ys) = true := by simpa using m2
                  have HR := Lib.hid (HEQ.out (by rw [m0, m1, m2]))
                  clear HEQ HNE m0 m1 m2
                  go_wp2
                  go_quiet (fail)
                  go_wp2
                  go_roundw
                  case rel => exact HR.out _
                  case measure => (simp [intOf] <;> omega)
                · have n2 : (xs == ys) = false := by simpa using m2
                  have HR := Lib.hid (HNE.out (fun h => m2 (by injection h)))
                  clear m0 m1 m2
                  clear HEQ HNE
                  go_wp2
                  go_quiet (fail)
                  go_wp2
                  go_ret
                  exact HR.out _
              · have n1 : (xb == yb) = false := by simpa using m1
                have HR := Lib.hid (HNE.out (fun h => m1 (by injection h)))
                clear m0 m1
                clear HEQ HNE
                go_wp2
                go_quiet (fail)
                go_wp2
                go_ret
                exact HR.out _
            · have n0 : (xa == ya) = false := by simpa using m0
              have HR := Lib.hid (HNE.out (fun h => m0 (by injection h)))
              clear m0
              clear HEQ HNE
              go_wp2
              go_quiet (fail)
              go_wp2
              go_ret
              exact HR.out _
          · obtain rfl : k = gs.length := by omega
            have hdl : decide ((gs.length : Int) < (gs.length : Int)) = false := by simp
            have HRS := Lib.hid (show (∃ r : Bool, Ending.returned (.bool true) = .returned (.bool r) ∧ (r = true ↔ (⟨gf, gt, gs⟩ : Gr) = ⟨hf, ht, hs⟩)) ∧ Below w.heap.size w wr from ⟨⟨true, rfl, by
              have : gs = hs := List.ext_getElem E2.out (fun i h1 h2 => hsm i h1 h2 h1)
              simp [E0.out, E1.out, this]⟩, hbb⟩)
            clear hsm HNO hb hbb
            go_wp2
            go_ret
            exact HRS.out
      · have d2 : ((gs.length : Int) != (hs.length : Int)) = true := by simp; omega
        have HR := Lib.hid (HNO.out w0 HB0.out (fun h => e2 (by rw [h.2.2])))
        clear HNO e2
        go_wp2
        go_ret
        exact HR.out
    · have d1 : (gt != ht) = true := by simpa using e1
      have HR := Lib.hid (HNO.out w0 HB0.out (fun h => e1 h.2.1))
      clear HNO e1
      go_wp2
      go_ret
      exact HR.out
  · have d0 : (gf != hf) = true := by simpa using e0
    have HR := Lib.hid (HNO.out w0 HB0.out (fun h => e0 h.1))
    clear HNO e0
    go_wp2
    go_ret
    exact HR.out

/-- What Falls asks. -/
def FallsR (g : Gr) : Prop := RightA g.rs ∧ (compAns g g = (g, true) → ∃ x ∈ g.rs, x.s = true ∧ x.a = x.b)
def FlRel (w0 : World) (l : List Ar) (v : Value) (wr : World) : Prop :=
  ∃ k : Nat, v = .int .i64 (k : Int) ∧ k ≤ l.length ∧ (∀ i (h : i < l.length), i < k → ¬ (l[i].s = true ∧ l[i].a = l[i].b)) ∧ Below w0.heap.size w0 wr
theorem own_arcs {w : World} {base : Nat} {a : Option Addr} {c : Nat} {xs : List Ar} (h : w.ownsRow base 59 3 (.slice a xs.length c) xs.length (arcCells xs)) : RowIn FAr 3 (Seg base w.heap.size) w a xs := by
  intro i hi
  obtain ⟨g, c', hv, h1, h2⟩ := h.form (by omega)
  simp only [Value.slice.injEq, true_and] at hv
  obtain ⟨rfl, rfl⟩ := hv
  refine ⟨g, 0, [.int .i64 xs[i].a, .int .i64 xs[i].b, .bool xs[i].s], rfl, ⟨h1, h2⟩, rfl, ?_, rfl⟩
  intro j hj
  have hlen := arcCells_len xs
  have key : ∀ (l : List Ar) (n : Nat) (hn : n < l.length), (arcCells l)[n * 3 + j]? = ([.int .i64 l[n].a, .int .i64 l[n].b, .bool l[n].s] : List Value)[j]? := by
    intro l
    induction l with
    | nil => intro n hn; simp at hn
    | cons x r ih =>
      intro n hn
      cases n with
      | zero =>
        have : j = 0 ∨ j = 1 ∨ j = 2 := by simp at hj; omega
        rcases this with rfl | rfl | rfl <;> rfl
      | succ n =>
        have := ih n (by simpa using hn)
        rw [show (n + 1) * 3 + j = (n * 3 + j) + 3 by omega]
        simpa [arcCells] using this
  rw [show 0 + i * 3 + j = i * 3 + j by omega, h.cellAt (i * 3 + j) (by simp at hj; omega), key xs i hi]
  exact List.getElem?_eq_getElem hj

end Go.Proofs.Ytgjmefcognoepaa.Pr
