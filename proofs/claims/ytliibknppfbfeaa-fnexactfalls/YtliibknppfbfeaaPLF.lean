/-
  laws.FnExactFalls answers true, if the program's Falls asks what the reference's does.
-/
import Derived.Test.YtliibknppfbfeaaPG5
namespace Go.Proofs.Ytliibknppfbfeaa.Pr
open Go Go.RowKit Go.Maps Go.WideMaps

def ImplFalls : Prop := ∀ (g : Gr) (vg : List Value) (S : Nat → Prop) (w : World), FGr S w vg g → (∀ b, S b → b < w.heap.size) → g.rs.length ≤ 1048576 →
    Calls Try.prog 17 #[.agg vg.toArray] w fun e w' => (∃ r : Bool, e = .returned (.bool r) ∧ (r = true ↔ FallsR g)) ∧ Below w.heap.size w w'

set_option maxRecDepth 100000 in
set_option maxHeartbeats 4000000 in
theorem law_FnExactFalls_of (IMPL : ImplFalls) (g : Gr) (vs : List Value) (W : World) (hF : FGr (fun b => b < W.heap.size) W vs g) (hf : g.fits) :
    Calls Try.prog 5 #[.agg vs.toArray] W fun e w' => e = .returned (.bool true) ∧ Below W.heap.size W w' := by
  have hF1 := hF
  obtain ⟨ag, cg, rfl, r0⟩ := hF
  have hb0 : Below W.heap.size W (W.alloc (.cells #[.int .i64 g.f, .int .i64 g.t, .slice ag g.rs.length cg] 35)) := (Below.refl _ _).alloc (Nat.le_refl _) _
  have k0 := heap_alloc_new W (.cells #[.int .i64 g.f, .int .i64 g.t, .slice ag g.rs.length cg] 35)
  obtain ⟨W0, hW0⟩ : ∃ W0, W.alloc (.cells #[.int .i64 g.f, .int .i64 g.t, .slice ag g.rs.length cg] 35) = W0 := ⟨_, rfl⟩
  rw [hW0] at hb0 k0
  have HARG := Lib.hid (fun (w1 : World) (h : Below W.heap.size W w1) => (FGr_keeps.1 _ _ _ _ _ hF1 (Same.below (fun _ h => h) h) : FGr (fun b => b < W.heap.size) w1 _ g))
  have HLT := Lib.hid (fun (w1 : World) (h : Below W.heap.size W w1) (b : Nat) (hb : b < W.heap.size) => Nat.lt_of_lt_of_le hb h.size)
  have HSZ := Lib.hid (szGraph_any g _ 1048576 _ W0 (HARG.out W0 hb0) (HLT.out W0 hb0) hf (by omega) (by omega))
  obtain ⟨q0, q1, q2, -, -, -⟩ := cells3 k0
  have HB0 := Lib.hid hb0
  have HK0 := Lib.hid k0
  clear r0 hF1 hf hb0 k0
  go_enter Try.func5, Try.ntmps5
  go_wp2_with fail
  refine HSZ.out.mono ?_
  rintro e w1 ⟨⟨r, rfl, hr⟩, hb1⟩
  have HB1 := Lib.hid (below_step HB0.out hb1)
  rcases hr with ⟨hr, _⟩ | ⟨rfl, hwt⟩
  · have hd : decide (r < 0) = true := decide_eq_true hr
    clear HSZ hb1 q0 q1 q2
    go_wp2
    go_ret
    exact ⟨rfl, HB1.out⟩
  have hd : decide ((1048576 : Int) - (g.wt : Int) < 0) = false := decide_eq_false (by omega)
  have HWT := Lib.hid (show g.wt ≤ 1048576 by omega)
  have hl : g.rs.length ≤ 1048576 := by have := HWT.out; unfold Gr.wt wtArcS at this; exact this
  have K1 := (hb1.block _ (lt_of_block HK0.out)).trans HK0.out
  have HT1 := Lib.hid (toGraph_any g _ _ w1 (HARG.out w1 HB1.out) (HLT.out w1 HB1.out) HWT.out)
  have HK1 := Lib.hid K1
  clear HSZ hb1 q0 q1 q2 HK0 hW0
  obtain ⟨q0, q1, q2, -, -, -⟩ := cells3 K1
  clear K1 hwt
  generalize g.wt = gw at hd
  go_wp2_with fail
  refine HT1.out.mono ?_
  rintro e w2 ⟨us, rfl, hF2, hb2⟩
  have HB2 := Lib.hid (below_step HB1.out hb2)
  have HK2 := Lib.hid ((hb2.block _ (lt_of_block HK1.out)).trans HK1.out)
  have HSP := Lib.hid (specFalls_any g us _ w2 hF2 (fun b h => h.2) hl)
  obtain ⟨a1, d1, rfl, _⟩ := hF2
  clear hb2 HT1 q0 q1 q2 HK1
  go_wp2_with fail
  refine HSP.out.mono ?_
  rintro e w3 ⟨⟨rs, rfl, hrs⟩, hb3⟩
  have HB3 := Lib.hid (below_step HB2.out hb3)
  have K3 := (hb3.block _ (lt_of_block HK2.out)).trans HK2.out
  have HRS := Lib.hid hrs
  obtain ⟨q0, q1, q2, -, -, -⟩ := cells3 K3
  have HT2 := Lib.hid (toGraph_any g _ _ w3 (HARG.out w3 HB3.out) (HLT.out w3 HB3.out) HWT.out)
  have HK3 := Lib.hid K3
  clear hb3 HSP HK2 K3 hrs
  go_wp2_with fail
  refine HT2.out.mono ?_
  rintro e w4 ⟨us, rfl, hF4, hb4⟩
  have hb5 : Below w4.heap.size w4 (w4.alloc (.cells us.toArray 26)) := (Below.refl _ _).alloc (Nat.le_refl _) _
  have hF5 := FGr_keeps.1 _ _ _ _ _ hF4 (Same.below (fun b h => h.2) hb5)
  have k5 := heap_alloc_new w4 (.cells us.toArray 26)
  have HIM := Lib.hid (IMPL g us _ _ hF5 (fun b h => Nat.lt_of_lt_of_le h.2 hb5.size) hl)
  obtain ⟨b1, e1, rfl, g1⟩ := hF4
  obtain ⟨w5, hw5⟩ : ∃ w5, w4.alloc (.cells #[.int .i64 g.f, .int .i64 g.t, .slice b1 g.rs.length e1] 26) = w5 := ⟨_, rfl⟩
  rw [hw5] at HIM hF5 k5 hb5
  have hs5 : w4.heap.size < w5.heap.size := lt_of_block k5
  have HF5 := Lib.hid hF5
  have HB35 := Lib.hid (below_step hb4 hb5)
  have HB5 := Lib.hid (below_step HB3.out HB35.out)
  have K5 := (HB35.out.block _ (lt_of_block HK3.out)).trans HK3.out
  obtain ⟨t0, t1, t2, -, -, -⟩ := cells3 k5
  have HK5 := Lib.hid K5
  have Hk5 := Lib.hid k5
  clear hb4 hb5 hF5 k5 K5 g1 HT2 HK3 q0 q1 q2
  go_wp2_with fail
  refine HIM.out.mono ?_
  rintro e w6 ⟨⟨ri, rfl, hri⟩, hb6⟩
  obtain rfl : ri = rs := by
    cases ri with
    | true => exact (HRS.out.2 (hri.1 rfl)).symm
    | false =>
      cases rs with
      | false => rfl
      | true => exact hri.2 (HRS.out.1 rfl)
  have HB56 := Lib.hid hb6
  have HB6 := Lib.hid (below_step HB5.out hb6)
  have K6 := (hb6.block _ (lt_of_block HK5.out)).trans HK5.out
  have k6 := (hb6.block _ (lt_of_block Hk5.out)).trans Hk5.out
  clear hb6 HIM t0 t1 t2 hw5 hri HRS HK5 Hk5
  obtain ⟨y0, y1, y2, -, -, -⟩ := cells3 K6
  obtain ⟨t0, t1, t2, -, -, -⟩ := cells3 k6
  have hg1 : W.heap.size < w6.heap.size := lt_of_block K6
  have hg2 : w4.heap.size < w6.heap.size := lt_of_block k6
  have HF6 := Lib.hid (FGr_keeps.1 _ _ _ _ _ HF5.out (Same.below (fun b h => Nat.lt_trans h.2 hs5) HB56.out))
  have HSL := Lib.hid (show ∀ b, Seg w3.heap.size w4.heap.size b → b < w6.heap.size from fun b h => by have := h.2; omega)
  have HT3 := Lib.hid (fun (w' : World) (h : Below w6.heap.size w6 w') => toGraph_any g _ _ w' (HARG.out w' (below_step HB6.out h)) (HLT.out w' (below_step HB6.out h)) HWT.out)
  have HEQ := Lib.hid (fun (w8 w' : World) (h : Below w6.heap.size w6 w8) (h2 : Below w8.heap.size w8 w') (lo : Nat) (us : List Value) (hF : FGr (Seg lo w8.heap.size) w8 us g) =>
    eqGraph_any g _ us _ _ w' (FGr_keeps.1 _ _ _ _ _ HF6.out (Same.below HSL.out (below_step h h2))) (FGr_keeps.1 _ _ _ _ _ hF (Same.below (fun b h => h.2) h2)) (fun b hb => Nat.lt_of_lt_of_le (HSL.out b hb) (below_step h h2).size) (fun b hb => Nat.lt_of_lt_of_le hb.2 h2.size) (by have := HWT.out; omega))
  have hB0 : Below w6.heap.size w6 w6 := Below.refl _ _
  have hne : (ri != ri) = false := by simp
  clear K6 k6 HF5 hd
  go_wp2
  go_region_held3 (fun w' => w'.cell? ⟨W.heap.size, 0, none⟩ = some (.int .i64 g.f) ∧ w'.cell? ⟨W.heap.size, 1, none⟩ = some (.int .i64 g.t) ∧ w'.cell? ⟨W.heap.size, 2, none⟩ = some (.slice ag g.rs.length cg) ∧ w'.cell? ⟨w4.heap.size, 0, none⟩ = some (.int .i64 g.f) ∧ w'.cell? ⟨w4.heap.size, 1, none⟩ = some (.int .i64 g.t) ∧ w'.cell? ⟨w4.heap.size, 2, none⟩ = some (.slice b1 g.rs.length e1) ∧ Below w6.heap.size w6 w')
        (refine ⟨?_, ?_, ?_, ?_, ?_, ?_, ?_⟩ <;> (first | assumption | (simp [*]; done) | (apply Below.drew; assumption)))
        (first
          | (go_at_call 12
             refine (HT3.out _ (by first | assumption | (apply Below.drew; assumption))).mono ?_
             rintro e8 w8 ⟨us8, rfl, hF8, hb8⟩
             have hb8' : Below w6.heap.size w6 w8 := below_step (by first | assumption | (apply Below.drew; assumption)) hb8
             have HF8 := Lib.hid hF8
             obtain ⟨m1, n1, rfl, _⟩ := hF8
             have z80 := (hb8'.cell (p := ⟨W.heap.size, 0, none⟩) hg1).trans y0
             have z81 := (hb8'.cell (p := ⟨W.heap.size, 1, none⟩) hg1).trans y1
             have z82 := (hb8'.cell (p := ⟨W.heap.size, 2, none⟩) hg1).trans y2
             have x80 := (hb8'.cell (p := ⟨w4.heap.size, 0, none⟩) hg2).trans t0
             have x81 := (hb8'.cell (p := ⟨w4.heap.size, 1, none⟩) hg2).trans t1
             have x82 := (hb8'.cell (p := ⟨w4.heap.size, 2, none⟩) hg2).trans t2
             clear hb8)
          | (go_at_call 13
             refine (HEQ.out w8 _ hb8' (by first | exact Below.refl _ _ | exact (Below.refl _ _).drew) _ _ HF8.out).mono ?_
             rintro e9 w9 ⟨rfl, hb9⟩
             have hb9' : Below w6.heap.size w6 w9 := below_step hb8' (by first | exact hb9 | exact hb9)
             have z90 := (hb9'.cell (p := ⟨W.heap.size, 0, none⟩) hg1).trans y0
             have z91 := (hb9'.cell (p := ⟨W.heap.size, 1, none⟩) hg1).trans y1
             have z92 := (hb9'.cell (p := ⟨W.heap.size, 2, none⟩) hg1).trans y2
             have x90 := (hb9'.cell (p := ⟨w4.heap.size, 0, none⟩) hg2).trans t0
             have x91 := (hb9'.cell (p := ⟨w4.heap.size, 1, none⟩) hg2).trans t1
             have x92 := (hb9'.cell (p := ⟨w4.heap.size, 2, none⟩) hg2).trans t2
             clear hb9)
          | fail)
  have HBE := Lib.hid (below_step HB6.out hb9')
  clear HT3 HEQ hB0 hb8' hb9' HF8 HF6 HSL y0 y1 y2 t0 t1 t2 z80 z81 z82 x80 x81 x82 z90 z91 z92 x90 x91 x92 hne
  go_wp2
  go_ret
  exact ⟨rfl, HBE.out⟩

end Go.Proofs.Ytliibknppfbfeaa.Pr
