/-
  laws.FnExactRuleText answers true.
-/
import Derived.Test.YtacchpbfhoanoaaPIA
import Derived.Test.YtacchpbfhoanoaaPOp
namespace Go.Proofs.Ytacchpbfhoanoaa.Pr
open Go Go.RowKit Go.Maps Go.WideMaps

set_option maxRecDepth 100000 in
set_option maxHeartbeats 4000000 in
theorem law_FnExactRuleText (u : Ru) (vs : List Value) (W : World) (hF : FRu (fun b => b < W.heap.size) W vs u) (hf : u.fits) :
    Calls Try.prog 3 #[.agg vs.toArray] W fun e w' => e = .returned (.bool true) ∧ Below W.heap.size W w' := by
  obtain ⟨vs', hvs⟩ : ∃ vs', vs = vs' := ⟨_, rfl⟩
  have hF1 := hF
  obtain ⟨aes, ces, ahd, chd, abd, cbd, rfl, r0, r1, r2⟩ := hF
  have hb0 : Below W.heap.size W (W.alloc (.cells #[.slice aes u.es.length ces, .int .i64 u.hd.k, .string u.hd.s, .slice ahd u.hd.xs.length chd, .slice abd u.bd.length cbd] 28)) := (Below.refl _ _).alloc (Nat.le_refl _) _
  have k0 := heap_alloc_new W (.cells #[.slice aes u.es.length ces, .int .i64 u.hd.k, .string u.hd.s, .slice ahd u.hd.xs.length chd, .slice abd u.bd.length cbd] 28)
  obtain ⟨W0, hW0⟩ : ∃ W0, W.alloc (.cells #[.slice aes u.es.length ces, .int .i64 u.hd.k, .string u.hd.s, .slice ahd u.hd.xs.length chd, .slice abd u.bd.length cbd] 28) = W0 := ⟨_, rfl⟩
  rw [hW0] at hb0 k0
  -- the argument, read at any later world
  have HARG := Lib.hid (fun (w1 : World) (h : Below W.heap.size W w1) => (FRu_keeps.1 _ _ _ _ _ hF1 (Same.below (fun _ h => h) h) : FRu (fun b => b < W.heap.size) w1 _ u))
  have HLT := Lib.hid (fun (w1 : World) (h : Below W.heap.size W w1) (b : Nat) (hb : b < W.heap.size) => Nat.lt_of_lt_of_le hb h.size)
  have HSZ := Lib.hid (szRule_any u _ 1048576 _ W0 (HARG.out W0 hb0) (HLT.out W0 hb0) hf (by omega) (by omega))
  have q0 := cell_of_row _ W.heap.size 0 _ _ _ k0
  have q1 := cell_of_row _ W.heap.size 1 _ _ _ k0
  have q2 := cell_of_row _ W.heap.size 2 _ _ _ k0
  have q3 := cell_of_row _ W.heap.size 3 _ _ _ k0
  have q4 := cell_of_row _ W.heap.size 4 _ _ _ k0
  simp only [List.getElem?_toArray, List.getElem?_cons_zero, List.getElem?_cons_succ] at q0 q1 q2 q3 q4
  have HB0 := Lib.hid hb0
  have HK0 := Lib.hid k0
  clear r0 r1 r2 hF1 hf hb0 k0 hvs
  go_enter Try.func3, Try.ntmps3
  go_wp2_with fail
  refine HSZ.out.mono ?_
  rintro e w1 ⟨⟨r, rfl, hr⟩, hb1⟩
  have HB1 := Lib.hid (below_step HB0.out hb1)
  rcases hr with ⟨hr, _⟩ | ⟨rfl, hwt⟩
  · have hd : decide (r < 0) = true := decide_eq_true hr
    clear HSZ hb1 q0 q1 q2 q3 q4
    go_wp2
    go_ret
    exact ⟨rfl, HB1.out⟩
  have hd : decide ((1048576 : Int) - (u.wt : Int) < 0) = false := decide_eq_false (by omega)
  have hw : u.wt ≤ 1048576 := by omega
  have K1 := (hb1.block _ (lt_of_block HK0.out)).trans HK0.out
  have p0 := cell_of_row _ W.heap.size 0 _ _ _ K1
  have p1 := cell_of_row _ W.heap.size 1 _ _ _ K1
  have p2 := cell_of_row _ W.heap.size 2 _ _ _ K1
  have p3 := cell_of_row _ W.heap.size 3 _ _ _ K1
  have p4 := cell_of_row _ W.heap.size 4 _ _ _ K1
  simp only [List.getElem?_toArray, List.getElem?_cons_zero, List.getElem?_cons_succ] at p0 p1 p2 p3 p4
  have HT1 := Lib.hid (toRule_any u _ _ w1 (HARG.out w1 HB1.out) (HLT.out w1 HB1.out) hw)
  have HK1 := Lib.hid K1
  clear HSZ hb1 q0 q1 q2 q3 q4 K1 hwt
  generalize u.wt = uw at hd
  go_wp2_with fail
  refine HT1.out.mono ?_
  rintro e w2 ⟨us, rfl, hF2, hb2⟩
  have HB2 := Lib.hid (below_step HB1.out hb2)
  have HK2 := Lib.hid ((hb2.block _ (lt_of_block HK1.out)).trans HK1.out)
  have HSP := Lib.hid (specRule_any u us _ w2 hF2 (fun b h => h.2) hw)
  obtain ⟨a1, d1, a2, d2, a3, d3, rfl, _, _, _⟩ := hF2
  clear hb2 HT1 p0 p1 p2 p3 p4 HK1
  go_wp2_with fail
  refine HSP.out.mono ?_
  rintro e w3 ⟨rfl, hb3⟩
  have HB3 := Lib.hid (below_step HB2.out hb3)
  have K3 := (hb3.block _ (lt_of_block HK2.out)).trans HK2.out
  have p0 := cell_of_row _ (W.heap.size) 0 _ _ _ K3
  have p1 := cell_of_row _ (W.heap.size) 1 _ _ _ K3
  have p2 := cell_of_row _ (W.heap.size) 2 _ _ _ K3
  have p3 := cell_of_row _ (W.heap.size) 3 _ _ _ K3
  have p4 := cell_of_row _ (W.heap.size) 4 _ _ _ K3
  simp only [List.getElem?_toArray, List.getElem?_cons_zero, List.getElem?_cons_succ] at p0 p1 p2 p3 p4
  have HT2 := Lib.hid (toRule_any u _ _ w3 (HARG.out w3 HB3.out) (HLT.out w3 HB3.out) hw)
  have HK3 := Lib.hid K3
  clear hb3 HSP HK2 K3
  go_wp2_with fail
  refine HT2.out.mono ?_
  rintro e w4 ⟨us, rfl, hF4, hb4⟩
  have hb5 : Below w4.heap.size w4 (w4.alloc (.cells us.toArray 35)) := (Below.refl _ _).alloc (Nat.le_refl _) _
  have hF5 := FRu_keeps.1 _ _ _ _ _ hF4 (Same.below (fun b h => h.2) hb5)
  have k5 := heap_alloc_new w4 (.cells us.toArray 35)
  have HIM := Lib.hid (implRule_any u us _ _ hF5 (fun b h => Nat.lt_of_lt_of_le h.2 hb5.size) hw)
  obtain ⟨b1, e1, b2, e2, b3, e3, rfl, g1, g2, g3⟩ := hF4
  have HF5 := Lib.hid hF5
  obtain ⟨w5, hw5⟩ : ∃ w5, w4.alloc (.cells #[.slice b1 u.es.length e1, .int .i64 u.hd.k, .string u.hd.s, .slice b2 u.hd.xs.length e2, .slice b3 u.bd.length e3] 35) = w5 := ⟨_, rfl⟩
  rw [hw5] at HIM HF5 k5 hb5
  have HB5 := Lib.hid (below_step (below_step HB3.out hb4) hb5)
  have K5 := (hb5.block _ (by have := lt_of_block HK3.out; have := hb4.size; omega)).trans ((hb4.block _ (lt_of_block HK3.out)).trans HK3.out)
  have t0 := cell_of_row _ (w4.heap.size) 0 _ _ _ k5
  have t1 := cell_of_row _ (w4.heap.size) 1 _ _ _ k5
  have t2 := cell_of_row _ (w4.heap.size) 2 _ _ _ k5
  have t3 := cell_of_row _ (w4.heap.size) 3 _ _ _ k5
  have t4 := cell_of_row _ (w4.heap.size) 4 _ _ _ k5
  simp only [List.getElem?_toArray, List.getElem?_cons_zero, List.getElem?_cons_succ] at t0 t1 t2 t3 t4
  have HK5 := Lib.hid K5
  have Hk5 := Lib.hid k5
  clear hb4 hb5 hF5 k5 K5 g1 g2 g3 HT2 HK3 p0 p1 p2 p3 p4
  go_wp2_with fail
  refine HIM.out.mono ?_
  rintro e w6 ⟨rfl, hb6⟩
  have hne : ((ruleAns u).toList != (ruleAns u).toList) = false := by simp
  have HB6 := Lib.hid (below_step HB5.out hb6)
  have K6 := (hb6.block _ (lt_of_block HK5.out)).trans HK5.out
  have k6 := (hb6.block _ (lt_of_block Hk5.out)).trans Hk5.out
  clear t0 t1 t2 t3 t4
  have y0 := cell_of_row _ (W.heap.size) 0 _ _ _ K6
  have y1 := cell_of_row _ (W.heap.size) 1 _ _ _ K6
  have y2 := cell_of_row _ (W.heap.size) 2 _ _ _ K6
  have y3 := cell_of_row _ (W.heap.size) 3 _ _ _ K6
  have y4 := cell_of_row _ (W.heap.size) 4 _ _ _ K6
  simp only [List.getElem?_toArray, List.getElem?_cons_zero, List.getElem?_cons_succ] at y0 y1 y2 y3 y4
  have t0 := cell_of_row _ (w4.heap.size) 0 _ _ _ k6
  have t1 := cell_of_row _ (w4.heap.size) 1 _ _ _ k6
  have t2 := cell_of_row _ (w4.heap.size) 2 _ _ _ k6
  have t3 := cell_of_row _ (w4.heap.size) 3 _ _ _ k6
  have t4 := cell_of_row _ (w4.heap.size) 4 _ _ _ k6
  simp only [List.getElem?_toArray, List.getElem?_cons_zero, List.getElem?_cons_succ] at t0 t1 t2 t3 t4
  have hg1 : W.heap.size < w6.heap.size := lt_of_block K6
  have hg2 : w4.heap.size < w6.heap.size := lt_of_block k6
  have HF6 := Lib.hid (FRu_keeps.1 _ _ _ _ _ HF5.out (Same.below (fun b h => Nat.lt_of_lt_of_le h.2 (by have := lt_of_block Hk5.out; omega)) hb6))
  have HSL := Lib.hid (show ∀ b, Seg w3.heap.size w4.heap.size b → b < w6.heap.size from fun b h => by have := h.2; omega)
  have HT3 := Lib.hid (fun (w' : World) (h : Below w6.heap.size w6 w') => toRule_any u _ _ w' (HARG.out w' (below_step HB6.out h)) (HLT.out w' (below_step HB6.out h)) hw)
  have HEQ := Lib.hid (fun (w7 w' : World) (h : Below w6.heap.size w6 w7) (h2 : Below w7.heap.size w7 w') (lo : Nat) (us : List Value) (hF : FRu (Seg lo w7.heap.size) w7 us u) =>
    eqRule_any u _ us _ _ w' (FRu_keeps.1 _ _ _ _ _ HF6.out (Same.below HSL.out (below_step h h2))) (FRu_keeps.1 _ _ _ _ _ hF (Same.below (fun b h => h.2) h2)) (fun b hb => Nat.lt_of_lt_of_le (HSL.out b hb) (below_step h h2).size) (fun b hb => Nat.lt_of_lt_of_le hb.2 h2.size) (by omega))
  have hB0 : Below w6.heap.size w6 w6 := Below.refl _ _
  clear hb6 K6 k6 HIM HK5 Hk5 HF5 hd
  go_wp2
  go_region_held3 (fun w' => w'.cell? ⟨W.heap.size, 0, none⟩ = some (.slice aes u.es.length ces) ∧ w'.cell? ⟨W.heap.size, 1, none⟩ = some (.int .i64 u.hd.k) ∧ w'.cell? ⟨W.heap.size, 2, none⟩ = some (.string u.hd.s) ∧ w'.cell? ⟨W.heap.size, 3, none⟩ = some (.slice ahd u.hd.xs.length chd) ∧ w'.cell? ⟨W.heap.size, 4, none⟩ = some (.slice abd u.bd.length cbd) ∧ w'.cell? ⟨w4.heap.size, 0, none⟩ = some (.slice b1 u.es.length e1) ∧ w'.cell? ⟨w4.heap.size, 1, none⟩ = some (.int .i64 u.hd.k) ∧ w'.cell? ⟨w4.heap.size, 2, none⟩ = some (.string u.hd.s) ∧ w'.cell? ⟨w4.heap.size, 3, none⟩ = some (.slice b2 u.hd.xs.length e2) ∧ w'.cell? ⟨w4.heap.size, 4, none⟩ = some (.slice b3 u.bd.length e3) ∧ Below w6.heap.size w6 w')
        (refine ⟨?_, ?_, ?_, ?_, ?_, ?_, ?_, ?_, ?_, ?_, ?_⟩ <;> (first | assumption | (simp [*]; done) | (apply Below.drew; assumption)))
        (first
          | (go_at_call 6
             refine (HT3.out _ (by first | assumption | (apply Below.drew; assumption))).mono ?_
             rintro e7 w7 ⟨us7, rfl, hF7, hb7⟩
             have hb7' : Below w6.heap.size w6 w7 := below_keep (by first | assumption | (apply Below.drew; assumption)) hb7
             have HF7 := Lib.hid hF7
             obtain ⟨m1, n1, m2, n2, m3, n3, rfl, _, _, _⟩ := hF7
             have z70 := (hb7'.cell (p := ⟨W.heap.size, 0, none⟩) hg1).trans y0
             have z71 := (hb7'.cell (p := ⟨W.heap.size, 1, none⟩) hg1).trans y1
             have z72 := (hb7'.cell (p := ⟨W.heap.size, 2, none⟩) hg1).trans y2
             have z73 := (hb7'.cell (p := ⟨W.heap.size, 3, none⟩) hg1).trans y3
             have z74 := (hb7'.cell (p := ⟨W.heap.size, 4, none⟩) hg1).trans y4
             have x70 := (hb7'.cell (p := ⟨w4.heap.size, 0, none⟩) hg2).trans t0
             have x71 := (hb7'.cell (p := ⟨w4.heap.size, 1, none⟩) hg2).trans t1
             have x72 := (hb7'.cell (p := ⟨w4.heap.size, 2, none⟩) hg2).trans t2
             have x73 := (hb7'.cell (p := ⟨w4.heap.size, 3, none⟩) hg2).trans t3
             have x74 := (hb7'.cell (p := ⟨w4.heap.size, 4, none⟩) hg2).trans t4
             clear hb7)
          | (go_at_call 8
             refine (HEQ.out w7 _ hb7' (by first | exact Below.refl _ _ | exact (Below.refl _ _).drew) _ _ HF7.out).mono ?_
             rintro e8 w8 ⟨rfl, hb8⟩
             have hb8' : Below w6.heap.size w6 w8 := below_keep hb7' (by first | exact hb8 | exact hb8)
             have z80 := (hb8'.cell (p := ⟨W.heap.size, 0, none⟩) hg1).trans y0
             have z81 := (hb8'.cell (p := ⟨W.heap.size, 1, none⟩) hg1).trans y1
             have z82 := (hb8'.cell (p := ⟨W.heap.size, 2, none⟩) hg1).trans y2
             have z83 := (hb8'.cell (p := ⟨W.heap.size, 3, none⟩) hg1).trans y3
             have z84 := (hb8'.cell (p := ⟨W.heap.size, 4, none⟩) hg1).trans y4
             have x80 := (hb8'.cell (p := ⟨w4.heap.size, 0, none⟩) hg2).trans t0
             have x81 := (hb8'.cell (p := ⟨w4.heap.size, 1, none⟩) hg2).trans t1
             have x82 := (hb8'.cell (p := ⟨w4.heap.size, 2, none⟩) hg2).trans t2
             have x83 := (hb8'.cell (p := ⟨w4.heap.size, 3, none⟩) hg2).trans t3
             have x84 := (hb8'.cell (p := ⟨w4.heap.size, 4, none⟩) hg2).trans t4
             clear hb8)
          | fail)
  go_wp2
  go_ret
  exact ⟨rfl, below_step HB6.out (by assumption)⟩

end Go.Proofs.Ytacchpbfhoanoaa.Pr
