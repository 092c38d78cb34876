/-
  What is proved: laws.FnExactGrows answers true at every rule and leaves it as it was: impl.Grows answers as the reference (whether a name is Bound and not Old, or the head makes a term), and writes into no argument.
  Conditions: none.
-/
import Derived.Test.YtilijbpbnlnhlaaGreatPOp
import Derived.Test.YtilijbpbnlnhlaaGreatRows
import Derived.Test.YtilijbpbnlnhlaaGreatPWG
import Derived.ProofKit
import Derived.HandedShaped
import Derived.SizedLaws
import Derived.ChangeOld
import Derived.Carry
import Derived.ChangeSlices
import Derived.SliceStrings
namespace Go.Proofs.YtilijbpbnlnhlaaGreat.Pr
open Go Go.RowKit Go.Maps Go.WideMaps

set_option maxRecDepth 100000 in
set_option maxHeartbeats 8000000 in
theorem law_FnExactGrows (u : Ru) (vs : List Value) (W : World) (hF : FRu (fun b => b < W.heap.size) W vs u) (hf : u.fits) :
    Calls Tryz.prog 5 #[.agg vs.toArray] W fun e w' => e = .returned (.bool true) ∧ Below W.heap.size W w' := by
  have hF1 := hF
  obtain ⟨aes, ces, ahd, chd, abd, cbd, rfl, r0, r1, r2⟩ := hF
  have hb0 : Below W.heap.size W (W.alloc (.cells #[.slice aes u.es.length ces, .int .i64 u.hd.k, .string u.hd.s, .slice ahd u.hd.xs.length chd, .slice abd u.bd.length cbd] 28)) := (Below.refl _ _).alloc (Nat.le_refl _) _
  have k0 := heap_alloc_new W (.cells #[.slice aes u.es.length ces, .int .i64 u.hd.k, .string u.hd.s, .slice ahd u.hd.xs.length chd, .slice abd u.bd.length cbd] 28)
  obtain ⟨W0, hW0⟩ : ∃ W0, W.alloc (.cells #[.slice aes u.es.length ces, .int .i64 u.hd.k, .string u.hd.s, .slice ahd u.hd.xs.length chd, .slice abd u.bd.length cbd] 28) = W0 := ⟨_, rfl⟩
  rw [hW0] at hb0 k0
  have HARG := Lib.hid (fun (w1 : World) (h : Below W.heap.size W w1) => (FRu_keeps.1 _ _ _ _ _ hF1 (Same.below (fun _ h => h) h) : FRu (fun b => b < W.heap.size) w1 _ u))
  have HLT := Lib.hid (fun (w1 : World) (h : Below W.heap.size W w1) (b : Nat) (hb : b < W.heap.size) => Nat.lt_of_lt_of_le hb h.size)
  have HSZ := Lib.hid (szRule_any u _ 1048576 _ W0 (HARG.out W0 hb0) (HLT.out W0 hb0) hf (by omega) (by omega))
  have q0 := cell_of_row _ W.heap.size 0 _ _ _ k0
  have q1 := cell_of_row _ W.heap.size 1 _ _ _ k0
  have q2 := cell_of_row _ W.heap.size 2 _ _ _ k0
  have q3 := cell_of_row _ W.heap.size 3 _ _ _ k0
  have q4 := cell_of_row _ W.heap.size 4 _ _ _ k0
  simp only [List.getElem?_toArray, List.getElem?_cons_zero, List.getElem?_cons_succ] at q0 q1 q2 q3 q4
  have HB0 := Lib.hid hb0
  have HK0 := Lib.hid k0
  clear r0 r1 r2 hF1 hf hb0 k0
  go_enter Tryz.func5, Tryz.ntmps5
  go_wp2_with fail
  refine HSZ.out.mono ?_
  rintro e w1 ⟨⟨r, rfl, hr⟩, hb1⟩
  have HB1 := Lib.hid (below_step HB0.out hb1)
  rcases hr with ⟨hr, _⟩ | ⟨rfl, hwt⟩
  · have hd : decide (r < 0) = true := decide_eq_true hr
    clear HSZ hb1 q0 q1 q2 q3 q4
    go_wp2
    go_ret
    exact ⟨rfl, HB1.out⟩
  have hd : decide ((1048576 : Int) - (u.wt : Int) < 0) = false := decide_eq_false (by omega)
  have HWT := Lib.hid (show u.wt ≤ 1048576 by omega)
  have K1 := (hb1.block _ (lt_of_block HK0.out)).trans HK0.out
  clear q0 q1 q2 q3 q4
  have q0 := cell_of_row _ W.heap.size 0 _ _ _ K1
  have q1 := cell_of_row _ W.heap.size 1 _ _ _ K1
  have q2 := cell_of_row _ W.heap.size 2 _ _ _ K1
  have q3 := cell_of_row _ W.heap.size 3 _ _ _ K1
  have q4 := cell_of_row _ W.heap.size 4 _ _ _ K1
  simp only [List.getElem?_toArray, List.getElem?_cons_zero, List.getElem?_cons_succ] at q0 q1 q2 q3 q4
  have HT1 := Lib.hid (toRule_any u _ _ w1 (HARG.out w1 HB1.out) (HLT.out w1 HB1.out) HWT.out)
  have HK1 := Lib.hid K1
  clear HSZ hb1 K1 hwt
  generalize u.wt = uw at hd
  -- the reference's answer
  go_wp2_with fail
  refine HT1.out.mono ?_
  rintro e w2 ⟨us, rfl, hF2, hb2⟩
  have HB2 := Lib.hid (below_step HB1.out hb2)
  have HK2 := Lib.hid ((hb2.block _ (lt_of_block HK1.out)).trans HK1.out)
  have HSP := Lib.hid (specGrows_any u us _ w2 hF2 (fun b h => h.2) HWT.out)
  obtain ⟨a1, d1, a2, d2, a3, d3, rfl, _, _, _⟩ := hF2
  clear hb2 HT1 q0 q1 q2 q3 q4 HK1
  go_wp2_with fail
  refine HSP.out.mono ?_
  rintro e w3 ⟨rfl, hb3⟩
  have HB3 := Lib.hid (below_step HB2.out hb3)
  have K3 := (hb3.block _ (lt_of_block HK2.out)).trans HK2.out
  have q0 := cell_of_row _ W.heap.size 0 _ _ _ K3
  have q1 := cell_of_row _ W.heap.size 1 _ _ _ K3
  have q2 := cell_of_row _ W.heap.size 2 _ _ _ K3
  have q3 := cell_of_row _ W.heap.size 3 _ _ _ K3
  have q4 := cell_of_row _ W.heap.size 4 _ _ _ K3
  simp only [List.getElem?_toArray, List.getElem?_cons_zero, List.getElem?_cons_succ] at q0 q1 q2 q3 q4
  have HG3 := Lib.hid (lt_of_block K3)
  have HT2 := Lib.hid (toRule_any u _ _ w3 (HARG.out w3 HB3.out) (HLT.out w3 HB3.out) HWT.out)
  have HK3 := Lib.hid K3
  clear hb3 HSP HK2 K3
  -- the argument of the program, copied
  go_wp2_with fail
  refine HT2.out.mono ?_
  rintro e w4 ⟨us, rfl, hF4, hb4⟩
  have hb5 : Below w4.heap.size w4 (w4.alloc (.cells us.toArray 36)) := (Below.refl _ _).alloc (Nat.le_refl _) _
  have hF5 := FRu_keeps.1 _ _ _ _ _ hF4 (Same.below (fun b h => h.2) hb5)
  have k5 := heap_alloc_new w4 (.cells us.toArray 36)
  have HIM := Lib.hid (implGrows_any u us _ _ hF5 (fun b h => Nat.lt_of_lt_of_le h.2 hb5.size) HWT.out)
  obtain ⟨b1, e1, b2, e2, b3, e3, rfl, g1, g2, g3⟩ := hF4
  obtain ⟨w5, hw5⟩ : ∃ w5, w4.alloc (.cells #[.slice b1 u.es.length e1, .int .i64 u.hd.k, .string u.hd.s, .slice b2 u.hd.xs.length e2, .slice b3 u.bd.length e3] 36) = w5 := ⟨_, rfl⟩
  rw [hw5] at HIM hF5 k5 hb5
  have hs5 : w4.heap.size < w5.heap.size := lt_of_block k5
  have HF5 := Lib.hid hF5
  have HB35 := Lib.hid (below_step hb4 hb5)
  have HB5 := Lib.hid (below_step HB3.out HB35.out)
  have HS34 := Lib.hid hb4.size
  have K5 := (HB35.out.block _ (lt_of_block HK3.out)).trans HK3.out
  have t0 := cell_of_row _ w4.heap.size 0 _ _ _ k5
  have t1 := cell_of_row _ w4.heap.size 1 _ _ _ k5
  have t2 := cell_of_row _ w4.heap.size 2 _ _ _ k5
  have t3 := cell_of_row _ w4.heap.size 3 _ _ _ k5
  have t4 := cell_of_row _ w4.heap.size 4 _ _ _ k5
  simp only [List.getElem?_toArray, List.getElem?_cons_zero, List.getElem?_cons_succ] at t0 t1 t2 t3 t4
  have HK5 := Lib.hid K5
  have Hk5 := Lib.hid k5
  clear hb4 hb5 hF5 k5 K5 g1 g2 g3 HT2 HK3 q0 q1 q2 q3 q4
  -- the program's answer
  go_wp2_with fail
  refine HIM.out.mono ?_
  rintro e w7 ⟨rfl, hb6⟩
  have HB7 := Lib.hid (below_step HB5.out hb6)
  have HB57 := Lib.hid hb6
  clear hb6 HIM t0 t1 t2 t3 t4
  have K7 := (HB57.out.block _ (lt_of_block HK5.out)).trans HK5.out
  have k7 := (HB57.out.block _ (lt_of_block Hk5.out)).trans Hk5.out
  have y0 := cell_of_row _ W.heap.size 0 _ _ _ K7
  have y1 := cell_of_row _ W.heap.size 1 _ _ _ K7
  have y2 := cell_of_row _ W.heap.size 2 _ _ _ K7
  have y3 := cell_of_row _ W.heap.size 3 _ _ _ K7
  have y4 := cell_of_row _ W.heap.size 4 _ _ _ K7
  simp only [List.getElem?_toArray, List.getElem?_cons_zero, List.getElem?_cons_succ] at y0 y1 y2 y3 y4
  have t0 := cell_of_row _ w4.heap.size 0 _ _ _ k7
  have t1 := cell_of_row _ w4.heap.size 1 _ _ _ k7
  have t2 := cell_of_row _ w4.heap.size 2 _ _ _ k7
  have t3 := cell_of_row _ w4.heap.size 3 _ _ _ k7
  have t4 := cell_of_row _ w4.heap.size 4 _ _ _ k7
  simp only [List.getElem?_toArray, List.getElem?_cons_zero, List.getElem?_cons_succ] at t0 t1 t2 t3 t4
  have hg1 : W.heap.size < w7.heap.size := lt_of_block K7
  have hg2 : w4.heap.size < w7.heap.size := lt_of_block k7
  have HF7 := Lib.hid (FRu_keeps.1 _ _ _ _ _ HF5.out (Same.below (fun b h => Nat.lt_trans h.2 hs5) HB57.out))
  have HSL := Lib.hid (show ∀ b, Seg w3.heap.size w4.heap.size b → b < w7.heap.size from fun b h => by have := h.2; omega)
  have HT3 := Lib.hid (fun (w' : World) (h : Below w7.heap.size w7 w') => toRule_any u _ _ w' (HARG.out w' (below_step HB7.out h)) (HLT.out w' (below_step HB7.out h)) HWT.out)
  have HEQ := Lib.hid (fun (w8 w' : World) (h : Below w7.heap.size w7 w8) (h2 : Below w8.heap.size w8 w') (lo : Nat) (us : List Value) (hF : FRu (Seg lo w8.heap.size) w8 us u) =>
    eqRule_any u _ us _ _ w' (FRu_keeps.1 _ _ _ _ _ HF7.out (Same.below HSL.out (below_step h h2))) (FRu_keeps.1 _ _ _ _ _ hF (Same.below (fun b h => h.2) h2)) (fun b hb => Nat.lt_of_lt_of_le (HSL.out b hb) (below_step h h2).size) (fun b hb => Nat.lt_of_lt_of_le hb.2 h2.size) (by have := HWT.out; omega))
  have hB0 : Below w7.heap.size w7 w7 := Below.refl _ _
  have HK7 := Lib.hid K7
  have Hk7 := Lib.hid k7
  clear K7 k7 HK5 Hk5 HF5 hd
  generalize growsAns u = ga
  have hnn : (ga != ga) = false := by simp
  go_wp2
  go_region_held3 (fun w' => w'.cell? ⟨W.heap.size, 0, none⟩ = some (.slice aes u.es.length ces) ∧ w'.cell? ⟨W.heap.size, 1, none⟩ = some (.int .i64 u.hd.k) ∧ w'.cell? ⟨W.heap.size, 2, none⟩ = some (.string u.hd.s) ∧ w'.cell? ⟨W.heap.size, 3, none⟩ = some (.slice ahd u.hd.xs.length chd) ∧ w'.cell? ⟨W.heap.size, 4, none⟩ = some (.slice abd u.bd.length cbd) ∧ w'.cell? ⟨w4.heap.size, 0, none⟩ = some (.slice b1 u.es.length e1) ∧ w'.cell? ⟨w4.heap.size, 1, none⟩ = some (.int .i64 u.hd.k) ∧ w'.cell? ⟨w4.heap.size, 2, none⟩ = some (.string u.hd.s) ∧ w'.cell? ⟨w4.heap.size, 3, none⟩ = some (.slice b2 u.hd.xs.length e2) ∧ w'.cell? ⟨w4.heap.size, 4, none⟩ = some (.slice b3 u.bd.length e3) ∧ Below w7.heap.size w7 w')
        (refine ⟨?_, ?_, ?_, ?_, ?_, ?_, ?_, ?_, ?_, ?_, ?_⟩ <;> (first | assumption | (simp [*]; done) | (apply Below.drew; assumption)))
        (first
          | (go_at_call 8
             refine (HT3.out _ (by first | assumption | (apply Below.drew; assumption))).mono ?_
             rintro e8 w8 ⟨us8, rfl, hF8, hb8⟩
             have hb8' : Below w7.heap.size w7 w8 := below_keep (by first | assumption | (apply Below.drew; assumption)) hb8
             have HF8 := Lib.hid hF8
             obtain ⟨m1, n1, m2, n2, m3, n3, rfl, _, _, _⟩ := hF8
             have z80 := (hb8'.cell (p := ⟨W.heap.size, 0, none⟩) hg1).trans y0
             have z81 := (hb8'.cell (p := ⟨W.heap.size, 1, none⟩) hg1).trans y1
             have z82 := (hb8'.cell (p := ⟨W.heap.size, 2, none⟩) hg1).trans y2
             have z83 := (hb8'.cell (p := ⟨W.heap.size, 3, none⟩) hg1).trans y3
             have z84 := (hb8'.cell (p := ⟨W.heap.size, 4, none⟩) hg1).trans y4
             have x80 := (hb8'.cell (p := ⟨w4.heap.size, 0, none⟩) hg2).trans t0
             have x81 := (hb8'.cell (p := ⟨w4.heap.size, 1, none⟩) hg2).trans t1
             have x82 := (hb8'.cell (p := ⟨w4.heap.size, 2, none⟩) hg2).trans t2
             have x83 := (hb8'.cell (p := ⟨w4.heap.size, 3, none⟩) hg2).trans t3
             have x84 := (hb8'.cell (p := ⟨w4.heap.size, 4, none⟩) hg2).trans t4
             clear hb8)
          | (go_at_call 11
             refine (HEQ.out w8 _ hb8' (by first | exact Below.refl _ _ | exact (Below.refl _ _).drew) _ _ HF8.out).mono ?_
             rintro e9 w9 ⟨rfl, hb9⟩
             have hb9' : Below w7.heap.size w7 w9 := below_keep hb8' (by first | exact hb9 | exact hb9)
             have z90 := (hb9'.cell (p := ⟨W.heap.size, 0, none⟩) hg1).trans y0
             have z91 := (hb9'.cell (p := ⟨W.heap.size, 1, none⟩) hg1).trans y1
             have z92 := (hb9'.cell (p := ⟨W.heap.size, 2, none⟩) hg1).trans y2
             have z93 := (hb9'.cell (p := ⟨W.heap.size, 3, none⟩) hg1).trans y3
             have z94 := (hb9'.cell (p := ⟨W.heap.size, 4, none⟩) hg1).trans y4
             have x90 := (hb9'.cell (p := ⟨w4.heap.size, 0, none⟩) hg2).trans t0
             have x91 := (hb9'.cell (p := ⟨w4.heap.size, 1, none⟩) hg2).trans t1
             have x92 := (hb9'.cell (p := ⟨w4.heap.size, 2, none⟩) hg2).trans t2
             have x93 := (hb9'.cell (p := ⟨w4.heap.size, 3, none⟩) hg2).trans t3
             have x94 := (hb9'.cell (p := ⟨w4.heap.size, 4, none⟩) hg2).trans t4
             clear hb9)
          | fail)
  have HB9 := Lib.hid (below_step HB7.out hb9')
  clear HT3 HEQ hB0 hb8' hb9' HF8 HF7 HK7 Hk7 y0 y1 y2 y3 y4 t0 t1 t2 t3 t4 z80 z81 z82 z83 z84 x80 x81 x82 x83 x84 z90 z91 z92 z93 z94
  go_wp2
  go_ret
  exact ⟨rfl, HB9.out⟩

end Go.Proofs.YtilijbpbnlnhlaaGreat.Pr

namespace Go.Proofs.YtilijbpbnlnhlaaGreat
open Go Go.ChangeShapes Go.WideShapes Go.ChangeAt Go.WideMaps Go.WideElems Go.RowKit

theorem grows_own : ownKnob Tryz.prog.godebug = none := by kernel_rfl

set_option maxRecDepth 100000 in
set_option maxHeartbeats 2000000 in
theorem fnExactGrows_lifted (os : Os) (started : os.Started) (H : Type) (enc : TypeId × Value → H) :
    ReturnsInHanded {} Tryz.checked os 5 .any (Rows.fnExactGrowsSpec.pre6 enc Tryz.prog Tryz.f5 Rows.fnExactGrowsRow.domain false) (Rows.fnExactGrowsSpec.post enc Tryz.prog Tryz.f5 false true false false) := by
  refine returnsInHanded_of_change (C := Tryz.checked) grows_own started (by kernel_rfl) Tryz.func5
    (ChangeSpec.witness6 (enc := enc) (C := Tryz.checked) false ⟨#[], #[.agg #[.slice none 0 0, .int .i64 0, .string ⟨#[]⟩, .slice none 0 0, .slice none 0 0]], []⟩ 16 (by kernel_rfl) (by kernel_rfl) (by kernel_rfl) (by kernel_rfl)) ?_
  intro W base args ds gs before hval0 hW _ _
  have hval : ∀ (j : Nat) t v, Tryz.f5.params[j]? = some t → args[j]? = some v → Value.okWide Tryz.prog W .any base t v := hval0
  have hW' := hW
  obtain ⟨p, q, hA0, hV, rfl, hfz, hnd⟩ := hW
  have hA : DataW.TrodAll enc Tryz.prog W 0 (fun _ => true) true Tryz.f5.params.toList args.toList ds p := hA0
  rw [Tryz.params5] at hA hval
  obtain ⟨v0, d0, rfl, rfl, h0⟩ := trodAll_one hA
  obtain ⟨rfl, rfl⟩ := trodVars_none hV
  obtain ⟨cs0, rfl, hcs0⟩ := okWide_struct Tryz.underlying28 (hval 0 28 v0 rfl rfl)
  have k0 := h0
  have lt0 : ∀ x ∈ p, x.block < W.heap.size := by obtain ⟨m, hm⟩ := k0; exact DataW.trod_lt m _ _ _ hm
  obtain ⟨u, hu, hfit⟩ : ∃ u : Pr.Ru, Pr.FRu (fun b => b < W.heap.size) W cs0.toList u ∧ u.fits := by
    obtain ⟨fuel, hf⟩ := h0
    exact Pr.open_Rule fuel _ _ hf
  clear hA0 hval0
  simp only [List.append_nil] at hW'
  refine (Pr.law_FnExactGrows u cs0.toList W hu hfit).mono fun e W' ⟨he, hnx⟩ => ?_
  subst he
  refine ⟨_, rfl, _, _, _, [], p, [], hW', ?_, ?_, rfl, hnx.frame _, fun h => by cases h⟩
  · exact trodAll_mk1 (shut_bool Tryz.underlying4 _)
  · exact trodAll_mk1 (Below.trod (by kernel_rfl) (by kernel_rfl) (of_decide_eq_true (by kernel_rfl)) k0 hnx lt0)

theorem fnExactGrows_row : Rows.FnExactGrowsSaid :=
  OpenClaim.holds_of_wide 5 Tryz.f5 rfl rfl rfl rfl rfl rfl rfl ⟨rfl, rfl, rfl, rfl, rfl⟩ rfl rfl rfl rfl rfl (by kernel_rfl) Tryz.func5 (by kernel_rfl)
    (of_decide_eq_true (by kernel_rfl)) (by unfold Func.isWrapper; first | (rw [if_pos (by decide +kernel)]; kernel_rfl) | (rw [if_neg (by decide +kernel)]; exact ⟨rfl, rfl⟩))
    (fun os started H enc _ => fnExactGrows_lifted os started H enc)
#print axioms fnExactGrows_row

end Go.Proofs.YtilijbpbnlnhlaaGreat
