/-
  PLACES WITHIN AN EXP, in both; impl.partsOf, hasForm, isExpPlace; an empty row; whether a rule has the form.
-/
import Derived.Test.YtilijbpbnlnhlaaGreatPV3
import Derived.Test.YtilijbpbnlnhlaaGreatPVA
import Derived.Test.YtilijbpbnlnhlaaGreatPV6
import Derived.Test.YtilijbpbnlnhlaaGreatPXB
import Derived.Test.YtilijbpbnlnhlaaGreatPIA
namespace Go.Proofs.YtilijbpbnlnhlaaGreat.Pr
open Go Go.RowKit Go.Maps Go.WideMaps Go.Sort Go.Proofs

open Classical in
/-- Those of the places within n that stand ahead of i. -/
noncomputable def partsTo (es : List It) (n i : Nat) : List Nat := (List.range i).filter fun m => decide (In es allE n m)
theorem partsTo_in {es : List It} {n i : Nat} (h : In es allE n i) : partsTo es n (i + 1) = partsTo es n i ++ [i] := by
  unfold partsTo
  rw [List.range_succ, List.filter_append]
  simp [h]
theorem partsTo_out {es : List It} {n i : Nat} (h : ¬ In es allE n i) : partsTo es n (i + 1) = partsTo es n i := by
  unfold partsTo
  rw [List.range_succ, List.filter_append]
  simp [h]
theorem ruleAns_some {u : Ru} (h : RuleOk u) : ((ruleAns u).toList == []) = false := by
  rw [ruleAns_ok h]
  have hne0 : (ruleTxt u).size ≠ 0 := by unfold ruleTxt; rw [ByteArray.size_append]; show _ + 1 ≠ 0; omega
  rw [beq_eq_false_iff_ne]
  intro h
  have h2 := congrArg List.length h
  rw [ByteArray.toList_eq, Array.length_toList] at h2
  exact hne0 h2
theorem ruleAns_none {u : Ru} (h : ¬ RuleOk u) : ((ruleAns u).toList == []) = true := by
  rw [ruleAns_no h, ByteArray.toList_eq]
  rfl
theorem nil_row (w : World) (h : Nat) (hh : w.heap.size = h) : (w.alloc (.cells #[] 9)).ownsRow h 9 1 (.slice (some ⟨h, 0, none⟩) 0 0) 0 (txtCells []) := by
  subst hh
  exact ⟨rfl, .inr ⟨w.heap.size, 0, #[], rfl, Nat.le_refl _, heap_alloc_new w _, Nat.le_refl _, by unfold maxLen; omega, rfl, rfl⟩⟩

set_option maxRecDepth 100000 in
set_option maxHeartbeats 2000000 in
theorem entersAll : Enters (.func (.func 88) #[] #[]) allE := by
  refine ⟨_, rfl, enters_of Tryz.func88 (by kernel_rfl) rfl, fun w x a c => ?_⟩
  have hb0 : Below w.heap.size w (w.alloc (.cells #[.int .i64 x.k, .string x.s, .slice a x.xs.length c] 49)) := (Below.refl _ _).alloc (Nat.le_refl _) _
  generalize x.k = kk at *
  generalize x.s = ss at *
  generalize x.xs.length = nn at *
  go_enter Tryz.func88, Tryz.ntmps88
  go_wp2
  go_ret
  exact ⟨rfl, by first | exact hb0 | exact Below.refl _ _⟩

set_option maxRecDepth 100000 in
set_option maxHeartbeats 2000000 in
theorem partsOf_any (u : Ru) (n : Nat) (vs : List Value) (S : Nat → Prop) (w : World) (hF : FRu S w vs u) (hS : ∀ b, S b → b < w.heap.size) (T : TreeOk u.es) (hn : n < u.es.length) :
    Calls Tryz.prog 72 #[.agg vs.toArray, .int .i64 (n : Int)] w fun e w' => (∃ (g cap : Nat), e = .returned (.slice (some ⟨g, 0, none⟩) (parts u.es allE n).length cap) ∧ w'.ownsRow w.heap.size 3 1 (.slice (some ⟨g, 0, none⟩) (parts u.es allE n).length cap) (parts u.es allE n).length (intCells (ints (parts u.es allE n)))) ∧ Below w.heap.size w w' := by
  have hF0 := hF
  obtain ⟨aes, ces, ahd, chd, abd, cbd, rfl, r0, r1, r2⟩ := hF
  have hb0 : Below w.heap.size w (w.alloc (.cells #[.slice aes u.es.length ces, .int .i64 u.hd.k, .string u.hd.s, .slice ahd u.hd.xs.length chd, .slice abd u.bd.length cbd] 36)) := (Below.refl _ _).alloc (Nat.le_refl _) _
  have k0 := heap_alloc_new w (.cells #[.slice aes u.es.length ces, .int .i64 u.hd.k, .string u.hd.s, .slice ahd u.hd.xs.length chd, .slice abd u.bd.length cbd] 36)
  obtain ⟨w0, hw0⟩ : ∃ w0, w.alloc (.cells #[.slice aes u.es.length ces, .int .i64 u.hd.k, .string u.hd.s, .slice ahd u.hd.xs.length chd, .slice abd u.bd.length cbd] 36) = w0 := ⟨_, rfl⟩
  rw [hw0] at hb0 k0
  have HPW := Lib.hid (partsWhere_any u n _ allE entersAll _ S w0 (FRu_keeps.1 _ _ _ _ _ hF0 (Same.below hS hb0)) (fun b h => Nat.lt_of_lt_of_le (hS b h) hb0.size) T hn)
  have HB0 := Lib.hid hb0
  have q0 := cell_of_row _ w.heap.size 0 _ _ _ k0
  have q1 := cell_of_row _ w.heap.size 1 _ _ _ k0
  have q2 := cell_of_row _ w.heap.size 2 _ _ _ k0
  have q3 := cell_of_row _ w.heap.size 3 _ _ _ k0
  have q4 := cell_of_row _ w.heap.size 4 _ _ _ k0
  simp only [List.getElem?_toArray, List.getElem?_cons_zero, List.getElem?_cons_succ] at q0 q1 q2 q3 q4
  clear hF0 r0 r1 r2 hS hb0 k0 T hn
  go_enter Tryz.func72, Tryz.ntmps72
  go_wp2_with fail
  refine HPW.out.mono ?_
  rintro e w1 ⟨⟨g, cap, rfl, hown⟩, hb1⟩
  have HP := Lib.hid (And.intro (owns_mono HB0.out.size hown) (below_step HB0.out hb1))
  clear hown hb1 HPW
  go_wp2
  go_ret
  exact ⟨⟨g, cap, rfl, HP.out.1⟩, HP.out.2⟩

set_option maxRecDepth 100000 in
set_option maxHeartbeats 2000000 in
theorem hasForm_any (u : Ru) (vs : List Value) (S : Nat → Prop) (w : World) (hF : FRu S w vs u) (hS : ∀ b, S b → b < w.heap.size) (hw : u.wt ≤ 1048576) :
    Calls Tryz.prog 28 #[.agg vs.toArray] w fun e w' => (∃ r : Bool, e = .returned (.bool r) ∧ (r = true ↔ RuleOk u)) ∧ Below w.heap.size w w' := by
  have hF0 := hF
  obtain ⟨aes, ces, ahd, chd, abd, cbd, rfl, r0, r1, r2⟩ := hF
  have hb0 : Below w.heap.size w (w.alloc (.cells #[.slice aes u.es.length ces, .int .i64 u.hd.k, .string u.hd.s, .slice ahd u.hd.xs.length chd, .slice abd u.bd.length cbd] 36)) := (Below.refl _ _).alloc (Nat.le_refl _) _
  have k0 := heap_alloc_new w (.cells #[.slice aes u.es.length ces, .int .i64 u.hd.k, .string u.hd.s, .slice ahd u.hd.xs.length chd, .slice abd u.bd.length cbd] 36)
  obtain ⟨w0, hw0⟩ : ∃ w0, w.alloc (.cells #[.slice aes u.es.length ces, .int .i64 u.hd.k, .string u.hd.s, .slice ahd u.hd.xs.length chd, .slice abd u.bd.length cbd] 36) = w0 := ⟨_, rfl⟩
  rw [hw0] at hb0 k0
  have HI := Lib.hid (implRule_any u _ S w0 (FRu_keeps.1 _ _ _ _ _ hF0 (Same.below hS hb0)) (fun b h => Nat.lt_of_lt_of_le (hS b h) hb0.size) hw)
  have HB0 := Lib.hid hb0
  have q0 := cell_of_row _ w.heap.size 0 _ _ _ k0
  have q1 := cell_of_row _ w.heap.size 1 _ _ _ k0
  have q2 := cell_of_row _ w.heap.size 2 _ _ _ k0
  have q3 := cell_of_row _ w.heap.size 3 _ _ _ k0
  have q4 := cell_of_row _ w.heap.size 4 _ _ _ k0
  simp only [List.getElem?_toArray, List.getElem?_cons_zero, List.getElem?_cons_succ] at q0 q1 q2 q3 q4
  clear hF0 r0 r1 r2 hS hb0 k0 hw
  go_enter Tryz.func28, Tryz.ntmps28
  go_wp2_with fail
  refine HI.out.mono ?_
  rintro e w1 ⟨rfl, hb1⟩
  have HB1 := Lib.hid (below_step HB0.out hb1)
  clear hb1 HI q0 q1 q2 q3 q4
  by_cases hok : RuleOk u
  · have hne : (ruleAns u).toList.isEmpty = false := by have := ruleAns_some hok; cases h : (ruleAns u).toList with
      | nil => rw [h] at this; cases this
      | cons a l => rfl
    have HOK := Lib.hid hok
    clear hok
    generalize ruleAns u = A at *
    go_wp2
    go_ret
    exact ⟨⟨true, rfl, by simp [HOK.out]⟩, HB1.out⟩
  · have hne : (ruleAns u).toList.isEmpty = true := by have := ruleAns_none hok; cases h : (ruleAns u).toList with
      | nil => rfl
      | cons a l => rw [h] at this; cases this
    have HOK := Lib.hid hok
    clear hok
    generalize ruleAns u = A at *
    go_wp2
    go_ret
    exact ⟨⟨false, rfl, by simp [HOK.out]⟩, HB1.out⟩

theorem own_ints {w : World} {base g cap : Nat} {L : List Nat} (h : w.ownsRow base 3 1 (.slice (some ⟨g, 0, none⟩) L.length cap) L.length (intCells (ints L))) : IntsIn (Seg base w.heap.size) w (some ⟨g, 0, none⟩) (ints L) := by
  obtain ⟨cur, h1, h2, _⟩ := own_block h
  intro i hi
  rw [ints_len] at hi
  refine ⟨g, 0, rfl, ⟨h1, lt_of_block h2⟩, ?_⟩
  rw [Nat.zero_add, h.cellAt i (by omega)]
  simp [intCells, ints_len, hi]

end Go.Proofs.YtilijbpbnlnhlaaGreat.Pr
