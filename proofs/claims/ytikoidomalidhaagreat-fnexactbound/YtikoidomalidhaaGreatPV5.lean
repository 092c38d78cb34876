/-
  THE WALK of spec.ExpVars.
-/
import Derived.Test.YtikoidomalidhaaGreatPV4
namespace Go.Proofs.YtikoidomalidhaaGreat.Pr
open Go Go.RowKit Go.Maps Go.WideMaps

open Classical in
/-- What ExpVars answers. -/
noncomputable def varsAns (u : Ru) (n : Int) : List ByteArray := if RuleOk u ∧ 0 ≤ n ∧ n < (u.es.length : Int) then varsIn u.es n.toNat else []
theorem varsAns_ok {u : Ru} {n : Nat} (h : RuleOk u) (hn : n < u.es.length) : varsAns u (n : Int) = varsIn u.es n := by
  unfold varsAns
  rw [if_pos ⟨h, by omega, by omega⟩]
  rfl
theorem varsAns_no {u : Ru} {n : Int} (h : ¬ (RuleOk u ∧ 0 ≤ n ∧ n < (u.es.length : Int))) : varsAns u n = [] := if_neg h
theorem varsIn_len (es : List It) (n : Nat) : (varsIn es n).length ≤ n + 1 := by rw [← varsTo_all]; exact varsTo_len es n (n + 1)
theorem varsAns_len (u : Ru) (n : Int) : (varsAns u n).length ≤ 60 := by
  by_cases h : RuleOk u ∧ 0 ≤ n ∧ n < (u.es.length : Int)
  · unfold varsAns
    rw [if_pos h]
    have := varsIn_len u.es n.toNat
    have := h.1.good.few
    omega
  · rw [varsAns_no h]; simp
theorem ruleAns_some {u : Ru} (h : RuleOk u) : ((ruleAns u).toList == []) = false := by
  rw [ruleAns_ok h]
  have hne0 : (ruleTxt u).size ≠ 0 := by unfold ruleTxt; rw [ByteArray.size_append]; show _ + 1 ≠ 0; omega
  rw [beq_eq_false_iff_ne]
  intro h
  have h2 := congrArg List.length h
  rw [ByteArray.toList_eq, Array.length_toList] at h2
  exact hne0 h2
theorem ruleAns_none {u : Ru} (h : ¬ RuleOk u) : ((ruleAns u).toList == []) = true := by
  rw [ruleAns_no h, ByteArray.toList_eq]
  rfl
theorem nil_row (w : World) (h : Nat) (hh : w.heap.size = h) : (w.alloc (.cells #[] 9)).ownsRow h 9 1 (.slice (some ⟨h, 0, none⟩) 0 0) 0 (txtCells []) := by
  subst hh
  exact ⟨rfl, .inr ⟨w.heap.size, 0, #[], rfl, Nat.le_refl _, heap_alloc_new w _, Nat.le_refl _, by unfold maxLen; omega, rfl, rfl⟩⟩

/-- What both answer, and where it lies. -/
def VarsPost (u : Ru) (n : Int) (w : World) (e : Ending) (w' : World) : Prop := (∃ v : Value, e = .returned v ∧ w'.ownsRow w.heap.size 9 1 v (varsAns u n).length (txtCells (varsAns u n))) ∧ Below w.heap.size w w'

set_option maxRecDepth 100000 in
set_option maxHeartbeats 2000000 in
theorem specExpVars_any (u : Ru) (n : Int) (vs : List Value) (S : Nat → Prop) (w : World) (hF : FRu S w vs u) (hS : ∀ b, S b → b < w.heap.size) (hw : u.wt ≤ 1048576) : Calls Tryz.prog 14 #[.agg vs.toArray, .int .i64 n] w (VarsPost u n w) := by
  have hF0 := hF
  obtain ⟨aes, ces, ahd, chd, abd, cbd, rfl, r0, r1, r2⟩ := hF
  have hb0 : Below w.heap.size w (w.alloc (.cells #[.slice aes u.es.length ces, .int .i64 u.hd.k, .string u.hd.s, .slice ahd u.hd.xs.length chd, .slice abd u.bd.length cbd] 36)) := (Below.refl _ _).alloc (Nat.le_refl _) _
  have k0 := heap_alloc_new w (.cells #[.slice aes u.es.length ces, .int .i64 u.hd.k, .string u.hd.s, .slice ahd u.hd.xs.length chd, .slice abd u.bd.length cbd] 36)
  have HSR := Lib.hid (specRule_any u _ S _ (FRu_keeps.1 _ _ _ _ _ hF0 (Same.below hS hb0)) (fun b h => Nat.lt_of_lt_of_le (hS b h) hb0.size) hw)
  obtain ⟨w0, hw0⟩ : ∃ w0, w.alloc (.cells #[.slice aes u.es.length ces, .int .i64 u.hd.k, .string u.hd.s, .slice ahd u.hd.xs.length chd, .slice abd u.bd.length cbd] 36) = w0 := ⟨_, rfl⟩
  rw [hw0] at hb0 k0 HSR
  have hel : u.es.length ≤ 1048576 := by unfold Ru.wt wtExpS at hw; omega
  have q0 := cell_of_row _ w.heap.size 0 _ _ _ k0
  have q1 := cell_of_row _ w.heap.size 1 _ _ _ k0
  have q2 := cell_of_row _ w.heap.size 2 _ _ _ k0
  have q3 := cell_of_row _ w.heap.size 3 _ _ _ k0
  have q4 := cell_of_row _ w.heap.size 4 _ _ _ k0
  simp only [List.getElem?_toArray, List.getElem?_cons_zero, List.getElem?_cons_succ] at q0 q1 q2 q3 q4
  have HF0 := Lib.hid hF0
  have HS := Lib.hid hS
  have HB0 := Lib.hid hb0
  have HK0 := Lib.hid k0
  clear hF0 r0 r1 r2 hS hb0 k0 hw
  go_enter Tryz.func14, Tryz.ntmps14
  go_wp2_with fail
  refine HSR.out.mono ?_
  rintro e w1 ⟨rfl, hb1⟩
  have hb01 := below_step HB0.out hb1
  have HB1 := Lib.hid hb01
  have K1 := (hb1.block _ (lt_of_block HK0.out)).trans HK0.out
  clear q0 q1 q2 q3 q4 HSR
  by_cases hok : RuleOk u
  · have hne := ruleAns_some hok
    have HOK := Lib.hid hok
    generalize ruleAns u = A at *
    have q0 := cell_of_row _ w.heap.size 0 _ _ _ K1
    have q1 := cell_of_row _ w.heap.size 1 _ _ _ K1
    have q2 := cell_of_row _ w.heap.size 2 _ _ _ K1
    have q3 := cell_of_row _ w.heap.size 3 _ _ _ K1
    have q4 := cell_of_row _ w.heap.size 4 _ _ _ K1
    simp only [List.getElem?_toArray, List.getElem?_cons_zero, List.getElem?_cons_succ] at q0 q1 q2 q3 q4
    have HBT := Lib.hid (between_any n 0 ((u.es.length : Int) - 1) w1)
    clear hok K1 hb1 hb01
    go_wp2_with fail
    refine HBT.out.mono ?_
    rintro e w2 ⟨rfl, rfl⟩
    clear HBT
    by_cases hin : 0 ≤ n ∧ n < (u.es.length : Int)
    · have hd : (decide (0 ≤ n) && decide (n ≤ (u.es.length : Int) - 1)) = true := by simp; omega
      rw [hd]
      obtain ⟨m, rfl⟩ := Int.eq_ofNat_of_zero_le hin.1
      have hml : m < u.es.length := by omega
      have HV := Lib.hid (specVars_any u m _ S w2 (FRu_keeps.1 _ _ _ _ _ HF0.out (Same.below HS.out HB1.out)) (fun b h => Nat.lt_of_lt_of_le (HS.out b h) HB1.out.size) HOK.out.good.tree hml)
      clear hd hin
      go_wp2_with fail
      refine HV.out.mono ?_
      rintro e w3 ⟨⟨v, rfl, hown⟩, hb3⟩
      have HP := Lib.hid (show VarsPost u (m : Int) w (.returned v) w3 from ⟨⟨v, rfl, by rw [varsAns_ok HOK.out hml]; exact owns_mono HB1.out.size hown⟩, below_step HB1.out hb3⟩)
      obtain ⟨av, cv, rfl⟩ := owns_shape hown
      clear hown hb3 HV
      go_wp2
      go_ret
      exact HP.out
    · have hd : (decide (0 ≤ n) && decide (n ≤ (u.es.length : Int) - 1)) = false := by
        rw [Bool.and_eq_false_iff, decide_eq_false_iff_not, decide_eq_false_iff_not]; omega
      rw [hd]
      have hans := varsAns_no (u := u) (n := n) (fun h => hin h.2)
      have hnr := nil_row w2 _ rfl
      have HP := Lib.hid (show VarsPost u n w (.returned (.slice (some ⟨w2.heap.size, 0, none⟩) 0 0)) (w2.alloc (.cells #[] 9)) from ⟨⟨_, rfl, by rw [hans]; exact owns_mono HB1.out.size hnr⟩, below_alloc HB1.out _⟩)
      clear hd hin hans hnr
      go_wp2
      go_ret
      exact HP.out
  · have hne := ruleAns_none hok
    have hans := varsAns_no (u := u) (n := n) (fun h => hok h.1)
    have hnr := nil_row w1 _ rfl
    have HP := Lib.hid (show VarsPost u n w (.returned (.slice (some ⟨w1.heap.size, 0, none⟩) 0 0)) (w1.alloc (.cells #[] 9)) from ⟨⟨_, rfl, by rw [hans]; exact owns_mono HB1.out.size hnr⟩, below_alloc HB1.out _⟩)
    generalize ruleAns u = A at *
    clear hok K1 hb1 hb01 hans hnr
    go_wp2
    go_ret
    exact HP.out

end Go.Proofs.YtikoidomalidhaaGreat.Pr
