/-
  THE WALKS over spec.ExpValue and impl.ExpValue.
-/
import Derived.Test.YtcohjmbbanjjeaaGreatDoorPY5
namespace Go.Proofs.YtcohjmbbanjjeaaGreatDoor.Pr
open Go Go.RowKit Go.Maps Go.WideMaps

set_option maxRecDepth 100000 in
set_option maxHeartbeats 2000000 in
theorem specExpValue_any (u : Ru) (n : Int) (names vals : List ByteArray) (a1 a2 : Option Addr) (c1 c2 : Nat) (vs : List Value) (S : Nat → Prop) (w : World) (hF : FRu S w vs u) (hS : ∀ b, S b → b < w.heap.size) (hw : u.wt ≤ 1048576)
    (h1 : TxtsIn S w a1 names) (h2 : TxtsIn S w a2 vals) (hnl : names.length ≤ 1048576) (hvl : vals.length ≤ 1048576) (hvs : ∀ v ∈ vals, v.size ≤ 1048576) :
    Calls Tryz.prog 6 #[.agg vs.toArray, .int .i64 n, .slice a1 names.length c1, .slice a2 vals.length c2] w (ValPost (valAns u n names vals) w) := by
  have hF0 := hF
  obtain ⟨aes, ces, ahd, chd, abd, cbd, rfl, r0, r1, r2⟩ := hF
  have hb0 : Below w.heap.size w (w.alloc (.cells #[.slice aes u.es.length ces, .int .i64 u.hd.k, .string u.hd.s, .slice ahd u.hd.xs.length chd, .slice abd u.bd.length cbd] 38)) := (Below.refl _ _).alloc (Nat.le_refl _) _
  have k0 := heap_alloc_new w (.cells #[.slice aes u.es.length ces, .int .i64 u.hd.k, .string u.hd.s, .slice ahd u.hd.xs.length chd, .slice abd u.bd.length cbd] 38)
  have HSR := Lib.hid (specRule_any u _ S _ (FRu_keeps.1 _ _ _ _ _ hF0 (Same.below hS hb0)) (fun b h => Nat.lt_of_lt_of_le (hS b h) hb0.size) hw)
  obtain ⟨w0, hw0⟩ : ∃ w0, w.alloc (.cells #[.slice aes u.es.length ces, .int .i64 u.hd.k, .string u.hd.s, .slice ahd u.hd.xs.length chd, .slice abd u.bd.length cbd] 38) = w0 := ⟨_, rfl⟩
  rw [hw0] at hb0 k0 HSR
  have hel : u.es.length ≤ 1048576 := by unfold Ru.wt wtExpS at hw; omega
  have q0 := cell_of_row _ w.heap.size 0 _ _ _ k0
  have q1 := cell_of_row _ w.heap.size 1 _ _ _ k0
  have q2 := cell_of_row _ w.heap.size 2 _ _ _ k0
  have q3 := cell_of_row _ w.heap.size 3 _ _ _ k0
  have q4 := cell_of_row _ w.heap.size 4 _ _ _ k0
  simp only [List.getElem?_toArray, List.getElem?_cons_zero, List.getElem?_cons_succ] at q0 q1 q2 q3 q4
  have HF0 := Lib.hid hF0
  have HS := Lib.hid hS
  have H1 := Lib.hid h1
  have H2 := Lib.hid h2
  have HVS := Lib.hid hvs
  have HWT := Lib.hid hw
  have HB0 := Lib.hid hb0
  have HK0 := Lib.hid k0
  clear hF0 r0 r1 r2 hS hb0 k0 hw h1 h2 hvs
  go_enter Tryz.func6, Tryz.ntmps6
  go_wp2_with fail
  refine HSR.out.mono ?_
  rintro e w1 ⟨rfl, hb1⟩
  have hb01 := below_step HB0.out hb1
  have HB1 := Lib.hid hb01
  have K1 := (hb1.block _ (lt_of_block HK0.out)).trans HK0.out
  clear q0 q1 q2 q3 q4 HSR
  by_cases hok : RuleOk u
  · have hne := ruleAns_some hok
    have HOK := Lib.hid hok
    generalize ruleAns u = A at *
    have q0 := cell_of_row _ w.heap.size 0 _ _ _ K1
    have q1 := cell_of_row _ w.heap.size 1 _ _ _ K1
    have q2 := cell_of_row _ w.heap.size 2 _ _ _ K1
    have q3 := cell_of_row _ w.heap.size 3 _ _ _ K1
    have q4 := cell_of_row _ w.heap.size 4 _ _ _ K1
    simp only [List.getElem?_toArray, List.getElem?_cons_zero, List.getElem?_cons_succ] at q0 q1 q2 q3 q4
    have HBT := Lib.hid (between_any n 0 ((u.es.length : Int) - 1) w1)
    clear hok K1 hb1 hb01
    go_wp2_with fail
    refine HBT.out.mono ?_
    rintro e w2 ⟨rfl, rfl⟩
    clear HBT
    by_cases hin : 0 ≤ n ∧ n < (u.es.length : Int)
    · have hd : (decide (0 ≤ n) && decide (n ≤ (u.es.length : Int) - 1)) = true := by simp; omega
      rw [hd]
      obtain ⟨m, rfl⟩ := Int.eq_ofNat_of_zero_le hin.1
      have hml : m < u.es.length := by omega
      have HV := Lib.hid (specValue_any u m names vals a1 a2 c1 c2 _ S w2 (FRu_keeps.1 _ _ _ _ _ HF0.out (Same.below HS.out HB1.out)) (fun b h => Nat.lt_of_lt_of_le (HS.out b h) HB1.out.size) HOK.out.good.tree HOK.out.good.kind hml HWT.out (H1.out.kept (Same.below HS.out HB1.out)) (H2.out.kept (Same.below HS.out HB1.out)) hnl hvl HVS.out)
      have HVA := Lib.hid (valAns_ok (names := names) (vals := vals) HOK.out hml)
      clear hd hin
      go_wp2_with fail
      refine HV.out.mono ?_
      rintro e w3 ⟨rfl, hb3⟩
      have HP := Lib.hid (show ValPost (valAns u (m : Int) names vals) w (.returned (.tuple #[.string (finV u.es m names vals).1, .int .i64 (finV u.es m names vals).2])) w3 from ⟨by rw [HVA.out], below_step HB1.out hb3⟩)
      clear hb3 HV HVA
      go_wp2
      go_ret2
      exact HP.out
    · have hd : (decide (0 ≤ n) && decide (n ≤ (u.es.length : Int) - 1)) = false := by
        rw [Bool.and_eq_false_iff, decide_eq_false_iff_not, decide_eq_false_iff_not]; omega
      rw [hd]
      have HP := Lib.hid (show ValPost (valAns u n names vals) w (.returned (.tuple #[.string ⟨#[]⟩, .int .i64 1])) w2 from ⟨by rw [valAns_no (fun h => hin h.2)], HB1.out⟩)
      clear hd hin
      go_wp2
      go_ret2
      exact HP.out
  · have hne := ruleAns_none hok
    have HP := Lib.hid (show ValPost (valAns u n names vals) w (.returned (.tuple #[.string ⟨#[]⟩, .int .i64 1])) w1 from ⟨by rw [valAns_no (fun h => hok h.1)], HB1.out⟩)
    generalize ruleAns u = A at *
    clear hok K1 hb1 hb01
    go_wp2
    go_ret2
    exact HP.out

set_option maxRecDepth 100000 in
set_option maxHeartbeats 2000000 in
theorem implExpValue_any (u : Ru) (n : Int) (names vals : List ByteArray) (a1 a2 : Option Addr) (c1 c2 : Nat) (vs : List Value) (S : Nat → Prop) (w : World) (hE : Env w.heap.size w) (hF : FRu S w vs u) (hS : ∀ b, S b → b < w.heap.size) (hw : u.wt ≤ 1048576)
    (h1 : TxtsIn S w a1 names) (h2 : TxtsIn S w a2 vals) (hnl : names.length ≤ 1048576) (hvl : vals.length ≤ 1048576) (hvs : ∀ v ∈ vals, v.size ≤ 1048576) :
    Calls Tryz.prog 9 #[.agg vs.toArray, .int .i64 n, .slice a1 names.length c1, .slice a2 vals.length c2] w (ValPost (valAns u n names vals) w) := by
  have hF0 := hF
  obtain ⟨aes, ces, ahd, chd, abd, cbd, rfl, r0, r1, r2⟩ := hF
  have hb0 : Below w.heap.size w (w.alloc (.cells #[.slice aes u.es.length ces, .int .i64 u.hd.k, .string u.hd.s, .slice ahd u.hd.xs.length chd, .slice abd u.bd.length cbd] 38)) := (Below.refl _ _).alloc (Nat.le_refl _) _
  have k0 := heap_alloc_new w (.cells #[.slice aes u.es.length ces, .int .i64 u.hd.k, .string u.hd.s, .slice ahd u.hd.xs.length chd, .slice abd u.bd.length cbd] 38)
  obtain ⟨w0, hw0⟩ : ∃ w0, w.alloc (.cells #[.slice aes u.es.length ces, .int .i64 u.hd.k, .string u.hd.s, .slice ahd u.hd.xs.length chd, .slice abd u.bd.length cbd] 38) = w0 := ⟨_, rfl⟩
  rw [hw0] at hb0 k0
  have hel : u.es.length ≤ 1048576 := by unfold Ru.wt wtExpS at hw; omega
  have HHF := Lib.hid (hasForm_any u _ S w0 (FRu_keeps.1 _ _ _ _ _ hF0 (Same.below hS hb0)) (fun b h => Nat.lt_of_lt_of_le (hS b h) hb0.size) hw)
  have q0 := cell_of_row _ w.heap.size 0 _ _ _ k0
  have q1 := cell_of_row _ w.heap.size 1 _ _ _ k0
  have q2 := cell_of_row _ w.heap.size 2 _ _ _ k0
  have q3 := cell_of_row _ w.heap.size 3 _ _ _ k0
  have q4 := cell_of_row _ w.heap.size 4 _ _ _ k0
  simp only [List.getElem?_toArray, List.getElem?_cons_zero, List.getElem?_cons_succ] at q0 q1 q2 q3 q4
  have HE := Lib.hid hE
  have HF0 := Lib.hid hF0
  have HS := Lib.hid hS
  have H1 := Lib.hid h1
  have H2 := Lib.hid h2
  have HVS := Lib.hid hvs
  have HWT := Lib.hid hw
  have HB0 := Lib.hid hb0
  have HK0 := Lib.hid k0
  clear hF0 r0 r1 r2 hS hb0 k0 hw h1 h2 hvs hE
  go_enter Tryz.func9, Tryz.ntmps9
  go_wp2_with fail
  refine HHF.out.mono ?_
  rintro e w1 ⟨⟨r, rfl, hr⟩, hb1⟩
  have HB1 := Lib.hid (below_step HB0.out hb1)
  have K1 := (hb1.block _ (lt_of_block HK0.out)).trans HK0.out
  have hg1 : w.heap.size < w1.heap.size := lt_of_block K1
  clear q0 q1 q2 q3 q4 HHF hb1
  have q0 := cell_of_row _ w.heap.size 0 _ _ _ K1
  have q1 := cell_of_row _ w.heap.size 1 _ _ _ K1
  have q2 := cell_of_row _ w.heap.size 2 _ _ _ K1
  have q3 := cell_of_row _ w.heap.size 3 _ _ _ K1
  have q4 := cell_of_row _ w.heap.size 4 _ _ _ K1
  simp only [List.getElem?_toArray, List.getElem?_cons_zero, List.getElem?_cons_succ] at q0 q1 q2 q3 q4
  cases r with
  | false =>
    have HP := Lib.hid (show ValPost (valAns u n names vals) w (.returned (.tuple #[.string ⟨#[]⟩, .int .i64 1])) w1 from ⟨by rw [valAns_no (fun h => by have := hr.2 h.1; cases this)], HB1.out⟩)
    clear hr K1
    go_wp2
    go_ret2
    exact HP.out
  | true =>
    have HOK := Lib.hid (hr.1 rfl)
    have HIP := Lib.hid (isExpPlace_any u n _ S w1 (FRu_keeps.1 _ _ _ _ _ HF0.out (Same.below HS.out HB1.out)) hel)
    have HK1 := Lib.hid K1
    clear hr K1
    go_wp2_with fail
    refine HIP.out.mono ?_
    rintro e w2 ⟨rfl, hb2⟩
    have HB2 := Lib.hid (below_step HB1.out hb2)
    have K2 := (hb2.block _ hg1).trans HK1.out
    clear q0 q1 q2 q3 q4 HIP hb2
    have q0 := cell_of_row _ w.heap.size 0 _ _ _ K2
    have q1 := cell_of_row _ w.heap.size 1 _ _ _ K2
    have q2 := cell_of_row _ w.heap.size 2 _ _ _ K2
    have q3 := cell_of_row _ w.heap.size 3 _ _ _ K2
    have q4 := cell_of_row _ w.heap.size 4 _ _ _ K2
    simp only [List.getElem?_toArray, List.getElem?_cons_zero, List.getElem?_cons_succ] at q0 q1 q2 q3 q4
    by_cases hin : 0 ≤ n ∧ n < (u.es.length : Int)
    · have hd : (decide (0 ≤ n) && decide (n < (u.es.length : Int))) = true := by simp; omega
      rw [hd]
      obtain ⟨m, rfl⟩ := Int.eq_ofNat_of_zero_le hin.1
      have hml : m < u.es.length := by omega
      have HV := Lib.hid (expValue_any u m names vals a1 a2 c1 c2 _ S w2 (HE.out.stays HB2.out).top (FRu_keeps.1 _ _ _ _ _ HF0.out (Same.below HS.out HB2.out)) (fun b h => Nat.lt_of_lt_of_le (HS.out b h) HB2.out.size) HOK.out.good.tree HOK.out.good.kind hml HWT.out (H1.out.kept (Same.below HS.out HB2.out)) (H2.out.kept (Same.below HS.out HB2.out)) hnl hvl HVS.out)
      have HVA := Lib.hid (valAns_ok (names := names) (vals := vals) HOK.out hml)
      clear hd hin K2
      go_wp2_with fail
      refine HV.out.mono ?_
      rintro e w3 ⟨rfl, hb3⟩
      have HP := Lib.hid (show ValPost (valAns u (m : Int) names vals) w (.returned (.tuple #[.string (finV u.es m names vals).1, .int .i64 (finV u.es m names vals).2])) w3 from ⟨by rw [HVA.out], below_step HB2.out hb3⟩)
      clear hb3 HV HVA
      go_wp2
      go_ret2
      exact HP.out
    · have hd : (decide (0 ≤ n) && decide (n < (u.es.length : Int))) = false := by rw [Bool.and_eq_false_iff, decide_eq_false_iff_not, decide_eq_false_iff_not]; omega
      rw [hd]
      have HP := Lib.hid (show ValPost (valAns u n names vals) w (.returned (.tuple #[.string ⟨#[]⟩, .int .i64 1])) w2 from ⟨by rw [valAns_no (fun h => hin h.2)], HB2.out⟩)
      clear hd hin K2
      go_wp2
      go_ret2
      exact HP.out

end Go.Proofs.YtcohjmbbanjjeaaGreatDoor.Pr
