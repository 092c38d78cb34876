/-
  laws.FnExactExpValue answers true.
-/
import Derived.Test.YtcohjmbbanjjeaaGreatDoorPY5
import Derived.Test.YtcohjmbbanjjeaaGreatDoorPOp
namespace Go.Proofs.YtcohjmbbanjjeaaGreatDoor.Pr
open Go Go.RowKit Go.Maps Go.WideMaps

theorem small_of {xs : List ByteArray} (h : wtStringS xs ≤ 1048576) : ∀ x ∈ xs, x.size ≤ 1048576 := fun x hx => by
  have h1 := wsum_mem ByteArray.size hx
  unfold wtStringS at h
  omega
theorem seg_lt {w w' : World} {lo : Nat} (h : Below w.heap.size w w') : ∀ b, Seg lo w.heap.size b → b < w'.heap.size := fun _ hb => Nat.lt_of_lt_of_le hb.2 h.size

set_option maxRecDepth 100000 in
set_option maxHeartbeats 8000000 in
theorem law_FnExactExpValue (u : Ru) (n : Int) (names vals : List ByteArray) (a1 a2 : Option Addr) (c1 c2 : Nat) (vs : List Value) (W : World) (hE : Env W.heap.size W) (hF : FRu (fun b => b < W.heap.size) W vs u) (hf : u.fits)
    (h1 : TxtsIn (fun b => b < W.heap.size) W a1 names) (m1 : names.length ≤ 9223372036854775807) (s1 : ∀ x ∈ names, x.size ≤ 9223372036854775807) (h2 : TxtsIn (fun b => b < W.heap.size) W a2 vals) (m2 : vals.length ≤ 9223372036854775807) (s2 : ∀ x ∈ vals, x.size ≤ 9223372036854775807) :
    Calls Tryz.prog 3 #[.agg vs.toArray, .int .i64 n, .slice a1 names.length c1, .slice a2 vals.length c2] W fun e w' => e = .returned (.bool true) ∧ Below W.heap.size W w' := by
  have hF1 := hF
  obtain ⟨aes, ces, ahd, chd, abd, cbd, rfl, r0, r1, r2⟩ := hF
  have hb0 : Below W.heap.size W (W.alloc (.cells #[.slice aes u.es.length ces, .int .i64 u.hd.k, .string u.hd.s, .slice ahd u.hd.xs.length chd, .slice abd u.bd.length cbd] 28)) := (Below.refl _ _).alloc (Nat.le_refl _) _
  have k0 := heap_alloc_new W (.cells #[.slice aes u.es.length ces, .int .i64 u.hd.k, .string u.hd.s, .slice ahd u.hd.xs.length chd, .slice abd u.bd.length cbd] 28)
  obtain ⟨W0, hW0⟩ : ∃ W0, W.alloc (.cells #[.slice aes u.es.length ces, .int .i64 u.hd.k, .string u.hd.s, .slice ahd u.hd.xs.length chd, .slice abd u.bd.length cbd] 28) = W0 := ⟨_, rfl⟩
  rw [hW0] at hb0 k0
  have HARG := Lib.hid (fun (w1 : World) (h : Below W.heap.size W w1) => (FRu_keeps.1 _ _ _ _ _ hF1 (Same.below (fun _ h => h) h) : FRu (fun b => b < W.heap.size) w1 _ u))
  have HLT := Lib.hid (fun (w1 : World) (h : Below W.heap.size W w1) (b : Nat) (hb : b < W.heap.size) => Nat.lt_of_lt_of_le hb h.size)
  have HT1 := Lib.hid (fun (w1 : World) (h : Below W.heap.size W w1) => h1.kept (Same.below (fun _ h => h) h))
  have HT2 := Lib.hid (fun (w1 : World) (h : Below W.heap.size W w1) => h2.kept (Same.below (fun _ h => h) h))
  have HSZ := Lib.hid (szRule_any u _ 1048576 _ W0 (HARG.out W0 hb0) (HLT.out W0 hb0) hf (by omega) (by omega))
  have HM := Lib.hid (And.intro m1 m2)
  have HQ := Lib.hid (And.intro s1 s2)
  have HE := Lib.hid hE
  have q0 := cell_of_row _ W.heap.size 0 _ _ _ k0
  have q1 := cell_of_row _ W.heap.size 1 _ _ _ k0
  have q2 := cell_of_row _ W.heap.size 2 _ _ _ k0
  have q3 := cell_of_row _ W.heap.size 3 _ _ _ k0
  have q4 := cell_of_row _ W.heap.size 4 _ _ _ k0
  simp only [List.getElem?_toArray, List.getElem?_cons_zero, List.getElem?_cons_succ] at q0 q1 q2 q3 q4
  have HB0 := Lib.hid hb0
  have HK0 := Lib.hid k0
  clear r0 r1 r2 hF1 hf hb0 k0 h1 h2 m1 m2 s1 s2 hE
  go_enter Tryz.func3, Tryz.ntmps3
  go_wp2_with fail
  refine HSZ.out.mono ?_
  rintro e w1 ⟨⟨r, rfl, hr⟩, hb1⟩
  have HB1 := Lib.hid (below_step HB0.out hb1)
  rcases hr with ⟨hr, _⟩ | ⟨rfl, hwt⟩
  · have hd : decide (r < 0) = true := decide_eq_true hr
    clear HSZ hb1 q0 q1 q2 q3 q4
    go_wp2
    go_ret
    exact ⟨rfl, HB1.out⟩
  have hd : decide ((1048576 : Int) - (u.wt : Int) < 0) = false := decide_eq_false (by omega)
  have HWT := Lib.hid (show u.wt ≤ 1048576 by omega)
  have HS2 := Lib.hid (szStringS_any a1 c1 names ((1048576 : Int) - (u.wt : Int)) _ w1 (HT1.out w1 HB1.out) (HLT.out w1 HB1.out) HM.out.1 HQ.out.1 (by omega) (by omega))
  have K1 := (hb1.block _ (lt_of_block HK0.out)).trans HK0.out
  have HK1 := Lib.hid K1
  clear HSZ hb1 q0 q1 q2 q3 q4 K1
  generalize u.wt = uw at hd HS2 ⊢
  go_wp2_with fail
  refine HS2.out.mono ?_
  rintro e w2 ⟨⟨r, rfl, hr⟩, hb2⟩
  have HB2 := Lib.hid (below_step HB1.out hb2)
  rcases hr with ⟨hr, _⟩ | ⟨rfl, hwt2⟩
  · have hd2 : decide (r < 0) = true := decide_eq_true hr
    clear HS2 hb2
    go_wp2
    go_ret
    exact ⟨rfl, HB2.out⟩
  have hd2 : decide ((1048576 : Int) - (uw : Int) - (wtStringS names : Int) < 0) = false := decide_eq_false (by omega)
  have HWN := Lib.hid (show wtStringS names ≤ 1048576 by omega)
  have HS3 := Lib.hid (szStringS_any a2 c2 vals ((1048576 : Int) - (uw : Int) - (wtStringS names : Int)) _ w2 (HT2.out w2 HB2.out) (HLT.out w2 HB2.out) HM.out.2 HQ.out.2 (by omega) (by omega))
  have K2 := (hb2.block _ (lt_of_block HK1.out)).trans HK1.out
  have HK2 := Lib.hid K2
  clear HS2 hb2 K2 hd HK1
  generalize wtStringS names = un at hd2 HS3 ⊢
  go_wp2_with fail
  refine HS3.out.mono ?_
  rintro e w3 ⟨⟨r, rfl, hr⟩, hb3⟩
  have HB3 := Lib.hid (below_step HB2.out hb3)
  rcases hr with ⟨hr, _⟩ | ⟨rfl, hwt3⟩
  · have hd3 : decide (r < 0) = true := decide_eq_true hr
    clear HS3 hb3
    go_wp2
    go_ret
    exact ⟨rfl, HB3.out⟩
  have hd3 : decide ((1048576 : Int) - (uw : Int) - (un : Int) - (wtStringS vals : Int) < 0) = false := decide_eq_false (by omega)
  have HWV := Lib.hid (show wtStringS vals ≤ 1048576 by omega)
  have K3 := (hb3.block _ (lt_of_block HK2.out)).trans HK2.out
  have q0 := cell_of_row _ W.heap.size 0 _ _ _ K3
  have q1 := cell_of_row _ W.heap.size 1 _ _ _ K3
  have q2 := cell_of_row _ W.heap.size 2 _ _ _ K3
  have q3 := cell_of_row _ W.heap.size 3 _ _ _ K3
  have q4 := cell_of_row _ W.heap.size 4 _ _ _ K3
  simp only [List.getElem?_toArray, List.getElem?_cons_zero, List.getElem?_cons_succ] at q0 q1 q2 q3 q4
  have HK3 := Lib.hid K3
  have hg3 : W.heap.size < w3.heap.size := lt_of_block K3
  clear HS3 hb3 K3 hd2 HK2 hwt hwt2 hwt3
  generalize wtStringS vals = uv at hd3 ⊢
  have hnl : names.length ≤ 1048576 := by have := HWN.out; unfold wtStringS at this; omega
  have hvl : vals.length ≤ 1048576 := by have := HWV.out; unfold wtStringS at this; omega
  have HVS := Lib.hid (small_of HWV.out)
  have HR1 := Lib.hid (fun (w' : World) (h : Below w3.heap.size w3 w') => toRule_any u _ _ w' (HARG.out w' (below_step HB3.out h)) (HLT.out w' (below_step HB3.out h)) HWT.out)
  have HN1 := Lib.hid (fun (w' : World) (h : Below w3.heap.size w3 w') => toStringS_any a1 c1 names _ w' (HT1.out w' (below_step HB3.out h)) (HLT.out w' (below_step HB3.out h)) hnl)
  have HV1 := Lib.hid (fun (w' : World) (h : Below w3.heap.size w3 w') => toStringS_any a2 c2 vals _ w' (HT2.out w' (below_step HB3.out h)) (HLT.out w' (below_step HB3.out h)) hvl)
  have HSP := Lib.hid (fun (w4 w5 w6 w' : World) (h4 : Below w4.heap.size w4 w5) (h5 : Below w5.heap.size w5 w6) (h6 : Below w6.heap.size w6 w') (l4 l5 l6 : Nat) (us : List Value) (hF : FRu (Seg l4 w4.heap.size) w4 us u) (g1 g2 : Nat) (t1 : TxtsIn (Seg l5 w5.heap.size) w5 (some ⟨g1, 0, none⟩) names) (t2 : TxtsIn (Seg l6 w6.heap.size) w6 (some ⟨g2, 0, none⟩) vals) =>
    specExpValue_any u n names vals (some ⟨g1, 0, none⟩) (some ⟨g2, 0, none⟩) names.length vals.length us (fun b => b < w'.heap.size) w' (FRu_keeps.2 _ _ _ _ _ (FRu_keeps.1 _ _ _ _ _ hF (Same.below (fun _ h => h.2) (below_step (below_step h4 h5) h6))) (seg_lt (below_step (below_step h4 h5) h6))) (fun _ h => h) HWT.out ((t1.kept (Same.below (fun _ h => h.2) (below_step h5 h6))).mono (seg_lt (below_step h5 h6))) ((t2.kept (Same.below (fun _ h => h.2) h6)).mono (seg_lt h6)) hnl hvl HVS.out)
  have hB0 : Below w3.heap.size w3 w3 := Below.refl _ _
  -- the reference's answer
  go_wp2_with fail
  refine (HR1.out w3 hB0).mono ?_
  rintro e w4 ⟨us4, rfl, hF4, hb4⟩
  have HF4 := Lib.hid hF4
  obtain ⟨m1, n1, m2, n2, m3, n3, rfl, _, _, _⟩ := hF4
  have HB34 := Lib.hid hb4
  clear hb4 q0 q1 q2 q3 q4
  go_wp2_with fail
  refine (HN1.out w4 HB34.out).mono ?_
  rintro e w5 ⟨g5, rfl, hT5, hb5⟩
  have HT5 := Lib.hid hT5
  have HB45 := Lib.hid hb5
  have HB35 := Lib.hid (below_keep HB34.out hb5)
  clear hb5 hT5
  go_wp2_with fail
  refine (HV1.out w5 HB35.out).mono ?_
  rintro e w6 ⟨g6, rfl, hT6, hb6⟩
  have HT6 := Lib.hid hT6
  have HB56 := Lib.hid hb6
  have HB36 := Lib.hid (below_keep HB35.out hb6)
  clear hb6 hT6
  go_wp2_with fail
  refine (HSP.out w4 w5 w6 w6 HB45.out HB56.out (Below.refl _ _) _ _ _ _ HF4.out g5 g6 HT5.out HT6.out).mono ?_
  rintro e w7 ⟨rfl, hb7⟩
  have HB37 := Lib.hid (below_keep HB36.out hb7)
  have HB7 := Lib.hid (below_step HB3.out HB37.out)
  have K7 := (HB37.out.block _ hg3).trans HK3.out
  clear hb7 HSP HF4 HT5 HT6 HB34 HB45 HB35 HB56 HB36 hd3
  obtain ⟨⟨A1, A2⟩, hA⟩ : ∃ A : ByteArray × Int, valAns u n names vals = A := ⟨_, rfl⟩
  rw [hA]
  have HA := Lib.hid hA
  clear hA
  have q0 := cell_of_row _ W.heap.size 0 _ _ _ K7
  have q1 := cell_of_row _ W.heap.size 1 _ _ _ K7
  have q2 := cell_of_row _ W.heap.size 2 _ _ _ K7
  have q3 := cell_of_row _ W.heap.size 3 _ _ _ K7
  have q4 := cell_of_row _ W.heap.size 4 _ _ _ K7
  simp only [List.getElem?_toArray, List.getElem?_cons_zero, List.getElem?_cons_succ] at q0 q1 q2 q3 q4
  have HK7 := Lib.hid K7
  have HR2 := Lib.hid (tpRule_any u _ _ w7 (HARG.out w7 HB7.out) (HLT.out w7 HB7.out) HWT.out)
  have HG7 := Lib.hid (lt_of_block K7)
  clear K7 HR1 HN1 HV1
  -- the program's arguments, copied
  go_wp2_with fail
  refine HR2.out.mono ?_
  rintro e w8 ⟨us, rfl, hF8, hb8, hp8⟩
  have hb9 : Below w8.heap.size w8 (w8.alloc (.cells us.toArray 38)) := (Below.refl _ _).alloc (Nat.le_refl _) _
  have hF9 := FRu_keeps.1 _ _ _ _ _ hF8 (Same.below (fun b h => h.2) hb9)
  have k9 := heap_alloc_new w8 (.cells us.toArray 38)
  obtain ⟨b1, e1, b2, e2, b3, e3, rfl, g1, g2, g3⟩ := hF8
  obtain ⟨w9, hw9⟩ : ∃ w9, w8.alloc (.cells #[.slice b1 u.es.length e1, .int .i64 u.hd.k, .string u.hd.s, .slice b2 u.hd.xs.length e2, .slice b3 u.bd.length e3] 38) = w9 := ⟨_, rfl⟩
  rw [hw9] at hF9 k9 hb9
  have hs9 : w8.heap.size < w9.heap.size := lt_of_block k9
  have HF9 := Lib.hid hF9
  have HB79 := Lib.hid (below_step hb8 hb9)
  have HB9 := Lib.hid (below_step HB7.out HB79.out)
  have Hk9 := Lib.hid k9
  have HN2 := Lib.hid (toStringS_any a1 c1 names _ w9 (HT1.out w9 HB9.out) (HLT.out w9 HB9.out) hnl)
  clear hb8 hb9 hF9 k9 g1 g2 g3 HR2 q0 q1 q2 q3 q4 hp8
  go_wp2_with fail
  refine HN2.out.mono ?_
  rintro e wA ⟨gA, rfl, hTA, hbA⟩
  have HTA := Lib.hid hTA
  have HB9A := Lib.hid hbA
  have HBA := Lib.hid (below_step HB9.out hbA)
  have HV2 := Lib.hid (toStringS_any a2 c2 vals _ wA (HT2.out wA HBA.out) (HLT.out wA HBA.out) hvl)
  clear hbA hTA HN2 hw9
  go_wp2_with fail
  refine HV2.out.mono ?_
  rintro e wB ⟨gB, rfl, hTB, hbB⟩
  have HTB := Lib.hid hTB
  have HBAB := Lib.hid hbB
  have HB9B := Lib.hid (below_keep HB9A.out hbB)
  have HBB := Lib.hid (below_step HBA.out hbB)
  have kB := (HB9B.out.block _ hs9).trans Hk9.out
  have t0 := cell_of_row _ w8.heap.size 0 _ _ _ kB
  have t1 := cell_of_row _ w8.heap.size 1 _ _ _ kB
  have t2 := cell_of_row _ w8.heap.size 2 _ _ _ kB
  have t3 := cell_of_row _ w8.heap.size 3 _ _ _ kB
  have t4 := cell_of_row _ w8.heap.size 4 _ _ _ kB
  simp only [List.getElem?_toArray, List.getElem?_cons_zero, List.getElem?_cons_succ] at t0 t1 t2 t3 t4
  have HTA2 := Lib.hid (HTA.out.kept (Same.below (fun _ h => h.2) HBAB.out))
  have HFB := Lib.hid (FRu_keeps.1 _ _ _ _ _ HF9.out (Same.below (fun b h => Nat.lt_trans h.2 hs9) HB9B.out))
  have HIM := Lib.hid (implExpValue_any u n names vals (some ⟨gA, 0, none⟩) (some ⟨gB, 0, none⟩) names.length vals.length _ (fun b => b < wB.heap.size) wB (HE.out.stays HBB.out).top (FRu_keeps.2 _ _ _ _ _ HFB.out (fun b h => by have h1 := h.2; have h2 := HB9B.out.size; omega)) (fun _ h => h) HWT.out (HTA2.out.mono (seg_lt HBAB.out)) (HTB.out.mono (fun b h => h.2)) hnl hvl HVS.out)
  rw [HA.out] at HIM
  have hkB := lt_of_block kB
  clear hbB hTB HV2 kB
  -- the program's answer
  go_wp2_with fail
  refine HIM.out.mono ?_
  rintro e wC ⟨rfl, hbC⟩
  have HBC := Lib.hid (below_step HBB.out hbC)
  have HB7C := Lib.hid (below_keep (below_keep HB79.out HB9B.out) hbC)
  have HB9C := Lib.hid (below_keep HB9B.out hbC)
  have HBC2 := Lib.hid hbC
  have KC := (HB7C.out.block _ HG7.out).trans HK7.out
  have kC := (HB9C.out.block _ hs9).trans Hk9.out
  clear hbC HIM t0 t1 t2 t3 t4 HFB hkB
  have y0 := cell_of_row _ W.heap.size 0 _ _ _ KC
  have y1 := cell_of_row _ W.heap.size 1 _ _ _ KC
  have y2 := cell_of_row _ W.heap.size 2 _ _ _ KC
  have y3 := cell_of_row _ W.heap.size 3 _ _ _ KC
  have y4 := cell_of_row _ W.heap.size 4 _ _ _ KC
  simp only [List.getElem?_toArray, List.getElem?_cons_zero, List.getElem?_cons_succ] at y0 y1 y2 y3 y4
  have t0 := cell_of_row _ w8.heap.size 0 _ _ _ kC
  have t1 := cell_of_row _ w8.heap.size 1 _ _ _ kC
  have t2 := cell_of_row _ w8.heap.size 2 _ _ _ kC
  have t3 := cell_of_row _ w8.heap.size 3 _ _ _ kC
  have t4 := cell_of_row _ w8.heap.size 4 _ _ _ kC
  simp only [List.getElem?_toArray, List.getElem?_cons_zero, List.getElem?_cons_succ] at t0 t1 t2 t3 t4
  have hg1 : W.heap.size < wC.heap.size := lt_of_block KC
  have hg2 : w8.heap.size < wC.heap.size := lt_of_block kC
  have HFC := Lib.hid (FRu_keeps.1 _ _ _ _ _ HF9.out (Same.below (fun b h => Nat.lt_trans h.2 hs9) HB9C.out))
  have HSL := Lib.hid (show ∀ b, Seg w7.heap.size w8.heap.size b → b < wC.heap.size from fun b h => by have := h.2; omega)
  have HT3 := Lib.hid (fun (w' : World) (h : Below wC.heap.size wC w') => toRule_any u _ _ w' (HARG.out w' (below_step HBC.out h)) (HLT.out w' (below_step HBC.out h)) HWT.out)
  have HEQ := Lib.hid (fun (w8 w' : World) (h : Below wC.heap.size wC w8) (h2 : Below w8.heap.size w8 w') (lo : Nat) (us : List Value) (hF : FRu (Seg lo w8.heap.size) w8 us u) =>
    eqRule_any u _ us _ _ w' (FRu_keeps.1 _ _ _ _ _ HFC.out (Same.below HSL.out (below_step h h2))) (FRu_keeps.1 _ _ _ _ _ hF (Same.below (fun b h => h.2) h2)) (fun b hb => Nat.lt_of_lt_of_le (HSL.out b hb) (below_step h h2).size) (fun b hb => Nat.lt_of_lt_of_le hb.2 h2.size) (by have := HWT.out; omega))
  have hBC : Below wC.heap.size wC wC := Below.refl _ _
  have HSA := Lib.hid (show ∀ b, Seg w9.heap.size wA.heap.size b → b < wC.heap.size from fun b h => by have h1 := h.2; have h2 := HBAB.out.size; have h3 := HBC2.out.size; omega)
  have HSB := Lib.hid (show ∀ b, Seg wA.heap.size wB.heap.size b → b < wC.heap.size from fun b h => by have h1 := h.2; have h3 := HBC2.out.size; omega)
  have HTA3 := Lib.hid (fun (w' : World) (h : Below wC.heap.size wC w') => HTA2.out.kept (Same.below (fun b h => by have h1 := h.2; have h2 := HBAB.out.size; omega) (below_step HBC2.out h)))
  have HTB3 := Lib.hid (fun (w' : World) (h : Below wC.heap.size wC w') => HTB.out.kept (Same.below (fun b h => h.2) (below_step HBC2.out h)))
  have hne1 : (A1.toList != A1.toList) = false := by simp
  have hne2 : (A2 != A2) = false := by simp
  clear KC kC HB9C HF9 HTA2 HTB
  go_wp2
  go_region_held3 (fun w' => w'.cell? ⟨W.heap.size, 0, none⟩ = some (.slice aes u.es.length ces) ∧ w'.cell? ⟨W.heap.size, 1, none⟩ = some (.int .i64 u.hd.k) ∧ w'.cell? ⟨W.heap.size, 2, none⟩ = some (.string u.hd.s) ∧ w'.cell? ⟨W.heap.size, 3, none⟩ = some (.slice ahd u.hd.xs.length chd) ∧ w'.cell? ⟨W.heap.size, 4, none⟩ = some (.slice abd u.bd.length cbd) ∧ w'.cell? ⟨w8.heap.size, 0, none⟩ = some (.slice b1 u.es.length e1) ∧ w'.cell? ⟨w8.heap.size, 1, none⟩ = some (.int .i64 u.hd.k) ∧ w'.cell? ⟨w8.heap.size, 2, none⟩ = some (.string u.hd.s) ∧ w'.cell? ⟨w8.heap.size, 3, none⟩ = some (.slice b2 u.hd.xs.length e2) ∧ w'.cell? ⟨w8.heap.size, 4, none⟩ = some (.slice b3 u.bd.length e3) ∧ Below wC.heap.size wC w')
        (refine ⟨?_, ?_, ?_, ?_, ?_, ?_, ?_, ?_, ?_, ?_, ?_⟩ <;> (first | assumption | (simp [*]; done) | (apply Below.drew; assumption)))
        (first
          | (go_at_call 7
             refine (HT3.out _ (by first | assumption | (apply Below.drew; assumption))).mono ?_
             rintro eD wD ⟨usD, rfl, hFD, hbD⟩
             have hbD' : Below wC.heap.size wC wD := below_keep (by first | assumption | (apply Below.drew; assumption)) hbD
             have HFD := Lib.hid hFD
             obtain ⟨o1, p1, o2, p2, o3, p3, rfl, _, _, _⟩ := hFD
             have zD0 := (hbD'.cell (p := ⟨W.heap.size, 0, none⟩) hg1).trans y0
             have zD1 := (hbD'.cell (p := ⟨W.heap.size, 1, none⟩) hg1).trans y1
             have zD2 := (hbD'.cell (p := ⟨W.heap.size, 2, none⟩) hg1).trans y2
             have zD3 := (hbD'.cell (p := ⟨W.heap.size, 3, none⟩) hg1).trans y3
             have zD4 := (hbD'.cell (p := ⟨W.heap.size, 4, none⟩) hg1).trans y4
             have xD0 := (hbD'.cell (p := ⟨w8.heap.size, 0, none⟩) hg2).trans t0
             have xD1 := (hbD'.cell (p := ⟨w8.heap.size, 1, none⟩) hg2).trans t1
             have xD2 := (hbD'.cell (p := ⟨w8.heap.size, 2, none⟩) hg2).trans t2
             have xD3 := (hbD'.cell (p := ⟨w8.heap.size, 3, none⟩) hg2).trans t3
             have xD4 := (hbD'.cell (p := ⟨w8.heap.size, 4, none⟩) hg2).trans t4
             clear hbD)
          | (go_at_call 10
             refine (HEQ.out wD _ hbD' (by first | exact Below.refl _ _ | exact (Below.refl _ _).drew) _ _ HFD.out).mono ?_
             rintro eE wE ⟨rfl, hbE⟩
             have hbE' : Below wC.heap.size wC wE := below_keep hbD' (by first | exact hbE | exact hbE)
             have zE0 := (hbE'.cell (p := ⟨W.heap.size, 0, none⟩) hg1).trans y0
             have zE1 := (hbE'.cell (p := ⟨W.heap.size, 1, none⟩) hg1).trans y1
             have zE2 := (hbE'.cell (p := ⟨W.heap.size, 2, none⟩) hg1).trans y2
             have zE3 := (hbE'.cell (p := ⟨W.heap.size, 3, none⟩) hg1).trans y3
             have zE4 := (hbE'.cell (p := ⟨W.heap.size, 4, none⟩) hg1).trans y4
             have xE0 := (hbE'.cell (p := ⟨w8.heap.size, 0, none⟩) hg2).trans t0
             have xE1 := (hbE'.cell (p := ⟨w8.heap.size, 1, none⟩) hg2).trans t1
             have xE2 := (hbE'.cell (p := ⟨w8.heap.size, 2, none⟩) hg2).trans t2
             have xE3 := (hbE'.cell (p := ⟨w8.heap.size, 3, none⟩) hg2).trans t3
             have xE4 := (hbE'.cell (p := ⟨w8.heap.size, 4, none⟩) hg2).trans t4
             clear hbE)
          | fail)
  have HBE := Lib.hid (below_step HBC.out hbE')
  have HBCE := Lib.hid hbE'
  have HN3 := Lib.hid (toStringS_any a1 c1 names _ wE (HT1.out wE HBE.out) (HLT.out wE HBE.out) hnl)
  clear HT3 HEQ hBC hbD' hbE' HFD HFC HSL y0 y1 y2 y3 y4 t0 t1 t2 t3 t4 zD0 zD1 zD2 zD3 zD4 xD0 xD1 xD2 xD3 xD4 zE0 zE1 zE2 zE3 zE4 xE0 xE1 xE2 xE3 xE4 hne1 hne2
  go_wp2_with fail
  refine HN3.out.mono ?_
  rintro e wF ⟨gF, rfl, hTF, hbF⟩
  have HBF := Lib.hid (below_step HBE.out hbF)
  have HBCF := Lib.hid (below_keep HBCE.out hbF)
  have HQ1 := Lib.hid (eqStringS_any names (some ⟨gA, 0, none⟩) (some ⟨gF, 0, none⟩) names.length names.length _ _ wF (HTA3.out wF HBCF.out) hTF (fun b h => Nat.lt_of_lt_of_le (HSA.out b h) HBCF.out.size) (fun b h => h.2) (by omega))
  clear hbF hTF HN3
  go_wp2_with fail
  refine HQ1.out.mono ?_
  rintro e wG ⟨rfl, hbG⟩
  have HBG := Lib.hid (below_step HBF.out hbG)
  have HBCG := Lib.hid (below_keep HBCF.out hbG)
  have HV3 := Lib.hid (toStringS_any a2 c2 vals _ wG (HT2.out wG HBG.out) (HLT.out wG HBG.out) hvl)
  clear hbG HQ1
  go_wp2_with fail
  refine HV3.out.mono ?_
  rintro e wH ⟨gH, rfl, hTH, hbH⟩
  have HBH := Lib.hid (below_step HBG.out hbH)
  have HBCH := Lib.hid (below_keep HBCG.out hbH)
  have HQ2 := Lib.hid (eqStringS_any vals (some ⟨gB, 0, none⟩) (some ⟨gH, 0, none⟩) vals.length vals.length _ _ wH (HTB3.out wH HBCH.out) hTH (fun b h => Nat.lt_of_lt_of_le (HSB.out b h) HBCH.out.size) (fun b h => h.2) (by omega))
  clear hbH hTH HV3
  go_wp2_with fail
  refine HQ2.out.mono ?_
  rintro e wI ⟨rfl, hbI⟩
  have HBI := Lib.hid (below_step HBH.out hbI)
  clear hbI HQ2
  go_wp2
  go_ret
  exact ⟨rfl, HBI.out⟩

end Go.Proofs.YtcohjmbbanjjeaaGreatDoor.Pr
