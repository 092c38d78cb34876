/-
  THE LAWS' OWN HELPERS over programs.
-/
import Derived.Test.YtdcfhmbnbfmnbaaPTr
import Derived.Test.YtdcfhmbnbfmnbaaPTd
namespace Go.Proofs.Ytdcfhmbnbfmnbaa.Pr
open Go Go.RowKit Go.Maps Go.WideMaps

structure Pg where
  ts : List Td
  rs : List Rd
  us : List Ru
def FPg : Flat Pg := fun S w vs x => ∃ (ats : Option Addr) (cts : Nat), ∃ (ars : Option Addr) (crs : Nat), ∃ (aus : Option Addr) (cus : Nat), vs = [.slice ats x.ts.length cts, .slice ars x.rs.length crs, .slice aus x.us.length cus] ∧ RowIn FTd 2 S w ats x.ts ∧ RowIn FRd 3 S w ars x.rs ∧ RowIn FRu 5 S w aus x.us
theorem FPg_keeps : Keeps FPg := by
  refine ⟨?_, ?_⟩
  · rintro S w w' vs x ⟨ats, cts, ars, crs, aus, cus, rfl, h0, h1, h2⟩ hs
    exact ⟨_, _, _, _, _, _, rfl, RowIn.kept FTd_keeps h0 hs, RowIn.kept FRd_keeps h1 hs, RowIn.kept FRu_keeps h2 hs⟩
  · rintro S T w vs x ⟨ats, cts, ars, crs, aus, cus, rfl, h0, h1, h2⟩ hs
    exact ⟨_, _, _, _, _, _, rfl, RowIn.mono FTd_keeps h0 hs, RowIn.mono FRd_keeps h1 hs, RowIn.mono FRu_keeps h2 hs⟩
def Pg.wt (x : Pg) : Nat := wtTypeDeclS x.ts + wtRelDeclS x.rs + wtRuleS x.us
def Pg.fits (x : Pg) : Prop := (x.ts.length ≤ 9223372036854775807 ∧ ∀ y ∈ x.ts, y.fits) ∧ (x.rs.length ≤ 9223372036854775807 ∧ ∀ y ∈ x.rs, y.fits) ∧ (x.us.length ≤ 9223372036854775807 ∧ ∀ y ∈ x.us, y.fits)

set_option maxRecDepth 100000 in
set_option maxHeartbeats 2000000 in
theorem szProg_any (x : Pg) (vs : List Value) (L : Int) (S : Nat → Prop) (w : World) (hF : FPg S w vs x) (hS : ∀ b, S b → b < w.heap.size) (hf : x.fits) (h0 : 0 ≤ L) (h1 : L ≤ 1048576) :
    Calls Try.prog 5 #[.agg vs.toArray, .int .i64 L] w fun e w' => (∃ r : Int, e = .returned (.int .i64 r) ∧ ((r < 0 ∧ L < x.wt) ∨ (r = L - x.wt ∧ (x.wt : Int) ≤ L))) ∧ Below w.heap.size w w' := by
  obtain ⟨ats, cts, ars, crs, aus, cus, rfl, rr0, rr1, rr2⟩ := hF
  unfold Pg.fits at hf
  unfold Pg.wt
  obtain ⟨f0, f1, f2⟩ := hf
  have hb0 := (Below.refl w.heap.size w).alloc (Nat.le_refl _) (Obj.cells #[.slice ats x.ts.length cts, .slice ars x.rs.length crs, .slice aus x.us.length cus] 26)
  have HB := Lib.hid hb0
  clear hb0
  have KP := Lib.hid (heap_alloc_new w (Obj.cells #[.slice ats x.ts.length cts, .slice ars x.rs.length crs, .slice aus x.us.length cus] 26))
  have HZ0 := Lib.hid (fun (L' : Int) (W : World) (hW : Below w.heap.size w W) (h0 : 0 ≤ L') (h1 : L' ≤ 1048576) => szTypeDeclS_any ats cts x.ts L' S W (RowIn.kept FTd_keeps rr0 (Same.below hS hW)) (fun b hb => Nat.lt_of_lt_of_le (hS b hb) hW.size) f0.1 f0.2 h0 h1)
  have HZ1 := Lib.hid (fun (L' : Int) (W : World) (hW : Below w.heap.size w W) (h0 : 0 ≤ L') (h1 : L' ≤ 1048576) => szRelDeclS_any ars crs x.rs L' S W (RowIn.kept FRd_keeps rr1 (Same.below hS hW)) (fun b hb => Nat.lt_of_lt_of_le (hS b hb) hW.size) f1.1 f1.2 h0 h1)
  have HZ2 := Lib.hid (fun (L' : Int) (W : World) (hW : Below w.heap.size w W) (h0 : 0 ≤ L') (h1 : L' ≤ 1048576) => szRuleS_any aus cus x.us L' S W (RowIn.kept FRu_keeps rr2 (Same.below hS hW)) (fun b hb => Nat.lt_of_lt_of_le (hS b hb) hW.size) f2.1 f2.2 h0 h1)
  clear rr0 rr1 rr2 hS
  generalize wtTypeDeclS x.ts = q0 at *
  generalize wtRelDeclS x.rs = q1 at *
  generalize wtRuleS x.us = q2 at *
  go_enter Try.func5, Try.ntmps5
  go_wp2_with fail
  refine (HZ0.out (L) _ HB.out (by omega) (by omega)).mono ?_
  rintro e w0 ⟨⟨r, rfl, hr⟩, hb1⟩
  replace HB := Lib.hid (below_step HB.out hb1)
  replace KP := Lib.hid ((hb1.block _ (lt_of_block KP.out)).trans KP.out)
  clear hb1 HZ0
  rcases hr with ⟨hr, hl⟩ | ⟨rfl, hl⟩
  · have hd0 : decide (r < 0) = true := decide_eq_true hr
    go_wp2
    go_ret
    exact ⟨⟨-1, rfl, .inl (by omega)⟩, HB.out⟩
  · have hd0 : decide (L - (q0 : Int) < 0) = false := decide_eq_false (by omega)
    try clear p0
    have p0 := cell_of_row _ (w.heap.size) 0 _ _ _ KP.out
    simp only [List.getElem?_toArray, List.getElem?_cons_zero, List.getElem?_cons_succ] at p0
    try clear p1
    have p1 := cell_of_row _ (w.heap.size) 1 _ _ _ KP.out
    simp only [List.getElem?_toArray, List.getElem?_cons_zero, List.getElem?_cons_succ] at p1
    try clear p2
    have p2 := cell_of_row _ (w.heap.size) 2 _ _ _ KP.out
    simp only [List.getElem?_toArray, List.getElem?_cons_zero, List.getElem?_cons_succ] at p2
    go_wp2_with fail
    refine (HZ1.out (L - (q0 : Int)) _ HB.out (by omega) (by omega)).mono ?_
    rintro e w1 ⟨⟨r, rfl, hr⟩, hb1⟩
    replace HB := Lib.hid (below_step HB.out hb1)
    replace KP := Lib.hid ((hb1.block _ (lt_of_block KP.out)).trans KP.out)
    clear hb1 HZ1
    rcases hr with ⟨hr, hl⟩ | ⟨rfl, hl⟩
    · have hd1 : decide (r < 0) = true := decide_eq_true hr
      go_wp2
      go_ret
      exact ⟨⟨-1, rfl, .inl (by omega)⟩, HB.out⟩
    · have hd1 : decide (L - (q0 : Int) - (q1 : Int) < 0) = false := decide_eq_false (by omega)
      try clear p0
      have p0 := cell_of_row _ (w.heap.size) 0 _ _ _ KP.out
      simp only [List.getElem?_toArray, List.getElem?_cons_zero, List.getElem?_cons_succ] at p0
      try clear p1
      have p1 := cell_of_row _ (w.heap.size) 1 _ _ _ KP.out
      simp only [List.getElem?_toArray, List.getElem?_cons_zero, List.getElem?_cons_succ] at p1
      try clear p2
      have p2 := cell_of_row _ (w.heap.size) 2 _ _ _ KP.out
      simp only [List.getElem?_toArray, List.getElem?_cons_zero, List.getElem?_cons_succ] at p2
      go_wp2_with fail
      refine (HZ2.out (L - (q0 : Int) - (q1 : Int)) _ HB.out (by omega) (by omega)).mono ?_
      rintro e w2 ⟨⟨r, rfl, hr⟩, hb1⟩
      replace HB := Lib.hid (below_step HB.out hb1)
      replace KP := Lib.hid ((hb1.block _ (lt_of_block KP.out)).trans KP.out)
      clear hb1 HZ2
      rcases hr with ⟨hr, hl⟩ | ⟨rfl, hl⟩
      · have hd2 : decide (r < 0) = true := decide_eq_true hr
        go_wp2
        go_ret
        exact ⟨⟨-1, rfl, .inl (by omega)⟩, HB.out⟩
      · have hd2 : decide (L - (q0 : Int) - (q1 : Int) - (q2 : Int) < 0) = false := decide_eq_false (by omega)
        go_wp2
        go_ret
        exact ⟨⟨_, rfl, .inr (by omega)⟩, HB.out⟩

set_option maxRecDepth 100000 in
set_option maxHeartbeats 2000000 in
theorem eqProg_any (x : Pg) (us vs : List Value) (S1 S2 : Nat → Prop) (w : World) (hF1 : FPg S1 w us x) (hF2 : FPg S2 w vs x) (hS1 : ∀ b, S1 b → b < w.heap.size) (hS2 : ∀ b, S2 b → b < w.heap.size) (hn : x.wt ≤ 2000000) :
    Calls Try.prog 9 #[.agg us.toArray, .agg vs.toArray] w fun e w' => e = .returned (.bool true) ∧ Below w.heap.size w w' := by
  obtain ⟨atsu, ctsu, arsu, crsu, ausu, cusu, rfl, rr0u, rr1u, rr2u⟩ := hF1
  obtain ⟨atsv, ctsv, arsv, crsv, ausv, cusv, rfl, rr0v, rr1v, rr2v⟩ := hF2
  unfold Pg.wt at hn
  have HZ0 := Lib.hid (fun (W : World) (hW : Below w.heap.size w W) => eqTypeDeclS_any x.ts atsu atsv ctsu ctsv S1 S2 W (RowIn.kept FTd_keeps rr0u (Same.below hS1 hW)) (RowIn.kept FTd_keeps rr0v (Same.below hS2 hW)) (fun b hb => Nat.lt_of_lt_of_le (hS1 b hb) hW.size) (fun b hb => Nat.lt_of_lt_of_le (hS2 b hb) hW.size) (by omega))
  have HZ1 := Lib.hid (fun (W : World) (hW : Below w.heap.size w W) => eqRelDeclS_any x.rs arsu arsv crsu crsv S1 S2 W (RowIn.kept FRd_keeps rr1u (Same.below hS1 hW)) (RowIn.kept FRd_keeps rr1v (Same.below hS2 hW)) (fun b hb => Nat.lt_of_lt_of_le (hS1 b hb) hW.size) (fun b hb => Nat.lt_of_lt_of_le (hS2 b hb) hW.size) (by omega))
  have HZ2 := Lib.hid (fun (W : World) (hW : Below w.heap.size w W) => eqRuleS_any x.us ausu ausv cusu cusv S1 S2 W (RowIn.kept FRu_keeps rr2u (Same.below hS1 hW)) (RowIn.kept FRu_keeps rr2v (Same.below hS2 hW)) (fun b hb => Nat.lt_of_lt_of_le (hS1 b hb) hW.size) (fun b hb => Nat.lt_of_lt_of_le (hS2 b hb) hW.size) (by omega))
  clear rr0u rr0v rr1u rr1v rr2u rr2v hS1 hS2
  have hb0 := ((Below.refl w.heap.size w).alloc (Nat.le_refl _) (Obj.cells #[.slice atsu x.ts.length ctsu, .slice arsu x.rs.length crsu, .slice ausu x.us.length cusu] 33)).alloc (by simp) (Obj.cells #[.slice atsv x.ts.length ctsv, .slice arsv x.rs.length crsv, .slice ausv x.us.length cusv] 33)
  have HB := Lib.hid hb0
  clear hb0
  have KP := Lib.hid ((heap_alloc_old _ (Obj.cells #[.slice atsv x.ts.length ctsv, .slice arsv x.rs.length crsv, .slice ausv x.us.length cusv] 33) (by simp)).trans (heap_alloc_new w (Obj.cells #[.slice atsu x.ts.length ctsu, .slice arsu x.rs.length crsu, .slice ausu x.us.length cusu] 33)))
  have KQ := Lib.hid (heap_alloc2_new w (Obj.cells #[.slice atsu x.ts.length ctsu, .slice arsu x.rs.length crsu, .slice ausu x.us.length cusu] 33) (Obj.cells #[.slice atsv x.ts.length ctsv, .slice arsv x.rs.length crsv, .slice ausv x.us.length cusv] 33))
  go_enter Try.func9, Try.ntmps9
  go_wp2_with fail
  refine (HZ0.out _ HB.out).mono ?_
  rintro e w0 ⟨rfl, hb1⟩
  replace HB := Lib.hid (below_step HB.out hb1)
  replace KP := Lib.hid ((hb1.block _ (lt_of_block KP.out)).trans KP.out)
  replace KQ := Lib.hid ((hb1.block _ (lt_of_block KQ.out)).trans KQ.out)
  clear HZ0 hb1
  try clear p0
  have p0 := cell_of_row _ (w.heap.size) 0 _ _ _ KP.out
  simp only [List.getElem?_toArray, List.getElem?_cons_zero, List.getElem?_cons_succ] at p0
  try clear p1
  have p1 := cell_of_row _ (w.heap.size) 1 _ _ _ KP.out
  simp only [List.getElem?_toArray, List.getElem?_cons_zero, List.getElem?_cons_succ] at p1
  try clear p2
  have p2 := cell_of_row _ (w.heap.size) 2 _ _ _ KP.out
  simp only [List.getElem?_toArray, List.getElem?_cons_zero, List.getElem?_cons_succ] at p2
  try clear q0
  have q0 := cell_of_row _ (w.heap.size + 1) 0 _ _ _ KQ.out
  simp only [List.getElem?_toArray, List.getElem?_cons_zero, List.getElem?_cons_succ] at q0
  try clear q1
  have q1 := cell_of_row _ (w.heap.size + 1) 1 _ _ _ KQ.out
  simp only [List.getElem?_toArray, List.getElem?_cons_zero, List.getElem?_cons_succ] at q1
  try clear q2
  have q2 := cell_of_row _ (w.heap.size + 1) 2 _ _ _ KQ.out
  simp only [List.getElem?_toArray, List.getElem?_cons_zero, List.getElem?_cons_succ] at q2
  go_wp2_with fail
  refine (HZ1.out _ HB.out).mono ?_
  rintro e w1 ⟨rfl, hb1⟩
  replace HB := Lib.hid (below_step HB.out hb1)
  replace KP := Lib.hid ((hb1.block _ (lt_of_block KP.out)).trans KP.out)
  replace KQ := Lib.hid ((hb1.block _ (lt_of_block KQ.out)).trans KQ.out)
  clear HZ1 hb1
  try clear p0
  have p0 := cell_of_row _ (w.heap.size) 0 _ _ _ KP.out
  simp only [List.getElem?_toArray, List.getElem?_cons_zero, List.getElem?_cons_succ] at p0
  try clear p1
  have p1 := cell_of_row _ (w.heap.size) 1 _ _ _ KP.out
  simp only [List.getElem?_toArray, List.getElem?_cons_zero, List.getElem?_cons_succ] at p1
  try clear p2
  have p2 := cell_of_row _ (w.heap.size) 2 _ _ _ KP.out
  simp only [List.getElem?_toArray, List.getElem?_cons_zero, List.getElem?_cons_succ] at p2
  try clear q0
  have q0 := cell_of_row _ (w.heap.size + 1) 0 _ _ _ KQ.out
  simp only [List.getElem?_toArray, List.getElem?_cons_zero, List.getElem?_cons_succ] at q0
  try clear q1
  have q1 := cell_of_row _ (w.heap.size + 1) 1 _ _ _ KQ.out
  simp only [List.getElem?_toArray, List.getElem?_cons_zero, List.getElem?_cons_succ] at q1
  try clear q2
  have q2 := cell_of_row _ (w.heap.size + 1) 2 _ _ _ KQ.out
  simp only [List.getElem?_toArray, List.getElem?_cons_zero, List.getElem?_cons_succ] at q2
  go_wp2_with fail
  refine (HZ2.out _ HB.out).mono ?_
  rintro e w2 ⟨rfl, hb1⟩
  replace HB := Lib.hid (below_step HB.out hb1)
  replace KP := Lib.hid ((hb1.block _ (lt_of_block KP.out)).trans KP.out)
  replace KQ := Lib.hid ((hb1.block _ (lt_of_block KQ.out)).trans KQ.out)
  clear HZ2 hb1
  go_wp2
  go_ret
  exact ⟨rfl, HB.out⟩

theorem infoProg : (Try.prog.info? 33).map (fun i => (i.zero, i.size, i.bytes)) = some (some (.agg #[.slice none 0 0, .slice none 0 0, .slice none 0 0]), 3, 72) := by kernel_rfl
theorem infoSProg : (Try.prog.info? 33).map (·.size) = some 3 := by kernel_rfl
set_option maxRecDepth 100000 in
set_option maxHeartbeats 2000000 in
theorem toProg_any (x : Pg) (vs : List Value) (S : Nat → Prop) (w : World) (hF : FPg S w vs x) (hS : ∀ b, S b → b < w.heap.size) (hn : x.wt ≤ 1048576) :
    Calls Try.prog 7 #[.agg vs.toArray] w fun e w' => ∃ us : List Value, e = .returned (.agg us.toArray) ∧ FPg (Seg w.heap.size w'.heap.size) w' us x ∧ Below w.heap.size w w' := by
  obtain ⟨ats, cts, ars, crs, aus, cus, rfl, rr0, rr1, rr2⟩ := hF
  unfold Pg.wt at hn
  have HZ0 := Lib.hid (fun (W : World) (hW : Below w.heap.size w W) => toTypeDeclS_any ats cts x.ts S W (RowIn.kept FTd_keeps rr0 (Same.below hS hW)) (fun b hb => Nat.lt_of_lt_of_le (hS b hb) hW.size) (by omega))
  have HZ1 := Lib.hid (fun (W : World) (hW : Below w.heap.size w W) => toRelDeclS_any ars crs x.rs S W (RowIn.kept FRd_keeps rr1 (Same.below hS hW)) (fun b hb => Nat.lt_of_lt_of_le (hS b hb) hW.size) (by omega))
  have HZ2 := Lib.hid (fun (W : World) (hW : Below w.heap.size w W) => toRuleS_any aus cus x.us S W (RowIn.kept FRu_keeps rr2 (Same.below hS hW)) (fun b hb => Nat.lt_of_lt_of_le (hS b hb) hW.size) (by omega))
  clear rr0 rr1 rr2 hS
  have hb := alloc3_below w (Obj.cells #[.slice ats x.ts.length cts, .slice ars x.rs.length crs, .slice aus x.us.length cus] 26) (Obj.cells #[.slice none 0 0, .slice none 0 0, .slice none 0 0] 33) (Obj.cells #[.slice none 0 0, .slice none 0 0, .slice none 0 0] 33)
  have hs0 := alloc3_size w (Obj.cells #[.slice ats x.ts.length cts, .slice ars x.rs.length crs, .slice aus x.us.length cus] 26) (Obj.cells #[.slice none 0 0, .slice none 0 0, .slice none 0 0] 33) (Obj.cells #[.slice none 0 0, .slice none 0 0, .slice none 0 0] 33)
  have k1 := alloc3_1 w (Obj.cells #[.slice ats x.ts.length cts, .slice ars x.rs.length crs, .slice aus x.us.length cus] 26) (Obj.cells #[.slice none 0 0, .slice none 0 0, .slice none 0 0] 33) (Obj.cells #[.slice none 0 0, .slice none 0 0, .slice none 0 0] 33)
  have k2 := alloc3_2 w (Obj.cells #[.slice ats x.ts.length cts, .slice ars x.rs.length crs, .slice aus x.us.length cus] 26) (Obj.cells #[.slice none 0 0, .slice none 0 0, .slice none 0 0] 33) (Obj.cells #[.slice none 0 0, .slice none 0 0, .slice none 0 0] 33)
  have KP := Lib.hid (alloc3_0 w (Obj.cells #[.slice ats x.ts.length cts, .slice ars x.rs.length crs, .slice aus x.us.length cus] 26) (Obj.cells #[.slice none 0 0, .slice none 0 0, .slice none 0 0] 33) (Obj.cells #[.slice none 0 0, .slice none 0 0, .slice none 0 0] 33))
  go_enter Try.func7, Try.ntmps7
  go_wp2_with fail
  refine (HZ0.out _ hb).mono ?_
  rintro e w0 ⟨g0, rfl, hI0, hb1⟩
  replace hI0 := RowIn.mono FTd_keeps hI0 (fun b hb => hb.mono (show w.heap.size + 3 ≤ _ by omega) (Nat.le_refl _))
  replace k1 := (hb1.block _ (by omega)).trans k1
  replace k2 := (hb1.block _ (by omega)).trans k2
  replace KP := Lib.hid ((hb1.block _ (lt_of_block KP.out)).trans KP.out)
  replace hb := below_step hb hb1
  replace hs0 : w.heap.size + 3 ≤ w0.heap.size := by have := hb1.size; omega
  clear HZ0 hb1
  have c10 := (cell_of_row _ (w.heap.size + 1) 0 _ _ _ k1)
  simp only [List.getElem?_toArray, List.getElem?_cons_zero, List.getElem?_cons_succ] at c10
  have c11 := (cell_of_row _ (w.heap.size + 1) 1 _ _ _ k1)
  simp only [List.getElem?_toArray, List.getElem?_cons_zero, List.getElem?_cons_succ] at c11
  have c12 := (cell_of_row _ (w.heap.size + 1) 2 _ _ _ k1)
  simp only [List.getElem?_toArray, List.getElem?_cons_zero, List.getElem?_cons_succ] at c12
  have c20 := (cell_of_row _ (w.heap.size + 2) 0 _ _ _ k2)
  simp only [List.getElem?_toArray, List.getElem?_cons_zero, List.getElem?_cons_succ] at c20
  have c21 := (cell_of_row _ (w.heap.size + 2) 1 _ _ _ k2)
  simp only [List.getElem?_toArray, List.getElem?_cons_zero, List.getElem?_cons_succ] at c21
  have c22 := (cell_of_row _ (w.heap.size + 2) 2 _ _ _ k2)
  simp only [List.getElem?_toArray, List.getElem?_cons_zero, List.getElem?_cons_succ] at c22
  have f10 := frozen_row k1 0
  have f20 := frozen_row k2 0
  have f11 := frozen_row k1 1
  have f21 := frozen_row k2 1
  have f12 := frozen_row k1 2
  have f22 := frozen_row k2 2
  try clear p0
  have p0 := cell_of_row _ (w.heap.size) 0 _ _ _ KP.out
  simp only [List.getElem?_toArray, List.getElem?_cons_zero, List.getElem?_cons_succ] at p0
  try clear p1
  have p1 := cell_of_row _ (w.heap.size) 1 _ _ _ KP.out
  simp only [List.getElem?_toArray, List.getElem?_cons_zero, List.getElem?_cons_succ] at p1
  try clear p2
  have p2 := cell_of_row _ (w.heap.size) 2 _ _ _ KP.out
  simp only [List.getElem?_toArray, List.getElem?_cons_zero, List.getElem?_cons_succ] at p2
  go_wp2_with fail
  clear c10 c20 f10 f20 p0 c11 c21 f11 f21 p1 c12 c22 f12 f22 p2
  replace k1 := (heap_setCell_other _ ⟨w.heap.size + 2, 0, none⟩ _ (.slice (some ⟨g0, 0, none⟩) x.ts.length x.ts.length) (show w.heap.size + 1 ≠ w.heap.size + 2 by omega)).trans k1
  replace k2 := heap_setCell_same _ (w.heap.size + 2) 0 _ _ (.slice (some ⟨g0, 0, none⟩) x.ts.length x.ts.length) k2
  simp only [List.setIfInBounds_toArray, List.set_cons_zero, List.set_cons_succ] at k2
  replace KP := Lib.hid ((heap_setCell_other _ ⟨w.heap.size + 2, 0, none⟩ _ (.slice (some ⟨g0, 0, none⟩) x.ts.length x.ts.length) (show w.heap.size ≠ w.heap.size + 2 by omega)).trans KP.out)
  replace hb := below_set hb (g := w.heap.size + 2) 0 (.slice (some ⟨g0, 0, none⟩) x.ts.length x.ts.length) (by omega)
  replace hI0 := RowIn.kept FTd_keeps hI0 (Same.set _ (g := w.heap.size + 2) (fun h => by have := h.1; omega) 0 (.slice (some ⟨g0, 0, none⟩) x.ts.length x.ts.length))
  replace hI0 := RowIn.mono FTd_keeps hI0 (fun b hb => hb.mono (Nat.le_refl _) (grown_set _ (w.heap.size + 2) 0 (.slice (some ⟨g0, 0, none⟩) x.ts.length x.ts.length)).size)
  have hs1 := hs0
  replace hs1 := Nat.le_trans hs1 (grown_set _ (w.heap.size + 2) 0 (.slice (some ⟨g0, 0, none⟩) x.ts.length x.ts.length)).size
  clear hs0
  have hs0 := hs1
  clear hs1
  refine (HZ1.out _ hb).mono ?_
  rintro e w1 ⟨g1, rfl, hI1, hb1⟩
  replace hI0 := RowIn.kept FTd_keeps hI0 (Same.below (fun b hb => hb.2) hb1)
  replace hI0 := RowIn.mono FTd_keeps hI0 (fun b hb => hb.mono (Nat.le_refl _) hb1.size)
  replace hI1 := RowIn.mono FRd_keeps hI1 (fun b hb => hb.mono (show w.heap.size + 3 ≤ _ by omega) (Nat.le_refl _))
  replace k1 := (hb1.block _ (by omega)).trans k1
  replace k2 := (hb1.block _ (by omega)).trans k2
  replace KP := Lib.hid ((hb1.block _ (lt_of_block KP.out)).trans KP.out)
  replace hb := below_step hb hb1
  replace hs0 : w.heap.size + 3 ≤ w1.heap.size := by have := hb1.size; omega
  clear HZ1 hb1
  have c10 := (cell_of_row _ (w.heap.size + 1) 0 _ _ _ k1)
  simp only [List.getElem?_toArray, List.getElem?_cons_zero, List.getElem?_cons_succ] at c10
  have c11 := (cell_of_row _ (w.heap.size + 1) 1 _ _ _ k1)
  simp only [List.getElem?_toArray, List.getElem?_cons_zero, List.getElem?_cons_succ] at c11
  have c12 := (cell_of_row _ (w.heap.size + 1) 2 _ _ _ k1)
  simp only [List.getElem?_toArray, List.getElem?_cons_zero, List.getElem?_cons_succ] at c12
  have c20 := (cell_of_row _ (w.heap.size + 2) 0 _ _ _ k2)
  simp only [List.getElem?_toArray, List.getElem?_cons_zero, List.getElem?_cons_succ] at c20
  have c21 := (cell_of_row _ (w.heap.size + 2) 1 _ _ _ k2)
  simp only [List.getElem?_toArray, List.getElem?_cons_zero, List.getElem?_cons_succ] at c21
  have c22 := (cell_of_row _ (w.heap.size + 2) 2 _ _ _ k2)
  simp only [List.getElem?_toArray, List.getElem?_cons_zero, List.getElem?_cons_succ] at c22
  have f10 := frozen_row k1 0
  have f20 := frozen_row k2 0
  have f11 := frozen_row k1 1
  have f21 := frozen_row k2 1
  have f12 := frozen_row k1 2
  have f22 := frozen_row k2 2
  try clear p0
  have p0 := cell_of_row _ (w.heap.size) 0 _ _ _ KP.out
  simp only [List.getElem?_toArray, List.getElem?_cons_zero, List.getElem?_cons_succ] at p0
  try clear p1
  have p1 := cell_of_row _ (w.heap.size) 1 _ _ _ KP.out
  simp only [List.getElem?_toArray, List.getElem?_cons_zero, List.getElem?_cons_succ] at p1
  try clear p2
  have p2 := cell_of_row _ (w.heap.size) 2 _ _ _ KP.out
  simp only [List.getElem?_toArray, List.getElem?_cons_zero, List.getElem?_cons_succ] at p2
  go_wp2_with fail
  clear c10 c20 f10 f20 p0 c11 c21 f11 f21 p1 c12 c22 f12 f22 p2
  replace k1 := (heap_setCell_other _ ⟨w.heap.size + 2, 1, none⟩ _ (.slice (some ⟨g1, 0, none⟩) x.rs.length x.rs.length) (show w.heap.size + 1 ≠ w.heap.size + 2 by omega)).trans k1
  replace k2 := heap_setCell_same _ (w.heap.size + 2) 1 _ _ (.slice (some ⟨g1, 0, none⟩) x.rs.length x.rs.length) k2
  simp only [List.setIfInBounds_toArray, List.set_cons_zero, List.set_cons_succ] at k2
  replace KP := Lib.hid ((heap_setCell_other _ ⟨w.heap.size + 2, 1, none⟩ _ (.slice (some ⟨g1, 0, none⟩) x.rs.length x.rs.length) (show w.heap.size ≠ w.heap.size + 2 by omega)).trans KP.out)
  replace hb := below_set hb (g := w.heap.size + 2) 1 (.slice (some ⟨g1, 0, none⟩) x.rs.length x.rs.length) (by omega)
  replace hI0 := RowIn.kept FTd_keeps hI0 (Same.set _ (g := w.heap.size + 2) (fun h => by have := h.1; omega) 1 (.slice (some ⟨g1, 0, none⟩) x.rs.length x.rs.length))
  replace hI0 := RowIn.mono FTd_keeps hI0 (fun b hb => hb.mono (Nat.le_refl _) (grown_set _ (w.heap.size + 2) 1 (.slice (some ⟨g1, 0, none⟩) x.rs.length x.rs.length)).size)
  replace hI1 := RowIn.kept FRd_keeps hI1 (Same.set _ (g := w.heap.size + 2) (fun h => by have := h.1; omega) 1 (.slice (some ⟨g1, 0, none⟩) x.rs.length x.rs.length))
  replace hI1 := RowIn.mono FRd_keeps hI1 (fun b hb => hb.mono (Nat.le_refl _) (grown_set _ (w.heap.size + 2) 1 (.slice (some ⟨g1, 0, none⟩) x.rs.length x.rs.length)).size)
  have hs1 := hs0
  replace hs1 := Nat.le_trans hs1 (grown_set _ (w.heap.size + 2) 1 (.slice (some ⟨g1, 0, none⟩) x.rs.length x.rs.length)).size
  clear hs0
  have hs0 := hs1
  clear hs1
  refine (HZ2.out _ hb).mono ?_
  rintro e w2 ⟨g2, rfl, hI2, hb1⟩
  replace hI0 := RowIn.kept FTd_keeps hI0 (Same.below (fun b hb => hb.2) hb1)
  replace hI0 := RowIn.mono FTd_keeps hI0 (fun b hb => hb.mono (Nat.le_refl _) hb1.size)
  replace hI1 := RowIn.kept FRd_keeps hI1 (Same.below (fun b hb => hb.2) hb1)
  replace hI1 := RowIn.mono FRd_keeps hI1 (fun b hb => hb.mono (Nat.le_refl _) hb1.size)
  replace hI2 := RowIn.mono FRu_keeps hI2 (fun b hb => hb.mono (show w.heap.size + 3 ≤ _ by omega) (Nat.le_refl _))
  replace k1 := (hb1.block _ (by omega)).trans k1
  replace k2 := (hb1.block _ (by omega)).trans k2
  replace KP := Lib.hid ((hb1.block _ (lt_of_block KP.out)).trans KP.out)
  replace hb := below_step hb hb1
  replace hs0 : w.heap.size + 3 ≤ w2.heap.size := by have := hb1.size; omega
  clear HZ2 hb1
  have c10 := (cell_of_row _ (w.heap.size + 1) 0 _ _ _ k1)
  simp only [List.getElem?_toArray, List.getElem?_cons_zero, List.getElem?_cons_succ] at c10
  have c11 := (cell_of_row _ (w.heap.size + 1) 1 _ _ _ k1)
  simp only [List.getElem?_toArray, List.getElem?_cons_zero, List.getElem?_cons_succ] at c11
  have c12 := (cell_of_row _ (w.heap.size + 1) 2 _ _ _ k1)
  simp only [List.getElem?_toArray, List.getElem?_cons_zero, List.getElem?_cons_succ] at c12
  have c20 := (cell_of_row _ (w.heap.size + 2) 0 _ _ _ k2)
  simp only [List.getElem?_toArray, List.getElem?_cons_zero, List.getElem?_cons_succ] at c20
  have c21 := (cell_of_row _ (w.heap.size + 2) 1 _ _ _ k2)
  simp only [List.getElem?_toArray, List.getElem?_cons_zero, List.getElem?_cons_succ] at c21
  have c22 := (cell_of_row _ (w.heap.size + 2) 2 _ _ _ k2)
  simp only [List.getElem?_toArray, List.getElem?_cons_zero, List.getElem?_cons_succ] at c22
  have f10 := frozen_row k1 0
  have f20 := frozen_row k2 0
  have f11 := frozen_row k1 1
  have f21 := frozen_row k2 1
  have f12 := frozen_row k1 2
  have f22 := frozen_row k2 2
  try clear p0
  have p0 := cell_of_row _ (w.heap.size) 0 _ _ _ KP.out
  simp only [List.getElem?_toArray, List.getElem?_cons_zero, List.getElem?_cons_succ] at p0
  try clear p1
  have p1 := cell_of_row _ (w.heap.size) 1 _ _ _ KP.out
  simp only [List.getElem?_toArray, List.getElem?_cons_zero, List.getElem?_cons_succ] at p1
  try clear p2
  have p2 := cell_of_row _ (w.heap.size) 2 _ _ _ KP.out
  simp only [List.getElem?_toArray, List.getElem?_cons_zero, List.getElem?_cons_succ] at p2
  have HhI0 := Lib.hid hI0
  clear hI0
  have HhI1 := Lib.hid hI1
  clear hI1
  have HhI2 := Lib.hid hI2
  clear hI2
  have HK1 := Lib.hid k1
  have HK2 := Lib.hid k2
  have HB := Lib.hid hb
  clear k1 k2 hb
  go_wp2
  obtain ⟨hres, hbel, hsame, hsz⟩ := laid_out (w := w) (W := w2) (c := 3) 2 [.slice (some ⟨g2, 0, none⟩) x.us.length x.us.length] [.slice (some ⟨g0, 0, none⟩) x.ts.length x.ts.length, .slice (some ⟨g1, 0, none⟩) x.rs.length x.rs.length, .slice (some ⟨g2, 0, none⟩) x.us.length x.us.length] HK1.out HK2.out HB.out (by simp) (by simp) (by simp)
  refine bodyPost_ret (results_cell_row rfl _ _ (w.heap.size + 1) 33 #[.slice (some ⟨g0, 0, none⟩) x.ts.length x.ts.length, .slice (some ⟨g1, 0, none⟩) x.rs.length x.rs.length, .slice (some ⟨g2, 0, none⟩) x.us.length x.us.length] (0, 0) _ (by rfl) hres Try.underlying33 rfl infoSProg) rfl ?_
  refine ⟨[.slice (some ⟨g0, 0, none⟩) x.ts.length x.ts.length, .slice (some ⟨g1, 0, none⟩) x.rs.length x.rs.length, .slice (some ⟨g2, 0, none⟩) x.us.length x.us.length], rfl, ⟨_, _, _, _, _, _, rfl, ?_, ?_, ?_⟩, hbel⟩
  · exact RowIn.mono FTd_keeps (RowIn.kept FTd_keeps HhI0.out (hsame _ (fun h => by have := h.1; omega) (fun h => by have := h.1; omega))) (fun b hb => hb.mono (by omega) (Nat.le_of_eq hsz.symm))
  · exact RowIn.mono FRd_keeps (RowIn.kept FRd_keeps HhI1.out (hsame _ (fun h => by have := h.1; omega) (fun h => by have := h.1; omega))) (fun b hb => hb.mono (by omega) (Nat.le_of_eq hsz.symm))
  · exact RowIn.mono FRu_keeps (RowIn.kept FRu_keeps HhI2.out (hsame _ (fun h => by have := h.1; omega) (fun h => by have := h.1; omega))) (fun b hb => hb.mono (by omega) (Nat.le_of_eq hsz.symm))


end Go.Proofs.Ytdcfhmbnbfmnbaa.Pr
