/-
  THE LAWS' OWN HELPERS over rules.
-/
import Derived.Test.YtilijbpbnlnhlaaGreatPTe
namespace Go.Proofs.YtilijbpbnlnhlaaGreat.Pr
open Go Go.RowKit Go.Maps Go.WideMaps

structure Ru where
  es : List It
  hd : It
  bd : List It
def FRu : Flat Ru := fun S w vs x => ∃ (aes : Option Addr) (ces : Nat), ∃ (ahdxs : Option Addr) (chdxs : Nat), ∃ (abd : Option Addr) (cbd : Nat), vs = [.slice aes x.es.length ces, .int .i64 x.hd.k, .string x.hd.s, .slice ahdxs x.hd.xs.length chdxs, .slice abd x.bd.length cbd] ∧ RowIn FIt 3 S w aes x.es ∧ IntsIn S w ahdxs x.hd.xs ∧ RowIn FIt 3 S w abd x.bd
theorem FRu_keeps : Keeps FRu := by
  refine ⟨?_, ?_⟩
  · rintro S w w' vs x ⟨aes, ces, ahdxs, chdxs, abd, cbd, rfl, h0, h1, h2⟩ hs
    exact ⟨_, _, _, _, _, _, rfl, RowIn.kept FIt_keeps h0 hs, h1.kept hs, RowIn.kept FIt_keeps h2 hs⟩
  · rintro S T w vs x ⟨aes, ces, ahdxs, chdxs, abd, cbd, rfl, h0, h1, h2⟩ hs
    exact ⟨_, _, _, _, _, _, rfl, RowIn.mono FIt_keeps h0 hs, h1.mono hs, RowIn.mono FIt_keeps h2 hs⟩
def Ru.wt (x : Ru) : Nat := wtExpS x.es + x.hd.wt + wtLitS x.bd
def Ru.fits (x : Ru) : Prop := (x.es.length ≤ 9223372036854775807 ∧ ∀ y ∈ x.es, y.fits) ∧ x.hd.fits ∧ (x.bd.length ≤ 9223372036854775807 ∧ ∀ y ∈ x.bd, y.fits)

set_option maxRecDepth 100000 in
set_option maxHeartbeats 2000000 in
theorem szRule_any (x : Ru) (vs : List Value) (L : Int) (S : Nat → Prop) (w : World) (hF : FRu S w vs x) (hS : ∀ b, S b → b < w.heap.size) (hf : x.fits) (h0 : 0 ≤ L) (h1 : L ≤ 1048576) :
    Calls Tryz.prog 6 #[.agg vs.toArray, .int .i64 L] w fun e w' => (∃ r : Int, e = .returned (.int .i64 r) ∧ ((r < 0 ∧ L < x.wt) ∨ (r = L - x.wt ∧ (x.wt : Int) ≤ L))) ∧ Below w.heap.size w w' := by
  obtain ⟨aes, ces, ahdxs, chdxs, abd, cbd, rfl, rr0, rr1, rr2⟩ := hF
  unfold Ru.fits at hf
  unfold Ru.wt
  obtain ⟨f0, f1, f2⟩ := hf
  have hb0 := (Below.refl w.heap.size w).alloc (Nat.le_refl _) (Obj.cells #[.slice aes x.es.length ces, .int .i64 x.hd.k, .string x.hd.s, .slice ahdxs x.hd.xs.length chdxs, .slice abd x.bd.length cbd] 28)
  have HB := Lib.hid hb0
  clear hb0
  have KP := Lib.hid (heap_alloc_new w (Obj.cells #[.slice aes x.es.length ces, .int .i64 x.hd.k, .string x.hd.s, .slice ahdxs x.hd.xs.length chdxs, .slice abd x.bd.length cbd] 28))
  have HZ0 := Lib.hid (fun (L' : Int) (W : World) (hW : Below w.heap.size w W) (h0 : 0 ≤ L') (h1 : L' ≤ 1048576) => szExpS_any aes ces x.es L' S W (RowIn.kept FIt_keeps rr0 (Same.below hS hW)) (fun b hb => Nat.lt_of_lt_of_le (hS b hb) hW.size) f0.1 f0.2 h0 h1)
  have HZ1 := Lib.hid (fun (L' : Int) (W : World) (hW : Below w.heap.size w W) (h0 : 0 ≤ L') (h1 : L' ≤ 1048576) => szLit_any x.hd _ L' S W (FIt_keeps.1 S w W _ x.hd ⟨ahdxs, chdxs, rfl, rr1⟩ (Same.below hS hW)) (fun b hb => Nat.lt_of_lt_of_le (hS b hb) hW.size) f1 h0 h1)
  have HZ2 := Lib.hid (fun (L' : Int) (W : World) (hW : Below w.heap.size w W) (h0 : 0 ≤ L') (h1 : L' ≤ 1048576) => szLitS_any abd cbd x.bd L' S W (RowIn.kept FIt_keeps rr2 (Same.below hS hW)) (fun b hb => Nat.lt_of_lt_of_le (hS b hb) hW.size) f2.1 f2.2 h0 h1)
  clear rr0 rr1 rr2 hS
  generalize wtExpS x.es = q0 at *
  generalize x.hd.wt = q1 at *
  generalize wtLitS x.bd = q2 at *
  go_enter Tryz.func6, Tryz.ntmps6
  go_wp2_with fail
  refine (HZ0.out (L) _ HB.out (by omega) (by omega)).mono ?_
  rintro e w0 ⟨⟨r, rfl, hr⟩, hb1⟩
  replace HB := Lib.hid (below_step HB.out hb1)
  replace KP := Lib.hid ((hb1.block _ (lt_of_block KP.out)).trans KP.out)
  clear hb1 HZ0
  rcases hr with ⟨hr, hl⟩ | ⟨rfl, hl⟩
  · have hd0 : decide (r < 0) = true := decide_eq_true hr
    go_wp2
    go_ret
    exact ⟨⟨-1, rfl, .inl (by omega)⟩, HB.out⟩
  · have hd0 : decide (L - (q0 : Int) < 0) = false := decide_eq_false (by omega)
    try clear p0
    have p0 := cell_of_row _ (w.heap.size) 0 _ _ _ KP.out
    simp only [List.getElem?_toArray, List.getElem?_cons_zero] at p0
    try clear p1
    have p1 := cell_of_row _ (w.heap.size) 1 _ _ _ KP.out
    simp only [List.getElem?_toArray, List.getElem?_cons_zero, List.getElem?_cons_succ] at p1
    try clear p2
    have p2 := cell_of_row _ (w.heap.size) 2 _ _ _ KP.out
    simp only [List.getElem?_toArray, List.getElem?_cons_zero, List.getElem?_cons_succ] at p2
    try clear p3
    have p3 := cell_of_row _ (w.heap.size) 3 _ _ _ KP.out
    simp only [List.getElem?_toArray, List.getElem?_cons_zero, List.getElem?_cons_succ] at p3
    try clear p4
    have p4 := cell_of_row _ (w.heap.size) 4 _ _ _ KP.out
    simp only [List.getElem?_toArray, List.getElem?_cons_zero, List.getElem?_cons_succ] at p4
    go_wp2_with fail
    refine (HZ1.out (L - (q0 : Int)) _ HB.out (by omega) (by omega)).mono ?_
    rintro e w1 ⟨⟨r, rfl, hr⟩, hb1⟩
    replace HB := Lib.hid (below_step HB.out hb1)
    replace KP := Lib.hid ((hb1.block _ (lt_of_block KP.out)).trans KP.out)
    clear hb1 HZ1
    rcases hr with ⟨hr, hl⟩ | ⟨rfl, hl⟩
    · have hd1 : decide (r < 0) = true := decide_eq_true hr
      go_wp2
      go_ret
      exact ⟨⟨-1, rfl, .inl (by omega)⟩, HB.out⟩
    · have hd1 : decide (L - (q0 : Int) - (q1 : Int) < 0) = false := decide_eq_false (by omega)
      try clear p0
      have p0 := cell_of_row _ (w.heap.size) 0 _ _ _ KP.out
      simp only [List.getElem?_toArray, List.getElem?_cons_zero] at p0
      try clear p1
      have p1 := cell_of_row _ (w.heap.size) 1 _ _ _ KP.out
      simp only [List.getElem?_toArray, List.getElem?_cons_zero, List.getElem?_cons_succ] at p1
      try clear p2
      have p2 := cell_of_row _ (w.heap.size) 2 _ _ _ KP.out
      simp only [List.getElem?_toArray, List.getElem?_cons_zero, List.getElem?_cons_succ] at p2
      try clear p3
      have p3 := cell_of_row _ (w.heap.size) 3 _ _ _ KP.out
      simp only [List.getElem?_toArray, List.getElem?_cons_zero, List.getElem?_cons_succ] at p3
      try clear p4
      have p4 := cell_of_row _ (w.heap.size) 4 _ _ _ KP.out
      simp only [List.getElem?_toArray, List.getElem?_cons_zero, List.getElem?_cons_succ] at p4
      go_wp2_with fail
      refine (HZ2.out (L - (q0 : Int) - (q1 : Int)) _ HB.out (by omega) (by omega)).mono ?_
      rintro e w2 ⟨⟨r, rfl, hr⟩, hb1⟩
      replace HB := Lib.hid (below_step HB.out hb1)
      replace KP := Lib.hid ((hb1.block _ (lt_of_block KP.out)).trans KP.out)
      clear hb1 HZ2
      rcases hr with ⟨hr, hl⟩ | ⟨rfl, hl⟩
      · have hd2 : decide (r < 0) = true := decide_eq_true hr
        go_wp2
        go_ret
        exact ⟨⟨-1, rfl, .inl (by omega)⟩, HB.out⟩
      · have hd2 : decide (L - (q0 : Int) - (q1 : Int) - (q2 : Int) < 0) = false := decide_eq_false (by omega)
        go_wp2
        go_ret
        exact ⟨⟨_, rfl, .inr (by omega)⟩, HB.out⟩

set_option maxRecDepth 100000 in
set_option maxHeartbeats 2000000 in
theorem eqRule_any (x : Ru) (us vs : List Value) (S1 S2 : Nat → Prop) (w : World) (hF1 : FRu S1 w us x) (hF2 : FRu S2 w vs x) (hS1 : ∀ b, S1 b → b < w.heap.size) (hS2 : ∀ b, S2 b → b < w.heap.size) (hn : x.wt ≤ 2000000) :
    Calls Tryz.prog 11 #[.agg us.toArray, .agg vs.toArray] w fun e w' => e = .returned (.bool true) ∧ Below w.heap.size w w' := by
  obtain ⟨aesu, cesu, ahdxsu, chdxsu, abdu, cbdu, rfl, rr0u, rr1u, rr2u⟩ := hF1
  obtain ⟨aesv, cesv, ahdxsv, chdxsv, abdv, cbdv, rfl, rr0v, rr1v, rr2v⟩ := hF2
  unfold Ru.wt at hn
  have HZ0 := Lib.hid (fun (W : World) (hW : Below w.heap.size w W) => eqExpS_any x.es aesu aesv cesu cesv S1 S2 W (RowIn.kept FIt_keeps rr0u (Same.below hS1 hW)) (RowIn.kept FIt_keeps rr0v (Same.below hS2 hW)) (fun b hb => Nat.lt_of_lt_of_le (hS1 b hb) hW.size) (fun b hb => Nat.lt_of_lt_of_le (hS2 b hb) hW.size) (by omega))
  have HZ1 := Lib.hid (fun (W : World) (hW : Below w.heap.size w W) => eqLit_any x.hd _ _ S1 S2 W (FIt_keeps.1 S1 w W _ x.hd ⟨ahdxsu, chdxsu, rfl, rr1u⟩ (Same.below hS1 hW)) (FIt_keeps.1 S2 w W _ x.hd ⟨ahdxsv, chdxsv, rfl, rr1v⟩ (Same.below hS2 hW)) (fun b hb => Nat.lt_of_lt_of_le (hS1 b hb) hW.size) (fun b hb => Nat.lt_of_lt_of_le (hS2 b hb) hW.size) (by omega))
  have HZ2 := Lib.hid (fun (W : World) (hW : Below w.heap.size w W) => eqLitS_any x.bd abdu abdv cbdu cbdv S1 S2 W (RowIn.kept FIt_keeps rr2u (Same.below hS1 hW)) (RowIn.kept FIt_keeps rr2v (Same.below hS2 hW)) (fun b hb => Nat.lt_of_lt_of_le (hS1 b hb) hW.size) (fun b hb => Nat.lt_of_lt_of_le (hS2 b hb) hW.size) (by omega))
  clear rr0u rr0v rr1u rr1v rr2u rr2v hS1 hS2
  have hb0 := ((Below.refl w.heap.size w).alloc (Nat.le_refl _) (Obj.cells #[.slice aesu x.es.length cesu, .int .i64 x.hd.k, .string x.hd.s, .slice ahdxsu x.hd.xs.length chdxsu, .slice abdu x.bd.length cbdu] 36)).alloc (by simp) (Obj.cells #[.slice aesv x.es.length cesv, .int .i64 x.hd.k, .string x.hd.s, .slice ahdxsv x.hd.xs.length chdxsv, .slice abdv x.bd.length cbdv] 36)
  have HB := Lib.hid hb0
  clear hb0
  have KP := Lib.hid ((heap_alloc_old _ (Obj.cells #[.slice aesv x.es.length cesv, .int .i64 x.hd.k, .string x.hd.s, .slice ahdxsv x.hd.xs.length chdxsv, .slice abdv x.bd.length cbdv] 36) (by simp)).trans (heap_alloc_new w (Obj.cells #[.slice aesu x.es.length cesu, .int .i64 x.hd.k, .string x.hd.s, .slice ahdxsu x.hd.xs.length chdxsu, .slice abdu x.bd.length cbdu] 36)))
  have KQ := Lib.hid (heap_alloc2_new w (Obj.cells #[.slice aesu x.es.length cesu, .int .i64 x.hd.k, .string x.hd.s, .slice ahdxsu x.hd.xs.length chdxsu, .slice abdu x.bd.length cbdu] 36) (Obj.cells #[.slice aesv x.es.length cesv, .int .i64 x.hd.k, .string x.hd.s, .slice ahdxsv x.hd.xs.length chdxsv, .slice abdv x.bd.length cbdv] 36))
  go_enter Tryz.func11, Tryz.ntmps11
  go_wp2_with fail
  refine (HZ0.out _ HB.out).mono ?_
  rintro e w0 ⟨rfl, hb1⟩
  replace HB := Lib.hid (below_step HB.out hb1)
  replace KP := Lib.hid ((hb1.block _ (lt_of_block KP.out)).trans KP.out)
  replace KQ := Lib.hid ((hb1.block _ (lt_of_block KQ.out)).trans KQ.out)
  clear HZ0 hb1
  try clear p0
  have p0 := cell_of_row _ (w.heap.size) 0 _ _ _ KP.out
  simp only [List.getElem?_toArray, List.getElem?_cons_zero] at p0
  try clear p1
  have p1 := cell_of_row _ (w.heap.size) 1 _ _ _ KP.out
  simp only [List.getElem?_toArray, List.getElem?_cons_zero, List.getElem?_cons_succ] at p1
  try clear p2
  have p2 := cell_of_row _ (w.heap.size) 2 _ _ _ KP.out
  simp only [List.getElem?_toArray, List.getElem?_cons_zero, List.getElem?_cons_succ] at p2
  try clear p3
  have p3 := cell_of_row _ (w.heap.size) 3 _ _ _ KP.out
  simp only [List.getElem?_toArray, List.getElem?_cons_zero, List.getElem?_cons_succ] at p3
  try clear p4
  have p4 := cell_of_row _ (w.heap.size) 4 _ _ _ KP.out
  simp only [List.getElem?_toArray, List.getElem?_cons_zero, List.getElem?_cons_succ] at p4
  try clear q0
  have q0 := cell_of_row _ (w.heap.size + 1) 0 _ _ _ KQ.out
  simp only [List.getElem?_toArray, List.getElem?_cons_zero] at q0
  try clear q1
  have q1 := cell_of_row _ (w.heap.size + 1) 1 _ _ _ KQ.out
  simp only [List.getElem?_toArray, List.getElem?_cons_zero, List.getElem?_cons_succ] at q1
  try clear q2
  have q2 := cell_of_row _ (w.heap.size + 1) 2 _ _ _ KQ.out
  simp only [List.getElem?_toArray, List.getElem?_cons_zero, List.getElem?_cons_succ] at q2
  try clear q3
  have q3 := cell_of_row _ (w.heap.size + 1) 3 _ _ _ KQ.out
  simp only [List.getElem?_toArray, List.getElem?_cons_zero, List.getElem?_cons_succ] at q3
  try clear q4
  have q4 := cell_of_row _ (w.heap.size + 1) 4 _ _ _ KQ.out
  simp only [List.getElem?_toArray, List.getElem?_cons_zero, List.getElem?_cons_succ] at q4
  go_wp2_with fail
  refine (HZ1.out _ HB.out).mono ?_
  rintro e w1 ⟨rfl, hb1⟩
  replace HB := Lib.hid (below_step HB.out hb1)
  replace KP := Lib.hid ((hb1.block _ (lt_of_block KP.out)).trans KP.out)
  replace KQ := Lib.hid ((hb1.block _ (lt_of_block KQ.out)).trans KQ.out)
  clear HZ1 hb1
  try clear p0
  have p0 := cell_of_row _ (w.heap.size) 0 _ _ _ KP.out
  simp only [List.getElem?_toArray, List.getElem?_cons_zero] at p0
  try clear p1
  have p1 := cell_of_row _ (w.heap.size) 1 _ _ _ KP.out
  simp only [List.getElem?_toArray, List.getElem?_cons_zero, List.getElem?_cons_succ] at p1
  try clear p2
  have p2 := cell_of_row _ (w.heap.size) 2 _ _ _ KP.out
  simp only [List.getElem?_toArray, List.getElem?_cons_zero, List.getElem?_cons_succ] at p2
  try clear p3
  have p3 := cell_of_row _ (w.heap.size) 3 _ _ _ KP.out
  simp only [List.getElem?_toArray, List.getElem?_cons_zero, List.getElem?_cons_succ] at p3
  try clear p4
  have p4 := cell_of_row _ (w.heap.size) 4 _ _ _ KP.out
  simp only [List.getElem?_toArray, List.getElem?_cons_zero, List.getElem?_cons_succ] at p4
  try clear q0
  have q0 := cell_of_row _ (w.heap.size + 1) 0 _ _ _ KQ.out
  simp only [List.getElem?_toArray, List.getElem?_cons_zero] at q0
  try clear q1
  have q1 := cell_of_row _ (w.heap.size + 1) 1 _ _ _ KQ.out
  simp only [List.getElem?_toArray, List.getElem?_cons_zero, List.getElem?_cons_succ] at q1
  try clear q2
  have q2 := cell_of_row _ (w.heap.size + 1) 2 _ _ _ KQ.out
  simp only [List.getElem?_toArray, List.getElem?_cons_zero, List.getElem?_cons_succ] at q2
  try clear q3
  have q3 := cell_of_row _ (w.heap.size + 1) 3 _ _ _ KQ.out
  simp only [List.getElem?_toArray, List.getElem?_cons_zero, List.getElem?_cons_succ] at q3
  try clear q4
  have q4 := cell_of_row _ (w.heap.size + 1) 4 _ _ _ KQ.out
  simp only [List.getElem?_toArray, List.getElem?_cons_zero, List.getElem?_cons_succ] at q4
  go_wp2_with fail
  refine (HZ2.out _ HB.out).mono ?_
  rintro e w2 ⟨rfl, hb1⟩
  replace HB := Lib.hid (below_step HB.out hb1)
  replace KP := Lib.hid ((hb1.block _ (lt_of_block KP.out)).trans KP.out)
  replace KQ := Lib.hid ((hb1.block _ (lt_of_block KQ.out)).trans KQ.out)
  clear HZ2 hb1
  go_wp2
  go_ret
  exact ⟨rfl, HB.out⟩

theorem infoRule : (Tryz.prog.info? 36).map (fun i => (i.zero, i.size, i.bytes)) = some (some (.agg #[.slice none 0 0, .int .i64 0, .string ⟨#[]⟩, .slice none 0 0, .slice none 0 0]), 5, 96) := by kernel_rfl
theorem infoSRule : (Tryz.prog.info? 36).map (·.size) = some 5 := by kernel_rfl
set_option maxRecDepth 100000 in
set_option maxHeartbeats 2000000 in
theorem toRule_any (x : Ru) (vs : List Value) (S : Nat → Prop) (w : World) (hF : FRu S w vs x) (hS : ∀ b, S b → b < w.heap.size) (hn : x.wt ≤ 1048576) :
    Calls Tryz.prog 8 #[.agg vs.toArray] w fun e w' => ∃ us : List Value, e = .returned (.agg us.toArray) ∧ FRu (Seg w.heap.size w'.heap.size) w' us x ∧ Below w.heap.size w w' := by
  obtain ⟨aes, ces, ahdxs, chdxs, abd, cbd, rfl, rr0, rr1, rr2⟩ := hF
  unfold Ru.wt at hn
  have HZ0 := Lib.hid (fun (W : World) (hW : Below w.heap.size w W) => toExpS_any aes ces x.es S W (RowIn.kept FIt_keeps rr0 (Same.below hS hW)) (fun b hb => Nat.lt_of_lt_of_le (hS b hb) hW.size) (by omega))
  have HZ1 := Lib.hid (fun (W : World) (hW : Below w.heap.size w W) => toLit_any x.hd _ S W (FIt_keeps.1 S w W _ x.hd ⟨ahdxs, chdxs, rfl, rr1⟩ (Same.below hS hW)) (fun b hb => Nat.lt_of_lt_of_le (hS b hb) hW.size) (by omega))
  have HZ2 := Lib.hid (fun (W : World) (hW : Below w.heap.size w W) => toLitS_any abd cbd x.bd S W (RowIn.kept FIt_keeps rr2 (Same.below hS hW)) (fun b hb => Nat.lt_of_lt_of_le (hS b hb) hW.size) (by omega))
  clear rr0 rr1 rr2 hS
  have hb := alloc3_below w (Obj.cells #[.slice aes x.es.length ces, .int .i64 x.hd.k, .string x.hd.s, .slice ahdxs x.hd.xs.length chdxs, .slice abd x.bd.length cbd] 28) (Obj.cells #[.slice none 0 0, .int .i64 0, .string ⟨#[]⟩, .slice none 0 0, .slice none 0 0] 36) (Obj.cells #[.slice none 0 0, .int .i64 0, .string ⟨#[]⟩, .slice none 0 0, .slice none 0 0] 36)
  have hs0 := alloc3_size w (Obj.cells #[.slice aes x.es.length ces, .int .i64 x.hd.k, .string x.hd.s, .slice ahdxs x.hd.xs.length chdxs, .slice abd x.bd.length cbd] 28) (Obj.cells #[.slice none 0 0, .int .i64 0, .string ⟨#[]⟩, .slice none 0 0, .slice none 0 0] 36) (Obj.cells #[.slice none 0 0, .int .i64 0, .string ⟨#[]⟩, .slice none 0 0, .slice none 0 0] 36)
  have k1 := alloc3_1 w (Obj.cells #[.slice aes x.es.length ces, .int .i64 x.hd.k, .string x.hd.s, .slice ahdxs x.hd.xs.length chdxs, .slice abd x.bd.length cbd] 28) (Obj.cells #[.slice none 0 0, .int .i64 0, .string ⟨#[]⟩, .slice none 0 0, .slice none 0 0] 36) (Obj.cells #[.slice none 0 0, .int .i64 0, .string ⟨#[]⟩, .slice none 0 0, .slice none 0 0] 36)
  have k2 := alloc3_2 w (Obj.cells #[.slice aes x.es.length ces, .int .i64 x.hd.k, .string x.hd.s, .slice ahdxs x.hd.xs.length chdxs, .slice abd x.bd.length cbd] 28) (Obj.cells #[.slice none 0 0, .int .i64 0, .string ⟨#[]⟩, .slice none 0 0, .slice none 0 0] 36) (Obj.cells #[.slice none 0 0, .int .i64 0, .string ⟨#[]⟩, .slice none 0 0, .slice none 0 0] 36)
  have KP := Lib.hid (alloc3_0 w (Obj.cells #[.slice aes x.es.length ces, .int .i64 x.hd.k, .string x.hd.s, .slice ahdxs x.hd.xs.length chdxs, .slice abd x.bd.length cbd] 28) (Obj.cells #[.slice none 0 0, .int .i64 0, .string ⟨#[]⟩, .slice none 0 0, .slice none 0 0] 36) (Obj.cells #[.slice none 0 0, .int .i64 0, .string ⟨#[]⟩, .slice none 0 0, .slice none 0 0] 36))
  go_enter Tryz.func8, Tryz.ntmps8
  go_wp2_with fail
  refine (HZ0.out _ hb).mono ?_
  rintro e w0 ⟨g0, rfl, hI0, hb1⟩
  replace hI0 := RowIn.mono FIt_keeps hI0 (fun b hb => hb.mono (show w.heap.size + 3 ≤ _ by omega) (Nat.le_refl _))
  replace k1 := (hb1.block _ (by omega)).trans k1
  replace k2 := (hb1.block _ (by omega)).trans k2
  replace KP := Lib.hid ((hb1.block _ (lt_of_block KP.out)).trans KP.out)
  replace hb := below_step hb hb1
  replace hs0 : w.heap.size + 3 ≤ w0.heap.size := by have := hb1.size; omega
  clear HZ0 hb1
  have c10 := (cell_of_row _ (w.heap.size + 1) 0 _ _ _ k1)
  simp only [List.getElem?_toArray, List.getElem?_cons_zero] at c10
  have c11 := (cell_of_row _ (w.heap.size + 1) 1 _ _ _ k1)
  simp only [List.getElem?_toArray, List.getElem?_cons_zero, List.getElem?_cons_succ] at c11
  have c12 := (cell_of_row _ (w.heap.size + 1) 2 _ _ _ k1)
  simp only [List.getElem?_toArray, List.getElem?_cons_zero, List.getElem?_cons_succ] at c12
  have c13 := (cell_of_row _ (w.heap.size + 1) 3 _ _ _ k1)
  simp only [List.getElem?_toArray, List.getElem?_cons_zero, List.getElem?_cons_succ] at c13
  have c14 := (cell_of_row _ (w.heap.size + 1) 4 _ _ _ k1)
  simp only [List.getElem?_toArray, List.getElem?_cons_zero, List.getElem?_cons_succ] at c14
  have c20 := (cell_of_row _ (w.heap.size + 2) 0 _ _ _ k2)
  simp only [List.getElem?_toArray, List.getElem?_cons_zero] at c20
  have c21 := (cell_of_row _ (w.heap.size + 2) 1 _ _ _ k2)
  simp only [List.getElem?_toArray, List.getElem?_cons_zero, List.getElem?_cons_succ] at c21
  have c22 := (cell_of_row _ (w.heap.size + 2) 2 _ _ _ k2)
  simp only [List.getElem?_toArray, List.getElem?_cons_zero, List.getElem?_cons_succ] at c22
  have c23 := (cell_of_row _ (w.heap.size + 2) 3 _ _ _ k2)
  simp only [List.getElem?_toArray, List.getElem?_cons_zero, List.getElem?_cons_succ] at c23
  have c24 := (cell_of_row _ (w.heap.size + 2) 4 _ _ _ k2)
  simp only [List.getElem?_toArray, List.getElem?_cons_zero, List.getElem?_cons_succ] at c24
  have f10 := frozen_row k1 0
  have f20 := frozen_row k2 0
  have f11 := frozen_row k1 1
  have f21 := frozen_row k2 1
  have f12 := frozen_row k1 2
  have f22 := frozen_row k2 2
  have f13 := frozen_row k1 3
  have f23 := frozen_row k2 3
  have f14 := frozen_row k1 4
  have f24 := frozen_row k2 4
  try clear p0
  have p0 := cell_of_row _ (w.heap.size) 0 _ _ _ KP.out
  simp only [List.getElem?_toArray, List.getElem?_cons_zero] at p0
  try clear p1
  have p1 := cell_of_row _ (w.heap.size) 1 _ _ _ KP.out
  simp only [List.getElem?_toArray, List.getElem?_cons_zero, List.getElem?_cons_succ] at p1
  try clear p2
  have p2 := cell_of_row _ (w.heap.size) 2 _ _ _ KP.out
  simp only [List.getElem?_toArray, List.getElem?_cons_zero, List.getElem?_cons_succ] at p2
  try clear p3
  have p3 := cell_of_row _ (w.heap.size) 3 _ _ _ KP.out
  simp only [List.getElem?_toArray, List.getElem?_cons_zero, List.getElem?_cons_succ] at p3
  try clear p4
  have p4 := cell_of_row _ (w.heap.size) 4 _ _ _ KP.out
  simp only [List.getElem?_toArray, List.getElem?_cons_zero, List.getElem?_cons_succ] at p4
  go_wp2_with fail
  clear c10 c20 f10 f20 p0 c11 c21 f11 f21 p1 c12 c22 f12 f22 p2 c13 c23 f13 f23 p3 c14 c24 f14 f24 p4
  replace k1 := (heap_setCell_other _ ⟨w.heap.size + 2, 0, none⟩ _ (.slice (some ⟨g0, 0, none⟩) x.es.length x.es.length) (show w.heap.size + 1 ≠ w.heap.size + 2 by omega)).trans k1
  replace k2 := heap_setCell_same _ (w.heap.size + 2) 0 _ _ (.slice (some ⟨g0, 0, none⟩) x.es.length x.es.length) k2
  simp only [List.setIfInBounds_toArray, List.set_cons_zero] at k2
  replace KP := Lib.hid ((heap_setCell_other _ ⟨w.heap.size + 2, 0, none⟩ _ (.slice (some ⟨g0, 0, none⟩) x.es.length x.es.length) (show w.heap.size ≠ w.heap.size + 2 by omega)).trans KP.out)
  replace hb := below_set hb (g := w.heap.size + 2) 0 (.slice (some ⟨g0, 0, none⟩) x.es.length x.es.length) (by omega)
  replace hI0 := RowIn.kept FIt_keeps hI0 (Same.set _ (g := w.heap.size + 2) (fun h => by have := h.1; omega) 0 (.slice (some ⟨g0, 0, none⟩) x.es.length x.es.length))
  replace hI0 := RowIn.mono FIt_keeps hI0 (fun b hb => hb.mono (Nat.le_refl _) (grown_set _ (w.heap.size + 2) 0 (.slice (some ⟨g0, 0, none⟩) x.es.length x.es.length)).size)
  have hs1 := hs0
  replace hs1 := Nat.le_trans hs1 (grown_set _ (w.heap.size + 2) 0 (.slice (some ⟨g0, 0, none⟩) x.es.length x.es.length)).size
  clear hs0
  have hs0 := hs1
  clear hs1
  refine (HZ1.out _ hb).mono ?_
  rintro e w1 ⟨us1, rfl, ⟨bahdxs, bchdxs, rfl, hI1_0⟩, hb1⟩
  replace hI0 := RowIn.kept FIt_keeps hI0 (Same.below (fun b hb => hb.2) hb1)
  replace hI0 := RowIn.mono FIt_keeps hI0 (fun b hb => hb.mono (Nat.le_refl _) hb1.size)
  replace hI1_0 := hI1_0.mono (fun b hb => hb.mono (show w.heap.size + 3 ≤ _ by omega) (Nat.le_refl _))
  replace k1 := (hb1.block _ (by omega)).trans k1
  replace k2 := (hb1.block _ (by omega)).trans k2
  replace KP := Lib.hid ((hb1.block _ (lt_of_block KP.out)).trans KP.out)
  replace hb := below_step hb hb1
  replace hs0 : w.heap.size + 3 ≤ w1.heap.size := by have := hb1.size; omega
  clear HZ1 hb1
  have c10 := (cell_of_row _ (w.heap.size + 1) 0 _ _ _ k1)
  simp only [List.getElem?_toArray, List.getElem?_cons_zero] at c10
  have c11 := (cell_of_row _ (w.heap.size + 1) 1 _ _ _ k1)
  simp only [List.getElem?_toArray, List.getElem?_cons_zero, List.getElem?_cons_succ] at c11
  have c12 := (cell_of_row _ (w.heap.size + 1) 2 _ _ _ k1)
  simp only [List.getElem?_toArray, List.getElem?_cons_zero, List.getElem?_cons_succ] at c12
  have c13 := (cell_of_row _ (w.heap.size + 1) 3 _ _ _ k1)
  simp only [List.getElem?_toArray, List.getElem?_cons_zero, List.getElem?_cons_succ] at c13
  have c14 := (cell_of_row _ (w.heap.size + 1) 4 _ _ _ k1)
  simp only [List.getElem?_toArray, List.getElem?_cons_zero, List.getElem?_cons_succ] at c14
  have c20 := (cell_of_row _ (w.heap.size + 2) 0 _ _ _ k2)
  simp only [List.getElem?_toArray, List.getElem?_cons_zero] at c20
  have c21 := (cell_of_row _ (w.heap.size + 2) 1 _ _ _ k2)
  simp only [List.getElem?_toArray, List.getElem?_cons_zero, List.getElem?_cons_succ] at c21
  have c22 := (cell_of_row _ (w.heap.size + 2) 2 _ _ _ k2)
  simp only [List.getElem?_toArray, List.getElem?_cons_zero, List.getElem?_cons_succ] at c22
  have c23 := (cell_of_row _ (w.heap.size + 2) 3 _ _ _ k2)
  simp only [List.getElem?_toArray, List.getElem?_cons_zero, List.getElem?_cons_succ] at c23
  have c24 := (cell_of_row _ (w.heap.size + 2) 4 _ _ _ k2)
  simp only [List.getElem?_toArray, List.getElem?_cons_zero, List.getElem?_cons_succ] at c24
  have f10 := frozen_row k1 0
  have f20 := frozen_row k2 0
  have f11 := frozen_row k1 1
  have f21 := frozen_row k2 1
  have f12 := frozen_row k1 2
  have f22 := frozen_row k2 2
  have f13 := frozen_row k1 3
  have f23 := frozen_row k2 3
  have f14 := frozen_row k1 4
  have f24 := frozen_row k2 4
  try clear p0
  have p0 := cell_of_row _ (w.heap.size) 0 _ _ _ KP.out
  simp only [List.getElem?_toArray, List.getElem?_cons_zero] at p0
  try clear p1
  have p1 := cell_of_row _ (w.heap.size) 1 _ _ _ KP.out
  simp only [List.getElem?_toArray, List.getElem?_cons_zero, List.getElem?_cons_succ] at p1
  try clear p2
  have p2 := cell_of_row _ (w.heap.size) 2 _ _ _ KP.out
  simp only [List.getElem?_toArray, List.getElem?_cons_zero, List.getElem?_cons_succ] at p2
  try clear p3
  have p3 := cell_of_row _ (w.heap.size) 3 _ _ _ KP.out
  simp only [List.getElem?_toArray, List.getElem?_cons_zero, List.getElem?_cons_succ] at p3
  try clear p4
  have p4 := cell_of_row _ (w.heap.size) 4 _ _ _ KP.out
  simp only [List.getElem?_toArray, List.getElem?_cons_zero, List.getElem?_cons_succ] at p4
  go_wp2_with fail
  clear c10 c20 f10 f20 p0 c11 c21 f11 f21 p1 c12 c22 f12 f22 p2 c13 c23 f13 f23 p3 c14 c24 f14 f24 p4
  replace k1 := (heap_setCell_other _ ⟨w.heap.size + 2, 1, none⟩ _ (.int .i64 x.hd.k) (show w.heap.size + 1 ≠ w.heap.size + 2 by omega)).trans k1
  replace k2 := heap_setCell_same _ (w.heap.size + 2) 1 _ _ (.int .i64 x.hd.k) k2
  simp only [List.setIfInBounds_toArray, List.set_cons_zero, List.set_cons_succ] at k2
  replace KP := Lib.hid ((heap_setCell_other _ ⟨w.heap.size + 2, 1, none⟩ _ (.int .i64 x.hd.k) (show w.heap.size ≠ w.heap.size + 2 by omega)).trans KP.out)
  replace hb := below_set hb (g := w.heap.size + 2) 1 (.int .i64 x.hd.k) (by omega)
  replace hI0 := RowIn.kept FIt_keeps hI0 (Same.set _ (g := w.heap.size + 2) (fun h => by have := h.1; omega) 1 (.int .i64 x.hd.k))
  replace hI0 := RowIn.mono FIt_keeps hI0 (fun b hb => hb.mono (Nat.le_refl _) (grown_set _ (w.heap.size + 2) 1 (.int .i64 x.hd.k)).size)
  replace hI1_0 := hI1_0.kept (Same.set _ (g := w.heap.size + 2) (fun h => by have := h.1; omega) 1 (.int .i64 x.hd.k))
  replace hI1_0 := hI1_0.mono (fun b hb => hb.mono (Nat.le_refl _) (grown_set _ (w.heap.size + 2) 1 (.int .i64 x.hd.k)).size)
  replace k1 := (heap_setCell_other _ ⟨w.heap.size + 2, 2, none⟩ _ (.string x.hd.s) (show w.heap.size + 1 ≠ w.heap.size + 2 by omega)).trans k1
  replace k2 := heap_setCell_same _ (w.heap.size + 2) 2 _ _ (.string x.hd.s) k2
  simp only [List.setIfInBounds_toArray, List.set_cons_zero, List.set_cons_succ] at k2
  replace KP := Lib.hid ((heap_setCell_other _ ⟨w.heap.size + 2, 2, none⟩ _ (.string x.hd.s) (show w.heap.size ≠ w.heap.size + 2 by omega)).trans KP.out)
  replace hb := below_set hb (g := w.heap.size + 2) 2 (.string x.hd.s) (by omega)
  replace hI0 := RowIn.kept FIt_keeps hI0 (Same.set _ (g := w.heap.size + 2) (fun h => by have := h.1; omega) 2 (.string x.hd.s))
  replace hI0 := RowIn.mono FIt_keeps hI0 (fun b hb => hb.mono (Nat.le_refl _) (grown_set _ (w.heap.size + 2) 2 (.string x.hd.s)).size)
  replace hI1_0 := hI1_0.kept (Same.set _ (g := w.heap.size + 2) (fun h => by have := h.1; omega) 2 (.string x.hd.s))
  replace hI1_0 := hI1_0.mono (fun b hb => hb.mono (Nat.le_refl _) (grown_set _ (w.heap.size + 2) 2 (.string x.hd.s)).size)
  replace k1 := (heap_setCell_other _ ⟨w.heap.size + 2, 3, none⟩ _ (.slice bahdxs x.hd.xs.length bchdxs) (show w.heap.size + 1 ≠ w.heap.size + 2 by omega)).trans k1
  replace k2 := heap_setCell_same _ (w.heap.size + 2) 3 _ _ (.slice bahdxs x.hd.xs.length bchdxs) k2
  simp only [List.setIfInBounds_toArray, List.set_cons_zero, List.set_cons_succ] at k2
  replace KP := Lib.hid ((heap_setCell_other _ ⟨w.heap.size + 2, 3, none⟩ _ (.slice bahdxs x.hd.xs.length bchdxs) (show w.heap.size ≠ w.heap.size + 2 by omega)).trans KP.out)
  replace hb := below_set hb (g := w.heap.size + 2) 3 (.slice bahdxs x.hd.xs.length bchdxs) (by omega)
  replace hI0 := RowIn.kept FIt_keeps hI0 (Same.set _ (g := w.heap.size + 2) (fun h => by have := h.1; omega) 3 (.slice bahdxs x.hd.xs.length bchdxs))
  replace hI0 := RowIn.mono FIt_keeps hI0 (fun b hb => hb.mono (Nat.le_refl _) (grown_set _ (w.heap.size + 2) 3 (.slice bahdxs x.hd.xs.length bchdxs)).size)
  replace hI1_0 := hI1_0.kept (Same.set _ (g := w.heap.size + 2) (fun h => by have := h.1; omega) 3 (.slice bahdxs x.hd.xs.length bchdxs))
  replace hI1_0 := hI1_0.mono (fun b hb => hb.mono (Nat.le_refl _) (grown_set _ (w.heap.size + 2) 3 (.slice bahdxs x.hd.xs.length bchdxs)).size)
  have hs1 := hs0
  replace hs1 := Nat.le_trans hs1 (grown_set _ (w.heap.size + 2) 1 (.int .i64 x.hd.k)).size
  replace hs1 := Nat.le_trans hs1 (grown_set _ (w.heap.size + 2) 2 (.string x.hd.s)).size
  replace hs1 := Nat.le_trans hs1 (grown_set _ (w.heap.size + 2) 3 (.slice bahdxs x.hd.xs.length bchdxs)).size
  clear hs0
  have hs0 := hs1
  clear hs1
  refine (HZ2.out _ hb).mono ?_
  rintro e w2 ⟨g2, rfl, hI2, hb1⟩
  replace hI0 := RowIn.kept FIt_keeps hI0 (Same.below (fun b hb => hb.2) hb1)
  replace hI0 := RowIn.mono FIt_keeps hI0 (fun b hb => hb.mono (Nat.le_refl _) hb1.size)
  replace hI1_0 := hI1_0.kept (Same.below (fun b hb => hb.2) hb1)
  replace hI1_0 := hI1_0.mono (fun b hb => hb.mono (Nat.le_refl _) hb1.size)
  replace hI2 := RowIn.mono FIt_keeps hI2 (fun b hb => hb.mono (show w.heap.size + 3 ≤ _ by omega) (Nat.le_refl _))
  replace k1 := (hb1.block _ (by omega)).trans k1
  replace k2 := (hb1.block _ (by omega)).trans k2
  replace KP := Lib.hid ((hb1.block _ (lt_of_block KP.out)).trans KP.out)
  replace hb := below_step hb hb1
  replace hs0 : w.heap.size + 3 ≤ w2.heap.size := by have := hb1.size; omega
  clear HZ2 hb1
  have c10 := (cell_of_row _ (w.heap.size + 1) 0 _ _ _ k1)
  simp only [List.getElem?_toArray, List.getElem?_cons_zero] at c10
  have c11 := (cell_of_row _ (w.heap.size + 1) 1 _ _ _ k1)
  simp only [List.getElem?_toArray, List.getElem?_cons_zero, List.getElem?_cons_succ] at c11
  have c12 := (cell_of_row _ (w.heap.size + 1) 2 _ _ _ k1)
  simp only [List.getElem?_toArray, List.getElem?_cons_zero, List.getElem?_cons_succ] at c12
  have c13 := (cell_of_row _ (w.heap.size + 1) 3 _ _ _ k1)
  simp only [List.getElem?_toArray, List.getElem?_cons_zero, List.getElem?_cons_succ] at c13
  have c14 := (cell_of_row _ (w.heap.size + 1) 4 _ _ _ k1)
  simp only [List.getElem?_toArray, List.getElem?_cons_zero, List.getElem?_cons_succ] at c14
  have c20 := (cell_of_row _ (w.heap.size + 2) 0 _ _ _ k2)
  simp only [List.getElem?_toArray, List.getElem?_cons_zero] at c20
  have c21 := (cell_of_row _ (w.heap.size + 2) 1 _ _ _ k2)
  simp only [List.getElem?_toArray, List.getElem?_cons_zero, List.getElem?_cons_succ] at c21
  have c22 := (cell_of_row _ (w.heap.size + 2) 2 _ _ _ k2)
  simp only [List.getElem?_toArray, List.getElem?_cons_zero, List.getElem?_cons_succ] at c22
  have c23 := (cell_of_row _ (w.heap.size + 2) 3 _ _ _ k2)
  simp only [List.getElem?_toArray, List.getElem?_cons_zero, List.getElem?_cons_succ] at c23
  have c24 := (cell_of_row _ (w.heap.size + 2) 4 _ _ _ k2)
  simp only [List.getElem?_toArray, List.getElem?_cons_zero, List.getElem?_cons_succ] at c24
  have f10 := frozen_row k1 0
  have f20 := frozen_row k2 0
  have f11 := frozen_row k1 1
  have f21 := frozen_row k2 1
  have f12 := frozen_row k1 2
  have f22 := frozen_row k2 2
  have f13 := frozen_row k1 3
  have f23 := frozen_row k2 3
  have f14 := frozen_row k1 4
  have f24 := frozen_row k2 4
  try clear p0
  have p0 := cell_of_row _ (w.heap.size) 0 _ _ _ KP.out
  simp only [List.getElem?_toArray, List.getElem?_cons_zero] at p0
  try clear p1
  have p1 := cell_of_row _ (w.heap.size) 1 _ _ _ KP.out
  simp only [List.getElem?_toArray, List.getElem?_cons_zero, List.getElem?_cons_succ] at p1
  try clear p2
  have p2 := cell_of_row _ (w.heap.size) 2 _ _ _ KP.out
  simp only [List.getElem?_toArray, List.getElem?_cons_zero, List.getElem?_cons_succ] at p2
  try clear p3
  have p3 := cell_of_row _ (w.heap.size) 3 _ _ _ KP.out
  simp only [List.getElem?_toArray, List.getElem?_cons_zero, List.getElem?_cons_succ] at p3
  try clear p4
  have p4 := cell_of_row _ (w.heap.size) 4 _ _ _ KP.out
  simp only [List.getElem?_toArray, List.getElem?_cons_zero, List.getElem?_cons_succ] at p4
  have HhI0 := Lib.hid hI0
  clear hI0
  have HhI1_0 := Lib.hid hI1_0
  clear hI1_0
  have HhI2 := Lib.hid hI2
  clear hI2
  have HK1 := Lib.hid k1
  have HK2 := Lib.hid k2
  have HB := Lib.hid hb
  clear k1 k2 hb
  go_wp2
  obtain ⟨hres, hbel, hsame, hsz⟩ := laid_out (w := w) (W := w2) (c := 5) 4 [.slice (some ⟨g2, 0, none⟩) x.bd.length x.bd.length] [.slice (some ⟨g0, 0, none⟩) x.es.length x.es.length, .int .i64 x.hd.k, .string x.hd.s, .slice bahdxs x.hd.xs.length bchdxs, .slice (some ⟨g2, 0, none⟩) x.bd.length x.bd.length] HK1.out HK2.out HB.out (by simp) (by simp) (by simp)
  refine bodyPost_ret (results_cell_row rfl _ _ (w.heap.size + 1) 36 #[.slice (some ⟨g0, 0, none⟩) x.es.length x.es.length, .int .i64 x.hd.k, .string x.hd.s, .slice bahdxs x.hd.xs.length bchdxs, .slice (some ⟨g2, 0, none⟩) x.bd.length x.bd.length] (0, 0) _ (by rfl) hres Tryz.underlying36 rfl infoSRule) rfl ?_
  refine ⟨[.slice (some ⟨g0, 0, none⟩) x.es.length x.es.length, .int .i64 x.hd.k, .string x.hd.s, .slice bahdxs x.hd.xs.length bchdxs, .slice (some ⟨g2, 0, none⟩) x.bd.length x.bd.length], rfl, ⟨_, _, _, _, _, _, rfl, ?_, ?_, ?_⟩, hbel⟩
  · exact RowIn.mono FIt_keeps (RowIn.kept FIt_keeps HhI0.out (hsame _ (fun h => by have := h.1; omega) (fun h => by have := h.1; omega))) (fun b hb => hb.mono (by omega) (Nat.le_of_eq hsz.symm))
  · exact (HhI1_0.out.kept (hsame _ (fun h => by have := h.1; omega) (fun h => by have := h.1; omega))).mono (fun b hb => hb.mono (by omega) (Nat.le_of_eq hsz.symm))
  · exact RowIn.mono FIt_keeps (RowIn.kept FIt_keeps HhI2.out (hsame _ (fun h => by have := h.1; omega) (fun h => by have := h.1; omega))) (fun b hb => hb.mono (by omega) (Nat.le_of_eq hsz.symm))

def wtRuleS (l : List Ru) : Nat := wsum Ru.wt l + l.length
theorem lenRuleS (l : List Ru) : l.length ≤ wtRuleS l := by unfold wtRuleS; omega
def SzRelRuleS (w : World) (l : List Ru) (L : Int) (v1 v5 : Value) (wr : World) : Prop :=
  ∃ k : Nat, Below w.heap.size w wr ∧ v5 = .int .i64 (k : Int) ∧ k ≤ l.length ∧ v1 = .int .i64 (L - (l.length : Int) - (wsum Ru.wt (l.take k) : Int)) ∧ ((wsum Ru.wt (l.take k) : Int) + l.length ≤ L)

def EqRelRuleS (w : World) (n : Nat) (v : Value) (wr : World) : Prop := ∃ k : Nat, Below w.heap.size w wr ∧ v = .int .i64 (k : Int) ∧ k ≤ n

def ToRelRuleS (w : World) (l : List Ru) (v4 : Value) (wr : World) : Prop :=
  ∃ (k : Nat), v4 = .int .i64 (k : Int) ∧ k ≤ l.length ∧ RowTo FRu 5 36 w.heap.size w.heap.size wr l k ∧ Below w.heap.size w wr

end Go.Proofs.YtilijbpbnlnhlaaGreat.Pr
