/-
  THE LAWS' OWN HELPERS over exps and literals.
-/
import Derived.Test.YtilijbpbnlnhlaaGreatPSz
namespace Go.Proofs.YtilijbpbnlnhlaaGreat.Pr
open Go Go.RowKit Go.Maps Go.WideMaps

theorem lenIntS (l : List Int) : l.length ≤ wtIntS l := by unfold wtIntS; omega
theorem lenStringS (l : List ByteArray) : l.length ≤ wtStringS l := by unfold wtStringS; omega
theorem frozen_row {w : World} {g : Nat} {cs : Array Value} {t : TypeId} (h : w.heap[g]? = some (.cells cs t (0, 0))) (j : Nat) : w.frozen? ⟨g, j, none⟩ = false := by simp [World.frozen?, h]
theorem cells_eq {cur : Array Value} {vs : List Value} (h1 : cur.size = vs.length) (h2 : ∀ j (h : j < vs.length), cur[0 + j]? = some vs[j]) : cur = vs.toArray := by
  apply Array.ext
  · simpa using h1
  · intro i hi hi2
    have := h2 i (by omega)
    rw [Nat.zero_add, Array.getElem?_eq_getElem hi] at this
    simpa using this
theorem laid_out {w W : World} {c : Nat} {z1 z2 : Array Value} {ty ty2 : TypeId} (j0 : Nat) (pend fin : List Value) (k1 : W.heap[w.heap.size + 1]? = some (.cells z1 ty (0, 0))) (k2 : W.heap[w.heap.size + 2]? = some (.cells z2 ty2 (0, 0))) (hb : Below w.heap.size w W) (hp : j0 + pend.length ≤ z2.size) (hf : fin.length = c) (hz : z1.size = c) :
    (setAll (setAll W (w.heap.size + 2) j0 pend) (w.heap.size + 1) 0 fin).heap[w.heap.size + 1]? = some (.cells fin.toArray ty (0, 0)) ∧ Below w.heap.size w (setAll (setAll W (w.heap.size + 2) j0 pend) (w.heap.size + 1) 0 fin) ∧
    (∀ S : Nat → Prop, ¬ S (w.heap.size + 1) → ¬ S (w.heap.size + 2) → Same S W (setAll (setAll W (w.heap.size + 2) j0 pend) (w.heap.size + 1) 0 fin)) ∧ (setAll (setAll W (w.heap.size + 2) j0 pend) (w.heap.size + 1) 0 fin).heap.size = W.heap.size := by
  obtain ⟨_, p2, p3, p4, p5, p6⟩ := setAll_facts (w.heap.size + 2) ty2 pend j0 W z2 k2 hp
  have q1 := (p3 (w.heap.size + 1) (by omega)).trans k1
  obtain ⟨⟨cur, r1, r2, _, r4⟩, r5, r6, r7, r8, r9⟩ := setAll_facts (w.heap.size + 1) ty fin 0 _ z1 q1 (by omega)
  rw [cells_eq (by omega) r4] at r1
  refine ⟨r1, ⟨r7.trans (p4.trans hb.os), r8.trans (p5.trans hb.tape), r9.trans (p6.trans hb.output), by rw [r5, p2]; exact hb.size, fun b hb' => ?_⟩, fun S h1 h2 b hb' => ?_, r5.trans p2⟩
  · rw [r6 b (by omega), p3 b (by omega)]
    exact hb.block b hb'
  · rw [r6 b (fun e => h1 (e ▸ hb')), p3 b (fun e => h2 (e ▸ hb'))]

structure It where
  k : Int
  s : ByteArray
  xs : List Int
def FIt : Flat It := fun S w vs x => ∃ (axs : Option Addr) (cxs : Nat), vs = [.int .i64 x.k, .string x.s, .slice axs x.xs.length cxs] ∧ IntsIn S w axs x.xs
theorem FIt_keeps : Keeps FIt := by
  refine ⟨?_, ?_⟩
  · rintro S w w' vs x ⟨axs, cxs, rfl, h0⟩ hs
    exact ⟨_, _, rfl, h0.kept hs⟩
  · rintro S T w vs x ⟨axs, cxs, rfl, h0⟩ hs
    exact ⟨_, _, rfl, h0.mono hs⟩
def It.wt (x : It) : Nat := x.s.size + wtIntS x.xs
def It.fits (x : It) : Prop := x.s.size ≤ 9223372036854775807 ∧ x.xs.length ≤ 9223372036854775807

set_option maxRecDepth 100000 in
set_option maxHeartbeats 2000000 in
theorem szExp_any (x : It) (vs : List Value) (L : Int) (S : Nat → Prop) (w : World) (hF : FIt S w vs x) (hS : ∀ b, S b → b < w.heap.size) (hf : x.fits) (h0 : 0 ≤ L) (h1 : L ≤ 1048576) :
    Calls Tryz.prog 44 #[.agg vs.toArray, .int .i64 L] w fun e w' => (∃ r : Int, e = .returned (.int .i64 r) ∧ ((r < 0 ∧ L < x.wt) ∨ (r = L - x.wt ∧ (x.wt : Int) ≤ L))) ∧ Below w.heap.size w w' := by
  obtain ⟨axs, cxs, rfl, rr0⟩ := hF
  unfold It.fits at hf
  unfold It.wt
  obtain ⟨f0, f1⟩ := hf
  have hb0 := (Below.refl w.heap.size w).alloc (Nat.le_refl _) (Obj.cells #[.int .i64 x.k, .string x.s, .slice axs x.xs.length cxs] 68)
  have HB := Lib.hid hb0
  clear hb0
  have KP := Lib.hid (heap_alloc_new w (Obj.cells #[.int .i64 x.k, .string x.s, .slice axs x.xs.length cxs] 68))
  have HZ2 := Lib.hid (fun (L' : Int) (W : World) (hW : Below w.heap.size w W) (h0 : 0 ≤ L') (h1 : L' ≤ 1048576) => szIntS_any axs cxs x.xs L' S W (rr0.kept (Same.below hS hW)) (fun b hb => Nat.lt_of_lt_of_le (hS b hb) hW.size) f1 h0 h1)
  clear rr0 hS
  generalize wtIntS x.xs = q2 at *
  by_cases hs1 : (x.s.size : Int) ≤ L
  · have hd1 : decide (L - (x.s.size : Int) < 0) = false := decide_eq_false (by omega)
    go_enter Tryz.func44, Tryz.ntmps44
    go_wp2_with fail
    refine (HZ2.out (L - (x.s.size : Int)) _ HB.out (by omega) (by omega)).mono ?_
    rintro e w2 ⟨⟨r, rfl, hr⟩, hb1⟩
    replace HB := Lib.hid (below_step HB.out hb1)
    replace KP := Lib.hid ((hb1.block _ (lt_of_block KP.out)).trans KP.out)
    clear hb1 HZ2
    rcases hr with ⟨hr, hl⟩ | ⟨rfl, hl⟩
    · have hd2 : decide (r < 0) = true := decide_eq_true hr
      go_wp2
      go_ret
      exact ⟨⟨-1, rfl, .inl (by omega)⟩, HB.out⟩
    · have hd2 : decide (L - (x.s.size : Int) - (q2 : Int) < 0) = false := decide_eq_false (by omega)
      go_wp2
      go_ret
      exact ⟨⟨_, rfl, .inr (by omega)⟩, HB.out⟩
  · have hd1 : decide (L - (x.s.size : Int) < 0) = true := decide_eq_true (by omega)
    go_enter Tryz.func44, Tryz.ntmps44
    go_wp2
    go_ret
    exact ⟨⟨-1, rfl, .inl (by omega)⟩, HB.out⟩

set_option maxRecDepth 100000 in
set_option maxHeartbeats 2000000 in
theorem eqExp_any (x : It) (us vs : List Value) (S1 S2 : Nat → Prop) (w : World) (hF1 : FIt S1 w us x) (hF2 : FIt S2 w vs x) (hS1 : ∀ b, S1 b → b < w.heap.size) (hS2 : ∀ b, S2 b → b < w.heap.size) (hn : x.wt ≤ 2000000) :
    Calls Tryz.prog 58 #[.agg us.toArray, .agg vs.toArray] w fun e w' => e = .returned (.bool true) ∧ Below w.heap.size w w' := by
  obtain ⟨axsu, cxsu, rfl, rr0u⟩ := hF1
  obtain ⟨axsv, cxsv, rfl, rr0v⟩ := hF2
  unfold It.wt at hn
  have e0 : (x.k != x.k) = false := by simp
  have e1 : (x.s.toList != x.s.toList) = false := by simp
  have HZ2 := Lib.hid (fun (W : World) (hW : Below w.heap.size w W) => eqIntS_any x.xs axsu axsv cxsu cxsv S1 S2 W (rr0u.kept (Same.below hS1 hW)) (rr0v.kept (Same.below hS2 hW)) (fun b hb => Nat.lt_of_lt_of_le (hS1 b hb) hW.size) (fun b hb => Nat.lt_of_lt_of_le (hS2 b hb) hW.size) (by have := lenIntS x.xs; omega))
  clear rr0u rr0v hS1 hS2
  have hb0 := ((Below.refl w.heap.size w).alloc (Nat.le_refl _) (Obj.cells #[.int .i64 x.k, .string x.s, .slice axsu x.xs.length cxsu] 49)).alloc (by simp) (Obj.cells #[.int .i64 x.k, .string x.s, .slice axsv x.xs.length cxsv] 49)
  have HB := Lib.hid hb0
  clear hb0
  have KP := Lib.hid ((heap_alloc_old _ (Obj.cells #[.int .i64 x.k, .string x.s, .slice axsv x.xs.length cxsv] 49) (by simp)).trans (heap_alloc_new w (Obj.cells #[.int .i64 x.k, .string x.s, .slice axsu x.xs.length cxsu] 49)))
  have KQ := Lib.hid (heap_alloc2_new w (Obj.cells #[.int .i64 x.k, .string x.s, .slice axsu x.xs.length cxsu] 49) (Obj.cells #[.int .i64 x.k, .string x.s, .slice axsv x.xs.length cxsv] 49))
  go_enter Tryz.func58, Tryz.ntmps58
  go_wp2_with fail
  refine (HZ2.out _ HB.out).mono ?_
  rintro e w2 ⟨rfl, hb1⟩
  replace HB := Lib.hid (below_step HB.out hb1)
  replace KP := Lib.hid ((hb1.block _ (lt_of_block KP.out)).trans KP.out)
  replace KQ := Lib.hid ((hb1.block _ (lt_of_block KQ.out)).trans KQ.out)
  clear HZ2 hb1
  go_wp2
  go_ret
  exact ⟨rfl, HB.out⟩

theorem infoExp : (Tryz.prog.info? 49).map (fun i => (i.zero, i.size, i.bytes)) = some (some (.agg #[.int .i64 0, .string ⟨#[]⟩, .slice none 0 0]), 3, 48) := by kernel_rfl
theorem infoSExp : (Tryz.prog.info? 49).map (·.size) = some 3 := by kernel_rfl
set_option maxRecDepth 100000 in
set_option maxHeartbeats 2000000 in
theorem toExp_any (x : It) (vs : List Value) (S : Nat → Prop) (w : World) (hF : FIt S w vs x) (hS : ∀ b, S b → b < w.heap.size) (hn : x.wt ≤ 1048576) :
    Calls Tryz.prog 50 #[.agg vs.toArray] w fun e w' => ∃ us : List Value, e = .returned (.agg us.toArray) ∧ FIt (Seg w.heap.size w'.heap.size) w' us x ∧ Below w.heap.size w w' := by
  obtain ⟨axs, cxs, rfl, rr0⟩ := hF
  unfold It.wt at hn
  have HZ2 := Lib.hid (fun (W : World) (hW : Below w.heap.size w W) => toIntS_any axs cxs x.xs S W (rr0.kept (Same.below hS hW)) (fun b hb => Nat.lt_of_lt_of_le (hS b hb) hW.size) (by have := lenIntS x.xs; omega))
  clear rr0 hS
  have hb := alloc3_below w (Obj.cells #[.int .i64 x.k, .string x.s, .slice axs x.xs.length cxs] 68) (Obj.cells #[.int .i64 0, .string ⟨#[]⟩, .slice none 0 0] 49) (Obj.cells #[.int .i64 x.k, .string x.s, .slice none 0 0] 49)
  have hs0 := alloc3_size w (Obj.cells #[.int .i64 x.k, .string x.s, .slice axs x.xs.length cxs] 68) (Obj.cells #[.int .i64 0, .string ⟨#[]⟩, .slice none 0 0] 49) (Obj.cells #[.int .i64 x.k, .string x.s, .slice none 0 0] 49)
  have k1 := alloc3_1 w (Obj.cells #[.int .i64 x.k, .string x.s, .slice axs x.xs.length cxs] 68) (Obj.cells #[.int .i64 0, .string ⟨#[]⟩, .slice none 0 0] 49) (Obj.cells #[.int .i64 x.k, .string x.s, .slice none 0 0] 49)
  have k2 := alloc3_2 w (Obj.cells #[.int .i64 x.k, .string x.s, .slice axs x.xs.length cxs] 68) (Obj.cells #[.int .i64 0, .string ⟨#[]⟩, .slice none 0 0] 49) (Obj.cells #[.int .i64 x.k, .string x.s, .slice none 0 0] 49)
  have KP := Lib.hid (alloc3_0 w (Obj.cells #[.int .i64 x.k, .string x.s, .slice axs x.xs.length cxs] 68) (Obj.cells #[.int .i64 0, .string ⟨#[]⟩, .slice none 0 0] 49) (Obj.cells #[.int .i64 x.k, .string x.s, .slice none 0 0] 49))
  go_enter Tryz.func50, Tryz.ntmps50
  go_wp2_with fail
  refine (HZ2.out _ hb).mono ?_
  rintro e w2 ⟨g2, rfl, hI2, hb1⟩
  replace hI2 := hI2.mono (fun b hb => hb.mono (show w.heap.size + 3 ≤ _ by omega) (Nat.le_refl _))
  replace k1 := (hb1.block _ (by omega)).trans k1
  replace k2 := (hb1.block _ (by omega)).trans k2
  replace KP := Lib.hid ((hb1.block _ (lt_of_block KP.out)).trans KP.out)
  replace hb := below_step hb hb1
  replace hs0 : w.heap.size + 3 ≤ w2.heap.size := by have := hb1.size; omega
  clear HZ2 hb1
  have c10 := (cell_of_row _ (w.heap.size + 1) 0 _ _ _ k1)
  simp only [List.getElem?_toArray, List.getElem?_cons_zero] at c10
  have c11 := (cell_of_row _ (w.heap.size + 1) 1 _ _ _ k1)
  simp only [List.getElem?_toArray, List.getElem?_cons_zero, List.getElem?_cons_succ] at c11
  have c12 := (cell_of_row _ (w.heap.size + 1) 2 _ _ _ k1)
  simp only [List.getElem?_toArray, List.getElem?_cons_zero, List.getElem?_cons_succ] at c12
  have c20 := (cell_of_row _ (w.heap.size + 2) 0 _ _ _ k2)
  simp only [List.getElem?_toArray, List.getElem?_cons_zero] at c20
  have c21 := (cell_of_row _ (w.heap.size + 2) 1 _ _ _ k2)
  simp only [List.getElem?_toArray, List.getElem?_cons_zero, List.getElem?_cons_succ] at c21
  have c22 := (cell_of_row _ (w.heap.size + 2) 2 _ _ _ k2)
  simp only [List.getElem?_toArray, List.getElem?_cons_zero, List.getElem?_cons_succ] at c22
  have f10 := frozen_row k1 0
  have f20 := frozen_row k2 0
  have f11 := frozen_row k1 1
  have f21 := frozen_row k2 1
  have f12 := frozen_row k1 2
  have f22 := frozen_row k2 2
  try clear p0
  have p0 := cell_of_row _ (w.heap.size) 0 _ _ _ KP.out
  simp only [List.getElem?_toArray, List.getElem?_cons_zero] at p0
  try clear p1
  have p1 := cell_of_row _ (w.heap.size) 1 _ _ _ KP.out
  simp only [List.getElem?_toArray, List.getElem?_cons_zero, List.getElem?_cons_succ] at p1
  try clear p2
  have p2 := cell_of_row _ (w.heap.size) 2 _ _ _ KP.out
  simp only [List.getElem?_toArray, List.getElem?_cons_zero, List.getElem?_cons_succ] at p2
  have HhI2 := Lib.hid hI2
  clear hI2
  have HK1 := Lib.hid k1
  have HK2 := Lib.hid k2
  have HB := Lib.hid hb
  clear k1 k2 hb
  go_wp2
  obtain ⟨hres, hbel, hsame, hsz⟩ := laid_out (w := w) (W := w2) (c := 3) 2 [.slice (some ⟨g2, 0, none⟩) x.xs.length x.xs.length] [.int .i64 x.k, .string x.s, .slice (some ⟨g2, 0, none⟩) x.xs.length x.xs.length] HK1.out HK2.out HB.out (by simp) (by simp) (by simp)
  refine bodyPost_ret (results_cell_row rfl _ _ (w.heap.size + 1) 49 #[.int .i64 x.k, .string x.s, .slice (some ⟨g2, 0, none⟩) x.xs.length x.xs.length] (0, 0) _ (by rfl) hres Tryz.underlying49 rfl infoSExp) rfl ?_
  refine ⟨[.int .i64 x.k, .string x.s, .slice (some ⟨g2, 0, none⟩) x.xs.length x.xs.length], rfl, ⟨_, _, rfl, ?_⟩, hbel⟩
  · exact (HhI2.out.kept (hsame _ (fun h => by have := h.1; omega) (fun h => by have := h.1; omega))).mono (fun b hb => hb.mono (by omega) (Nat.le_of_eq hsz.symm))

def wtExpS (l : List It) : Nat := wsum It.wt l + l.length
theorem lenExpS (l : List It) : l.length ≤ wtExpS l := by unfold wtExpS; omega
def SzRelExpS (w : World) (l : List It) (L : Int) (v1 v5 : Value) (wr : World) : Prop :=
  ∃ k : Nat, Below w.heap.size w wr ∧ v5 = .int .i64 (k : Int) ∧ k ≤ l.length ∧ v1 = .int .i64 (L - (l.length : Int) - (wsum It.wt (l.take k) : Int)) ∧ ((wsum It.wt (l.take k) : Int) + l.length ≤ L)

set_option maxRecDepth 100000 in
set_option maxHeartbeats 2000000 in
theorem szExpS_any (a : Option Addr) (cap : Nat) (l : List It) (L : Int) (S : Nat → Prop) (w : World) (hrow : RowIn FIt 3 S w a l) (hS : ∀ b, S b → b < w.heap.size) (hn : l.length ≤ 9223372036854775807) (hs : ∀ x ∈ l, x.fits) (h0 : 0 ≤ L) (h1 : L ≤ 1048576) :
    Calls Tryz.prog 19 #[.slice a l.length cap, .int .i64 L] w fun e w' => (∃ r : Int, e = .returned (.int .i64 r) ∧ ((r < 0 ∧ L < wtExpS l) ∨ (r = L - wtExpS l ∧ (wtExpS l : Int) ≤ L))) ∧ Below w.heap.size w w' := by
  have HR := Lib.hid hrow
  have HS := Lib.hid hs
  have HSS := Lib.hid hS
  clear hrow hs hS
  unfold wtExpS
  by_cases hb0 : (l.length : Int) ≤ L
  · have hd : decide (L - (l.length : Int) < 0) = false := decide_eq_false (by omega)
    go_enter Tryz.func19, Tryz.ntmps19
    go_wp2
    go_loopw [1, 5] (fun v1 v5 wr => SzRelExpS w l L v1 v5 wr) (fun _ v5 _ => (l.length - (intOf v5).toNat))
    case atStart => exact ⟨0, Below.refl _ _, rfl, Nat.zero_le _, by rw [List.take_zero, wsum]; congr 1; omega, by rw [List.take_zero, wsum]; omega⟩
    case round =>
      obtain ⟨k, hb, rfl, hk, rfl, htk⟩ := hrel
      by_cases hlt : k < l.length
      · obtain ⟨b, off, vs, rfl, hbl, hvl, hcc, hFF⟩ := RowIn.kept FIt_keeps HR.out (Same.below HSS.out hb) k hlt
        have HC := Lib.hid hFF
        obtain ⟨axs, cxs, rfl, hh0⟩ := hFF
        have hx0 : wr.cell? ⟨b, off + k * 3, none⟩ = some (.int .i64 l[k].k) := hcc 0 (by simp)
        have hx1 : wr.cell? ⟨b, off + k * 3 + 1, none⟩ = some (.string l[k].s) := hcc 1 (by simp)
        have hx2 : wr.cell? ⟨b, off + k * 3 + 2, none⟩ = some (.slice axs l[k].xs.length cxs) := hcc 2 (by simp)
        have hxs := HS.out l[k] (List.getElem_mem hlt)
        have ht := wsum_take It.wt hlt
        have htot := wsum_take_le It.wt l (k + 1)
        have HZZ := Lib.hid (szExp_any l[k] _ (L - (l.length : Int) - (wsum It.wt (l.take k) : Int)) S wr HC.out (fun q hq => Nat.lt_of_lt_of_le (HSS.out q hq) hb.size) hxs (by omega) (by omega))
        have Z : ∀ w1, Below wr.heap.size wr w1 → (wsum It.wt (l.take k) : Int) + l[k].wt + l.length ≤ L → SzRelExpS w l L (.int .i64 (L - (l.length : Int) - (wsum It.wt (l.take k) : Int) - (l[k].wt : Int))) (.int .i64 ((k : Int) + 1)) w1 := fun w1 hw1 hh =>
          ⟨k + 1, below_step hb hw1, by go_num, by omega, by rw [ht]; congr 1; omega, by rw [ht]; omega⟩
        have HZ := Lib.hid Z
        clear Z hxs HC hh0 hcc hvl hbl
        rw [ht] at htot
        clear ht
        generalize l[k] = x at *
        generalize wsum It.wt (l.take k) = y at *
        go_wp2_with fail
        refine HZZ.out.mono ?_
        rintro e w1 ⟨⟨r, rfl, hr⟩, hb1⟩
        rcases hr with ⟨hr, hl⟩ | ⟨rfl, hl⟩
        · have hd2 : decide (r < 0) = true := decide_eq_true hr
          have HB := Lib.hid (below_step hb hb1)
          clear HZ HZZ hb1
          go_wp2
          go_ret
          exact ⟨⟨-1, rfl, .inl (by omega)⟩, HB.out⟩
        · have HRR := Lib.hid (HZ.out w1 hb1 (by omega))
          have hd2 : decide (L - (l.length : Int) - (y : Int) - (x.wt : Int) < 0) = false := decide_eq_false (by omega)
          clear HZ HZZ hb1
          generalize x.wt = z at *
          go_wp2
          go_roundw
          case rel => exact HRR.out
          case measure => simp [intOf]; omega
      · obtain rfl : k = l.length := by omega
        rw [List.take_length] at htk ⊢
        generalize hy : wsum It.wt l = y at htk ⊢
        go_wp2
        go_ret
        exact ⟨⟨_, rfl, .inr (by omega)⟩, hb⟩
  · have hd : decide (L - (l.length : Int) < 0) = true := decide_eq_true (by omega)
    go_enter Tryz.func19, Tryz.ntmps19
    go_wp2
    go_ret
    exact ⟨⟨-1, rfl, .inl (by omega)⟩, Below.refl _ _⟩

def EqRelExpS (w : World) (n : Nat) (v : Value) (wr : World) : Prop := ∃ k : Nat, Below w.heap.size w wr ∧ v = .int .i64 (k : Int) ∧ k ≤ n

set_option maxRecDepth 100000 in
set_option maxHeartbeats 2000000 in
theorem eqExpS_any (l : List It) (a1 a2 : Option Addr) (c1 c2 : Nat) (S1 S2 : Nat → Prop) (w : World) (hu : RowIn FIt 3 S1 w a1 l) (hv : RowIn FIt 3 S2 w a2 l) (hS1 : ∀ b, S1 b → b < w.heap.size) (hS2 : ∀ b, S2 b → b < w.heap.size) (hn : wtExpS l ≤ 2000000) :
    Calls Tryz.prog 31 #[.slice a1 l.length c1, .slice a2 l.length c2] w fun e w' => e = .returned (.bool true) ∧ Below w.heap.size w w' := by
  have HU := Lib.hid hu
  have HV := Lib.hid hv
  have HS1 := Lib.hid hS1
  have HS2 := Lib.hid hS2
  have hln := lenExpS l
  have HW := Lib.hid hn
  have hln2 : l.length ≤ 2000000 := by omega
  clear hu hv hS1 hS2 hln hn
  have hne : ((l.length : Int) != (l.length : Int)) = false := by simp
  go_enter Tryz.func31, Tryz.ntmps31
  go_wp2
  go_loopw [5] (fun v wr => EqRelExpS w l.length v wr) (fun v _ => (l.length - (intOf v).toNat))
  case atStart => exact ⟨0, Below.refl _ _, rfl, Nat.zero_le _⟩
  case round =>
    obtain ⟨k, hb, rfl, hk⟩ := hrel
    by_cases hlt : k < l.length
    · obtain ⟨b1, o1, us, rfl, hl1, hul, hcu, hFu⟩ := RowIn.kept FIt_keeps HU.out (Same.below HS1.out hb) k hlt
      obtain ⟨b2, o2, vs, rfl, hl2, hvl, hcv, hFv⟩ := RowIn.kept FIt_keeps HV.out (Same.below HS2.out hb) k hlt
      have hxw : l[k].wt ≤ 2000000 := by
        have h1 := HW.out
        have h2 := wsum_mem It.wt (List.getElem_mem hlt)
        unfold wtExpS at h1
        omega
      have hg1 : b1 < wr.heap.size := Nat.lt_of_lt_of_le (HS1.out _ hl1) hb.size
      have hg2 : b2 < wr.heap.size := Nat.lt_of_lt_of_le (HS2.out _ hl2) hb.size
      have HEQ := Lib.hid (fun (W : World) (hW : Below wr.heap.size wr W) => eqExp_any l[k] us vs S1 S2 W (FIt_keeps.1 _ _ _ _ _ hFu (Same.below (fun q hq => Nat.lt_of_lt_of_le (HS1.out q hq) hb.size) hW)) (FIt_keeps.1 _ _ _ _ _ hFv (Same.below (fun q hq => Nat.lt_of_lt_of_le (HS2.out q hq) hb.size) hW)) (fun q hq => Nat.lt_of_lt_of_le (Nat.lt_of_lt_of_le (HS1.out q hq) hb.size) hW.size) (fun q hq => Nat.lt_of_lt_of_le (Nat.lt_of_lt_of_le (HS2.out q hq) hb.size) hW.size) hxw)
      obtain ⟨axsu, cxsu, rfl, hh0u⟩ := hFu
      obtain ⟨axsv, cxsv, rfl, hh0v⟩ := hFv
      have x0 : wr.cell? ⟨b1, o1 + k * 3, none⟩ = some (.int .i64 l[k].k) := hcu 0 (by simp)
      have y0 : wr.cell? ⟨b2, o2 + k * 3, none⟩ = some (.int .i64 l[k].k) := hcv 0 (by simp)
      have x1 : wr.cell? ⟨b1, o1 + k * 3 + 1, none⟩ = some (.string l[k].s) := hcu 1 (by simp)
      have y1 : wr.cell? ⟨b2, o2 + k * 3 + 1, none⟩ = some (.string l[k].s) := hcv 1 (by simp)
      have x2 : wr.cell? ⟨b1, o1 + k * 3 + 2, none⟩ = some (.slice axsu l[k].xs.length cxsu) := hcu 2 (by simp)
      have y2 : wr.cell? ⟨b2, o2 + k * 3 + 2, none⟩ = some (.slice axsv l[k].xs.length cxsv) := hcv 2 (by simp)
      have HB := Lib.hid hb
      have hB0 : Below wr.heap.size wr wr := Below.refl _ _
      clear hb hxw hcu hcv hul hvl hh0u hh0v HU HV hl1 hl2
      generalize l[k] = x at *
      go_wp2
      go_region_held3 (fun w' => w'.cell? ⟨b1, o1 + k * 3, none⟩ = some (.int .i64 x.k) ∧ w'.cell? ⟨b2, o2 + k * 3, none⟩ = some (.int .i64 x.k) ∧ w'.cell? ⟨b1, o1 + k * 3 + 1, none⟩ = some (.string x.s) ∧ w'.cell? ⟨b2, o2 + k * 3 + 1, none⟩ = some (.string x.s) ∧ w'.cell? ⟨b1, o1 + k * 3 + 2, none⟩ = some (.slice axsu x.xs.length cxsu) ∧ w'.cell? ⟨b2, o2 + k * 3 + 2, none⟩ = some (.slice axsv x.xs.length cxsv) ∧ Below wr.heap.size wr w')
        (refine ⟨?_, ?_, ?_, ?_, ?_, ?_, ?_⟩ <;> (first | assumption | (simp [*]; done) | (apply Below.drew; assumption)))
        (first
          | (go_at_call 58
             refine (HEQ.out _ (by first | assumption | (apply Below.drew; assumption))).mono ?_
             rintro e w3 ⟨rfl, hb3⟩
             have hs1 : Below wr.heap.size wr w3 := hB0.drew.trans hb3
             have z0 : w3.cell? ⟨b1, o1 + k * 3, none⟩ = some (.int .i64 x.k) := (hb3.cell hg1).trans x0
             have t0 : w3.cell? ⟨b2, o2 + k * 3, none⟩ = some (.int .i64 x.k) := (hb3.cell hg2).trans y0
             have z1 : w3.cell? ⟨b1, o1 + k * 3 + 1, none⟩ = some (.string x.s) := (hb3.cell hg1).trans x1
             have t1 : w3.cell? ⟨b2, o2 + k * 3 + 1, none⟩ = some (.string x.s) := (hb3.cell hg2).trans y1
             have z2 : w3.cell? ⟨b1, o1 + k * 3 + 2, none⟩ = some (.slice axsu x.xs.length cxsu) := (hb3.cell hg1).trans x2
             have t2 : w3.cell? ⟨b2, o2 + k * 3 + 2, none⟩ = some (.slice axsv x.xs.length cxsv) := (hb3.cell hg2).trans y2
             clear hb3))
      go_wp2
      go_roundw
      case rel => exact ⟨k + 1, HB.out.trans (Below.mono (by assumption) HB.out.size), by go_num, by omega⟩
      case measure => simp [intOf]; omega
    · obtain rfl : k = l.length := by omega
      have hlt2 : decide ((l.length : Int) < (l.length : Int)) = false := by simp
      go_wp2
      go_ret
      exact ⟨rfl, hb⟩

def ToRelExpS (w : World) (l : List It) (v4 : Value) (wr : World) : Prop :=
  ∃ (k : Nat), v4 = .int .i64 (k : Int) ∧ k ≤ l.length ∧ RowTo FIt 3 49 w.heap.size w.heap.size wr l k ∧ Below w.heap.size w wr

set_option maxRecDepth 100000 in
set_option maxHeartbeats 2000000 in
theorem toExpS_any (a : Option Addr) (cap : Nat) (l : List It) (S : Nat → Prop) (w : World) (hrow : RowIn FIt 3 S w a l) (hS : ∀ b, S b → b < w.heap.size) (hn : wtExpS l ≤ 1048576) :
    Calls Tryz.prog 25 #[.slice a l.length cap] w fun e w' => ∃ g : Nat, e = .returned (.slice (some ⟨g, 0, none⟩) l.length l.length) ∧ RowIn FIt 3 (Seg w.heap.size w'.heap.size) w' (some ⟨g, 0, none⟩) l ∧ Below w.heap.size w w' := by
  have HR := Lib.hid hrow
  have HS := Lib.hid hS
  have HW := Lib.hid hn
  have hln := lenExpS l
  have hln2 : l.length ≤ 1048576 := by omega
  clear hrow hS hn hln
  obtain ⟨i0, hi0, hz0, hz1, hz2⟩ := info_parts infoExp
  have hmk : (Instr.makeSlice 32 (.int .i64 (l.length : Int)) (.int .i64 (l.length : Int))).run Tryz.prog w = .ok (.slice (some ⟨w.heap.size, 0, none⟩) l.length l.length) (w.alloc (.cells (madeCells #[.int .i64 0, .string ⟨#[]⟩, .slice none 0 0] (l.length * 3)) 49)) := by
    rw [run_make w 32 49 i0 _ Tryz.underlying32 hi0 hz0 .i64 .i64 _ _ (by omega) (by omega) (by rw [hz2]; omega) (by omega), hz1, Int.toNat_natCast]
    rfl
  have hst : ToRelExpS w l (.int .i64 0) (w.alloc (.cells (madeCells #[.int .i64 0, .string ⟨#[]⟩, .slice none 0 0] (l.length * 3)) 49)) :=
    ⟨0, rfl, Nat.zero_le _, ⟨⟨_, heap_alloc_new w _, size_madeCells _ _⟩, Nat.le_refl _, fun i h hi => by omega⟩, (Below.refl w.heap.size w).alloc (Nat.le_refl _) _⟩
  have HST := Lib.hid hst
  generalize w.alloc (.cells (madeCells #[.int .i64 0, .string ⟨#[]⟩, .slice none 0 0] (l.length * 3)) 49) = W0 at *
  clear hi0 hz0 hz1 hz2 hst
  go_enter Tryz.func25, Tryz.ntmps25
  go_wp2
  clear hmk
  go_loopw [4] (fun v4 wr => ToRelExpS w l v4 wr) (fun v4 _ => (l.length - (intOf v4).toNat))
  case atStart => exact HST.out
  case round =>
    obtain ⟨k, rfl, hk, hto, hb⟩ := hrel
    by_cases hlt : k < l.length
    · obtain ⟨b, off, vs, rfl, hbl, hvl, hcc, hFF⟩ := RowIn.kept FIt_keeps HR.out (Same.below HS.out hb) k hlt
      have HC := Lib.hid hFF
      obtain ⟨axs, cxs, rfl, hh0⟩ := hFF
      have hx0 : wr.cell? ⟨b, off + k * 3, none⟩ = some (.int .i64 l[k].k) := hcc 0 (by simp)
      have hx1 : wr.cell? ⟨b, off + k * 3 + 1, none⟩ = some (.string l[k].s) := hcc 1 (by simp)
      have hx2 : wr.cell? ⟨b, off + k * 3 + 2, none⟩ = some (.slice axs l[k].xs.length cxs) := hcc 2 (by simp)
      have hxw : l[k].wt ≤ 1048576 := by
        have h1 := HW.out
        have h2 := wsum_mem It.wt (List.getElem_mem hlt)
        unfold wtExpS at h1
        omega
      have HZ := Lib.hid (toExp_any l[k] _ S wr HC.out (fun q hq => Nat.lt_of_lt_of_le (HS.out q hq) hb.size) hxw)
      have HSTEP := Lib.hid (fun (w1 : World) (hb1 : Below wr.heap.size wr w1) (us : List Value) (hu : us.length = 3) (hF : FIt (Seg wr.heap.size w1.heap.size) w1 us l[k]) => hto.step FIt_keeps hlt hb1 hu hF)
      have HROOM := Lib.hid (fun (w1 : World) (hb1 : Below wr.heap.size wr w1) (j : Nat) (hj : j < 3) => hto.room hb1 hlt hj)
      have HB := Lib.hid hb
      clear hb hto hcc hvl hbl HC hxw hh0
      generalize l[k] = x at *
      go_wp2_with fail
      refine HZ.out.mono ?_
      rintro e w1 ⟨us, rfl, hFu, hb1⟩
      have hul : us.length = 3 := by
        obtain ⟨bxs, dxs, rfl, gg0⟩ := hFu
        rfl
      obtain ⟨hr1, hr2⟩ := HSTEP.out w1 hb1 us hul hFu
      have HRR := Lib.hid ((⟨k + 1, by go_num, by omega, hr1, (HB.out.mono (Nat.le_refl _)).trans hr2⟩ : ToRelExpS w l (.int .i64 ((k : Int) + 1)) (setAll w1 w.heap.size (k * 3) us)))
      obtain ⟨⟨u0, hu0⟩, hf0⟩ := HROOM.out w1 hb1 0 (by omega)
      obtain ⟨⟨u1, hu1⟩, hf1⟩ := HROOM.out w1 hb1 1 (by omega)
      obtain ⟨⟨u2, hu2⟩, hf2⟩ := HROOM.out w1 hb1 2 (by omega)
      clear HZ HSTEP HROOM hr1 hr2 hb1
      obtain ⟨axs, cxs, rfl, gg0⟩ := hFu
      clear gg0
      simp only [Nat.add_zero] at hu0 hf0
      go_wp2
      go_roundw
      case rel => exact HRR.out
      case measure => simp [intOf]; omega
    · obtain rfl : k = l.length := by omega
      have HO := Lib.hid (hto.done FIt_keeps)
      clear hto
      go_wp2
      go_ret
      exact ⟨_, rfl, HO.out, hb⟩

set_option maxRecDepth 100000 in
set_option maxHeartbeats 2000000 in
theorem szLit_any (x : It) (vs : List Value) (L : Int) (S : Nat → Prop) (w : World) (hF : FIt S w vs x) (hS : ∀ b, S b → b < w.heap.size) (hf : x.fits) (h0 : 0 ≤ L) (h1 : L ≤ 1048576) :
    Calls Tryz.prog 20 #[.agg vs.toArray, .int .i64 L] w fun e w' => (∃ r : Int, e = .returned (.int .i64 r) ∧ ((r < 0 ∧ L < x.wt) ∨ (r = L - x.wt ∧ (x.wt : Int) ≤ L))) ∧ Below w.heap.size w w' := by
  obtain ⟨axs, cxs, rfl, rr0⟩ := hF
  unfold It.fits at hf
  unfold It.wt
  obtain ⟨f0, f1⟩ := hf
  have hb0 := (Below.refl w.heap.size w).alloc (Nat.le_refl _) (Obj.cells #[.int .i64 x.k, .string x.s, .slice axs x.xs.length cxs] 25)
  have HB := Lib.hid hb0
  clear hb0
  have KP := Lib.hid (heap_alloc_new w (Obj.cells #[.int .i64 x.k, .string x.s, .slice axs x.xs.length cxs] 25))
  have HZ2 := Lib.hid (fun (L' : Int) (W : World) (hW : Below w.heap.size w W) (h0 : 0 ≤ L') (h1 : L' ≤ 1048576) => szIntS_any axs cxs x.xs L' S W (rr0.kept (Same.below hS hW)) (fun b hb => Nat.lt_of_lt_of_le (hS b hb) hW.size) f1 h0 h1)
  clear rr0 hS
  generalize wtIntS x.xs = q2 at *
  by_cases hs1 : (x.s.size : Int) ≤ L
  · have hd1 : decide (L - (x.s.size : Int) < 0) = false := decide_eq_false (by omega)
    go_enter Tryz.func20, Tryz.ntmps20
    go_wp2_with fail
    refine (HZ2.out (L - (x.s.size : Int)) _ HB.out (by omega) (by omega)).mono ?_
    rintro e w2 ⟨⟨r, rfl, hr⟩, hb1⟩
    replace HB := Lib.hid (below_step HB.out hb1)
    replace KP := Lib.hid ((hb1.block _ (lt_of_block KP.out)).trans KP.out)
    clear hb1 HZ2
    rcases hr with ⟨hr, hl⟩ | ⟨rfl, hl⟩
    · have hd2 : decide (r < 0) = true := decide_eq_true hr
      go_wp2
      go_ret
      exact ⟨⟨-1, rfl, .inl (by omega)⟩, HB.out⟩
    · have hd2 : decide (L - (x.s.size : Int) - (q2 : Int) < 0) = false := decide_eq_false (by omega)
      go_wp2
      go_ret
      exact ⟨⟨_, rfl, .inr (by omega)⟩, HB.out⟩
  · have hd1 : decide (L - (x.s.size : Int) < 0) = true := decide_eq_true (by omega)
    go_enter Tryz.func20, Tryz.ntmps20
    go_wp2
    go_ret
    exact ⟨⟨-1, rfl, .inl (by omega)⟩, HB.out⟩

set_option maxRecDepth 100000 in
set_option maxHeartbeats 2000000 in
theorem eqLit_any (x : It) (us vs : List Value) (S1 S2 : Nat → Prop) (w : World) (hF1 : FIt S1 w us x) (hF2 : FIt S2 w vs x) (hS1 : ∀ b, S1 b → b < w.heap.size) (hS2 : ∀ b, S2 b → b < w.heap.size) (hn : x.wt ≤ 2000000) :
    Calls Tryz.prog 32 #[.agg us.toArray, .agg vs.toArray] w fun e w' => e = .returned (.bool true) ∧ Below w.heap.size w w' := by
  obtain ⟨axsu, cxsu, rfl, rr0u⟩ := hF1
  obtain ⟨axsv, cxsv, rfl, rr0v⟩ := hF2
  unfold It.wt at hn
  have e0 : (x.k != x.k) = false := by simp
  have e1 : (x.s.toList != x.s.toList) = false := by simp
  have HZ2 := Lib.hid (fun (W : World) (hW : Below w.heap.size w W) => eqIntS_any x.xs axsu axsv cxsu cxsv S1 S2 W (rr0u.kept (Same.below hS1 hW)) (rr0v.kept (Same.below hS2 hW)) (fun b hb => Nat.lt_of_lt_of_le (hS1 b hb) hW.size) (fun b hb => Nat.lt_of_lt_of_le (hS2 b hb) hW.size) (by have := lenIntS x.xs; omega))
  clear rr0u rr0v hS1 hS2
  have hb0 := ((Below.refl w.heap.size w).alloc (Nat.le_refl _) (Obj.cells #[.int .i64 x.k, .string x.s, .slice axsu x.xs.length cxsu] 33)).alloc (by simp) (Obj.cells #[.int .i64 x.k, .string x.s, .slice axsv x.xs.length cxsv] 33)
  have HB := Lib.hid hb0
  clear hb0
  have KP := Lib.hid ((heap_alloc_old _ (Obj.cells #[.int .i64 x.k, .string x.s, .slice axsv x.xs.length cxsv] 33) (by simp)).trans (heap_alloc_new w (Obj.cells #[.int .i64 x.k, .string x.s, .slice axsu x.xs.length cxsu] 33)))
  have KQ := Lib.hid (heap_alloc2_new w (Obj.cells #[.int .i64 x.k, .string x.s, .slice axsu x.xs.length cxsu] 33) (Obj.cells #[.int .i64 x.k, .string x.s, .slice axsv x.xs.length cxsv] 33))
  go_enter Tryz.func32, Tryz.ntmps32
  go_wp2_with fail
  refine (HZ2.out _ HB.out).mono ?_
  rintro e w2 ⟨rfl, hb1⟩
  replace HB := Lib.hid (below_step HB.out hb1)
  replace KP := Lib.hid ((hb1.block _ (lt_of_block KP.out)).trans KP.out)
  replace KQ := Lib.hid ((hb1.block _ (lt_of_block KQ.out)).trans KQ.out)
  clear HZ2 hb1
  go_wp2
  go_ret
  exact ⟨rfl, HB.out⟩

theorem infoLit : (Tryz.prog.info? 33).map (fun i => (i.zero, i.size, i.bytes)) = some (some (.agg #[.int .i64 0, .string ⟨#[]⟩, .slice none 0 0]), 3, 48) := by kernel_rfl
theorem infoSLit : (Tryz.prog.info? 33).map (·.size) = some 3 := by kernel_rfl
set_option maxRecDepth 100000 in
set_option maxHeartbeats 2000000 in
theorem toLit_any (x : It) (vs : List Value) (S : Nat → Prop) (w : World) (hF : FIt S w vs x) (hS : ∀ b, S b → b < w.heap.size) (hn : x.wt ≤ 1048576) :
    Calls Tryz.prog 26 #[.agg vs.toArray] w fun e w' => ∃ us : List Value, e = .returned (.agg us.toArray) ∧ FIt (Seg w.heap.size w'.heap.size) w' us x ∧ Below w.heap.size w w' := by
  obtain ⟨axs, cxs, rfl, rr0⟩ := hF
  unfold It.wt at hn
  have HZ2 := Lib.hid (fun (W : World) (hW : Below w.heap.size w W) => toIntS_any axs cxs x.xs S W (rr0.kept (Same.below hS hW)) (fun b hb => Nat.lt_of_lt_of_le (hS b hb) hW.size) (by have := lenIntS x.xs; omega))
  clear rr0 hS
  have hb := alloc3_below w (Obj.cells #[.int .i64 x.k, .string x.s, .slice axs x.xs.length cxs] 25) (Obj.cells #[.int .i64 0, .string ⟨#[]⟩, .slice none 0 0] 33) (Obj.cells #[.int .i64 x.k, .string x.s, .slice none 0 0] 33)
  have hs0 := alloc3_size w (Obj.cells #[.int .i64 x.k, .string x.s, .slice axs x.xs.length cxs] 25) (Obj.cells #[.int .i64 0, .string ⟨#[]⟩, .slice none 0 0] 33) (Obj.cells #[.int .i64 x.k, .string x.s, .slice none 0 0] 33)
  have k1 := alloc3_1 w (Obj.cells #[.int .i64 x.k, .string x.s, .slice axs x.xs.length cxs] 25) (Obj.cells #[.int .i64 0, .string ⟨#[]⟩, .slice none 0 0] 33) (Obj.cells #[.int .i64 x.k, .string x.s, .slice none 0 0] 33)
  have k2 := alloc3_2 w (Obj.cells #[.int .i64 x.k, .string x.s, .slice axs x.xs.length cxs] 25) (Obj.cells #[.int .i64 0, .string ⟨#[]⟩, .slice none 0 0] 33) (Obj.cells #[.int .i64 x.k, .string x.s, .slice none 0 0] 33)
  have KP := Lib.hid (alloc3_0 w (Obj.cells #[.int .i64 x.k, .string x.s, .slice axs x.xs.length cxs] 25) (Obj.cells #[.int .i64 0, .string ⟨#[]⟩, .slice none 0 0] 33) (Obj.cells #[.int .i64 x.k, .string x.s, .slice none 0 0] 33))
  go_enter Tryz.func26, Tryz.ntmps26
  go_wp2_with fail
  refine (HZ2.out _ hb).mono ?_
  rintro e w2 ⟨g2, rfl, hI2, hb1⟩
  replace hI2 := hI2.mono (fun b hb => hb.mono (show w.heap.size + 3 ≤ _ by omega) (Nat.le_refl _))
  replace k1 := (hb1.block _ (by omega)).trans k1
  replace k2 := (hb1.block _ (by omega)).trans k2
  replace KP := Lib.hid ((hb1.block _ (lt_of_block KP.out)).trans KP.out)
  replace hb := below_step hb hb1
  replace hs0 : w.heap.size + 3 ≤ w2.heap.size := by have := hb1.size; omega
  clear HZ2 hb1
  have c10 := (cell_of_row _ (w.heap.size + 1) 0 _ _ _ k1)
  simp only [List.getElem?_toArray, List.getElem?_cons_zero] at c10
  have c11 := (cell_of_row _ (w.heap.size + 1) 1 _ _ _ k1)
  simp only [List.getElem?_toArray, List.getElem?_cons_zero, List.getElem?_cons_succ] at c11
  have c12 := (cell_of_row _ (w.heap.size + 1) 2 _ _ _ k1)
  simp only [List.getElem?_toArray, List.getElem?_cons_zero, List.getElem?_cons_succ] at c12
  have c20 := (cell_of_row _ (w.heap.size + 2) 0 _ _ _ k2)
  simp only [List.getElem?_toArray, List.getElem?_cons_zero] at c20
  have c21 := (cell_of_row _ (w.heap.size + 2) 1 _ _ _ k2)
  simp only [List.getElem?_toArray, List.getElem?_cons_zero, List.getElem?_cons_succ] at c21
  have c22 := (cell_of_row _ (w.heap.size + 2) 2 _ _ _ k2)
  simp only [List.getElem?_toArray, List.getElem?_cons_zero, List.getElem?_cons_succ] at c22
  have f10 := frozen_row k1 0
  have f20 := frozen_row k2 0
  have f11 := frozen_row k1 1
  have f21 := frozen_row k2 1
  have f12 := frozen_row k1 2
  have f22 := frozen_row k2 2
  try clear p0
  have p0 := cell_of_row _ (w.heap.size) 0 _ _ _ KP.out
  simp only [List.getElem?_toArray, List.getElem?_cons_zero] at p0
  try clear p1
  have p1 := cell_of_row _ (w.heap.size) 1 _ _ _ KP.out
  simp only [List.getElem?_toArray, List.getElem?_cons_zero, List.getElem?_cons_succ] at p1
  try clear p2
  have p2 := cell_of_row _ (w.heap.size) 2 _ _ _ KP.out
  simp only [List.getElem?_toArray, List.getElem?_cons_zero, List.getElem?_cons_succ] at p2
  have HhI2 := Lib.hid hI2
  clear hI2
  have HK1 := Lib.hid k1
  have HK2 := Lib.hid k2
  have HB := Lib.hid hb
  clear k1 k2 hb
  go_wp2
  obtain ⟨hres, hbel, hsame, hsz⟩ := laid_out (w := w) (W := w2) (c := 3) 2 [.slice (some ⟨g2, 0, none⟩) x.xs.length x.xs.length] [.int .i64 x.k, .string x.s, .slice (some ⟨g2, 0, none⟩) x.xs.length x.xs.length] HK1.out HK2.out HB.out (by simp) (by simp) (by simp)
  refine bodyPost_ret (results_cell_row rfl _ _ (w.heap.size + 1) 33 #[.int .i64 x.k, .string x.s, .slice (some ⟨g2, 0, none⟩) x.xs.length x.xs.length] (0, 0) _ (by rfl) hres Tryz.underlying33 rfl infoSLit) rfl ?_
  refine ⟨[.int .i64 x.k, .string x.s, .slice (some ⟨g2, 0, none⟩) x.xs.length x.xs.length], rfl, ⟨_, _, rfl, ?_⟩, hbel⟩
  · exact (HhI2.out.kept (hsame _ (fun h => by have := h.1; omega) (fun h => by have := h.1; omega))).mono (fun b hb => hb.mono (by omega) (Nat.le_of_eq hsz.symm))

def wtLitS (l : List It) : Nat := wsum It.wt l + l.length
theorem lenLitS (l : List It) : l.length ≤ wtLitS l := by unfold wtLitS; omega
def SzRelLitS (w : World) (l : List It) (L : Int) (v1 v5 : Value) (wr : World) : Prop :=
  ∃ k : Nat, Below w.heap.size w wr ∧ v5 = .int .i64 (k : Int) ∧ k ≤ l.length ∧ v1 = .int .i64 (L - (l.length : Int) - (wsum It.wt (l.take k) : Int)) ∧ ((wsum It.wt (l.take k) : Int) + l.length ≤ L)

set_option maxRecDepth 100000 in
set_option maxHeartbeats 2000000 in
theorem szLitS_any (a : Option Addr) (cap : Nat) (l : List It) (L : Int) (S : Nat → Prop) (w : World) (hrow : RowIn FIt 3 S w a l) (hS : ∀ b, S b → b < w.heap.size) (hn : l.length ≤ 9223372036854775807) (hs : ∀ x ∈ l, x.fits) (h0 : 0 ≤ L) (h1 : L ≤ 1048576) :
    Calls Tryz.prog 21 #[.slice a l.length cap, .int .i64 L] w fun e w' => (∃ r : Int, e = .returned (.int .i64 r) ∧ ((r < 0 ∧ L < wtLitS l) ∨ (r = L - wtLitS l ∧ (wtLitS l : Int) ≤ L))) ∧ Below w.heap.size w w' := by
  have HR := Lib.hid hrow
  have HS := Lib.hid hs
  have HSS := Lib.hid hS
  clear hrow hs hS
  unfold wtLitS
  by_cases hb0 : (l.length : Int) ≤ L
  · have hd : decide (L - (l.length : Int) < 0) = false := decide_eq_false (by omega)
    go_enter Tryz.func21, Tryz.ntmps21
    go_wp2
    go_loopw [1, 5] (fun v1 v5 wr => SzRelLitS w l L v1 v5 wr) (fun _ v5 _ => (l.length - (intOf v5).toNat))
    case atStart => exact ⟨0, Below.refl _ _, rfl, Nat.zero_le _, by rw [List.take_zero, wsum]; congr 1; omega, by rw [List.take_zero, wsum]; omega⟩
    case round =>
      obtain ⟨k, hb, rfl, hk, rfl, htk⟩ := hrel
      by_cases hlt : k < l.length
      · obtain ⟨b, off, vs, rfl, hbl, hvl, hcc, hFF⟩ := RowIn.kept FIt_keeps HR.out (Same.below HSS.out hb) k hlt
        have HC := Lib.hid hFF
        obtain ⟨axs, cxs, rfl, hh0⟩ := hFF
        have hx0 : wr.cell? ⟨b, off + k * 3, none⟩ = some (.int .i64 l[k].k) := hcc 0 (by simp)
        have hx1 : wr.cell? ⟨b, off + k * 3 + 1, none⟩ = some (.string l[k].s) := hcc 1 (by simp)
        have hx2 : wr.cell? ⟨b, off + k * 3 + 2, none⟩ = some (.slice axs l[k].xs.length cxs) := hcc 2 (by simp)
        have hxs := HS.out l[k] (List.getElem_mem hlt)
        have ht := wsum_take It.wt hlt
        have htot := wsum_take_le It.wt l (k + 1)
        have HZZ := Lib.hid (szLit_any l[k] _ (L - (l.length : Int) - (wsum It.wt (l.take k) : Int)) S wr HC.out (fun q hq => Nat.lt_of_lt_of_le (HSS.out q hq) hb.size) hxs (by omega) (by omega))
        have Z : ∀ w1, Below wr.heap.size wr w1 → (wsum It.wt (l.take k) : Int) + l[k].wt + l.length ≤ L → SzRelLitS w l L (.int .i64 (L - (l.length : Int) - (wsum It.wt (l.take k) : Int) - (l[k].wt : Int))) (.int .i64 ((k : Int) + 1)) w1 := fun w1 hw1 hh =>
          ⟨k + 1, below_step hb hw1, by go_num, by omega, by rw [ht]; congr 1; omega, by rw [ht]; omega⟩
        have HZ := Lib.hid Z
        clear Z hxs HC hh0 hcc hvl hbl
        rw [ht] at htot
        clear ht
        generalize l[k] = x at *
        generalize wsum It.wt (l.take k) = y at *
        go_wp2_with fail
        refine HZZ.out.mono ?_
        rintro e w1 ⟨⟨r, rfl, hr⟩, hb1⟩
        rcases hr with ⟨hr, hl⟩ | ⟨rfl, hl⟩
        · have hd2 : decide (r < 0) = true := decide_eq_true hr
          have HB := Lib.hid (below_step hb hb1)
          clear HZ HZZ hb1
          go_wp2
          go_ret
          exact ⟨⟨-1, rfl, .inl (by omega)⟩, HB.out⟩
        · have HRR := Lib.hid (HZ.out w1 hb1 (by omega))
          have hd2 : decide (L - (l.length : Int) - (y : Int) - (x.wt : Int) < 0) = false := decide_eq_false (by omega)
          clear HZ HZZ hb1
          generalize x.wt = z at *
          go_wp2
          go_roundw
          case rel => exact HRR.out
          case measure => simp [intOf]; omega
      · obtain rfl : k = l.length := by omega
        rw [List.take_length] at htk ⊢
        generalize hy : wsum It.wt l = y at htk ⊢
        go_wp2
        go_ret
        exact ⟨⟨_, rfl, .inr (by omega)⟩, hb⟩
  · have hd : decide (L - (l.length : Int) < 0) = true := decide_eq_true (by omega)
    go_enter Tryz.func21, Tryz.ntmps21
    go_wp2
    go_ret
    exact ⟨⟨-1, rfl, .inl (by omega)⟩, Below.refl _ _⟩

def EqRelLitS (w : World) (n : Nat) (v : Value) (wr : World) : Prop := ∃ k : Nat, Below w.heap.size w wr ∧ v = .int .i64 (k : Int) ∧ k ≤ n

set_option maxRecDepth 100000 in
set_option maxHeartbeats 2000000 in
theorem eqLitS_any (l : List It) (a1 a2 : Option Addr) (c1 c2 : Nat) (S1 S2 : Nat → Prop) (w : World) (hu : RowIn FIt 3 S1 w a1 l) (hv : RowIn FIt 3 S2 w a2 l) (hS1 : ∀ b, S1 b → b < w.heap.size) (hS2 : ∀ b, S2 b → b < w.heap.size) (hn : wtLitS l ≤ 2000000) :
    Calls Tryz.prog 33 #[.slice a1 l.length c1, .slice a2 l.length c2] w fun e w' => e = .returned (.bool true) ∧ Below w.heap.size w w' := by
  have HU := Lib.hid hu
  have HV := Lib.hid hv
  have HS1 := Lib.hid hS1
  have HS2 := Lib.hid hS2
  have hln := lenLitS l
  have HW := Lib.hid hn
  have hln2 : l.length ≤ 2000000 := by omega
  clear hu hv hS1 hS2 hln hn
  have hne : ((l.length : Int) != (l.length : Int)) = false := by simp
  go_enter Tryz.func33, Tryz.ntmps33
  go_wp2
  go_loopw [5] (fun v wr => EqRelLitS w l.length v wr) (fun v _ => (l.length - (intOf v).toNat))
  case atStart => exact ⟨0, Below.refl _ _, rfl, Nat.zero_le _⟩
  case round =>
    obtain ⟨k, hb, rfl, hk⟩ := hrel
    by_cases hlt : k < l.length
    · obtain ⟨b1, o1, us, rfl, hl1, hul, hcu, hFu⟩ := RowIn.kept FIt_keeps HU.out (Same.below HS1.out hb) k hlt
      obtain ⟨b2, o2, vs, rfl, hl2, hvl, hcv, hFv⟩ := RowIn.kept FIt_keeps HV.out (Same.below HS2.out hb) k hlt
      have hxw : l[k].wt ≤ 2000000 := by
        have h1 := HW.out
        have h2 := wsum_mem It.wt (List.getElem_mem hlt)
        unfold wtLitS at h1
        omega
      have hg1 : b1 < wr.heap.size := Nat.lt_of_lt_of_le (HS1.out _ hl1) hb.size
      have hg2 : b2 < wr.heap.size := Nat.lt_of_lt_of_le (HS2.out _ hl2) hb.size
      have HEQ := Lib.hid (fun (W : World) (hW : Below wr.heap.size wr W) => eqLit_any l[k] us vs S1 S2 W (FIt_keeps.1 _ _ _ _ _ hFu (Same.below (fun q hq => Nat.lt_of_lt_of_le (HS1.out q hq) hb.size) hW)) (FIt_keeps.1 _ _ _ _ _ hFv (Same.below (fun q hq => Nat.lt_of_lt_of_le (HS2.out q hq) hb.size) hW)) (fun q hq => Nat.lt_of_lt_of_le (Nat.lt_of_lt_of_le (HS1.out q hq) hb.size) hW.size) (fun q hq => Nat.lt_of_lt_of_le (Nat.lt_of_lt_of_le (HS2.out q hq) hb.size) hW.size) hxw)
      obtain ⟨axsu, cxsu, rfl, hh0u⟩ := hFu
      obtain ⟨axsv, cxsv, rfl, hh0v⟩ := hFv
      have x0 : wr.cell? ⟨b1, o1 + k * 3, none⟩ = some (.int .i64 l[k].k) := hcu 0 (by simp)
      have y0 : wr.cell? ⟨b2, o2 + k * 3, none⟩ = some (.int .i64 l[k].k) := hcv 0 (by simp)
      have x1 : wr.cell? ⟨b1, o1 + k * 3 + 1, none⟩ = some (.string l[k].s) := hcu 1 (by simp)
      have y1 : wr.cell? ⟨b2, o2 + k * 3 + 1, none⟩ = some (.string l[k].s) := hcv 1 (by simp)
      have x2 : wr.cell? ⟨b1, o1 + k * 3 + 2, none⟩ = some (.slice axsu l[k].xs.length cxsu) := hcu 2 (by simp)
      have y2 : wr.cell? ⟨b2, o2 + k * 3 + 2, none⟩ = some (.slice axsv l[k].xs.length cxsv) := hcv 2 (by simp)
      have HB := Lib.hid hb
      have hB0 : Below wr.heap.size wr wr := Below.refl _ _
      clear hb hxw hcu hcv hul hvl hh0u hh0v HU HV hl1 hl2
      generalize l[k] = x at *
      go_wp2
      go_region_held3 (fun w' => w'.cell? ⟨b1, o1 + k * 3, none⟩ = some (.int .i64 x.k) ∧ w'.cell? ⟨b2, o2 + k * 3, none⟩ = some (.int .i64 x.k) ∧ w'.cell? ⟨b1, o1 + k * 3 + 1, none⟩ = some (.string x.s) ∧ w'.cell? ⟨b2, o2 + k * 3 + 1, none⟩ = some (.string x.s) ∧ w'.cell? ⟨b1, o1 + k * 3 + 2, none⟩ = some (.slice axsu x.xs.length cxsu) ∧ w'.cell? ⟨b2, o2 + k * 3 + 2, none⟩ = some (.slice axsv x.xs.length cxsv) ∧ Below wr.heap.size wr w')
        (refine ⟨?_, ?_, ?_, ?_, ?_, ?_, ?_⟩ <;> (first | assumption | (simp [*]; done) | (apply Below.drew; assumption)))
        (first
          | (go_at_call 32
             refine (HEQ.out _ (by first | assumption | (apply Below.drew; assumption))).mono ?_
             rintro e w3 ⟨rfl, hb3⟩
             have hs1 : Below wr.heap.size wr w3 := hB0.drew.trans hb3
             have z0 : w3.cell? ⟨b1, o1 + k * 3, none⟩ = some (.int .i64 x.k) := (hb3.cell hg1).trans x0
             have t0 : w3.cell? ⟨b2, o2 + k * 3, none⟩ = some (.int .i64 x.k) := (hb3.cell hg2).trans y0
             have z1 : w3.cell? ⟨b1, o1 + k * 3 + 1, none⟩ = some (.string x.s) := (hb3.cell hg1).trans x1
             have t1 : w3.cell? ⟨b2, o2 + k * 3 + 1, none⟩ = some (.string x.s) := (hb3.cell hg2).trans y1
             have z2 : w3.cell? ⟨b1, o1 + k * 3 + 2, none⟩ = some (.slice axsu x.xs.length cxsu) := (hb3.cell hg1).trans x2
             have t2 : w3.cell? ⟨b2, o2 + k * 3 + 2, none⟩ = some (.slice axsv x.xs.length cxsv) := (hb3.cell hg2).trans y2
             clear hb3))
      go_wp2
      go_roundw
      case rel => exact ⟨k + 1, HB.out.trans (Below.mono (by assumption) HB.out.size), by go_num, by omega⟩
      case measure => simp [intOf]; omega
    · obtain rfl : k = l.length := by omega
      have hlt2 : decide ((l.length : Int) < (l.length : Int)) = false := by simp
      go_wp2
      go_ret
      exact ⟨rfl, hb⟩

def ToRelLitS (w : World) (l : List It) (v4 : Value) (wr : World) : Prop :=
  ∃ (k : Nat), v4 = .int .i64 (k : Int) ∧ k ≤ l.length ∧ RowTo FIt 3 33 w.heap.size w.heap.size wr l k ∧ Below w.heap.size w wr

set_option maxRecDepth 100000 in
set_option maxHeartbeats 2000000 in
theorem toLitS_any (a : Option Addr) (cap : Nat) (l : List It) (S : Nat → Prop) (w : World) (hrow : RowIn FIt 3 S w a l) (hS : ∀ b, S b → b < w.heap.size) (hn : wtLitS l ≤ 1048576) :
    Calls Tryz.prog 27 #[.slice a l.length cap] w fun e w' => ∃ g : Nat, e = .returned (.slice (some ⟨g, 0, none⟩) l.length l.length) ∧ RowIn FIt 3 (Seg w.heap.size w'.heap.size) w' (some ⟨g, 0, none⟩) l ∧ Below w.heap.size w w' := by
  have HR := Lib.hid hrow
  have HS := Lib.hid hS
  have HW := Lib.hid hn
  have hln := lenLitS l
  have hln2 : l.length ≤ 1048576 := by omega
  clear hrow hS hn hln
  obtain ⟨i0, hi0, hz0, hz1, hz2⟩ := info_parts infoLit
  have hmk : (Instr.makeSlice 34 (.int .i64 (l.length : Int)) (.int .i64 (l.length : Int))).run Tryz.prog w = .ok (.slice (some ⟨w.heap.size, 0, none⟩) l.length l.length) (w.alloc (.cells (madeCells #[.int .i64 0, .string ⟨#[]⟩, .slice none 0 0] (l.length * 3)) 33)) := by
    rw [run_make w 34 33 i0 _ Tryz.underlying34 hi0 hz0 .i64 .i64 _ _ (by omega) (by omega) (by rw [hz2]; omega) (by omega), hz1, Int.toNat_natCast]
    rfl
  have hst : ToRelLitS w l (.int .i64 0) (w.alloc (.cells (madeCells #[.int .i64 0, .string ⟨#[]⟩, .slice none 0 0] (l.length * 3)) 33)) :=
    ⟨0, rfl, Nat.zero_le _, ⟨⟨_, heap_alloc_new w _, size_madeCells _ _⟩, Nat.le_refl _, fun i h hi => by omega⟩, (Below.refl w.heap.size w).alloc (Nat.le_refl _) _⟩
  have HST := Lib.hid hst
  generalize w.alloc (.cells (madeCells #[.int .i64 0, .string ⟨#[]⟩, .slice none 0 0] (l.length * 3)) 33) = W0 at *
  clear hi0 hz0 hz1 hz2 hst
  go_enter Tryz.func27, Tryz.ntmps27
  go_wp2
  clear hmk
  go_loopw [4] (fun v4 wr => ToRelLitS w l v4 wr) (fun v4 _ => (l.length - (intOf v4).toNat))
  case atStart => exact HST.out
  case round =>
    obtain ⟨k, rfl, hk, hto, hb⟩ := hrel
    by_cases hlt : k < l.length
    · obtain ⟨b, off, vs, rfl, hbl, hvl, hcc, hFF⟩ := RowIn.kept FIt_keeps HR.out (Same.below HS.out hb) k hlt
      have HC := Lib.hid hFF
      obtain ⟨axs, cxs, rfl, hh0⟩ := hFF
      have hx0 : wr.cell? ⟨b, off + k * 3, none⟩ = some (.int .i64 l[k].k) := hcc 0 (by simp)
      have hx1 : wr.cell? ⟨b, off + k * 3 + 1, none⟩ = some (.string l[k].s) := hcc 1 (by simp)
      have hx2 : wr.cell? ⟨b, off + k * 3 + 2, none⟩ = some (.slice axs l[k].xs.length cxs) := hcc 2 (by simp)
      have hxw : l[k].wt ≤ 1048576 := by
        have h1 := HW.out
        have h2 := wsum_mem It.wt (List.getElem_mem hlt)
        unfold wtLitS at h1
        omega
      have HZ := Lib.hid (toLit_any l[k] _ S wr HC.out (fun q hq => Nat.lt_of_lt_of_le (HS.out q hq) hb.size) hxw)
      have HSTEP := Lib.hid (fun (w1 : World) (hb1 : Below wr.heap.size wr w1) (us : List Value) (hu : us.length = 3) (hF : FIt (Seg wr.heap.size w1.heap.size) w1 us l[k]) => hto.step FIt_keeps hlt hb1 hu hF)
      have HROOM := Lib.hid (fun (w1 : World) (hb1 : Below wr.heap.size wr w1) (j : Nat) (hj : j < 3) => hto.room hb1 hlt hj)
      have HB := Lib.hid hb
      clear hb hto hcc hvl hbl HC hxw hh0
      generalize l[k] = x at *
      go_wp2_with fail
      refine HZ.out.mono ?_
      rintro e w1 ⟨us, rfl, hFu, hb1⟩
      have hul : us.length = 3 := by
        obtain ⟨bxs, dxs, rfl, gg0⟩ := hFu
        rfl
      obtain ⟨hr1, hr2⟩ := HSTEP.out w1 hb1 us hul hFu
      have HRR := Lib.hid ((⟨k + 1, by go_num, by omega, hr1, (HB.out.mono (Nat.le_refl _)).trans hr2⟩ : ToRelLitS w l (.int .i64 ((k : Int) + 1)) (setAll w1 w.heap.size (k * 3) us)))
      obtain ⟨⟨u0, hu0⟩, hf0⟩ := HROOM.out w1 hb1 0 (by omega)
      obtain ⟨⟨u1, hu1⟩, hf1⟩ := HROOM.out w1 hb1 1 (by omega)
      obtain ⟨⟨u2, hu2⟩, hf2⟩ := HROOM.out w1 hb1 2 (by omega)
      clear HZ HSTEP HROOM hr1 hr2 hb1
      obtain ⟨axs, cxs, rfl, gg0⟩ := hFu
      clear gg0
      simp only [Nat.add_zero] at hu0 hf0
      go_wp2
      go_roundw
      case rel => exact HRR.out
      case measure => simp [intOf]; omega
    · obtain rfl : k = l.length := by omega
      have HO := Lib.hid (hto.done FIt_keeps)
      clear hto
      go_wp2
      go_ret
      exact ⟨_, rfl, HO.out, hb⟩


end Go.Proofs.YtilijbpbnlnhlaaGreat.Pr
