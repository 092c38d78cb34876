/-
  THE LAWS' OWN HELPERS over types and relations that are told.
-/
import Derived.Test.YtdcfhmbnbfmnbaaPTe
namespace Go.Proofs.Ytdcfhmbnbfmnbaa.Pr
open Go Go.RowKit Go.Maps Go.WideMaps

structure Cn where
  s : ByteArray
  ts : List ByteArray
def FCn : Flat Cn := fun S w vs x => ∃ (ats : Option Addr) (cts : Nat), vs = [.string x.s, .slice ats x.ts.length cts] ∧ TxtsIn S w ats x.ts
theorem FCn_keeps : Keeps FCn := by
  refine ⟨?_, ?_⟩
  · rintro S w w' vs x ⟨ats, cts, rfl, h0⟩ hs
    exact ⟨_, _, rfl, h0.kept hs⟩
  · rintro S T w vs x ⟨ats, cts, rfl, h0⟩ hs
    exact ⟨_, _, rfl, h0.mono hs⟩
def Cn.wt (x : Cn) : Nat := x.s.size + wtStringS x.ts
def Cn.fits (x : Cn) : Prop := x.s.size ≤ 9223372036854775807 ∧ (x.ts.length ≤ 9223372036854775807 ∧ ∀ y ∈ x.ts, y.size ≤ 9223372036854775807)

set_option maxRecDepth 100000 in
set_option maxHeartbeats 2000000 in
theorem szCon_any (x : Cn) (vs : List Value) (L : Int) (S : Nat → Prop) (w : World) (hF : FCn S w vs x) (hS : ∀ b, S b → b < w.heap.size) (hf : x.fits) (h0 : 0 ≤ L) (h1 : L ≤ 1048576) :
    Calls Try.prog 76 #[.agg vs.toArray, .int .i64 L] w fun e w' => (∃ r : Int, e = .returned (.int .i64 r) ∧ ((r < 0 ∧ L < x.wt) ∨ (r = L - x.wt ∧ (x.wt : Int) ≤ L))) ∧ Below w.heap.size w w' := by
  obtain ⟨ats, cts, rfl, rr0⟩ := hF
  unfold Cn.fits at hf
  unfold Cn.wt
  obtain ⟨f0, f1⟩ := hf
  have hb0 := (Below.refl w.heap.size w).alloc (Nat.le_refl _) (Obj.cells #[.string x.s, .slice ats x.ts.length cts] 159)
  have HB := Lib.hid hb0
  clear hb0
  have KP := Lib.hid (heap_alloc_new w (Obj.cells #[.string x.s, .slice ats x.ts.length cts] 159))
  have HZ1 := Lib.hid (fun (L' : Int) (W : World) (hW : Below w.heap.size w W) (h0 : 0 ≤ L') (h1 : L' ≤ 1048576) => szStringS_any ats cts x.ts L' S W (rr0.kept (Same.below hS hW)) (fun b hb => Nat.lt_of_lt_of_le (hS b hb) hW.size) f1.1 f1.2 h0 h1)
  clear rr0 hS
  generalize wtStringS x.ts = q1 at *
  by_cases hs0 : (x.s.size : Int) ≤ L
  · have hd0 : decide (L - (x.s.size : Int) < 0) = false := decide_eq_false (by omega)
    go_enter Try.func76, Try.ntmps76
    go_wp2_with fail
    refine (HZ1.out (L - (x.s.size : Int)) _ HB.out (by omega) (by omega)).mono ?_
    rintro e w1 ⟨⟨r, rfl, hr⟩, hb1⟩
    replace HB := Lib.hid (below_step HB.out hb1)
    replace KP := Lib.hid ((hb1.block _ (lt_of_block KP.out)).trans KP.out)
    clear hb1 HZ1
    rcases hr with ⟨hr, hl⟩ | ⟨rfl, hl⟩
    · have hd1 : decide (r < 0) = true := decide_eq_true hr
      go_wp2
      go_ret
      exact ⟨⟨-1, rfl, .inl (by omega)⟩, HB.out⟩
    · have hd1 : decide (L - (x.s.size : Int) - (q1 : Int) < 0) = false := decide_eq_false (by omega)
      go_wp2
      go_ret
      exact ⟨⟨_, rfl, .inr (by omega)⟩, HB.out⟩
  · have hd0 : decide (L - (x.s.size : Int) < 0) = true := decide_eq_true (by omega)
    go_enter Try.func76, Try.ntmps76
    go_wp2
    go_ret
    exact ⟨⟨-1, rfl, .inl (by omega)⟩, HB.out⟩

set_option maxRecDepth 100000 in
set_option maxHeartbeats 2000000 in
theorem eqCon_any (x : Cn) (us vs : List Value) (S1 S2 : Nat → Prop) (w : World) (hF1 : FCn S1 w us x) (hF2 : FCn S2 w vs x) (hS1 : ∀ b, S1 b → b < w.heap.size) (hS2 : ∀ b, S2 b → b < w.heap.size) (hn : x.wt ≤ 2000000) :
    Calls Try.prog 78 #[.agg us.toArray, .agg vs.toArray] w fun e w' => e = .returned (.bool true) ∧ Below w.heap.size w w' := by
  obtain ⟨atsu, ctsu, rfl, rr0u⟩ := hF1
  obtain ⟨atsv, ctsv, rfl, rr0v⟩ := hF2
  unfold Cn.wt at hn
  have e0 : (x.s.toList != x.s.toList) = false := by simp
  have HZ1 := Lib.hid (fun (W : World) (hW : Below w.heap.size w W) => eqStringS_any x.ts atsu atsv ctsu ctsv S1 S2 W (rr0u.kept (Same.below hS1 hW)) (rr0v.kept (Same.below hS2 hW)) (fun b hb => Nat.lt_of_lt_of_le (hS1 b hb) hW.size) (fun b hb => Nat.lt_of_lt_of_le (hS2 b hb) hW.size) (by have := lenStringS x.ts; omega))
  clear rr0u rr0v hS1 hS2
  have hb0 := ((Below.refl w.heap.size w).alloc (Nat.le_refl _) (Obj.cells #[.string x.s, .slice atsu x.ts.length ctsu] 62)).alloc (by simp) (Obj.cells #[.string x.s, .slice atsv x.ts.length ctsv] 62)
  have HB := Lib.hid hb0
  clear hb0
  have KP := Lib.hid ((heap_alloc_old _ (Obj.cells #[.string x.s, .slice atsv x.ts.length ctsv] 62) (by simp)).trans (heap_alloc_new w (Obj.cells #[.string x.s, .slice atsu x.ts.length ctsu] 62)))
  have KQ := Lib.hid (heap_alloc2_new w (Obj.cells #[.string x.s, .slice atsu x.ts.length ctsu] 62) (Obj.cells #[.string x.s, .slice atsv x.ts.length ctsv] 62))
  go_enter Try.func78, Try.ntmps78
  go_wp2_with fail
  refine (HZ1.out _ HB.out).mono ?_
  rintro e w1 ⟨rfl, hb1⟩
  replace HB := Lib.hid (below_step HB.out hb1)
  replace KP := Lib.hid ((hb1.block _ (lt_of_block KP.out)).trans KP.out)
  replace KQ := Lib.hid ((hb1.block _ (lt_of_block KQ.out)).trans KQ.out)
  clear HZ1 hb1
  go_wp2
  go_ret
  exact ⟨rfl, HB.out⟩

theorem infoCon : (Try.prog.info? 62).map (fun i => (i.zero, i.size, i.bytes)) = some (some (.agg #[.string ⟨#[]⟩, .slice none 0 0]), 2, 40) := by kernel_rfl
theorem infoSCon : (Try.prog.info? 62).map (·.size) = some 2 := by kernel_rfl
set_option maxRecDepth 100000 in
set_option maxHeartbeats 2000000 in
theorem toCon_any (x : Cn) (vs : List Value) (S : Nat → Prop) (w : World) (hF : FCn S w vs x) (hS : ∀ b, S b → b < w.heap.size) (hn : x.wt ≤ 1048576) :
    Calls Try.prog 77 #[.agg vs.toArray] w fun e w' => ∃ us : List Value, e = .returned (.agg us.toArray) ∧ FCn (Seg w.heap.size w'.heap.size) w' us x ∧ Below w.heap.size w w' := by
  obtain ⟨ats, cts, rfl, rr0⟩ := hF
  unfold Cn.wt at hn
  have HZ1 := Lib.hid (fun (W : World) (hW : Below w.heap.size w W) => toStringS_any ats cts x.ts S W (rr0.kept (Same.below hS hW)) (fun b hb => Nat.lt_of_lt_of_le (hS b hb) hW.size) (by have := lenStringS x.ts; omega))
  clear rr0 hS
  have hb := alloc3_below w (Obj.cells #[.string x.s, .slice ats x.ts.length cts] 159) (Obj.cells #[.string ⟨#[]⟩, .slice none 0 0] 62) (Obj.cells #[.string x.s, .slice none 0 0] 62)
  have hs0 := alloc3_size w (Obj.cells #[.string x.s, .slice ats x.ts.length cts] 159) (Obj.cells #[.string ⟨#[]⟩, .slice none 0 0] 62) (Obj.cells #[.string x.s, .slice none 0 0] 62)
  have k1 := alloc3_1 w (Obj.cells #[.string x.s, .slice ats x.ts.length cts] 159) (Obj.cells #[.string ⟨#[]⟩, .slice none 0 0] 62) (Obj.cells #[.string x.s, .slice none 0 0] 62)
  have k2 := alloc3_2 w (Obj.cells #[.string x.s, .slice ats x.ts.length cts] 159) (Obj.cells #[.string ⟨#[]⟩, .slice none 0 0] 62) (Obj.cells #[.string x.s, .slice none 0 0] 62)
  have KP := Lib.hid (alloc3_0 w (Obj.cells #[.string x.s, .slice ats x.ts.length cts] 159) (Obj.cells #[.string ⟨#[]⟩, .slice none 0 0] 62) (Obj.cells #[.string x.s, .slice none 0 0] 62))
  go_enter Try.func77, Try.ntmps77
  go_wp2_with fail
  refine (HZ1.out _ hb).mono ?_
  rintro e w1 ⟨g1, rfl, hI1, hb1⟩
  replace hI1 := hI1.mono (fun b hb => hb.mono (show w.heap.size + 3 ≤ _ by omega) (Nat.le_refl _))
  replace k1 := (hb1.block _ (by omega)).trans k1
  replace k2 := (hb1.block _ (by omega)).trans k2
  replace KP := Lib.hid ((hb1.block _ (lt_of_block KP.out)).trans KP.out)
  replace hb := below_step hb hb1
  replace hs0 : w.heap.size + 3 ≤ w1.heap.size := by have := hb1.size; omega
  clear HZ1 hb1
  have c10 := (cell_of_row _ (w.heap.size + 1) 0 _ _ _ k1)
  simp only [List.getElem?_toArray, List.getElem?_cons_zero, List.getElem?_cons_succ] at c10
  have c11 := (cell_of_row _ (w.heap.size + 1) 1 _ _ _ k1)
  simp only [List.getElem?_toArray, List.getElem?_cons_zero, List.getElem?_cons_succ] at c11
  have c20 := (cell_of_row _ (w.heap.size + 2) 0 _ _ _ k2)
  simp only [List.getElem?_toArray, List.getElem?_cons_zero, List.getElem?_cons_succ] at c20
  have c21 := (cell_of_row _ (w.heap.size + 2) 1 _ _ _ k2)
  simp only [List.getElem?_toArray, List.getElem?_cons_zero, List.getElem?_cons_succ] at c21
  have f10 := frozen_row k1 0
  have f20 := frozen_row k2 0
  have f11 := frozen_row k1 1
  have f21 := frozen_row k2 1
  try clear p0
  have p0 := cell_of_row _ (w.heap.size) 0 _ _ _ KP.out
  simp only [List.getElem?_toArray, List.getElem?_cons_zero, List.getElem?_cons_succ] at p0
  try clear p1
  have p1 := cell_of_row _ (w.heap.size) 1 _ _ _ KP.out
  simp only [List.getElem?_toArray, List.getElem?_cons_zero, List.getElem?_cons_succ] at p1
  have HhI1 := Lib.hid hI1
  clear hI1
  have HK1 := Lib.hid k1
  have HK2 := Lib.hid k2
  have HB := Lib.hid hb
  clear k1 k2 hb
  go_wp2
  obtain ⟨hres, hbel, hsame, hsz⟩ := laid_out (w := w) (W := w1) (c := 2) 1 [.slice (some ⟨g1, 0, none⟩) x.ts.length x.ts.length] [.string x.s, .slice (some ⟨g1, 0, none⟩) x.ts.length x.ts.length] HK1.out HK2.out HB.out (by simp) (by simp) (by simp)
  refine bodyPost_ret (results_cell_row rfl _ _ (w.heap.size + 1) 62 #[.string x.s, .slice (some ⟨g1, 0, none⟩) x.ts.length x.ts.length] (0, 0) _ (by rfl) hres Try.underlying62 rfl infoSCon) rfl ?_
  refine ⟨[.string x.s, .slice (some ⟨g1, 0, none⟩) x.ts.length x.ts.length], rfl, ⟨_, _, rfl, ?_⟩, hbel⟩
  · exact (HhI1.out.kept (hsame _ (fun h => by have := h.1; omega) (fun h => by have := h.1; omega))).mono (fun b hb => hb.mono (by omega) (Nat.le_of_eq hsz.symm))

def wtConS (l : List Cn) : Nat := wsum Cn.wt l + l.length
theorem lenConS (l : List Cn) : l.length ≤ wtConS l := by unfold wtConS; omega
def SzRelConS (w : World) (l : List Cn) (L : Int) (v1 v5 : Value) (wr : World) : Prop :=
  ∃ k : Nat, Below w.heap.size w wr ∧ v5 = .int .i64 (k : Int) ∧ k ≤ l.length ∧ v1 = .int .i64 (L - (l.length : Int) - (wsum Cn.wt (l.take k) : Int)) ∧ ((wsum Cn.wt (l.take k) : Int) + l.length ≤ L)

set_option maxRecDepth 100000 in
set_option maxHeartbeats 2000000 in
theorem szConS_any (a : Option Addr) (cap : Nat) (l : List Cn) (L : Int) (S : Nat → Prop) (w : World) (hrow : RowIn FCn 2 S w a l) (hS : ∀ b, S b → b < w.heap.size) (hn : l.length ≤ 9223372036854775807) (hs : ∀ x ∈ l, x.fits) (h0 : 0 ≤ L) (h1 : L ≤ 1048576) :
    Calls Try.prog 64 #[.slice a l.length cap, .int .i64 L] w fun e w' => (∃ r : Int, e = .returned (.int .i64 r) ∧ ((r < 0 ∧ L < wtConS l) ∨ (r = L - wtConS l ∧ (wtConS l : Int) ≤ L))) ∧ Below w.heap.size w w' := by
  have HR := Lib.hid hrow
  have HS := Lib.hid hs
  have HSS := Lib.hid hS
  clear hrow hs hS
  unfold wtConS
  by_cases hb0 : (l.length : Int) ≤ L
  · have hd : decide (L - (l.length : Int) < 0) = false := decide_eq_false (by omega)
    go_enter Try.func64, Try.ntmps64
    go_wp2
    go_loopw [1, 5] (fun v1 v5 wr => SzRelConS w l L v1 v5 wr) (fun _ v5 _ => (l.length - (intOf v5).toNat))
    case atStart => exact ⟨0, Below.refl _ _, rfl, Nat.zero_le _, by rw [List.take_zero, wsum]; congr 1; omega, by rw [List.take_zero, wsum]; omega⟩
    case round =>
      obtain ⟨k, hb, rfl, hk, rfl, htk⟩ := hrel
      by_cases hlt : k < l.length
      · obtain ⟨b, off, vs, rfl, hbl, hvl, hcc, hFF⟩ := RowIn.kept FCn_keeps HR.out (Same.below HSS.out hb) k hlt
        have HC := Lib.hid hFF
        obtain ⟨ats, cts, rfl, hh0⟩ := hFF
        have hx0 : wr.cell? ⟨b, off + k * 2, none⟩ = some (.string l[k].s) := hcc 0 (by simp)
        have hx1 : wr.cell? ⟨b, off + k * 2 + 1, none⟩ = some (.slice ats l[k].ts.length cts) := hcc 1 (by simp)
        have hxs := HS.out l[k] (List.getElem_mem hlt)
        have ht := wsum_take Cn.wt hlt
        have htot := wsum_take_le Cn.wt l (k + 1)
        have HZZ := Lib.hid (szCon_any l[k] _ (L - (l.length : Int) - (wsum Cn.wt (l.take k) : Int)) S wr HC.out (fun q hq => Nat.lt_of_lt_of_le (HSS.out q hq) hb.size) hxs (by omega) (by omega))
        have Z : ∀ w1, Below wr.heap.size wr w1 → (wsum Cn.wt (l.take k) : Int) + l[k].wt + l.length ≤ L → SzRelConS w l L (.int .i64 (L - (l.length : Int) - (wsum Cn.wt (l.take k) : Int) - (l[k].wt : Int))) (.int .i64 ((k : Int) + 1)) w1 := fun w1 hw1 hh =>
          ⟨k + 1, below_step hb hw1, by go_num, by omega, by rw [ht]; congr 1; omega, by rw [ht]; omega⟩
        have HZ := Lib.hid Z
        clear Z hxs HC hh0 hcc hvl hbl
        rw [ht] at htot
        clear ht
        generalize l[k] = x at *
        generalize wsum Cn.wt (l.take k) = y at *
        go_wp2_with fail
        refine HZZ.out.mono ?_
        rintro e w1 ⟨⟨r, rfl, hr⟩, hb1⟩
        rcases hr with ⟨hr, hl⟩ | ⟨rfl, hl⟩
        · have hd2 : decide (r < 0) = true := decide_eq_true hr
          have HB := Lib.hid (below_step hb hb1)
          clear HZ HZZ hb1
          go_wp2
          go_ret
          exact ⟨⟨-1, rfl, .inl (by omega)⟩, HB.out⟩
        · have HRR := Lib.hid (HZ.out w1 hb1 (by omega))
          have hd2 : decide (L - (l.length : Int) - (y : Int) - (x.wt : Int) < 0) = false := decide_eq_false (by omega)
          clear HZ HZZ hb1
          generalize x.wt = z at *
          go_wp2
          go_roundw
          case rel => exact HRR.out
          case measure => simp [intOf]; omega
      · obtain rfl : k = l.length := by omega
        rw [List.take_length] at htk ⊢
        generalize hy : wsum Cn.wt l = y at htk ⊢
        go_wp2
        go_ret
        exact ⟨⟨_, rfl, .inr (by omega)⟩, hb⟩
  · have hd : decide (L - (l.length : Int) < 0) = true := decide_eq_true (by omega)
    go_enter Try.func64, Try.ntmps64
    go_wp2
    go_ret
    exact ⟨⟨-1, rfl, .inl (by omega)⟩, Below.refl _ _⟩

def EqRelConS (w : World) (n : Nat) (v : Value) (wr : World) : Prop := ∃ k : Nat, Below w.heap.size w wr ∧ v = .int .i64 (k : Int) ∧ k ≤ n

set_option maxRecDepth 100000 in
set_option maxHeartbeats 2000000 in
theorem eqConS_any (l : List Cn) (a1 a2 : Option Addr) (c1 c2 : Nat) (S1 S2 : Nat → Prop) (w : World) (hu : RowIn FCn 2 S1 w a1 l) (hv : RowIn FCn 2 S2 w a2 l) (hS1 : ∀ b, S1 b → b < w.heap.size) (hS2 : ∀ b, S2 b → b < w.heap.size) (hn : wtConS l ≤ 2000000) :
    Calls Try.prog 70 #[.slice a1 l.length c1, .slice a2 l.length c2] w fun e w' => e = .returned (.bool true) ∧ Below w.heap.size w w' := by
  have HU := Lib.hid hu
  have HV := Lib.hid hv
  have HS1 := Lib.hid hS1
  have HS2 := Lib.hid hS2
  have hln := lenConS l
  have HW := Lib.hid hn
  have hln2 : l.length ≤ 2000000 := by omega
  clear hu hv hS1 hS2 hln hn
  have hne : ((l.length : Int) != (l.length : Int)) = false := by simp
  go_enter Try.func70, Try.ntmps70
  go_wp2
  go_loopw [5] (fun v wr => EqRelConS w l.length v wr) (fun v _ => (l.length - (intOf v).toNat))
  case atStart => exact ⟨0, Below.refl _ _, rfl, Nat.zero_le _⟩
  case round =>
    obtain ⟨k, hb, rfl, hk⟩ := hrel
    by_cases hlt : k < l.length
    · obtain ⟨b1, o1, us, rfl, hl1, hul, hcu, hFu⟩ := RowIn.kept FCn_keeps HU.out (Same.below HS1.out hb) k hlt
      obtain ⟨b2, o2, vs, rfl, hl2, hvl, hcv, hFv⟩ := RowIn.kept FCn_keeps HV.out (Same.below HS2.out hb) k hlt
      have hxw : l[k].wt ≤ 2000000 := by
        have h1 := HW.out
        have h2 := wsum_mem Cn.wt (List.getElem_mem hlt)
        unfold wtConS at h1
        omega
      have hg1 : b1 < wr.heap.size := Nat.lt_of_lt_of_le (HS1.out _ hl1) hb.size
      have hg2 : b2 < wr.heap.size := Nat.lt_of_lt_of_le (HS2.out _ hl2) hb.size
      have HEQ := Lib.hid (fun (W : World) (hW : Below wr.heap.size wr W) => eqCon_any l[k] us vs S1 S2 W (FCn_keeps.1 _ _ _ _ _ hFu (Same.below (fun q hq => Nat.lt_of_lt_of_le (HS1.out q hq) hb.size) hW)) (FCn_keeps.1 _ _ _ _ _ hFv (Same.below (fun q hq => Nat.lt_of_lt_of_le (HS2.out q hq) hb.size) hW)) (fun q hq => Nat.lt_of_lt_of_le (Nat.lt_of_lt_of_le (HS1.out q hq) hb.size) hW.size) (fun q hq => Nat.lt_of_lt_of_le (Nat.lt_of_lt_of_le (HS2.out q hq) hb.size) hW.size) hxw)
      obtain ⟨atsu, ctsu, rfl, hh0u⟩ := hFu
      obtain ⟨atsv, ctsv, rfl, hh0v⟩ := hFv
      have x0 : wr.cell? ⟨b1, o1 + k * 2, none⟩ = some (.string l[k].s) := hcu 0 (by simp)
      have y0 : wr.cell? ⟨b2, o2 + k * 2, none⟩ = some (.string l[k].s) := hcv 0 (by simp)
      have x1 : wr.cell? ⟨b1, o1 + k * 2 + 1, none⟩ = some (.slice atsu l[k].ts.length ctsu) := hcu 1 (by simp)
      have y1 : wr.cell? ⟨b2, o2 + k * 2 + 1, none⟩ = some (.slice atsv l[k].ts.length ctsv) := hcv 1 (by simp)
      have HB := Lib.hid hb
      have hB0 : Below wr.heap.size wr wr := Below.refl _ _
      clear hb hxw hcu hcv hul hvl hh0u hh0v HU HV hl1 hl2
      generalize l[k] = x at *
      go_wp2
      go_region_held3 (fun w' => w'.cell? ⟨b1, o1 + k * 2, none⟩ = some (.string x.s) ∧ w'.cell? ⟨b2, o2 + k * 2, none⟩ = some (.string x.s) ∧ w'.cell? ⟨b1, o1 + k * 2 + 1, none⟩ = some (.slice atsu x.ts.length ctsu) ∧ w'.cell? ⟨b2, o2 + k * 2 + 1, none⟩ = some (.slice atsv x.ts.length ctsv) ∧ Below wr.heap.size wr w')
        (refine ⟨?_, ?_, ?_, ?_, ?_⟩ <;> (first | assumption | (simp [*]; done) | (apply Below.drew; assumption)))
        (first
          | (go_at_call 78
             refine (HEQ.out _ (by first | assumption | (apply Below.drew; assumption))).mono ?_
             rintro e w3 ⟨rfl, hb3⟩
             have hs1 : Below wr.heap.size wr w3 := hB0.drew.trans hb3
             have z0 : w3.cell? ⟨b1, o1 + k * 2, none⟩ = some (.string x.s) := (hb3.cell hg1).trans x0
             have t0 : w3.cell? ⟨b2, o2 + k * 2, none⟩ = some (.string x.s) := (hb3.cell hg2).trans y0
             have z1 : w3.cell? ⟨b1, o1 + k * 2 + 1, none⟩ = some (.slice atsu x.ts.length ctsu) := (hb3.cell hg1).trans x1
             have t1 : w3.cell? ⟨b2, o2 + k * 2 + 1, none⟩ = some (.slice atsv x.ts.length ctsv) := (hb3.cell hg2).trans y1
             clear hb3))
      go_wp2
      go_roundw
      case rel => exact ⟨k + 1, HB.out.trans (Below.mono (by assumption) HB.out.size), by go_num, by omega⟩
      case measure => simp [intOf]; omega
    · obtain rfl : k = l.length := by omega
      have hlt2 : decide ((l.length : Int) < (l.length : Int)) = false := by simp
      go_wp2
      go_ret
      exact ⟨rfl, hb⟩

def ToRelConS (w : World) (l : List Cn) (v4 : Value) (wr : World) : Prop :=
  ∃ (k : Nat), v4 = .int .i64 (k : Int) ∧ k ≤ l.length ∧ RowTo FCn 2 62 w.heap.size w.heap.size wr l k ∧ Below w.heap.size w wr

set_option maxRecDepth 100000 in
set_option maxHeartbeats 2000000 in
theorem toConS_any (a : Option Addr) (cap : Nat) (l : List Cn) (S : Nat → Prop) (w : World) (hrow : RowIn FCn 2 S w a l) (hS : ∀ b, S b → b < w.heap.size) (hn : wtConS l ≤ 1048576) :
    Calls Try.prog 66 #[.slice a l.length cap] w fun e w' => ∃ g : Nat, e = .returned (.slice (some ⟨g, 0, none⟩) l.length l.length) ∧ RowIn FCn 2 (Seg w.heap.size w'.heap.size) w' (some ⟨g, 0, none⟩) l ∧ Below w.heap.size w w' := by
  have HR := Lib.hid hrow
  have HS := Lib.hid hS
  have HW := Lib.hid hn
  have hln := lenConS l
  have hln2 : l.length ≤ 1048576 := by omega
  clear hrow hS hn hln
  obtain ⟨i0, hi0, hz0, hz1, hz2⟩ := info_parts infoCon
  have hmk : (Instr.makeSlice 57 (.int .i64 (l.length : Int)) (.int .i64 (l.length : Int))).run Try.prog w = .ok (.slice (some ⟨w.heap.size, 0, none⟩) l.length l.length) (w.alloc (.cells (madeCells #[.string ⟨#[]⟩, .slice none 0 0] (l.length * 2)) 62)) := by
    rw [run_make w 57 62 i0 _ Try.underlying57 hi0 hz0 .i64 .i64 _ _ (by omega) (by omega) (by rw [hz2]; omega) (by omega), hz1, Int.toNat_natCast]
    rfl
  have hst : ToRelConS w l (.int .i64 0) (w.alloc (.cells (madeCells #[.string ⟨#[]⟩, .slice none 0 0] (l.length * 2)) 62)) :=
    ⟨0, rfl, Nat.zero_le _, ⟨⟨_, heap_alloc_new w _, size_madeCells _ _⟩, Nat.le_refl _, fun i h hi => by omega⟩, (Below.refl w.heap.size w).alloc (Nat.le_refl _) _⟩
  have HST := Lib.hid hst
  generalize w.alloc (.cells (madeCells #[.string ⟨#[]⟩, .slice none 0 0] (l.length * 2)) 62) = W0 at *
  clear hi0 hz0 hz1 hz2 hst
  go_enter Try.func66, Try.ntmps66
  go_wp2
  clear hmk
  go_loopw [4] (fun v4 wr => ToRelConS w l v4 wr) (fun v4 _ => (l.length - (intOf v4).toNat))
  case atStart => exact HST.out
  case round =>
    obtain ⟨k, rfl, hk, hto, hb⟩ := hrel
    by_cases hlt : k < l.length
    · obtain ⟨b, off, vs, rfl, hbl, hvl, hcc, hFF⟩ := RowIn.kept FCn_keeps HR.out (Same.below HS.out hb) k hlt
      have HC := Lib.hid hFF
      obtain ⟨ats, cts, rfl, hh0⟩ := hFF
      have hx0 : wr.cell? ⟨b, off + k * 2, none⟩ = some (.string l[k].s) := hcc 0 (by simp)
      have hx1 : wr.cell? ⟨b, off + k * 2 + 1, none⟩ = some (.slice ats l[k].ts.length cts) := hcc 1 (by simp)
      have hxw : l[k].wt ≤ 1048576 := by
        have h1 := HW.out
        have h2 := wsum_mem Cn.wt (List.getElem_mem hlt)
        unfold wtConS at h1
        omega
      have HZ := Lib.hid (toCon_any l[k] _ S wr HC.out (fun q hq => Nat.lt_of_lt_of_le (HS.out q hq) hb.size) hxw)
      have HSTEP := Lib.hid (fun (w1 : World) (hb1 : Below wr.heap.size wr w1) (us : List Value) (hu : us.length = 2) (hF : FCn (Seg wr.heap.size w1.heap.size) w1 us l[k]) => hto.step FCn_keeps hlt hb1 hu hF)
      have HROOM := Lib.hid (fun (w1 : World) (hb1 : Below wr.heap.size wr w1) (j : Nat) (hj : j < 2) => hto.room hb1 hlt hj)
      have HB := Lib.hid hb
      clear hb hto hcc hvl hbl HC hxw hh0
      generalize l[k] = x at *
      go_wp2_with fail
      refine HZ.out.mono ?_
      rintro e w1 ⟨us, rfl, hFu, hb1⟩
      have hul : us.length = 2 := by
        obtain ⟨ats, cts, rfl, gg0⟩ := hFu
        rfl
      obtain ⟨hr1, hr2⟩ := HSTEP.out w1 hb1 us hul hFu
      have HRR := Lib.hid ((⟨k + 1, by go_num, by omega, hr1, (HB.out.mono (Nat.le_refl _)).trans hr2⟩ : ToRelConS w l (.int .i64 ((k : Int) + 1)) (setAll w1 w.heap.size (k * 2) us)))
      obtain ⟨⟨u0, hu0⟩, hf0⟩ := HROOM.out w1 hb1 0 (by omega)
      obtain ⟨⟨u1, hu1⟩, hf1⟩ := HROOM.out w1 hb1 1 (by omega)
      clear HZ HSTEP HROOM hr1 hr2 hb1
      obtain ⟨ats, cts, rfl, gg0⟩ := hFu
      clear gg0
      simp only [Nat.add_zero] at hu0 hf0
      go_wp2
      go_roundw
      case rel => exact HRR.out
      case measure => simp [intOf]; omega
    · obtain rfl : k = l.length := by omega
      have HO := Lib.hid (hto.done FCn_keeps)
      clear hto
      go_wp2
      go_ret
      exact ⟨_, rfl, HO.out, hb⟩

structure Td where
  s : ByteArray
  cs : List Cn
def FTd : Flat Td := fun S w vs x => ∃ (acs : Option Addr) (ccs : Nat), vs = [.string x.s, .slice acs x.cs.length ccs] ∧ RowIn FCn 2 S w acs x.cs
theorem FTd_keeps : Keeps FTd := by
  refine ⟨?_, ?_⟩
  · rintro S w w' vs x ⟨acs, ccs, rfl, h0⟩ hs
    exact ⟨_, _, rfl, RowIn.kept FCn_keeps h0 hs⟩
  · rintro S T w vs x ⟨acs, ccs, rfl, h0⟩ hs
    exact ⟨_, _, rfl, RowIn.mono FCn_keeps h0 hs⟩
def Td.wt (x : Td) : Nat := x.s.size + wtConS x.cs
def Td.fits (x : Td) : Prop := x.s.size ≤ 9223372036854775807 ∧ (x.cs.length ≤ 9223372036854775807 ∧ ∀ y ∈ x.cs, y.fits)

set_option maxRecDepth 100000 in
set_option maxHeartbeats 2000000 in
theorem szTypeDecl_any (x : Td) (vs : List Value) (L : Int) (S : Nat → Prop) (w : World) (hF : FTd S w vs x) (hS : ∀ b, S b → b < w.heap.size) (hf : x.fits) (h0 : 0 ≤ L) (h1 : L ≤ 1048576) :
    Calls Try.prog 42 #[.agg vs.toArray, .int .i64 L] w fun e w' => (∃ r : Int, e = .returned (.int .i64 r) ∧ ((r < 0 ∧ L < x.wt) ∨ (r = L - x.wt ∧ (x.wt : Int) ≤ L))) ∧ Below w.heap.size w w' := by
  obtain ⟨acs, ccs, rfl, rr0⟩ := hF
  unfold Td.fits at hf
  unfold Td.wt
  obtain ⟨f0, f1⟩ := hf
  have hb0 := (Below.refl w.heap.size w).alloc (Nat.le_refl _) (Obj.cells #[.string x.s, .slice acs x.cs.length ccs] 103)
  have HB := Lib.hid hb0
  clear hb0
  have KP := Lib.hid (heap_alloc_new w (Obj.cells #[.string x.s, .slice acs x.cs.length ccs] 103))
  have HZ1 := Lib.hid (fun (L' : Int) (W : World) (hW : Below w.heap.size w W) (h0 : 0 ≤ L') (h1 : L' ≤ 1048576) => szConS_any acs ccs x.cs L' S W (RowIn.kept FCn_keeps rr0 (Same.below hS hW)) (fun b hb => Nat.lt_of_lt_of_le (hS b hb) hW.size) f1.1 f1.2 h0 h1)
  clear rr0 hS
  generalize wtConS x.cs = q1 at *
  by_cases hs0 : (x.s.size : Int) ≤ L
  · have hd0 : decide (L - (x.s.size : Int) < 0) = false := decide_eq_false (by omega)
    go_enter Try.func42, Try.ntmps42
    go_wp2_with fail
    refine (HZ1.out (L - (x.s.size : Int)) _ HB.out (by omega) (by omega)).mono ?_
    rintro e w1 ⟨⟨r, rfl, hr⟩, hb1⟩
    replace HB := Lib.hid (below_step HB.out hb1)
    replace KP := Lib.hid ((hb1.block _ (lt_of_block KP.out)).trans KP.out)
    clear hb1 HZ1
    rcases hr with ⟨hr, hl⟩ | ⟨rfl, hl⟩
    · have hd1 : decide (r < 0) = true := decide_eq_true hr
      go_wp2
      go_ret
      exact ⟨⟨-1, rfl, .inl (by omega)⟩, HB.out⟩
    · have hd1 : decide (L - (x.s.size : Int) - (q1 : Int) < 0) = false := decide_eq_false (by omega)
      go_wp2
      go_ret
      exact ⟨⟨_, rfl, .inr (by omega)⟩, HB.out⟩
  · have hd0 : decide (L - (x.s.size : Int) < 0) = true := decide_eq_true (by omega)
    go_enter Try.func42, Try.ntmps42
    go_wp2
    go_ret
    exact ⟨⟨-1, rfl, .inl (by omega)⟩, HB.out⟩

set_option maxRecDepth 100000 in
set_option maxHeartbeats 2000000 in
theorem eqTypeDecl_any (x : Td) (us vs : List Value) (S1 S2 : Nat → Prop) (w : World) (hF1 : FTd S1 w us x) (hF2 : FTd S2 w vs x) (hS1 : ∀ b, S1 b → b < w.heap.size) (hS2 : ∀ b, S2 b → b < w.heap.size) (hn : x.wt ≤ 2000000) :
    Calls Try.prog 51 #[.agg us.toArray, .agg vs.toArray] w fun e w' => e = .returned (.bool true) ∧ Below w.heap.size w w' := by
  obtain ⟨acsu, ccsu, rfl, rr0u⟩ := hF1
  obtain ⟨acsv, ccsv, rfl, rr0v⟩ := hF2
  unfold Td.wt at hn
  have e0 : (x.s.toList != x.s.toList) = false := by simp
  have HZ1 := Lib.hid (fun (W : World) (hW : Below w.heap.size w W) => eqConS_any x.cs acsu acsv ccsu ccsv S1 S2 W (RowIn.kept FCn_keeps rr0u (Same.below hS1 hW)) (RowIn.kept FCn_keeps rr0v (Same.below hS2 hW)) (fun b hb => Nat.lt_of_lt_of_le (hS1 b hb) hW.size) (fun b hb => Nat.lt_of_lt_of_le (hS2 b hb) hW.size) (by omega))
  clear rr0u rr0v hS1 hS2
  have hb0 := ((Below.refl w.heap.size w).alloc (Nat.le_refl _) (Obj.cells #[.string x.s, .slice acsu x.cs.length ccsu] 59)).alloc (by simp) (Obj.cells #[.string x.s, .slice acsv x.cs.length ccsv] 59)
  have HB := Lib.hid hb0
  clear hb0
  have KP := Lib.hid ((heap_alloc_old _ (Obj.cells #[.string x.s, .slice acsv x.cs.length ccsv] 59) (by simp)).trans (heap_alloc_new w (Obj.cells #[.string x.s, .slice acsu x.cs.length ccsu] 59)))
  have KQ := Lib.hid (heap_alloc2_new w (Obj.cells #[.string x.s, .slice acsu x.cs.length ccsu] 59) (Obj.cells #[.string x.s, .slice acsv x.cs.length ccsv] 59))
  go_enter Try.func51, Try.ntmps51
  go_wp2_with fail
  refine (HZ1.out _ HB.out).mono ?_
  rintro e w1 ⟨rfl, hb1⟩
  replace HB := Lib.hid (below_step HB.out hb1)
  replace KP := Lib.hid ((hb1.block _ (lt_of_block KP.out)).trans KP.out)
  replace KQ := Lib.hid ((hb1.block _ (lt_of_block KQ.out)).trans KQ.out)
  clear HZ1 hb1
  go_wp2
  go_ret
  exact ⟨rfl, HB.out⟩

theorem infoTypeDecl : (Try.prog.info? 59).map (fun i => (i.zero, i.size, i.bytes)) = some (some (.agg #[.string ⟨#[]⟩, .slice none 0 0]), 2, 40) := by kernel_rfl
theorem infoSTypeDecl : (Try.prog.info? 59).map (·.size) = some 2 := by kernel_rfl
set_option maxRecDepth 100000 in
set_option maxHeartbeats 2000000 in
theorem toTypeDecl_any (x : Td) (vs : List Value) (S : Nat → Prop) (w : World) (hF : FTd S w vs x) (hS : ∀ b, S b → b < w.heap.size) (hn : x.wt ≤ 1048576) :
    Calls Try.prog 44 #[.agg vs.toArray] w fun e w' => ∃ us : List Value, e = .returned (.agg us.toArray) ∧ FTd (Seg w.heap.size w'.heap.size) w' us x ∧ Below w.heap.size w w' := by
  obtain ⟨acs, ccs, rfl, rr0⟩ := hF
  unfold Td.wt at hn
  have HZ1 := Lib.hid (fun (W : World) (hW : Below w.heap.size w W) => toConS_any acs ccs x.cs S W (RowIn.kept FCn_keeps rr0 (Same.below hS hW)) (fun b hb => Nat.lt_of_lt_of_le (hS b hb) hW.size) (by omega))
  clear rr0 hS
  have hb := alloc3_below w (Obj.cells #[.string x.s, .slice acs x.cs.length ccs] 103) (Obj.cells #[.string ⟨#[]⟩, .slice none 0 0] 59) (Obj.cells #[.string x.s, .slice none 0 0] 59)
  have hs0 := alloc3_size w (Obj.cells #[.string x.s, .slice acs x.cs.length ccs] 103) (Obj.cells #[.string ⟨#[]⟩, .slice none 0 0] 59) (Obj.cells #[.string x.s, .slice none 0 0] 59)
  have k1 := alloc3_1 w (Obj.cells #[.string x.s, .slice acs x.cs.length ccs] 103) (Obj.cells #[.string ⟨#[]⟩, .slice none 0 0] 59) (Obj.cells #[.string x.s, .slice none 0 0] 59)
  have k2 := alloc3_2 w (Obj.cells #[.string x.s, .slice acs x.cs.length ccs] 103) (Obj.cells #[.string ⟨#[]⟩, .slice none 0 0] 59) (Obj.cells #[.string x.s, .slice none 0 0] 59)
  have KP := Lib.hid (alloc3_0 w (Obj.cells #[.string x.s, .slice acs x.cs.length ccs] 103) (Obj.cells #[.string ⟨#[]⟩, .slice none 0 0] 59) (Obj.cells #[.string x.s, .slice none 0 0] 59))
  go_enter Try.func44, Try.ntmps44
  go_wp2_with fail
  refine (HZ1.out _ hb).mono ?_
  rintro e w1 ⟨g1, rfl, hI1, hb1⟩
  replace hI1 := RowIn.mono FCn_keeps hI1 (fun b hb => hb.mono (show w.heap.size + 3 ≤ _ by omega) (Nat.le_refl _))
  replace k1 := (hb1.block _ (by omega)).trans k1
  replace k2 := (hb1.block _ (by omega)).trans k2
  replace KP := Lib.hid ((hb1.block _ (lt_of_block KP.out)).trans KP.out)
  replace hb := below_step hb hb1
  replace hs0 : w.heap.size + 3 ≤ w1.heap.size := by have := hb1.size; omega
  clear HZ1 hb1
  have c10 := (cell_of_row _ (w.heap.size + 1) 0 _ _ _ k1)
  simp only [List.getElem?_toArray, List.getElem?_cons_zero, List.getElem?_cons_succ] at c10
  have c11 := (cell_of_row _ (w.heap.size + 1) 1 _ _ _ k1)
  simp only [List.getElem?_toArray, List.getElem?_cons_zero, List.getElem?_cons_succ] at c11
  have c20 := (cell_of_row _ (w.heap.size + 2) 0 _ _ _ k2)
  simp only [List.getElem?_toArray, List.getElem?_cons_zero, List.getElem?_cons_succ] at c20
  have c21 := (cell_of_row _ (w.heap.size + 2) 1 _ _ _ k2)
  simp only [List.getElem?_toArray, List.getElem?_cons_zero, List.getElem?_cons_succ] at c21
  have f10 := frozen_row k1 0
  have f20 := frozen_row k2 0
  have f11 := frozen_row k1 1
  have f21 := frozen_row k2 1
  try clear p0
  have p0 := cell_of_row _ (w.heap.size) 0 _ _ _ KP.out
  simp only [List.getElem?_toArray, List.getElem?_cons_zero, List.getElem?_cons_succ] at p0
  try clear p1
  have p1 := cell_of_row _ (w.heap.size) 1 _ _ _ KP.out
  simp only [List.getElem?_toArray, List.getElem?_cons_zero, List.getElem?_cons_succ] at p1
  have HhI1 := Lib.hid hI1
  clear hI1
  have HK1 := Lib.hid k1
  have HK2 := Lib.hid k2
  have HB := Lib.hid hb
  clear k1 k2 hb
  go_wp2
  obtain ⟨hres, hbel, hsame, hsz⟩ := laid_out (w := w) (W := w1) (c := 2) 1 [.slice (some ⟨g1, 0, none⟩) x.cs.length x.cs.length] [.string x.s, .slice (some ⟨g1, 0, none⟩) x.cs.length x.cs.length] HK1.out HK2.out HB.out (by simp) (by simp) (by simp)
  refine bodyPost_ret (results_cell_row rfl _ _ (w.heap.size + 1) 59 #[.string x.s, .slice (some ⟨g1, 0, none⟩) x.cs.length x.cs.length] (0, 0) _ (by rfl) hres Try.underlying59 rfl infoSTypeDecl) rfl ?_
  refine ⟨[.string x.s, .slice (some ⟨g1, 0, none⟩) x.cs.length x.cs.length], rfl, ⟨_, _, rfl, ?_⟩, hbel⟩
  · exact RowIn.mono FCn_keeps (RowIn.kept FCn_keeps HhI1.out (hsame _ (fun h => by have := h.1; omega) (fun h => by have := h.1; omega))) (fun b hb => hb.mono (by omega) (Nat.le_of_eq hsz.symm))

def wtTypeDeclS (l : List Td) : Nat := wsum Td.wt l + l.length
theorem lenTypeDeclS (l : List Td) : l.length ≤ wtTypeDeclS l := by unfold wtTypeDeclS; omega
def SzRelTypeDeclS (w : World) (l : List Td) (L : Int) (v1 v5 : Value) (wr : World) : Prop :=
  ∃ k : Nat, Below w.heap.size w wr ∧ v5 = .int .i64 (k : Int) ∧ k ≤ l.length ∧ v1 = .int .i64 (L - (l.length : Int) - (wsum Td.wt (l.take k) : Int)) ∧ ((wsum Td.wt (l.take k) : Int) + l.length ≤ L)

set_option maxRecDepth 100000 in
set_option maxHeartbeats 2000000 in
theorem szTypeDeclS_any (a : Option Addr) (cap : Nat) (l : List Td) (L : Int) (S : Nat → Prop) (w : World) (hrow : RowIn FTd 2 S w a l) (hS : ∀ b, S b → b < w.heap.size) (hn : l.length ≤ 9223372036854775807) (hs : ∀ x ∈ l, x.fits) (h0 : 0 ≤ L) (h1 : L ≤ 1048576) :
    Calls Try.prog 15 #[.slice a l.length cap, .int .i64 L] w fun e w' => (∃ r : Int, e = .returned (.int .i64 r) ∧ ((r < 0 ∧ L < wtTypeDeclS l) ∨ (r = L - wtTypeDeclS l ∧ (wtTypeDeclS l : Int) ≤ L))) ∧ Below w.heap.size w w' := by
  have HR := Lib.hid hrow
  have HS := Lib.hid hs
  have HSS := Lib.hid hS
  clear hrow hs hS
  unfold wtTypeDeclS
  by_cases hb0 : (l.length : Int) ≤ L
  · have hd : decide (L - (l.length : Int) < 0) = false := decide_eq_false (by omega)
    go_enter Try.func15, Try.ntmps15
    go_wp2
    go_loopw [1, 5] (fun v1 v5 wr => SzRelTypeDeclS w l L v1 v5 wr) (fun _ v5 _ => (l.length - (intOf v5).toNat))
    case atStart => exact ⟨0, Below.refl _ _, rfl, Nat.zero_le _, by rw [List.take_zero, wsum]; congr 1; omega, by rw [List.take_zero, wsum]; omega⟩
    case round =>
      obtain ⟨k, hb, rfl, hk, rfl, htk⟩ := hrel
      by_cases hlt : k < l.length
      · obtain ⟨b, off, vs, rfl, hbl, hvl, hcc, hFF⟩ := RowIn.kept FTd_keeps HR.out (Same.below HSS.out hb) k hlt
        have HC := Lib.hid hFF
        obtain ⟨acs, ccs, rfl, hh0⟩ := hFF
        have hx0 : wr.cell? ⟨b, off + k * 2, none⟩ = some (.string l[k].s) := hcc 0 (by simp)
        have hx1 : wr.cell? ⟨b, off + k * 2 + 1, none⟩ = some (.slice acs l[k].cs.length ccs) := hcc 1 (by simp)
        have hxs := HS.out l[k] (List.getElem_mem hlt)
        have ht := wsum_take Td.wt hlt
        have htot := wsum_take_le Td.wt l (k + 1)
        have HZZ := Lib.hid (szTypeDecl_any l[k] _ (L - (l.length : Int) - (wsum Td.wt (l.take k) : Int)) S wr HC.out (fun q hq => Nat.lt_of_lt_of_le (HSS.out q hq) hb.size) hxs (by omega) (by omega))
        have Z : ∀ w1, Below wr.heap.size wr w1 → (wsum Td.wt (l.take k) : Int) + l[k].wt + l.length ≤ L → SzRelTypeDeclS w l L (.int .i64 (L - (l.length : Int) - (wsum Td.wt (l.take k) : Int) - (l[k].wt : Int))) (.int .i64 ((k : Int) + 1)) w1 := fun w1 hw1 hh =>
          ⟨k + 1, below_step hb hw1, by go_num, by omega, by rw [ht]; congr 1; omega, by rw [ht]; omega⟩
        have HZ := Lib.hid Z
        clear Z hxs HC hh0 hcc hvl hbl
        rw [ht] at htot
        clear ht
        generalize l[k] = x at *
        generalize wsum Td.wt (l.take k) = y at *
        go_wp2_with fail
        refine HZZ.out.mono ?_
        rintro e w1 ⟨⟨r, rfl, hr⟩, hb1⟩
        rcases hr with ⟨hr, hl⟩ | ⟨rfl, hl⟩
        · have hd2 : decide (r < 0) = true := decide_eq_true hr
          have HB := Lib.hid (below_step hb hb1)
          clear HZ HZZ hb1
          go_wp2
          go_ret
          exact ⟨⟨-1, rfl, .inl (by omega)⟩, HB.out⟩
        · have HRR := Lib.hid (HZ.out w1 hb1 (by omega))
          have hd2 : decide (L - (l.length : Int) - (y : Int) - (x.wt : Int) < 0) = false := decide_eq_false (by omega)
          clear HZ HZZ hb1
          generalize x.wt = z at *
          go_wp2
          go_roundw
          case rel => exact HRR.out
          case measure => simp [intOf]; omega
      · obtain rfl : k = l.length := by omega
        rw [List.take_length] at htk ⊢
        generalize hy : wsum Td.wt l = y at htk ⊢
        go_wp2
        go_ret
        exact ⟨⟨_, rfl, .inr (by omega)⟩, hb⟩
  · have hd : decide (L - (l.length : Int) < 0) = true := decide_eq_true (by omega)
    go_enter Try.func15, Try.ntmps15
    go_wp2
    go_ret
    exact ⟨⟨-1, rfl, .inl (by omega)⟩, Below.refl _ _⟩

def EqRelTypeDeclS (w : World) (n : Nat) (v : Value) (wr : World) : Prop := ∃ k : Nat, Below w.heap.size w wr ∧ v = .int .i64 (k : Int) ∧ k ≤ n

set_option maxRecDepth 100000 in
set_option maxHeartbeats 2000000 in
theorem eqTypeDeclS_any (l : List Td) (a1 a2 : Option Addr) (c1 c2 : Nat) (S1 S2 : Nat → Prop) (w : World) (hu : RowIn FTd 2 S1 w a1 l) (hv : RowIn FTd 2 S2 w a2 l) (hS1 : ∀ b, S1 b → b < w.heap.size) (hS2 : ∀ b, S2 b → b < w.heap.size) (hn : wtTypeDeclS l ≤ 2000000) :
    Calls Try.prog 27 #[.slice a1 l.length c1, .slice a2 l.length c2] w fun e w' => e = .returned (.bool true) ∧ Below w.heap.size w w' := by
  have HU := Lib.hid hu
  have HV := Lib.hid hv
  have HS1 := Lib.hid hS1
  have HS2 := Lib.hid hS2
  have hln := lenTypeDeclS l
  have HW := Lib.hid hn
  have hln2 : l.length ≤ 2000000 := by omega
  clear hu hv hS1 hS2 hln hn
  have hne : ((l.length : Int) != (l.length : Int)) = false := by simp
  go_enter Try.func27, Try.ntmps27
  go_wp2
  go_loopw [5] (fun v wr => EqRelTypeDeclS w l.length v wr) (fun v _ => (l.length - (intOf v).toNat))
  case atStart => exact ⟨0, Below.refl _ _, rfl, Nat.zero_le _⟩
  case round =>
    obtain ⟨k, hb, rfl, hk⟩ := hrel
    by_cases hlt : k < l.length
    · obtain ⟨b1, o1, us, rfl, hl1, hul, hcu, hFu⟩ := RowIn.kept FTd_keeps HU.out (Same.below HS1.out hb) k hlt
      obtain ⟨b2, o2, vs, rfl, hl2, hvl, hcv, hFv⟩ := RowIn.kept FTd_keeps HV.out (Same.below HS2.out hb) k hlt
      have hxw : l[k].wt ≤ 2000000 := by
        have h1 := HW.out
        have h2 := wsum_mem Td.wt (List.getElem_mem hlt)
        unfold wtTypeDeclS at h1
        omega
      have hg1 : b1 < wr.heap.size := Nat.lt_of_lt_of_le (HS1.out _ hl1) hb.size
      have hg2 : b2 < wr.heap.size := Nat.lt_of_lt_of_le (HS2.out _ hl2) hb.size
      have HEQ := Lib.hid (fun (W : World) (hW : Below wr.heap.size wr W) => eqTypeDecl_any l[k] us vs S1 S2 W (FTd_keeps.1 _ _ _ _ _ hFu (Same.below (fun q hq => Nat.lt_of_lt_of_le (HS1.out q hq) hb.size) hW)) (FTd_keeps.1 _ _ _ _ _ hFv (Same.below (fun q hq => Nat.lt_of_lt_of_le (HS2.out q hq) hb.size) hW)) (fun q hq => Nat.lt_of_lt_of_le (Nat.lt_of_lt_of_le (HS1.out q hq) hb.size) hW.size) (fun q hq => Nat.lt_of_lt_of_le (Nat.lt_of_lt_of_le (HS2.out q hq) hb.size) hW.size) hxw)
      obtain ⟨acsu, ccsu, rfl, hh0u⟩ := hFu
      obtain ⟨acsv, ccsv, rfl, hh0v⟩ := hFv
      have x0 : wr.cell? ⟨b1, o1 + k * 2, none⟩ = some (.string l[k].s) := hcu 0 (by simp)
      have y0 : wr.cell? ⟨b2, o2 + k * 2, none⟩ = some (.string l[k].s) := hcv 0 (by simp)
      have x1 : wr.cell? ⟨b1, o1 + k * 2 + 1, none⟩ = some (.slice acsu l[k].cs.length ccsu) := hcu 1 (by simp)
      have y1 : wr.cell? ⟨b2, o2 + k * 2 + 1, none⟩ = some (.slice acsv l[k].cs.length ccsv) := hcv 1 (by simp)
      have HB := Lib.hid hb
      have hB0 : Below wr.heap.size wr wr := Below.refl _ _
      clear hb hxw hcu hcv hul hvl hh0u hh0v HU HV hl1 hl2
      generalize l[k] = x at *
      go_wp2
      go_region_held3 (fun w' => w'.cell? ⟨b1, o1 + k * 2, none⟩ = some (.string x.s) ∧ w'.cell? ⟨b2, o2 + k * 2, none⟩ = some (.string x.s) ∧ w'.cell? ⟨b1, o1 + k * 2 + 1, none⟩ = some (.slice acsu x.cs.length ccsu) ∧ w'.cell? ⟨b2, o2 + k * 2 + 1, none⟩ = some (.slice acsv x.cs.length ccsv) ∧ Below wr.heap.size wr w')
        (refine ⟨?_, ?_, ?_, ?_, ?_⟩ <;> (first | assumption | (simp [*]; done) | (apply Below.drew; assumption)))
        (first
          | (go_at_call 51
             refine (HEQ.out _ (by first | assumption | (apply Below.drew; assumption))).mono ?_
             rintro e w3 ⟨rfl, hb3⟩
             have hs1 : Below wr.heap.size wr w3 := hB0.drew.trans hb3
             have z0 : w3.cell? ⟨b1, o1 + k * 2, none⟩ = some (.string x.s) := (hb3.cell hg1).trans x0
             have t0 : w3.cell? ⟨b2, o2 + k * 2, none⟩ = some (.string x.s) := (hb3.cell hg2).trans y0
             have z1 : w3.cell? ⟨b1, o1 + k * 2 + 1, none⟩ = some (.slice acsu x.cs.length ccsu) := (hb3.cell hg1).trans x1
             have t1 : w3.cell? ⟨b2, o2 + k * 2 + 1, none⟩ = some (.slice acsv x.cs.length ccsv) := (hb3.cell hg2).trans y1
             clear hb3))
      go_wp2
      go_roundw
      case rel => exact ⟨k + 1, HB.out.trans (Below.mono (by assumption) HB.out.size), by go_num, by omega⟩
      case measure => simp [intOf]; omega
    · obtain rfl : k = l.length := by omega
      have hlt2 : decide ((l.length : Int) < (l.length : Int)) = false := by simp
      go_wp2
      go_ret
      exact ⟨rfl, hb⟩

def ToRelTypeDeclS (w : World) (l : List Td) (v4 : Value) (wr : World) : Prop :=
  ∃ (k : Nat), v4 = .int .i64 (k : Int) ∧ k ≤ l.length ∧ RowTo FTd 2 59 w.heap.size w.heap.size wr l k ∧ Below w.heap.size w wr

set_option maxRecDepth 100000 in
set_option maxHeartbeats 2000000 in
theorem toTypeDeclS_any (a : Option Addr) (cap : Nat) (l : List Td) (S : Nat → Prop) (w : World) (hrow : RowIn FTd 2 S w a l) (hS : ∀ b, S b → b < w.heap.size) (hn : wtTypeDeclS l ≤ 1048576) :
    Calls Try.prog 20 #[.slice a l.length cap] w fun e w' => ∃ g : Nat, e = .returned (.slice (some ⟨g, 0, none⟩) l.length l.length) ∧ RowIn FTd 2 (Seg w.heap.size w'.heap.size) w' (some ⟨g, 0, none⟩) l ∧ Below w.heap.size w w' := by
  have HR := Lib.hid hrow
  have HS := Lib.hid hS
  have HW := Lib.hid hn
  have hln := lenTypeDeclS l
  have hln2 : l.length ≤ 1048576 := by omega
  clear hrow hS hn hln
  obtain ⟨i0, hi0, hz0, hz1, hz2⟩ := info_parts infoTypeDecl
  have hmk : (Instr.makeSlice 29 (.int .i64 (l.length : Int)) (.int .i64 (l.length : Int))).run Try.prog w = .ok (.slice (some ⟨w.heap.size, 0, none⟩) l.length l.length) (w.alloc (.cells (madeCells #[.string ⟨#[]⟩, .slice none 0 0] (l.length * 2)) 59)) := by
    rw [run_make w 29 59 i0 _ Try.underlying29 hi0 hz0 .i64 .i64 _ _ (by omega) (by omega) (by rw [hz2]; omega) (by omega), hz1, Int.toNat_natCast]
    rfl
  have hst : ToRelTypeDeclS w l (.int .i64 0) (w.alloc (.cells (madeCells #[.string ⟨#[]⟩, .slice none 0 0] (l.length * 2)) 59)) :=
    ⟨0, rfl, Nat.zero_le _, ⟨⟨_, heap_alloc_new w _, size_madeCells _ _⟩, Nat.le_refl _, fun i h hi => by omega⟩, (Below.refl w.heap.size w).alloc (Nat.le_refl _) _⟩
  have HST := Lib.hid hst
  generalize w.alloc (.cells (madeCells #[.string ⟨#[]⟩, .slice none 0 0] (l.length * 2)) 59) = W0 at *
  clear hi0 hz0 hz1 hz2 hst
  go_enter Try.func20, Try.ntmps20
  go_wp2
  clear hmk
  go_loopw [4] (fun v4 wr => ToRelTypeDeclS w l v4 wr) (fun v4 _ => (l.length - (intOf v4).toNat))
  case atStart => exact HST.out
  case round =>
    obtain ⟨k, rfl, hk, hto, hb⟩ := hrel
    by_cases hlt : k < l.length
    · obtain ⟨b, off, vs, rfl, hbl, hvl, hcc, hFF⟩ := RowIn.kept FTd_keeps HR.out (Same.below HS.out hb) k hlt
      have HC := Lib.hid hFF
      obtain ⟨acs, ccs, rfl, hh0⟩ := hFF
      have hx0 : wr.cell? ⟨b, off + k * 2, none⟩ = some (.string l[k].s) := hcc 0 (by simp)
      have hx1 : wr.cell? ⟨b, off + k * 2 + 1, none⟩ = some (.slice acs l[k].cs.length ccs) := hcc 1 (by simp)
      have hxw : l[k].wt ≤ 1048576 := by
        have h1 := HW.out
        have h2 := wsum_mem Td.wt (List.getElem_mem hlt)
        unfold wtTypeDeclS at h1
        omega
      have HZ := Lib.hid (toTypeDecl_any l[k] _ S wr HC.out (fun q hq => Nat.lt_of_lt_of_le (HS.out q hq) hb.size) hxw)
      have HSTEP := Lib.hid (fun (w1 : World) (hb1 : Below wr.heap.size wr w1) (us : List Value) (hu : us.length = 2) (hF : FTd (Seg wr.heap.size w1.heap.size) w1 us l[k]) => hto.step FTd_keeps hlt hb1 hu hF)
      have HROOM := Lib.hid (fun (w1 : World) (hb1 : Below wr.heap.size wr w1) (j : Nat) (hj : j < 2) => hto.room hb1 hlt hj)
      have HB := Lib.hid hb
      clear hb hto hcc hvl hbl HC hxw hh0
      generalize l[k] = x at *
      go_wp2_with fail
      refine HZ.out.mono ?_
      rintro e w1 ⟨us, rfl, hFu, hb1⟩
      have hul : us.length = 2 := by
        obtain ⟨acs, ccs, rfl, gg0⟩ := hFu
        rfl
      obtain ⟨hr1, hr2⟩ := HSTEP.out w1 hb1 us hul hFu
      have HRR := Lib.hid ((⟨k + 1, by go_num, by omega, hr1, (HB.out.mono (Nat.le_refl _)).trans hr2⟩ : ToRelTypeDeclS w l (.int .i64 ((k : Int) + 1)) (setAll w1 w.heap.size (k * 2) us)))
      obtain ⟨⟨u0, hu0⟩, hf0⟩ := HROOM.out w1 hb1 0 (by omega)
      obtain ⟨⟨u1, hu1⟩, hf1⟩ := HROOM.out w1 hb1 1 (by omega)
      clear HZ HSTEP HROOM hr1 hr2 hb1
      obtain ⟨acs, ccs, rfl, gg0⟩ := hFu
      clear gg0
      simp only [Nat.add_zero] at hu0 hf0
      go_wp2
      go_roundw
      case rel => exact HRR.out
      case measure => simp [intOf]; omega
    · obtain rfl : k = l.length := by omega
      have HO := Lib.hid (hto.done FTd_keeps)
      clear hto
      go_wp2
      go_ret
      exact ⟨_, rfl, HO.out, hb⟩

structure Rd where
  s : ByteArray
  ts : List ByteArray
  m : Int
def FRd : Flat Rd := fun S w vs x => ∃ (ats : Option Addr) (cts : Nat), vs = [.string x.s, .slice ats x.ts.length cts, .int .i64 x.m] ∧ TxtsIn S w ats x.ts
theorem FRd_keeps : Keeps FRd := by
  refine ⟨?_, ?_⟩
  · rintro S w w' vs x ⟨ats, cts, rfl, h0⟩ hs
    exact ⟨_, _, rfl, h0.kept hs⟩
  · rintro S T w vs x ⟨ats, cts, rfl, h0⟩ hs
    exact ⟨_, _, rfl, h0.mono hs⟩
def Rd.wt (x : Rd) : Nat := x.s.size + wtStringS x.ts
def Rd.fits (x : Rd) : Prop := x.s.size ≤ 9223372036854775807 ∧ (x.ts.length ≤ 9223372036854775807 ∧ ∀ y ∈ x.ts, y.size ≤ 9223372036854775807)

set_option maxRecDepth 100000 in
set_option maxHeartbeats 2000000 in
theorem szRelDecl_any (x : Rd) (vs : List Value) (L : Int) (S : Nat → Prop) (w : World) (hF : FRd S w vs x) (hS : ∀ b, S b → b < w.heap.size) (hf : x.fits) (h0 : 0 ≤ L) (h1 : L ≤ 1048576) :
    Calls Try.prog 43 #[.agg vs.toArray, .int .i64 L] w fun e w' => (∃ r : Int, e = .returned (.int .i64 r) ∧ ((r < 0 ∧ L < x.wt) ∨ (r = L - x.wt ∧ (x.wt : Int) ≤ L))) ∧ Below w.heap.size w w' := by
  obtain ⟨ats, cts, rfl, rr0⟩ := hF
  unfold Rd.fits at hf
  unfold Rd.wt
  obtain ⟨f0, f1⟩ := hf
  have hb0 := (Below.refl w.heap.size w).alloc (Nat.le_refl _) (Obj.cells #[.string x.s, .slice ats x.ts.length cts, .int .i64 x.m] 105)
  have HB := Lib.hid hb0
  clear hb0
  have KP := Lib.hid (heap_alloc_new w (Obj.cells #[.string x.s, .slice ats x.ts.length cts, .int .i64 x.m] 105))
  have HZ1 := Lib.hid (fun (L' : Int) (W : World) (hW : Below w.heap.size w W) (h0 : 0 ≤ L') (h1 : L' ≤ 1048576) => szStringS_any ats cts x.ts L' S W (rr0.kept (Same.below hS hW)) (fun b hb => Nat.lt_of_lt_of_le (hS b hb) hW.size) f1.1 f1.2 h0 h1)
  clear rr0 hS
  generalize wtStringS x.ts = q1 at *
  by_cases hs0 : (x.s.size : Int) ≤ L
  · have hd0 : decide (L - (x.s.size : Int) < 0) = false := decide_eq_false (by omega)
    go_enter Try.func43, Try.ntmps43
    go_wp2_with fail
    refine (HZ1.out (L - (x.s.size : Int)) _ HB.out (by omega) (by omega)).mono ?_
    rintro e w1 ⟨⟨r, rfl, hr⟩, hb1⟩
    replace HB := Lib.hid (below_step HB.out hb1)
    replace KP := Lib.hid ((hb1.block _ (lt_of_block KP.out)).trans KP.out)
    clear hb1 HZ1
    rcases hr with ⟨hr, hl⟩ | ⟨rfl, hl⟩
    · have hd1 : decide (r < 0) = true := decide_eq_true hr
      go_wp2
      go_ret
      exact ⟨⟨-1, rfl, .inl (by omega)⟩, HB.out⟩
    · have hd1 : decide (L - (x.s.size : Int) - (q1 : Int) < 0) = false := decide_eq_false (by omega)
      go_wp2
      go_ret
      exact ⟨⟨_, rfl, .inr (by omega)⟩, HB.out⟩
  · have hd0 : decide (L - (x.s.size : Int) < 0) = true := decide_eq_true (by omega)
    go_enter Try.func43, Try.ntmps43
    go_wp2
    go_ret
    exact ⟨⟨-1, rfl, .inl (by omega)⟩, HB.out⟩

set_option maxRecDepth 100000 in
set_option maxHeartbeats 2000000 in
theorem eqRelDecl_any (x : Rd) (us vs : List Value) (S1 S2 : Nat → Prop) (w : World) (hF1 : FRd S1 w us x) (hF2 : FRd S2 w vs x) (hS1 : ∀ b, S1 b → b < w.heap.size) (hS2 : ∀ b, S2 b → b < w.heap.size) (hn : x.wt ≤ 2000000) :
    Calls Try.prog 52 #[.agg us.toArray, .agg vs.toArray] w fun e w' => e = .returned (.bool true) ∧ Below w.heap.size w w' := by
  obtain ⟨atsu, ctsu, rfl, rr0u⟩ := hF1
  obtain ⟨atsv, ctsv, rfl, rr0v⟩ := hF2
  unfold Rd.wt at hn
  have e0 : (x.s.toList != x.s.toList) = false := by simp
  have HZ1 := Lib.hid (fun (W : World) (hW : Below w.heap.size w W) => eqStringS_any x.ts atsu atsv ctsu ctsv S1 S2 W (rr0u.kept (Same.below hS1 hW)) (rr0v.kept (Same.below hS2 hW)) (fun b hb => Nat.lt_of_lt_of_le (hS1 b hb) hW.size) (fun b hb => Nat.lt_of_lt_of_le (hS2 b hb) hW.size) (by have := lenStringS x.ts; omega))
  have e2 : (x.m != x.m) = false := by simp
  clear rr0u rr0v hS1 hS2
  have hb0 := ((Below.refl w.heap.size w).alloc (Nat.le_refl _) (Obj.cells #[.string x.s, .slice atsu x.ts.length ctsu, .int .i64 x.m] 66)).alloc (by simp) (Obj.cells #[.string x.s, .slice atsv x.ts.length ctsv, .int .i64 x.m] 66)
  have HB := Lib.hid hb0
  clear hb0
  have KP := Lib.hid ((heap_alloc_old _ (Obj.cells #[.string x.s, .slice atsv x.ts.length ctsv, .int .i64 x.m] 66) (by simp)).trans (heap_alloc_new w (Obj.cells #[.string x.s, .slice atsu x.ts.length ctsu, .int .i64 x.m] 66)))
  have KQ := Lib.hid (heap_alloc2_new w (Obj.cells #[.string x.s, .slice atsu x.ts.length ctsu, .int .i64 x.m] 66) (Obj.cells #[.string x.s, .slice atsv x.ts.length ctsv, .int .i64 x.m] 66))
  go_enter Try.func52, Try.ntmps52
  go_wp2_with fail
  refine (HZ1.out _ HB.out).mono ?_
  rintro e w1 ⟨rfl, hb1⟩
  replace HB := Lib.hid (below_step HB.out hb1)
  replace KP := Lib.hid ((hb1.block _ (lt_of_block KP.out)).trans KP.out)
  replace KQ := Lib.hid ((hb1.block _ (lt_of_block KQ.out)).trans KQ.out)
  clear HZ1 hb1
  try clear p0
  have p0 := cell_of_row _ (w.heap.size) 0 _ _ _ KP.out
  simp only [List.getElem?_toArray, List.getElem?_cons_zero, List.getElem?_cons_succ] at p0
  try clear p1
  have p1 := cell_of_row _ (w.heap.size) 1 _ _ _ KP.out
  simp only [List.getElem?_toArray, List.getElem?_cons_zero, List.getElem?_cons_succ] at p1
  try clear p2
  have p2 := cell_of_row _ (w.heap.size) 2 _ _ _ KP.out
  simp only [List.getElem?_toArray, List.getElem?_cons_zero, List.getElem?_cons_succ] at p2
  try clear q0
  have q0 := cell_of_row _ (w.heap.size + 1) 0 _ _ _ KQ.out
  simp only [List.getElem?_toArray, List.getElem?_cons_zero, List.getElem?_cons_succ] at q0
  try clear q1
  have q1 := cell_of_row _ (w.heap.size + 1) 1 _ _ _ KQ.out
  simp only [List.getElem?_toArray, List.getElem?_cons_zero, List.getElem?_cons_succ] at q1
  try clear q2
  have q2 := cell_of_row _ (w.heap.size + 1) 2 _ _ _ KQ.out
  simp only [List.getElem?_toArray, List.getElem?_cons_zero, List.getElem?_cons_succ] at q2
  go_wp2
  go_ret
  exact ⟨rfl, HB.out⟩

theorem infoRelDecl : (Try.prog.info? 66).map (fun i => (i.zero, i.size, i.bytes)) = some (some (.agg #[.string ⟨#[]⟩, .slice none 0 0, .int .i64 0]), 3, 48) := by kernel_rfl
theorem infoSRelDecl : (Try.prog.info? 66).map (·.size) = some 3 := by kernel_rfl
set_option maxRecDepth 100000 in
set_option maxHeartbeats 2000000 in
theorem toRelDecl_any (x : Rd) (vs : List Value) (S : Nat → Prop) (w : World) (hF : FRd S w vs x) (hS : ∀ b, S b → b < w.heap.size) (hn : x.wt ≤ 1048576) :
    Calls Try.prog 45 #[.agg vs.toArray] w fun e w' => ∃ us : List Value, e = .returned (.agg us.toArray) ∧ FRd (Seg w.heap.size w'.heap.size) w' us x ∧ Below w.heap.size w w' := by
  obtain ⟨ats, cts, rfl, rr0⟩ := hF
  unfold Rd.wt at hn
  have HZ1 := Lib.hid (fun (W : World) (hW : Below w.heap.size w W) => toStringS_any ats cts x.ts S W (rr0.kept (Same.below hS hW)) (fun b hb => Nat.lt_of_lt_of_le (hS b hb) hW.size) (by have := lenStringS x.ts; omega))
  clear rr0 hS
  have hb := alloc3_below w (Obj.cells #[.string x.s, .slice ats x.ts.length cts, .int .i64 x.m] 105) (Obj.cells #[.string ⟨#[]⟩, .slice none 0 0, .int .i64 0] 66) (Obj.cells #[.string x.s, .slice none 0 0, .int .i64 0] 66)
  have hs0 := alloc3_size w (Obj.cells #[.string x.s, .slice ats x.ts.length cts, .int .i64 x.m] 105) (Obj.cells #[.string ⟨#[]⟩, .slice none 0 0, .int .i64 0] 66) (Obj.cells #[.string x.s, .slice none 0 0, .int .i64 0] 66)
  have k1 := alloc3_1 w (Obj.cells #[.string x.s, .slice ats x.ts.length cts, .int .i64 x.m] 105) (Obj.cells #[.string ⟨#[]⟩, .slice none 0 0, .int .i64 0] 66) (Obj.cells #[.string x.s, .slice none 0 0, .int .i64 0] 66)
  have k2 := alloc3_2 w (Obj.cells #[.string x.s, .slice ats x.ts.length cts, .int .i64 x.m] 105) (Obj.cells #[.string ⟨#[]⟩, .slice none 0 0, .int .i64 0] 66) (Obj.cells #[.string x.s, .slice none 0 0, .int .i64 0] 66)
  have KP := Lib.hid (alloc3_0 w (Obj.cells #[.string x.s, .slice ats x.ts.length cts, .int .i64 x.m] 105) (Obj.cells #[.string ⟨#[]⟩, .slice none 0 0, .int .i64 0] 66) (Obj.cells #[.string x.s, .slice none 0 0, .int .i64 0] 66))
  go_enter Try.func45, Try.ntmps45
  go_wp2_with fail
  refine (HZ1.out _ hb).mono ?_
  rintro e w1 ⟨g1, rfl, hI1, hb1⟩
  replace hI1 := hI1.mono (fun b hb => hb.mono (show w.heap.size + 3 ≤ _ by omega) (Nat.le_refl _))
  replace k1 := (hb1.block _ (by omega)).trans k1
  replace k2 := (hb1.block _ (by omega)).trans k2
  replace KP := Lib.hid ((hb1.block _ (lt_of_block KP.out)).trans KP.out)
  replace hb := below_step hb hb1
  replace hs0 : w.heap.size + 3 ≤ w1.heap.size := by have := hb1.size; omega
  clear HZ1 hb1
  have c10 := (cell_of_row _ (w.heap.size + 1) 0 _ _ _ k1)
  simp only [List.getElem?_toArray, List.getElem?_cons_zero, List.getElem?_cons_succ] at c10
  have c11 := (cell_of_row _ (w.heap.size + 1) 1 _ _ _ k1)
  simp only [List.getElem?_toArray, List.getElem?_cons_zero, List.getElem?_cons_succ] at c11
  have c12 := (cell_of_row _ (w.heap.size + 1) 2 _ _ _ k1)
  simp only [List.getElem?_toArray, List.getElem?_cons_zero, List.getElem?_cons_succ] at c12
  have c20 := (cell_of_row _ (w.heap.size + 2) 0 _ _ _ k2)
  simp only [List.getElem?_toArray, List.getElem?_cons_zero, List.getElem?_cons_succ] at c20
  have c21 := (cell_of_row _ (w.heap.size + 2) 1 _ _ _ k2)
  simp only [List.getElem?_toArray, List.getElem?_cons_zero, List.getElem?_cons_succ] at c21
  have c22 := (cell_of_row _ (w.heap.size + 2) 2 _ _ _ k2)
  simp only [List.getElem?_toArray, List.getElem?_cons_zero, List.getElem?_cons_succ] at c22
  have f10 := frozen_row k1 0
  have f20 := frozen_row k2 0
  have f11 := frozen_row k1 1
  have f21 := frozen_row k2 1
  have f12 := frozen_row k1 2
  have f22 := frozen_row k2 2
  try clear p0
  have p0 := cell_of_row _ (w.heap.size) 0 _ _ _ KP.out
  simp only [List.getElem?_toArray, List.getElem?_cons_zero, List.getElem?_cons_succ] at p0
  try clear p1
  have p1 := cell_of_row _ (w.heap.size) 1 _ _ _ KP.out
  simp only [List.getElem?_toArray, List.getElem?_cons_zero, List.getElem?_cons_succ] at p1
  try clear p2
  have p2 := cell_of_row _ (w.heap.size) 2 _ _ _ KP.out
  simp only [List.getElem?_toArray, List.getElem?_cons_zero, List.getElem?_cons_succ] at p2
  have HhI1 := Lib.hid hI1
  clear hI1
  have HK1 := Lib.hid k1
  have HK2 := Lib.hid k2
  have HB := Lib.hid hb
  clear k1 k2 hb
  go_wp2
  obtain ⟨hres, hbel, hsame, hsz⟩ := laid_out (w := w) (W := w1) (c := 3) 1 [.slice (some ⟨g1, 0, none⟩) x.ts.length x.ts.length, .int .i64 x.m] [.string x.s, .slice (some ⟨g1, 0, none⟩) x.ts.length x.ts.length, .int .i64 x.m] HK1.out HK2.out HB.out (by simp) (by simp) (by simp)
  refine bodyPost_ret (results_cell_row rfl _ _ (w.heap.size + 1) 66 #[.string x.s, .slice (some ⟨g1, 0, none⟩) x.ts.length x.ts.length, .int .i64 x.m] (0, 0) _ (by rfl) hres Try.underlying66 rfl infoSRelDecl) rfl ?_
  refine ⟨[.string x.s, .slice (some ⟨g1, 0, none⟩) x.ts.length x.ts.length, .int .i64 x.m], rfl, ⟨_, _, rfl, ?_⟩, hbel⟩
  · exact (HhI1.out.kept (hsame _ (fun h => by have := h.1; omega) (fun h => by have := h.1; omega))).mono (fun b hb => hb.mono (by omega) (Nat.le_of_eq hsz.symm))

def wtRelDeclS (l : List Rd) : Nat := wsum Rd.wt l + l.length
theorem lenRelDeclS (l : List Rd) : l.length ≤ wtRelDeclS l := by unfold wtRelDeclS; omega
def SzRelRelDeclS (w : World) (l : List Rd) (L : Int) (v1 v5 : Value) (wr : World) : Prop :=
  ∃ k : Nat, Below w.heap.size w wr ∧ v5 = .int .i64 (k : Int) ∧ k ≤ l.length ∧ v1 = .int .i64 (L - (l.length : Int) - (wsum Rd.wt (l.take k) : Int)) ∧ ((wsum Rd.wt (l.take k) : Int) + l.length ≤ L)

set_option maxRecDepth 100000 in
set_option maxHeartbeats 2000000 in
theorem szRelDeclS_any (a : Option Addr) (cap : Nat) (l : List Rd) (L : Int) (S : Nat → Prop) (w : World) (hrow : RowIn FRd 3 S w a l) (hS : ∀ b, S b → b < w.heap.size) (hn : l.length ≤ 9223372036854775807) (hs : ∀ x ∈ l, x.fits) (h0 : 0 ≤ L) (h1 : L ≤ 1048576) :
    Calls Try.prog 16 #[.slice a l.length cap, .int .i64 L] w fun e w' => (∃ r : Int, e = .returned (.int .i64 r) ∧ ((r < 0 ∧ L < wtRelDeclS l) ∨ (r = L - wtRelDeclS l ∧ (wtRelDeclS l : Int) ≤ L))) ∧ Below w.heap.size w w' := by
  have HR := Lib.hid hrow
  have HS := Lib.hid hs
  have HSS := Lib.hid hS
  clear hrow hs hS
  unfold wtRelDeclS
  by_cases hb0 : (l.length : Int) ≤ L
  · have hd : decide (L - (l.length : Int) < 0) = false := decide_eq_false (by omega)
    go_enter Try.func16, Try.ntmps16
    go_wp2
    go_loopw [1, 5] (fun v1 v5 wr => SzRelRelDeclS w l L v1 v5 wr) (fun _ v5 _ => (l.length - (intOf v5).toNat))
    case atStart => exact ⟨0, Below.refl _ _, rfl, Nat.zero_le _, by rw [List.take_zero, wsum]; congr 1; omega, by rw [List.take_zero, wsum]; omega⟩
    case round =>
      obtain ⟨k, hb, rfl, hk, rfl, htk⟩ := hrel
      by_cases hlt : k < l.length
      · obtain ⟨b, off, vs, rfl, hbl, hvl, hcc, hFF⟩ := RowIn.kept FRd_keeps HR.out (Same.below HSS.out hb) k hlt
        have HC := Lib.hid hFF
        obtain ⟨ats, cts, rfl, hh0⟩ := hFF
        have hx0 : wr.cell? ⟨b, off + k * 3, none⟩ = some (.string l[k].s) := hcc 0 (by simp)
        have hx1 : wr.cell? ⟨b, off + k * 3 + 1, none⟩ = some (.slice ats l[k].ts.length cts) := hcc 1 (by simp)
        have hx2 : wr.cell? ⟨b, off + k * 3 + 2, none⟩ = some (.int .i64 l[k].m) := hcc 2 (by simp)
        have hxs := HS.out l[k] (List.getElem_mem hlt)
        have ht := wsum_take Rd.wt hlt
        have htot := wsum_take_le Rd.wt l (k + 1)
        have HZZ := Lib.hid (szRelDecl_any l[k] _ (L - (l.length : Int) - (wsum Rd.wt (l.take k) : Int)) S wr HC.out (fun q hq => Nat.lt_of_lt_of_le (HSS.out q hq) hb.size) hxs (by omega) (by omega))
        have Z : ∀ w1, Below wr.heap.size wr w1 → (wsum Rd.wt (l.take k) : Int) + l[k].wt + l.length ≤ L → SzRelRelDeclS w l L (.int .i64 (L - (l.length : Int) - (wsum Rd.wt (l.take k) : Int) - (l[k].wt : Int))) (.int .i64 ((k : Int) + 1)) w1 := fun w1 hw1 hh =>
          ⟨k + 1, below_step hb hw1, by go_num, by omega, by rw [ht]; congr 1; omega, by rw [ht]; omega⟩
        have HZ := Lib.hid Z
        clear Z hxs HC hh0 hcc hvl hbl
        rw [ht] at htot
        clear ht
        generalize l[k] = x at *
        generalize wsum Rd.wt (l.take k) = y at *
        go_wp2_with fail
        refine HZZ.out.mono ?_
        rintro e w1 ⟨⟨r, rfl, hr⟩, hb1⟩
        rcases hr with ⟨hr, hl⟩ | ⟨rfl, hl⟩
        · have hd2 : decide (r < 0) = true := decide_eq_true hr
          have HB := Lib.hid (below_step hb hb1)
          clear HZ HZZ hb1
          go_wp2
          go_ret
          exact ⟨⟨-1, rfl, .inl (by omega)⟩, HB.out⟩
        · have HRR := Lib.hid (HZ.out w1 hb1 (by omega))
          have hd2 : decide (L - (l.length : Int) - (y : Int) - (x.wt : Int) < 0) = false := decide_eq_false (by omega)
          clear HZ HZZ hb1
          generalize x.wt = z at *
          go_wp2
          go_roundw
          case rel => exact HRR.out
          case measure => simp [intOf]; omega
      · obtain rfl : k = l.length := by omega
        rw [List.take_length] at htk ⊢
        generalize hy : wsum Rd.wt l = y at htk ⊢
        go_wp2
        go_ret
        exact ⟨⟨_, rfl, .inr (by omega)⟩, hb⟩
  · have hd : decide (L - (l.length : Int) < 0) = true := decide_eq_true (by omega)
    go_enter Try.func16, Try.ntmps16
    go_wp2
    go_ret
    exact ⟨⟨-1, rfl, .inl (by omega)⟩, Below.refl _ _⟩

def EqRelRelDeclS (w : World) (n : Nat) (v : Value) (wr : World) : Prop := ∃ k : Nat, Below w.heap.size w wr ∧ v = .int .i64 (k : Int) ∧ k ≤ n

set_option maxRecDepth 100000 in
set_option maxHeartbeats 2000000 in
theorem eqRelDeclS_any (l : List Rd) (a1 a2 : Option Addr) (c1 c2 : Nat) (S1 S2 : Nat → Prop) (w : World) (hu : RowIn FRd 3 S1 w a1 l) (hv : RowIn FRd 3 S2 w a2 l) (hS1 : ∀ b, S1 b → b < w.heap.size) (hS2 : ∀ b, S2 b → b < w.heap.size) (hn : wtRelDeclS l ≤ 2000000) :
    Calls Try.prog 28 #[.slice a1 l.length c1, .slice a2 l.length c2] w fun e w' => e = .returned (.bool true) ∧ Below w.heap.size w w' := by
  have HU := Lib.hid hu
  have HV := Lib.hid hv
  have HS1 := Lib.hid hS1
  have HS2 := Lib.hid hS2
  have hln := lenRelDeclS l
  have HW := Lib.hid hn
  have hln2 : l.length ≤ 2000000 := by omega
  clear hu hv hS1 hS2 hln hn
  have hne : ((l.length : Int) != (l.length : Int)) = false := by simp
  go_enter Try.func28, Try.ntmps28
  go_wp2
  go_loopw [5] (fun v wr => EqRelRelDeclS w l.length v wr) (fun v _ => (l.length - (intOf v).toNat))
  case atStart => exact ⟨0, Below.refl _ _, rfl, Nat.zero_le _⟩
  case round =>
    obtain ⟨k, hb, rfl, hk⟩ := hrel
    by_cases hlt : k < l.length
    · obtain ⟨b1, o1, us, rfl, hl1, hul, hcu, hFu⟩ := RowIn.kept FRd_keeps HU.out (Same.below HS1.out hb) k hlt
      obtain ⟨b2, o2, vs, rfl, hl2, hvl, hcv, hFv⟩ := RowIn.kept FRd_keeps HV.out (Same.below HS2.out hb) k hlt
      have hxw : l[k].wt ≤ 2000000 := by
        have h1 := HW.out
        have h2 := wsum_mem Rd.wt (List.getElem_mem hlt)
        unfold wtRelDeclS at h1
        omega
      have hg1 : b1 < wr.heap.size := Nat.lt_of_lt_of_le (HS1.out _ hl1) hb.size
      have hg2 : b2 < wr.heap.size := Nat.lt_of_lt_of_le (HS2.out _ hl2) hb.size
      have HEQ := Lib.hid (fun (W : World) (hW : Below wr.heap.size wr W) => eqRelDecl_any l[k] us vs S1 S2 W (FRd_keeps.1 _ _ _ _ _ hFu (Same.below (fun q hq => Nat.lt_of_lt_of_le (HS1.out q hq) hb.size) hW)) (FRd_keeps.1 _ _ _ _ _ hFv (Same.below (fun q hq => Nat.lt_of_lt_of_le (HS2.out q hq) hb.size) hW)) (fun q hq => Nat.lt_of_lt_of_le (Nat.lt_of_lt_of_le (HS1.out q hq) hb.size) hW.size) (fun q hq => Nat.lt_of_lt_of_le (Nat.lt_of_lt_of_le (HS2.out q hq) hb.size) hW.size) hxw)
      obtain ⟨atsu, ctsu, rfl, hh0u⟩ := hFu
      obtain ⟨atsv, ctsv, rfl, hh0v⟩ := hFv
      have x0 : wr.cell? ⟨b1, o1 + k * 3, none⟩ = some (.string l[k].s) := hcu 0 (by simp)
      have y0 : wr.cell? ⟨b2, o2 + k * 3, none⟩ = some (.string l[k].s) := hcv 0 (by simp)
      have x1 : wr.cell? ⟨b1, o1 + k * 3 + 1, none⟩ = some (.slice atsu l[k].ts.length ctsu) := hcu 1 (by simp)
      have y1 : wr.cell? ⟨b2, o2 + k * 3 + 1, none⟩ = some (.slice atsv l[k].ts.length ctsv) := hcv 1 (by simp)
      have x2 : wr.cell? ⟨b1, o1 + k * 3 + 2, none⟩ = some (.int .i64 l[k].m) := hcu 2 (by simp)
      have y2 : wr.cell? ⟨b2, o2 + k * 3 + 2, none⟩ = some (.int .i64 l[k].m) := hcv 2 (by simp)
      have HB := Lib.hid hb
      have hB0 : Below wr.heap.size wr wr := Below.refl _ _
      clear hb hxw hcu hcv hul hvl hh0u hh0v HU HV hl1 hl2
      generalize l[k] = x at *
      go_wp2
      go_region_held3 (fun w' => w'.cell? ⟨b1, o1 + k * 3, none⟩ = some (.string x.s) ∧ w'.cell? ⟨b2, o2 + k * 3, none⟩ = some (.string x.s) ∧ w'.cell? ⟨b1, o1 + k * 3 + 1, none⟩ = some (.slice atsu x.ts.length ctsu) ∧ w'.cell? ⟨b2, o2 + k * 3 + 1, none⟩ = some (.slice atsv x.ts.length ctsv) ∧ w'.cell? ⟨b1, o1 + k * 3 + 2, none⟩ = some (.int .i64 x.m) ∧ w'.cell? ⟨b2, o2 + k * 3 + 2, none⟩ = some (.int .i64 x.m) ∧ Below wr.heap.size wr w')
        (refine ⟨?_, ?_, ?_, ?_, ?_, ?_, ?_⟩ <;> (first | assumption | (simp [*]; done) | (apply Below.drew; assumption)))
        (first
          | (go_at_call 52
             refine (HEQ.out _ (by first | assumption | (apply Below.drew; assumption))).mono ?_
             rintro e w3 ⟨rfl, hb3⟩
             have hs1 : Below wr.heap.size wr w3 := hB0.drew.trans hb3
             have z0 : w3.cell? ⟨b1, o1 + k * 3, none⟩ = some (.string x.s) := (hb3.cell hg1).trans x0
             have t0 : w3.cell? ⟨b2, o2 + k * 3, none⟩ = some (.string x.s) := (hb3.cell hg2).trans y0
             have z1 : w3.cell? ⟨b1, o1 + k * 3 + 1, none⟩ = some (.slice atsu x.ts.length ctsu) := (hb3.cell hg1).trans x1
             have t1 : w3.cell? ⟨b2, o2 + k * 3 + 1, none⟩ = some (.slice atsv x.ts.length ctsv) := (hb3.cell hg2).trans y1
             have z2 : w3.cell? ⟨b1, o1 + k * 3 + 2, none⟩ = some (.int .i64 x.m) := (hb3.cell hg1).trans x2
             have t2 : w3.cell? ⟨b2, o2 + k * 3 + 2, none⟩ = some (.int .i64 x.m) := (hb3.cell hg2).trans y2
             clear hb3))
      go_wp2
      go_roundw
      case rel => exact ⟨k + 1, HB.out.trans (Below.mono (by assumption) HB.out.size), by go_num, by omega⟩
      case measure => simp [intOf]; omega
    · obtain rfl : k = l.length := by omega
      have hlt2 : decide ((l.length : Int) < (l.length : Int)) = false := by simp
      go_wp2
      go_ret
      exact ⟨rfl, hb⟩

def ToRelRelDeclS (w : World) (l : List Rd) (v4 : Value) (wr : World) : Prop :=
  ∃ (k : Nat), v4 = .int .i64 (k : Int) ∧ k ≤ l.length ∧ RowTo FRd 3 66 w.heap.size w.heap.size wr l k ∧ Below w.heap.size w wr

set_option maxRecDepth 100000 in
set_option maxHeartbeats 2000000 in
theorem toRelDeclS_any (a : Option Addr) (cap : Nat) (l : List Rd) (S : Nat → Prop) (w : World) (hrow : RowIn FRd 3 S w a l) (hS : ∀ b, S b → b < w.heap.size) (hn : wtRelDeclS l ≤ 1048576) :
    Calls Try.prog 21 #[.slice a l.length cap] w fun e w' => ∃ g : Nat, e = .returned (.slice (some ⟨g, 0, none⟩) l.length l.length) ∧ RowIn FRd 3 (Seg w.heap.size w'.heap.size) w' (some ⟨g, 0, none⟩) l ∧ Below w.heap.size w w' := by
  have HR := Lib.hid hrow
  have HS := Lib.hid hS
  have HW := Lib.hid hn
  have hln := lenRelDeclS l
  have hln2 : l.length ≤ 1048576 := by omega
  clear hrow hS hn hln
  obtain ⟨i0, hi0, hz0, hz1, hz2⟩ := info_parts infoRelDecl
  have hmk : (Instr.makeSlice 30 (.int .i64 (l.length : Int)) (.int .i64 (l.length : Int))).run Try.prog w = .ok (.slice (some ⟨w.heap.size, 0, none⟩) l.length l.length) (w.alloc (.cells (madeCells #[.string ⟨#[]⟩, .slice none 0 0, .int .i64 0] (l.length * 3)) 66)) := by
    rw [run_make w 30 66 i0 _ Try.underlying30 hi0 hz0 .i64 .i64 _ _ (by omega) (by omega) (by rw [hz2]; omega) (by omega), hz1, Int.toNat_natCast]
    rfl
  have hst : ToRelRelDeclS w l (.int .i64 0) (w.alloc (.cells (madeCells #[.string ⟨#[]⟩, .slice none 0 0, .int .i64 0] (l.length * 3)) 66)) :=
    ⟨0, rfl, Nat.zero_le _, ⟨⟨_, heap_alloc_new w _, size_madeCells _ _⟩, Nat.le_refl _, fun i h hi => by omega⟩, (Below.refl w.heap.size w).alloc (Nat.le_refl _) _⟩
  have HST := Lib.hid hst
  generalize w.alloc (.cells (madeCells #[.string ⟨#[]⟩, .slice none 0 0, .int .i64 0] (l.length * 3)) 66) = W0 at *
  clear hi0 hz0 hz1 hz2 hst
  go_enter Try.func21, Try.ntmps21
  go_wp2
  clear hmk
  go_loopw [4] (fun v4 wr => ToRelRelDeclS w l v4 wr) (fun v4 _ => (l.length - (intOf v4).toNat))
  case atStart => exact HST.out
  case round =>
    obtain ⟨k, rfl, hk, hto, hb⟩ := hrel
    by_cases hlt : k < l.length
    · obtain ⟨b, off, vs, rfl, hbl, hvl, hcc, hFF⟩ := RowIn.kept FRd_keeps HR.out (Same.below HS.out hb) k hlt
      have HC := Lib.hid hFF
      obtain ⟨ats, cts, rfl, hh0⟩ := hFF
      have hx0 : wr.cell? ⟨b, off + k * 3, none⟩ = some (.string l[k].s) := hcc 0 (by simp)
      have hx1 : wr.cell? ⟨b, off + k * 3 + 1, none⟩ = some (.slice ats l[k].ts.length cts) := hcc 1 (by simp)
      have hx2 : wr.cell? ⟨b, off + k * 3 + 2, none⟩ = some (.int .i64 l[k].m) := hcc 2 (by simp)
      have hxw : l[k].wt ≤ 1048576 := by
        have h1 := HW.out
        have h2 := wsum_mem Rd.wt (List.getElem_mem hlt)
        unfold wtRelDeclS at h1
        omega
      have HZ := Lib.hid (toRelDecl_any l[k] _ S wr HC.out (fun q hq => Nat.lt_of_lt_of_le (HS.out q hq) hb.size) hxw)
      have HSTEP := Lib.hid (fun (w1 : World) (hb1 : Below wr.heap.size wr w1) (us : List Value) (hu : us.length = 3) (hF : FRd (Seg wr.heap.size w1.heap.size) w1 us l[k]) => hto.step FRd_keeps hlt hb1 hu hF)
      have HROOM := Lib.hid (fun (w1 : World) (hb1 : Below wr.heap.size wr w1) (j : Nat) (hj : j < 3) => hto.room hb1 hlt hj)
      have HB := Lib.hid hb
      clear hb hto hcc hvl hbl HC hxw hh0
      generalize l[k] = x at *
      go_wp2_with fail
      refine HZ.out.mono ?_
      rintro e w1 ⟨us, rfl, hFu, hb1⟩
      have hul : us.length = 3 := by
        obtain ⟨ats, cts, rfl, gg0⟩ := hFu
        rfl
      obtain ⟨hr1, hr2⟩ := HSTEP.out w1 hb1 us hul hFu
      have HRR := Lib.hid ((⟨k + 1, by go_num, by omega, hr1, (HB.out.mono (Nat.le_refl _)).trans hr2⟩ : ToRelRelDeclS w l (.int .i64 ((k : Int) + 1)) (setAll w1 w.heap.size (k * 3) us)))
      obtain ⟨⟨u0, hu0⟩, hf0⟩ := HROOM.out w1 hb1 0 (by omega)
      obtain ⟨⟨u1, hu1⟩, hf1⟩ := HROOM.out w1 hb1 1 (by omega)
      obtain ⟨⟨u2, hu2⟩, hf2⟩ := HROOM.out w1 hb1 2 (by omega)
      clear HZ HSTEP HROOM hr1 hr2 hb1
      obtain ⟨ats, cts, rfl, gg0⟩ := hFu
      clear gg0
      simp only [Nat.add_zero] at hu0 hf0
      go_wp2
      go_roundw
      case rel => exact HRR.out
      case measure => simp [intOf]; omega
    · obtain rfl : k = l.length := by omega
      have HO := Lib.hid (hto.done FRd_keeps)
      clear hto
      go_wp2
      go_ret
      exact ⟨_, rfl, HO.out, hb⟩


end Go.Proofs.Ytdcfhmbnbfmnbaa.Pr
