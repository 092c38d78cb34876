/-
  THE LAWS' OWN COPYING of arcs and graphs, with one word more: what it lays anew are plain rows.
-/
import Derived.Test.YtgjmefcognoepaaPTq
import Derived.Test.YtgjmefcognoepaaPG1
namespace Go.Proofs.Ytgjmefcognoepaa.Pr
open Go Go.RowKit Go.Maps Go.WideMaps

set_option maxRecDepth 100000 in
set_option maxHeartbeats 2000000 in
theorem tpArc_any (x : Ar) (vs : List Value) (S : Nat → Prop) (w : World) (hF : FAr S w vs x) :
    Calls Try.prog 32 #[.agg vs.toArray] w fun e w' => ∃ us : List Value, e = .returned (.agg us.toArray) ∧ FAr (Seg w.heap.size w'.heap.size) w' us x ∧ Below w.heap.size w w' ∧ Plain w.heap.size w' := by
  obtain rfl := hF
  have hb := alloc3_below w (Obj.cells #[.int .i64 x.a, .int .i64 x.b, .bool x.s] 72) (Obj.cells #[.int .i64 x.a, .int .i64 x.b, .bool x.s] 59) (Obj.cells #[.int .i64 x.a, .int .i64 x.b, .bool x.s] 59)
  have k1 := alloc3_1 w (Obj.cells #[.int .i64 x.a, .int .i64 x.b, .bool x.s] 72) (Obj.cells #[.int .i64 x.a, .int .i64 x.b, .bool x.s] 59) (Obj.cells #[.int .i64 x.a, .int .i64 x.b, .bool x.s] 59)
  have HK1 := Lib.hid k1
  have HB := Lib.hid hb
  clear k1 hb
  have HP := Lib.hid ((((Plain.start w).alloc _ _).alloc _ _).alloc _ _ : Plain w.heap.size (((w.alloc (Obj.cells #[.int .i64 x.a, .int .i64 x.b, .bool x.s] 72)).alloc (Obj.cells #[.int .i64 x.a, .int .i64 x.b, .bool x.s] 59)).alloc (Obj.cells #[.int .i64 x.a, .int .i64 x.b, .bool x.s] 59)))
  go_enter Try.func32, Try.ntmps32
  go_wp2
  refine bodyPost_ret (results_cell_row rfl _ _ (w.heap.size + 1) 59 #[.int .i64 x.a, .int .i64 x.b, .bool x.s] (0, 0) _ (by rfl) HK1.out Try.underlying59 rfl infoSArc) rfl ?_
  exact ⟨[.int .i64 x.a, .int .i64 x.b, .bool x.s], rfl, rfl, HB.out, HP.out⟩

def TpRelArcS (w : World) (l : List Ar) (v4 : Value) (wr : World) : Prop :=
  ∃ (k : Nat), v4 = .int .i64 (k : Int) ∧ k ≤ l.length ∧ RowTo FAr 3 59 w.heap.size w.heap.size wr l k ∧ Below w.heap.size w wr ∧ Plain w.heap.size wr

set_option maxRecDepth 100000 in
set_option maxHeartbeats 2000000 in
theorem tpArcS_any (a : Option Addr) (cap : Nat) (l : List Ar) (S : Nat → Prop) (w : World) (hrow : RowIn FAr 3 S w a l) (hS : ∀ b, S b → b < w.heap.size) (hn : wtArcS l ≤ 1048576) :
    Calls Try.prog 25 #[.slice a l.length cap] w fun e w' => ∃ g : Nat, e = .returned (.slice (some ⟨g, 0, none⟩) l.length l.length) ∧ RowIn FAr 3 (Seg w.heap.size w'.heap.size) w' (some ⟨g, 0, none⟩) l ∧ Below w.heap.size w w' ∧ Plain w.heap.size w' := by
  have HR := Lib.hid hrow
  have HS := Lib.hid hS
  have HW := Lib.hid hn
  have hln := lenArcS l
  have hln2 : l.length ≤ 1048576 := by omega
  clear hrow hS hn hln
  obtain ⟨i0, hi0, hz0, hz1, hz2⟩ := info_parts infoArc
  have hmk : (Instr.makeSlice 36 (.int .i64 (l.length : Int)) (.int .i64 (l.length : Int))).run Try.prog w = .ok (.slice (some ⟨w.heap.size, 0, none⟩) l.length l.length) (w.alloc (.cells (madeCells #[.int .i64 0, .int .i64 0, .bool false] (l.length * 3)) 59)) := by
    rw [run_make w 36 59 i0 _ Try.underlying36 hi0 hz0 .i64 .i64 _ _ (by omega) (by omega) (by rw [hz2]; omega) (by omega), hz1, Int.toNat_natCast]
    rfl
  have hst : TpRelArcS w l (.int .i64 0) (w.alloc (.cells (madeCells #[.int .i64 0, .int .i64 0, .bool false] (l.length * 3)) 59)) :=
    ⟨0, rfl, Nat.zero_le _, ⟨⟨_, heap_alloc_new w _, size_madeCells _ _⟩, Nat.le_refl _, fun i h hi => by omega⟩, (Below.refl w.heap.size w).alloc (Nat.le_refl _) _, (Plain.start w).alloc _ _⟩
  have HST := Lib.hid hst
  generalize w.alloc (.cells (madeCells #[.int .i64 0, .int .i64 0, .bool false] (l.length * 3)) 59) = W0 at *
  clear hi0 hz0 hz1 hz2 hst
  go_enter Try.func25, Try.ntmps25
  go_wp2
  clear hmk
  go_loopw [4] (fun v4 wr => TpRelArcS w l v4 wr) (fun v4 _ => (l.length - (intOf v4).toNat))
  case atStart => exact HST.out
  case round =>
    obtain ⟨k, rfl, hk, hto, hb, hp⟩ := hrel
    have HP := Lib.hid hp
    clear hp
    by_cases hlt : k < l.length
    · obtain ⟨b, off, vs, rfl, hbl, hvl, hcc, hFF⟩ := RowIn.kept FAr_keeps HR.out (Same.below HS.out hb) k hlt
      have HC := Lib.hid hFF
      obtain rfl := hFF
      have hx0 : wr.cell? ⟨b, off + k * 3, none⟩ = some (.int .i64 l[k].a) := hcc 0 (by simp)
      have hx1 : wr.cell? ⟨b, off + k * 3 + 1, none⟩ = some (.int .i64 l[k].b) := hcc 1 (by simp)
      have hx2 : wr.cell? ⟨b, off + k * 3 + 2, none⟩ = some (.bool l[k].s) := hcc 2 (by simp)
      have HZ := Lib.hid (tpArc_any l[k] _ S wr HC.out)
      have HSTEP := Lib.hid (fun (w1 : World) (hb1 : Below wr.heap.size wr w1) (us : List Value) (hu : us.length = 3) (hF : FAr (Seg wr.heap.size w1.heap.size) w1 us l[k]) => hto.step FAr_keeps hlt hb1 hu hF)
      have HROOM := Lib.hid (fun (w1 : World) (hb1 : Below wr.heap.size wr w1) (j : Nat) (hj : j < 3) => hto.room hb1 hlt hj)
      have HB := Lib.hid hb
      clear hb hto hcc hvl hbl HC 
      generalize l[k] = x at *
      go_wp2_with fail
      refine HZ.out.mono ?_
      rintro e w1 ⟨us, rfl, hFu, hb1, hp1⟩
      have hul : us.length = 3 := by
        obtain rfl := hFu
        rfl
      obtain ⟨hr1, hr2⟩ := HSTEP.out w1 hb1 us hul hFu
      have HRR := Lib.hid ((⟨k + 1, by go_num, by omega, hr1, (HB.out.mono (Nat.le_refl _)).trans hr2, (HP.out.step hb1 hp1).setAll _ _ _⟩ : TpRelArcS w l (.int .i64 ((k : Int) + 1)) (setAll w1 w.heap.size (k * 3) us)))
      obtain ⟨⟨u0, hu0⟩, hf0⟩ := HROOM.out w1 hb1 0 (by omega)
      obtain ⟨⟨u1, hu1⟩, hf1⟩ := HROOM.out w1 hb1 1 (by omega)
      obtain ⟨⟨u2, hu2⟩, hf2⟩ := HROOM.out w1 hb1 2 (by omega)
      clear HZ HSTEP HROOM hr1 hr2 hb1 hp1
      obtain rfl := hFu
      simp only [Nat.add_zero] at hu0 hf0
      go_wp2
      go_roundw
      case rel => exact HRR.out
      case measure => simp [intOf]; omega
    · obtain rfl : k = l.length := by omega
      have HO := Lib.hid (hto.done FAr_keeps)
      clear hto
      go_wp2
      go_ret
      exact ⟨_, rfl, HO.out, hb, HP.out⟩

set_option maxRecDepth 100000 in
set_option maxHeartbeats 2000000 in
theorem tpGraph_any (x : Gr) (vs : List Value) (S : Nat → Prop) (w : World) (hF : FGr S w vs x) (hS : ∀ b, S b → b < w.heap.size) (hn : x.wt ≤ 1048576) :
    Calls Try.prog 15 #[.agg vs.toArray] w fun e w' => ∃ us : List Value, e = .returned (.agg us.toArray) ∧ FGr (Seg w.heap.size w'.heap.size) w' us x ∧ Below w.heap.size w w' ∧ Plain w.heap.size w' := by
  obtain ⟨ars, crs, rfl, rr0⟩ := hF
  unfold Gr.wt at hn
  have HZ2 := Lib.hid (fun (W : World) (hW : Below w.heap.size w W) => tpArcS_any ars crs x.rs S W (RowIn.kept FAr_keeps rr0 (Same.below hS hW)) (fun b hb => Nat.lt_of_lt_of_le (hS b hb) hW.size) (by omega))
  clear rr0 hS
  have hb := alloc3_below w (Obj.cells #[.int .i64 x.f, .int .i64 x.t, .slice ars x.rs.length crs] 34) (Obj.cells #[.int .i64 0, .int .i64 0, .slice none 0 0] 38) (Obj.cells #[.int .i64 x.f, .int .i64 x.t, .slice none 0 0] 38)
  have hs0 := alloc3_size w (Obj.cells #[.int .i64 x.f, .int .i64 x.t, .slice ars x.rs.length crs] 34) (Obj.cells #[.int .i64 0, .int .i64 0, .slice none 0 0] 38) (Obj.cells #[.int .i64 x.f, .int .i64 x.t, .slice none 0 0] 38)
  have k1 := alloc3_1 w (Obj.cells #[.int .i64 x.f, .int .i64 x.t, .slice ars x.rs.length crs] 34) (Obj.cells #[.int .i64 0, .int .i64 0, .slice none 0 0] 38) (Obj.cells #[.int .i64 x.f, .int .i64 x.t, .slice none 0 0] 38)
  have k2 := alloc3_2 w (Obj.cells #[.int .i64 x.f, .int .i64 x.t, .slice ars x.rs.length crs] 34) (Obj.cells #[.int .i64 0, .int .i64 0, .slice none 0 0] 38) (Obj.cells #[.int .i64 x.f, .int .i64 x.t, .slice none 0 0] 38)
  have KP := Lib.hid (alloc3_0 w (Obj.cells #[.int .i64 x.f, .int .i64 x.t, .slice ars x.rs.length crs] 34) (Obj.cells #[.int .i64 0, .int .i64 0, .slice none 0 0] 38) (Obj.cells #[.int .i64 x.f, .int .i64 x.t, .slice none 0 0] 38))
  have HP := Lib.hid ((((Plain.start w).alloc _ _).alloc _ _).alloc _ _ : Plain w.heap.size (((w.alloc (Obj.cells #[.int .i64 x.f, .int .i64 x.t, .slice ars x.rs.length crs] 34)).alloc (Obj.cells #[.int .i64 0, .int .i64 0, .slice none 0 0] 38)).alloc (Obj.cells #[.int .i64 x.f, .int .i64 x.t, .slice none 0 0] 38)))
  go_enter Try.func15, Try.ntmps15
  go_wp2_with fail
  refine (HZ2.out _ hb).mono ?_
  rintro e w2 ⟨g2, rfl, hI2, hb1, hp1⟩
  replace hI2 := RowIn.mono FAr_keeps hI2 (fun b hb => hb.mono (show w.heap.size + 3 ≤ _ by omega) (Nat.le_refl _))
  replace k1 := (hb1.block _ (by omega)).trans k1
  replace k2 := (hb1.block _ (by omega)).trans k2
  replace KP := Lib.hid ((hb1.block _ (lt_of_block KP.out)).trans KP.out)
  replace hb := below_step hb hb1
  replace hs0 : w.heap.size + 3 ≤ w2.heap.size := by have := hb1.size; omega
  replace HP := Lib.hid (HP.out.step hb1 hp1)
  clear HZ2 hb1 hp1
  have c10 := (cell_of_row _ (w.heap.size + 1) 0 _ _ _ k1)
  simp only [List.getElem?_toArray, List.getElem?_cons_zero, List.getElem?_cons_succ] at c10
  have c11 := (cell_of_row _ (w.heap.size + 1) 1 _ _ _ k1)
  simp only [List.getElem?_toArray, List.getElem?_cons_zero, List.getElem?_cons_succ] at c11
  have c12 := (cell_of_row _ (w.heap.size + 1) 2 _ _ _ k1)
  simp only [List.getElem?_toArray, List.getElem?_cons_zero, List.getElem?_cons_succ] at c12
  have c20 := (cell_of_row _ (w.heap.size + 2) 0 _ _ _ k2)
  simp only [List.getElem?_toArray, List.getElem?_cons_zero, List.getElem?_cons_succ] at c20
  have c21 := (cell_of_row _ (w.heap.size + 2) 1 _ _ _ k2)
  simp only [List.getElem?_toArray, List.getElem?_cons_zero, List.getElem?_cons_succ] at c21
  have c22 := (cell_of_row _ (w.heap.size + 2) 2 _ _ _ k2)
  simp only [List.getElem?_toArray, List.getElem?_cons_zero, List.getElem?_cons_succ] at c22
  have f10 := frozen_row k1 0
  have f20 := frozen_row k2 0
  have f11 := frozen_row k1 1
  have f21 := frozen_row k2 1
  have f12 := frozen_row k1 2
  have f22 := frozen_row k2 2
  try clear p0
  have p0 := cell_of_row _ (w.heap.size) 0 _ _ _ KP.out
  simp only [List.getElem?_toArray, List.getElem?_cons_zero, List.getElem?_cons_succ] at p0
  try clear p1
  have p1 := cell_of_row _ (w.heap.size) 1 _ _ _ KP.out
  simp only [List.getElem?_toArray, List.getElem?_cons_zero, List.getElem?_cons_succ] at p1
  try clear p2
  have p2 := cell_of_row _ (w.heap.size) 2 _ _ _ KP.out
  simp only [List.getElem?_toArray, List.getElem?_cons_zero, List.getElem?_cons_succ] at p2
  have HhI2 := Lib.hid hI2
  clear hI2
  have HK1 := Lib.hid k1
  have HK2 := Lib.hid k2
  have HB := Lib.hid hb
  clear k1 k2 hb
  go_wp2
  obtain ⟨hres, hbel, hsame, hsz⟩ := laid_out (w := w) (W := w2) (c := 3) 2 [.slice (some ⟨g2, 0, none⟩) x.rs.length x.rs.length] [.int .i64 x.f, .int .i64 x.t, .slice (some ⟨g2, 0, none⟩) x.rs.length x.rs.length] HK1.out HK2.out HB.out (by simp) (by simp) (by simp)
  refine bodyPost_ret (results_cell_row rfl _ _ (w.heap.size + 1) 38 #[.int .i64 x.f, .int .i64 x.t, .slice (some ⟨g2, 0, none⟩) x.rs.length x.rs.length] (0, 0) _ (by rfl) hres Try.underlying38 rfl infoSGraph) rfl ?_
  refine ⟨[.int .i64 x.f, .int .i64 x.t, .slice (some ⟨g2, 0, none⟩) x.rs.length x.rs.length], rfl, ⟨_, _, rfl, ?_⟩, hbel, ?_⟩
  · exact RowIn.mono FAr_keeps (RowIn.kept FAr_keeps HhI2.out (hsame _ (fun h => by have := h.1; omega) (fun h => by have := h.1; omega))) (fun b hb => hb.mono (by omega) (Nat.le_of_eq hsz.symm))
  · exact (HP.out.setAll (w.heap.size + 2) 2 [.slice (some ⟨g2, 0, none⟩) x.rs.length x.rs.length]).setAll (w.heap.size + 1) 0 [.int .i64 x.f, .int .i64 x.t, .slice (some ⟨g2, 0, none⟩) x.rs.length x.rs.length]

end Go.Proofs.Ytgjmefcognoepaa.Pr
