/-
  THE WALK over the program's graph: the arcs of a table.
-/
import Derived.Test.YtgjmefcognoepaaPA5
namespace Go.Proofs.Ytgjmefcognoepaa.Pr
open Go Go.RowKit Go.Maps Go.WideMaps

structure GrIs (w : World) (f t : Int) (L : List Int) (m : Nat) (v : Value) (wr : World) : Prop where
  g : GB wr w.heap.size f t L
  r : wr.heap[w.heap.size + 1]? = some (.cells #[.int .i64 0, .int .i64 0, .slice none 0 0] 38 (0, 0))
  o : wr.heap[w.heap.size + 2]? = some (.cells #[.int .i64 f, .int .i64 t, v] 38 (0, 0))
  ow : wr.ownsRow (w.heap.size + 3) 59 3 v (listTo L m).length (arcCells (listTo L m))
  b : Below w.heap.size w wr
theorem GrIs.below {w : World} {f t : Int} {L : List Int} {m : Nat} {v : Value} {wr w' : World} (h : GrIs w f t L m v wr) (hb : Below wr.heap.size wr w') : GrIs w f t L m v w' :=
  ⟨h.g.below hb, (hb.block _ (lt_of_block h.r)).trans h.r, (hb.block _ (lt_of_block h.o)).trans h.o, row_kept h.ow hb, below_step h.b hb⟩
def GraphPost (f t : Int) (L : List Int) (w : World) (e : Ending) (w' : World) : Prop :=
  ∃ v, e = .returned (.agg #[.int .i64 f, .int .i64 t, v]) ∧ w'.ownsRow w.heap.size 59 3 v (listOf L).length (arcCells (listOf L)) ∧ Below w.heap.size w w'

set_option maxRecDepth 100000 in
set_option maxHeartbeats 8000000 in
theorem graph_any (f t : Int) (L : List Int) (hL : L.length = 36) (w : World) :
    Calls Try.prog 30 #[.agg (gcells f t L).toArray] w (GraphPost f t L w) := by
  have hb0 := ((Below.refl w.heap.size w).alloc (Nat.le_refl _) (Obj.cells (gcells f t L).toArray 49)).alloc (by simp) (Obj.cells #[.int .i64 0, .int .i64 0, .slice none 0 0] 38)
  have k0 := (heap_alloc_old _ (Obj.cells #[.int .i64 0, .int .i64 0, .slice none 0 0] 38) (by simp)).trans (heap_alloc_new w (Obj.cells (gcells f t L).toArray 49))
  have k1 := heap_alloc2_new w (Obj.cells (gcells f t L).toArray 49) (Obj.cells #[.int .i64 0, .int .i64 0, .slice none 0 0] 38)
  have hs0 : ((w.alloc (Obj.cells (gcells f t L).toArray 49)).alloc (Obj.cells #[.int .i64 0, .int .i64 0, .slice none 0 0] 38)).heap.size = w.heap.size + 2 := by simp
  obtain ⟨w0, hw0⟩ : ∃ w0, (w.alloc (.cells (gcells f t L).toArray 49)).alloc (.cells #[.int .i64 0, .int .i64 0, .slice none 0 0] 38) = w0 := ⟨_, rfl⟩
  rw [hw0] at hb0 k0 k1 hs0
  have q0 := GB.c0 (show GB w0 w.heap.size f t L from k0)
  have q1 := GB.c1 (show GB w0 w.heap.size f t L from k0)
  have hb1 : Below w0.heap.size w0 (w0.alloc (.cells #[.int .i64 f, .int .i64 t, .slice none 0 0] 38)) := (Below.refl _ _).alloc (Nat.le_refl _) _
  have k2 := heap_alloc_new w0 (.cells #[.int .i64 f, .int .i64 t, .slice none 0 0] 38)
  rw [hs0] at k2
  have H1 := Lib.hid (show GrIs w f t L 0 (.slice none 0 0) (w0.alloc (.cells #[.int .i64 f, .int .i64 t, .slice none 0 0] 38)) from ⟨(hb1.block _ (by omega)).trans k0, (hb1.block _ (by omega)).trans k1, k2, World.ownsRow_nil _ _ _ _, below_step hb0 hb1⟩)
  have HL := Lib.hid hL
  have HIT := Lib.hid (show (Try.prog.info? 47).map (·.size) = some (tcells L).length by rw [infoTab]; simp [tcells, hL])
  have HS0 := Lib.hid hs0
  clear hb0 k0 k1 hb1 k2 hL hs0
  go_enter Try.func30, Try.ntmps30
  go_wp2_with (first
    | (with_reducible refine at_load 47 13 ?_
       refine wpList_load_mid rfl 47 (.tmp 13) rfl w.heap.size 2 rfl (tcells L) _ (H1.out.g.tab HL.out) Try.underlying47 rfl HIT.out ?_)
    | fail)
  rw [HS0.out]
  go_loopw [15] (fun v15 wr => ∃ (a : Nat) (v : Value), v15 = .int .i64 (a : Int) ∧ a ≤ 6 ∧ GrIs w f t L (6 * a) v wr) (fun v15 _ => (6 - (intOf v15).toNat))
  case atStart => exact ⟨0, _, rfl, by omega, H1.out⟩
  case round =>
    obtain ⟨a, v, rfl, ha, hT⟩ := hrel
    have HTA := Lib.hid hT
    clear hT q0 q1 hw0
    by_cases ha6 : a < 6
    · have hd0 : decide ((a : Int) < 6) = true := decide_eq_true (by omega)
      have HWA := Lib.hid (show (wr.alloc (.cells rz6 45)).setRow wr.heap.size (rcells L a).toArray = wr.alloc (.cells (rcells L a).toArray 45) from World.setRow_alloc_new _ _ _ _)
      have HKA := Lib.hid (heap_alloc_new wr (.cells rz6 45))
      have HKB := Lib.hid (heap_alloc_new wr (.cells (rcells L a).toArray 45))
      have HTB := Lib.hid (HTA.out.below ((Below.refl wr.heap.size wr).alloc (Nat.le_refl _) (.cells (rcells L a).toArray 45)))
      obtain ⟨wA, hwA⟩ : ∃ wA, wr.alloc (.cells (rcells L a).toArray 45) = wA := ⟨_, rfl⟩
      rw [hwA] at HWA HKB HTB
      have HSR := Lib.hid (show (Try.prog.info? 45).map (·.size) = some (rcells L a).toArray.size by rw [infoRow]; simp [rcells])
      have HA6 := Lib.hid ha6
      clear hwA HTA ha6
      go_wp2_with (first
        | (with_reducible refine at_index 47 14 15 ?_
           refine wpList_index_is rfl 47 (.tmp 14) (.tmp 15) rfl (.agg (tcells L).toArray) (.int .i64 (a : Int)) _ rfl rfl (run_index_tab HL.out HA6.out _) ?_)
        | (with_reducible refine at_store 45 5 18 ?_
           refine wpList_store_row rfl 45 (.tmp 5) (.tmp 18) rfl wr.heap.size (rcells L a).toArray rfl rfl 45 _ HKA.out HSR.out rfl (rcells_one _ _) ?_
           erw [HWA.out])
        | (with_reducible refine at_load 45 5 ?_
           refine wpList_load_row rfl 45 (.tmp 5) rfl wr.heap.size rfl 45 _ (0, 0) _ HKB.out Try.underlying45 rfl HSR.out ?_))
      go_loopw [20] (fun v20 wq => ∃ (b : Nat) (v : Value), v20 = .int .i64 (b : Int) ∧ b ≤ 6 ∧ GrIs w f t L (6 * a + b) v wq) (fun v20 _ => (6 - (intOf v20).toNat))
      case atStart => exact ⟨0, _, rfl, by omega, HTB.out⟩
      case round =>
        obtain ⟨b, v, rfl, hb, hT⟩ := hrel
        have HTO := Lib.hid hT
        clear hT HKA HKB HTB HWA
        by_cases hb6 : b < 6
        · have hd1 : decide ((b : Int) < 6) = true := decide_eq_true (by omega)
          have HB6 := Lib.hid hb6
          obtain ⟨x, hx⟩ : ∃ x, gd L (6 * a + b) = x := ⟨_, rfl⟩
          have HXI := Lib.hid (show ∀ W : World, (Instr.index 45 (.agg (rcells L a).toArray) (.int .i64 (b : Int))).run Try.prog W = .ok (.int .u8 x) W from fun W => by rw [← hx]; exact run_index_row HB6.out W)
          have HX := Lib.hid hx
          clear hx hb6
          by_cases hxz : x = 0
          · have dx : (x != 0) = false := by simpa using hxz
            have HR := Lib.hid (show GrIs w f t L (6 * a + (b + 1)) v wr from by
              have e : listTo L (6 * a + (b + 1)) = listTo L (6 * a + b) := by rw [← Nat.add_assoc, listTo_out (HX.out.trans hxz)]
              exact ⟨HTO.out.g, HTO.out.r, HTO.out.o, by rw [e]; exact HTO.out.ow, HTO.out.b⟩)
            clear hxz
            go_wp2_with (first
              | (with_reducible refine at_index 45 19 20 ?_
                 refine wpList_index_is rfl 45 (.tmp 19) (.tmp 20) rfl (.agg (rcells L a).toArray) (.int .i64 (b : Int)) _ rfl rfl (HXI.out _) ?_))
            go_roundw
            case rel => exact ⟨b + 1, _, by go_num, by have := HB6.out; omega, HR.out⟩
            case measure => (have := HB6.out; simp [intOf] <;> omega)
          · have dx : (x != 0) = true := by simpa using hxz
            have hlen := listTo_len L (6 * a + b)
            have hzG := HTO.out.o
            have hzW := HTO.out.ow
            have hbr := HTO.out.b
            obtain ⟨av, cv, rfl⟩ := owns_shape hzW
            have hge := own_ge hzW
            have hGl := lt_of_block hzG
            obtain ⟨cG0, cG1, cG2, fG0, fG1, fG2⟩ := cells3 hzG
            have ha' := HA6.out
            have hb' := HB6.out
            obtain ⟨g', cap, w4, hrun, ho4, hb4, hk4, hsz4⟩ := push_arc hzW ⟨(a : Int), (b : Int), x == 2⟩ (by omega) (Below.refl (w.heap.size + 3) wr) (by omega)
            have hkk : ∀ j, j ≤ w.heap.size + 2 → w4.heap[j]? = wr.heap[j]? := fun j hj => hk4 j (by omega) (fun e => by have := hge j e; omega)
            have yG := (hkk (w.heap.size + 2) (Nat.le_refl _)).trans hzG
            have hbw4 : Below w.heap.size w w4 := ⟨hb4.os.trans hbr.os, hb4.tape.trans hbr.tape, hb4.output.trans hbr.output, by have := hbr.size; omega, fun j hj => (hb4.block j (by omega)).trans (hbr.block j hj)⟩
            have harc : listTo L (6 * a + (b + 1)) = listTo L (6 * a + b) ++ [⟨(a : Int), (b : Int), x == 2⟩] := by
              rw [← Nat.add_assoc, listTo_in (by rw [HX.out]; exact hxz)]
              unfold cellArc pA pB
              rw [HX.out, show (6 * a + b) / 6 = a by omega, show (6 * a + b) % 6 = b by omega]
            obtain ⟨dG0, dG1, dG2, eG0, eG1, eG2⟩ := cells3 yG
            have HR := Lib.hid (show GrIs w f t L (6 * a + (b + 1)) (.slice (some ⟨g', 0, none⟩) ((listTo L (6 * a + b)).length + 1) cap) (w4.setCell ⟨w.heap.size + 2, 2, none⟩ (.slice (some ⟨g', 0, none⟩) ((listTo L (6 * a + b)).length + 1) cap)) from by
              refine ⟨?_, ?_, ?_, ?_, below_set hbw4 2 _ (by omega)⟩
              · exact GB.other ((hkk w.heap.size (by omega)).trans HTO.out.g) _ _ (by show w.heap.size ≠ w.heap.size + 2; omega)
              · rw [heap_setCell_other _ ⟨w.heap.size + 2, 2, none⟩ _ _ (show w.heap.size + 1 ≠ w.heap.size + 2 by omega)]; exact (hkk (w.heap.size + 1) (by omega)).trans HTO.out.r
              · have := heap_setCell_same _ (w.heap.size + 2) 2 _ _ (.slice (some ⟨g', 0, none⟩) ((listTo L (6 * a + b)).length + 1) cap) yG
                simpa using this
              · rw [harc]; exact row_set ho4 (by omega) _)
            have HRUN := Lib.hid hrun
            dsimp only at HRUN
            clear hlen hzG hzW hbr hge hrun ho4 hb4 hk4 hkk yG hbw4 harc hxz ha' hb'
            generalize (listTo L (6 * a + b)).length = al at *
            go_wp2_with (first
              | (with_reducible refine at_index 45 19 20 ?_
                 refine wpList_index_is rfl 45 (.tmp 19) (.tmp 20) rfl (.agg (rcells L a).toArray) (.int .i64 (b : Int)) _ rfl rfl (HXI.out _) ?_)
              | (at_builtin
                 refine wpList_append_at rfl (.tmp 27) (.tmp 33) _ rfl rfl rfl HRUN.out ?_))
            go_roundw
            case rel => exact ⟨b + 1, _, by go_num, by have := HB6.out; omega, HR.out⟩
            case measure => (have := HB6.out; simp [intOf] <;> omega)
        · obtain rfl : b = 6 := by omega
          have hd1 : decide ((6 : Int) < 6) = false := by simp
          have HR := Lib.hid (show GrIs w f t L (6 * (a + 1)) v wr from by rw [show 6 * (a + 1) = 6 * a + 6 by omega]; exact HTO.out)
          clear HTO
          go_wp2
          go_roundw
          case rel => exact ⟨a + 1, _, by go_num, by have := HA6.out; omega, HR.out⟩
          case measure => (have := HA6.out; simp [intOf] <;> omega)
    · obtain rfl : a = 6 := by omega
      have hd0 : decide ((6 : Int) < 6) = false := by simp
      have ho := HTA.out.ow
      have hb := HTA.out.b
      obtain ⟨av, cv, rfl⟩ := owns_shape ho
      obtain ⟨c0, c1, c2, f0, f1, f2⟩ := cells3 (P := w.heap.size + 1) HTA.out.r
      obtain ⟨cG0, cG1, cG2, fG0, fG1, fG2⟩ := cells3 HTA.out.o
      obtain ⟨s1, s2, s3⟩ := set3 (P := w.heap.size + 1) HTA.out.r (.int .i64 f) (.int .i64 t) (.slice av (listTo L (6 * 6)).length cv) hb (by omega)
      have HS1 := Lib.hid s1
      have HP := Lib.hid (show GraphPost f t L w (.returned (.agg #[.int .i64 f, .int .i64 t, .slice av (listTo L (6 * 6)).length cv])) _ from ⟨_, rfl,
        owns_mono (show w.heap.size ≤ w.heap.size + 3 by omega) (row_set (row_set (row_set ho (by omega) _) (by omega) _) (by omega) _), s2⟩)
      clear HTA ho hb s1 s2 s3 ha6
      generalize (listTo L (6 * 6)).length = al at *
      go_wp2
      refine bodyPost_ret (results_cell_row rfl _ _ (w.heap.size + 1) 38 #[.int .i64 f, .int .i64 t, .slice av al cv] (0, 0) _ (by rfl) HS1.out Try.underlying38 rfl infoSGraph) rfl ?_
      exact HP.out

end Go.Proofs.Ytgjmefcognoepaa.Pr
