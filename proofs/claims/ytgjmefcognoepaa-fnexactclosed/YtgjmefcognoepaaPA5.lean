/-
  THE WALK over the program's then: two tables put together.
-/
import Derived.Test.YtgjmefcognoepaaPA4
namespace Go.Proofs.Ytgjmefcognoepaa.Pr
open Go Go.RowKit Go.Maps Go.WideMaps

structure ThIs (w : World) (gf gt hf ht : Int) (G H : List Int) (n : Nat) (wr : World) : Prop where
  g : GB wr w.heap.size gf gt G
  h : GB wr (w.heap.size + 1) hf ht H
  r : GB wr (w.heap.size + 2) 0 0 z36
  m : GB wr (w.heap.size + 3) gf ht (thenTo G H n)
  b : Below w.heap.size w wr
theorem ThIs.below {w : World} {gf gt hf ht : Int} {G H : List Int} {n : Nat} {wr w' : World} (h : ThIs w gf gt hf ht G H n wr) (hb : Below wr.heap.size wr w') : ThIs w gf gt hf ht G H n w' :=
  ⟨h.g.below hb, h.h.below hb, h.r.below hb, h.m.below hb, below_step h.b hb⟩
def ThenPost (gf ht : Int) (G H : List Int) (w : World) (e : Ending) (w' : World) : Prop := e = .returned (.agg (gcells gf ht (thenT G H)).toArray) ∧ Below w.heap.size w w'
theorem gcells_size {f t : Int} {L : List Int} (h : L.length = 36) : (Try.prog.info? 49).map (·.size) = some (gcells f t L).toArray.size := by rw [infoSAG, List.size_toArray, gcells_len h]
theorem z36_size {f t : Int} {L : List Int} (h : L.length = 36) : (gcells 0 0 z36).toArray.size = (gcells f t L).toArray.size := by rw [List.size_toArray, List.size_toArray, gcells_len h]; rfl
theorem built_row : (Try.prog.info? 45).map (·.size) = some 6 := by kernel_rfl

theorem thenTo_step (G H : List Int) {a o b : Nat} (_ha : a < 6) (ho : o < 6) (hb : b < 6) : thenTo G H (36 * a + 6 * o + (b + 1)) = if gd G (6 * a + o) ≠ 0 ∧ gd H (6 * o + b) ≠ 0 then
    (thenTo G H (36 * a + 6 * o + b)).set (6 * a + b) (max (max (gd (thenTo G H (36 * a + 6 * o + b)) (6 * a + b)) (gd G (6 * a + o))) (gd H (6 * o + b))) else thenTo G H (36 * a + 6 * o + b) := by
  have hA : wayA (36 * a + 6 * o + b) = a := by unfold wayA; omega
  have hO : wayO (36 * a + 6 * o + b) = o := by unfold wayO; omega
  have hB : wayB (36 * a + 6 * o + b) = b := by unfold wayB; omega
  rw [show 36 * a + 6 * o + (b + 1) = 36 * a + 6 * o + b + 1 by omega]
  conv => lhs; unfold thenTo
  dsimp only
  rw [hA, hO, hB]
theorem ThIs.put {w : World} {gf gt hf ht : Int} {G H : List Int} {n n' : Nat} {wr : World} (h : ThIs w gf gt hf ht G H n wr) {m : Nat} {v : Int} (e : thenTo G H n' = (thenTo G H n).set m v) : ThIs w gf gt hf ht G H n' (wr.setCell ⟨w.heap.size + 3, 2 + m, none⟩ (.int .u8 v)) :=
  ⟨h.g.other _ _ (by show w.heap.size ≠ w.heap.size + 3; omega), h.h.other _ _ (by show w.heap.size + 1 ≠ w.heap.size + 3; omega), h.r.other _ _ (by show w.heap.size + 2 ≠ w.heap.size + 3; omega), by rw [e]; exact h.m.set m v, below_set h.b _ _ (by omega)⟩
theorem ThIs.same {w : World} {gf gt hf ht : Int} {G H : List Int} {n n' : Nat} {wr : World} (h : ThIs w gf gt hf ht G H n wr) (e : thenTo G H n' = thenTo G H n) : ThIs w gf gt hf ht G H n' wr :=
  ⟨h.g, h.h, h.r, by rw [e]; exact h.m, h.b⟩
theorem ThIs.drew {w : World} {gf gt hf ht : Int} {G H : List Int} {n : Nat} {wr : World} (h : ThIs w gf gt hf ht G H n wr) : ThIs w gf gt hf ht G H n wr.drew :=
  ⟨h.g, h.h, h.r, h.m, below_drew h.b⟩
def rz6 : Array Value := #[.int .u8 0, .int .u8 0, .int .u8 0, .int .u8 0, .int .u8 0, .int .u8 0]

set_option maxRecDepth 100000 in
set_option maxHeartbeats 8000000 in
theorem then_any (gf gt hf ht : Int) (G H : List Int) (hG : G.length = 36) (hH : H.length = 36) (w : World) :
    Calls Try.prog 34 #[.agg (gcells gf gt G).toArray, .agg (gcells hf ht H).toArray] w (ThenPost gf ht G H w) := by
  have a0 := alloc3_0 w (.cells (gcells gf gt G).toArray 49) (.cells (gcells hf ht H).toArray 49) (.cells #[.int .i64 0, .int .i64 0, .int .u8 0, .int .u8 0, .int .u8 0, .int .u8 0, .int .u8 0, .int .u8 0, .int .u8 0, .int .u8 0, .int .u8 0, .int .u8 0, .int .u8 0, .int .u8 0, .int .u8 0, .int .u8 0, .int .u8 0, .int .u8 0, .int .u8 0, .int .u8 0, .int .u8 0, .int .u8 0, .int .u8 0, .int .u8 0, .int .u8 0, .int .u8 0, .int .u8 0, .int .u8 0, .int .u8 0, .int .u8 0, .int .u8 0, .int .u8 0, .int .u8 0, .int .u8 0, .int .u8 0, .int .u8 0, .int .u8 0, .int .u8 0] 49)
  have a1 := alloc3_1 w (.cells (gcells gf gt G).toArray 49) (.cells (gcells hf ht H).toArray 49) (.cells #[.int .i64 0, .int .i64 0, .int .u8 0, .int .u8 0, .int .u8 0, .int .u8 0, .int .u8 0, .int .u8 0, .int .u8 0, .int .u8 0, .int .u8 0, .int .u8 0, .int .u8 0, .int .u8 0, .int .u8 0, .int .u8 0, .int .u8 0, .int .u8 0, .int .u8 0, .int .u8 0, .int .u8 0, .int .u8 0, .int .u8 0, .int .u8 0, .int .u8 0, .int .u8 0, .int .u8 0, .int .u8 0, .int .u8 0, .int .u8 0, .int .u8 0, .int .u8 0, .int .u8 0, .int .u8 0, .int .u8 0, .int .u8 0, .int .u8 0, .int .u8 0] 49)
  have a2 := alloc3_2 w (.cells (gcells gf gt G).toArray 49) (.cells (gcells hf ht H).toArray 49) (.cells #[.int .i64 0, .int .i64 0, .int .u8 0, .int .u8 0, .int .u8 0, .int .u8 0, .int .u8 0, .int .u8 0, .int .u8 0, .int .u8 0, .int .u8 0, .int .u8 0, .int .u8 0, .int .u8 0, .int .u8 0, .int .u8 0, .int .u8 0, .int .u8 0, .int .u8 0, .int .u8 0, .int .u8 0, .int .u8 0, .int .u8 0, .int .u8 0, .int .u8 0, .int .u8 0, .int .u8 0, .int .u8 0, .int .u8 0, .int .u8 0, .int .u8 0, .int .u8 0, .int .u8 0, .int .u8 0, .int .u8 0, .int .u8 0, .int .u8 0, .int .u8 0] 49)
  have hs3 := alloc3_size w (.cells (gcells gf gt G).toArray 49) (.cells (gcells hf ht H).toArray 49) (.cells #[.int .i64 0, .int .i64 0, .int .u8 0, .int .u8 0, .int .u8 0, .int .u8 0, .int .u8 0, .int .u8 0, .int .u8 0, .int .u8 0, .int .u8 0, .int .u8 0, .int .u8 0, .int .u8 0, .int .u8 0, .int .u8 0, .int .u8 0, .int .u8 0, .int .u8 0, .int .u8 0, .int .u8 0, .int .u8 0, .int .u8 0, .int .u8 0, .int .u8 0, .int .u8 0, .int .u8 0, .int .u8 0, .int .u8 0, .int .u8 0, .int .u8 0, .int .u8 0, .int .u8 0, .int .u8 0, .int .u8 0, .int .u8 0, .int .u8 0, .int .u8 0] 49)
  have ab := alloc3_below w (.cells (gcells gf gt G).toArray 49) (.cells (gcells hf ht H).toArray 49) (.cells #[.int .i64 0, .int .i64 0, .int .u8 0, .int .u8 0, .int .u8 0, .int .u8 0, .int .u8 0, .int .u8 0, .int .u8 0, .int .u8 0, .int .u8 0, .int .u8 0, .int .u8 0, .int .u8 0, .int .u8 0, .int .u8 0, .int .u8 0, .int .u8 0, .int .u8 0, .int .u8 0, .int .u8 0, .int .u8 0, .int .u8 0, .int .u8 0, .int .u8 0, .int .u8 0, .int .u8 0, .int .u8 0, .int .u8 0, .int .u8 0, .int .u8 0, .int .u8 0, .int .u8 0, .int .u8 0, .int .u8 0, .int .u8 0, .int .u8 0, .int .u8 0] 49)
  obtain ⟨W3, hW3⟩ : ∃ W3, ((w.alloc (.cells (gcells gf gt G).toArray 49)).alloc (.cells (gcells hf ht H).toArray 49)).alloc (.cells #[.int .i64 0, .int .i64 0, .int .u8 0, .int .u8 0, .int .u8 0, .int .u8 0, .int .u8 0, .int .u8 0, .int .u8 0, .int .u8 0, .int .u8 0, .int .u8 0, .int .u8 0, .int .u8 0, .int .u8 0, .int .u8 0, .int .u8 0, .int .u8 0, .int .u8 0, .int .u8 0, .int .u8 0, .int .u8 0, .int .u8 0, .int .u8 0, .int .u8 0, .int .u8 0, .int .u8 0, .int .u8 0, .int .u8 0, .int .u8 0, .int .u8 0, .int .u8 0, .int .u8 0, .int .u8 0, .int .u8 0, .int .u8 0, .int .u8 0, .int .u8 0] 49) = W3 := ⟨_, rfl⟩
  rw [hW3] at a0 a1 a2 hs3 ab
  have q0 := GB.c0 (show GB W3 w.heap.size gf gt G from a0)
  have q1 := GB.c1 (show GB W3 (w.heap.size + 1) hf ht H from a1)
  have hb4 : Below W3.heap.size W3 (W3.alloc (.cells (gcells 0 0 z36).toArray 49)) := (Below.refl _ _).alloc (Nat.le_refl _) _
  have k4 := heap_alloc_new W3 (.cells (gcells 0 0 z36).toArray 49)
  rw [hs3] at k4
  have HK4 := Lib.hid k4
  have H4 := Lib.hid (show ThIs w gf gt hf ht G H 0 ((W3.alloc (.cells (gcells 0 0 z36).toArray 49)).setRow (w.heap.size + 3) (gcells gf ht z36).toArray) from by
    refine ⟨?_, ?_, ?_, setRow_heap _ (w.heap.size + 3) _ (gcells gf ht z36).toArray _ _ k4, below_setRow (below_step ab hb4) _ (by omega)⟩
    · exact (setRow_other _ (w.heap.size + 3) w.heap.size _ (by omega)).trans ((hb4.block _ (by omega)).trans a0)
    · exact (setRow_other _ (w.heap.size + 3) (w.heap.size + 1) _ (by omega)).trans ((hb4.block _ (by omega)).trans a1)
    · exact (setRow_other _ (w.heap.size + 3) (w.heap.size + 2) _ (by omega)).trans ((hb4.block _ (by omega)).trans a2))
  obtain ⟨W4, hW4⟩ : ∃ W4, (W3.alloc (.cells (gcells 0 0 z36).toArray 49)).setRow (w.heap.size + 3) (gcells gf ht z36).toArray = W4 := ⟨_, rfl⟩
  rw [hW4] at H4
  have HW4 := Lib.hid hW4
  have HG := Lib.hid hG
  have HH := Lib.hid hH
  have HIT := Lib.hid (show (Try.prog.info? 47).map (·.size) = some (tcells G).length by rw [infoTab]; simp [tcells, hG])
  clear a0 a1 a2 ab hb4 k4 hW4 hG hH
  go_enter Try.func34, Try.ntmps34
  go_wp2_with (first
    | (with_reducible refine at_build 49 _ ?_
       refine wpList_build_is rfl 49 _ rfl [(0, .int .i64 gf), (1, .int .i64 ht)] _ rfl (built_graph gf ht) ?_)
    | (with_reducible refine at_store 49 5 16 ?_
       refine wpList_store_row rfl 49 (.tmp 5) (.tmp 16) rfl (w.heap.size + 3) (gcells gf ht z36).toArray rfl rfl 49 _ HK4.out infoSAG rfl (gcells_one _ _ _) ?_
       erw [HW4.out])
    | (with_reducible refine at_load 47 17 ?_
       refine wpList_load_mid rfl 47 (.tmp 17) rfl w.heap.size 2 rfl (tcells G) _ (H4.out.g.tab HG.out) Try.underlying47 rfl HIT.out ?_))
  go_loopw [19] (fun v19 wr => ∃ a : Nat, v19 = .int .i64 (a : Int) ∧ a ≤ 6 ∧ ThIs w gf gt hf ht G H (36 * a) wr) (fun v19 _ => (6 - (intOf v19).toNat))
  case atStart => exact ⟨0, rfl, by omega, H4.out⟩
  case round =>
    obtain ⟨a, rfl, ha, hT⟩ := hrel
    have HTA := Lib.hid hT
    clear hT q0 q1
    by_cases ha6 : a < 6
    · have hd0 : decide ((a : Int) < 6) = true := decide_eq_true (by omega)
      have HWA := Lib.hid (show (wr.alloc (.cells rz6 45)).setRow wr.heap.size (rcells G a).toArray = wr.alloc (.cells (rcells G a).toArray 45) from World.setRow_alloc_new _ _ _ _)
      have HKA := Lib.hid (heap_alloc_new wr (.cells rz6 45))
      have HKB := Lib.hid (heap_alloc_new wr (.cells (rcells G a).toArray 45))
      have HTB := Lib.hid (HTA.out.below ((Below.refl wr.heap.size wr).alloc (Nat.le_refl _) (.cells (rcells G a).toArray 45)))
      obtain ⟨wA, hwA⟩ : ∃ wA, wr.alloc (.cells (rcells G a).toArray 45) = wA := ⟨_, rfl⟩
      rw [hwA] at HWA HKB HTB
      have HSR := Lib.hid (show (Try.prog.info? 45).map (·.size) = some (rcells G a).toArray.size by rw [infoRow]; simp [rcells])
      have HA6 := Lib.hid ha6
      clear hwA HTA ha6
      go_wp2_with (first
        | (with_reducible refine at_index 47 18 19 ?_
           refine wpList_index_is rfl 47 (.tmp 18) (.tmp 19) rfl (.agg (tcells G).toArray) (.int .i64 (a : Int)) _ rfl rfl (run_index_tab HG.out HA6.out _) ?_)
        | (with_reducible refine at_store 45 7 22 ?_
           refine wpList_store_row rfl 45 (.tmp 7) (.tmp 22) rfl wr.heap.size (rcells G a).toArray rfl rfl 45 _ HKA.out HSR.out rfl (rcells_one _ _) ?_
           erw [HWA.out])
        | (with_reducible refine at_load 45 7 ?_
           refine wpList_load_row rfl 45 (.tmp 7) rfl wr.heap.size rfl 45 _ (0, 0) _ HKB.out Try.underlying45 rfl HSR.out ?_))
      go_loopw [24] (fun v24 wq => ∃ o : Nat, v24 = .int .i64 (o : Int) ∧ o ≤ 6 ∧ ThIs w gf gt hf ht G H (36 * a + 6 * o) wq) (fun v24 _ => (6 - (intOf v24).toNat))
      case atStart => exact ⟨0, rfl, by omega, HTB.out⟩
      case round =>
        obtain ⟨o, rfl, ho, hT⟩ := hrel
        have HTO := Lib.hid hT
        clear hT HKA HKB HTB HWA
        by_cases ho6 : o < 6
        · have hd1 : decide ((o : Int) < 6) = true := decide_eq_true (by omega)
          have hi1 : (0 : Int) ≤ (o : Int) := by omega
          have hi2 : (o : Int) < 6 := by omega
          have HO6 := Lib.hid ho6
          have HIR := Lib.hid (show (Try.prog.info? 45).map (·.size) = some (rcells H o).length by rw [infoRow]; simp [rcells])
          clear ho6
          go_wp2_with (first
            | (with_reducible refine at_index 45 23 24 ?_
               refine wpList_index_is rfl 45 (.tmp 23) (.tmp 24) rfl (.agg (rcells G a).toArray) (.int .i64 (o : Int)) _ rfl rfl (run_index_row HO6.out _) ?_)
            | (with_reducible refine at_load 45 30 ?_
               refine wpList_load_mid rfl 45 (.tmp 30) rfl (w.heap.size + 1) (2 + o * 6) rfl (rcells H o) _ (HTO.out.h.row HH.out HO6.out) Try.underlying45 rfl HIR.out ?_))
          go_loopw [32] (fun v32 wq => ∃ b : Nat, v32 = .int .i64 (b : Int) ∧ b ≤ 6 ∧ ThIs w gf gt hf ht G H (36 * a + 6 * o + b) wq) (fun v32 _ => (6 - (intOf v32).toNat))
          case atStart => exact ⟨0, rfl, by omega, HTO.out⟩
          case round =>
            obtain ⟨b, rfl, hb, hT⟩ := hrel
            have HTB := Lib.hid hT
            clear hT HTO hi1 hi2 hd1
            by_cases hb6 : b < 6
            · have hd2 : decide ((b : Int) < 6) = true := decide_eq_true (by omega)
              have HB6 := Lib.hid hb6
              have HSTEP := Lib.hid (thenTo_step G H HA6.out HO6.out hb6)
              clear hb6
              obtain ⟨x, hx⟩ : ∃ x, gd G (6 * a + o) = x := ⟨_, rfl⟩
              obtain ⟨y, hy⟩ : ∃ y, gd H (6 * o + b) = y := ⟨_, rfl⟩
              have HXI := Lib.hid (show ∀ W : World, (Instr.index 45 (.agg (rcells H o).toArray) (.int .i64 (b : Int))).run Try.prog W = .ok (.int .u8 y) W from fun W => by rw [← hy]; exact run_index_row HB6.out W)
              rw [hx, hy] at HSTEP
              rw [hx]
              clear hx hy
              by_cases hxz : x = 0
              · have dx : (x != 0) = false := by simpa using hxz
                have HR := Lib.hid (HTB.out.same (n' := 36 * a + 6 * o + (b + 1)) (by rw [HSTEP.out, if_neg (fun h => h.1 hxz)]))
                clear hxz HSTEP
                go_wp2_with (first
                  | (with_reducible refine at_index 45 31 32 ?_
                     refine wpList_index_is rfl 45 (.tmp 31) (.tmp 32) rfl (.agg (rcells H o).toArray) (.int .i64 (b : Int)) _ rfl rfl (HXI.out _) ?_))
                go_roundw
                case rel => exact ⟨b + 1, by go_num, by have := HB6.out; omega, HR.out⟩
                case measure => (have := HB6.out; simp [intOf] <;> omega)
              · have dx : (x != 0) = true := by simpa using hxz
                by_cases hyz : y = 0
                · have dy : (y != 0) = false := by simpa using hyz
                  have HR := Lib.hid (HTB.out.same (n' := 36 * a + 6 * o + (b + 1)) (by rw [HSTEP.out, if_neg (fun h => h.2 hyz)]))
                  clear hxz hyz HSTEP
                  go_wp2_with (first
                    | (with_reducible refine at_index 45 31 32 ?_
                       refine wpList_index_is rfl 45 (.tmp 31) (.tmp 32) rfl (.agg (rcells H o).toArray) (.int .i64 (b : Int)) _ rfl rfl (HXI.out _) ?_))
                  go_roundw
                  case rel => exact ⟨b + 1, by go_num, by have := HB6.out; omega, HR.out⟩
                  case measure => (have := HB6.out; simp [intOf] <;> omega)
                · have dy : (y != 0) = true := by simpa using hyz
                  have hset := HSTEP.out
                  rw [if_pos ⟨hxz, hyz⟩] at hset
                  have hlen := thenTo_len G H (36 * a + 6 * o + b)
                  have sc : wr.cell? ⟨w.heap.size + 3, 2 + a * 6 + b, none⟩ = some (.int .u8 (gd (thenTo G H (36 * a + 6 * o + b)) (6 * a + b))) := by
                    rw [show 2 + a * 6 + b = 2 + (6 * a + b) by omega]
                    exact HTB.out.m.cell hlen (by have := HA6.out; have := HB6.out; omega)
                  have sf : wr.frozen? ⟨w.heap.size + 3, 2 + a * 6 + b, none⟩ = false := HTB.out.m.fz _
                  obtain ⟨m, hm⟩ : ∃ m, gd (thenTo G H (36 * a + 6 * o + b)) (6 * a + b) = m := ⟨_, rfl⟩
                  rw [hm] at sc hset
                  have HR := Lib.hid (show ∀ v : Int, v = max (max m x) y → ThIs w gf gt hf ht G H (36 * a + 6 * o + (b + 1)) (wr.drew.setCell ⟨w.heap.size + 3, 2 + a * 6 + b, none⟩ (.int .u8 v)) from fun v hv => by
                    subst hv
                    rw [show 2 + a * 6 + b = 2 + (6 * a + b) by omega]
                    exact HTB.out.drew.put hset)
                  have hj1 : (0 : Int) ≤ (a : Int) := by omega
                  have hj2 : (a : Int) < 6 := by have := HA6.out; omega
                  have hj3 : (0 : Int) ≤ (b : Int) := by omega
                  have hj4 : (b : Int) < 6 := by have := HB6.out; omega
                  clear hxz hyz HSTEP hset hm hlen
                  go_wp2_with (first
                    | (with_reducible refine at_index 45 31 32 ?_
                       refine wpList_index_is rfl 45 (.tmp 31) (.tmp 32) rfl (.agg (rcells H o).toArray) (.int .i64 (b : Int)) _ rfl rfl (HXI.out _) ?_))
                  go_still_tail 14, (by kernel_rfl)
                  change wpList _ _ _ _ _ wr.drew
                  have sc' : wr.drew.cell? ⟨w.heap.size + 3, 2 + a * 6 + b, none⟩ = some (.int .u8 m) := sc
                  have sf' : wr.drew.frozen? ⟨w.heap.size + 3, 2 + a * 6 + b, none⟩ = false := sf
                  go_wp2
                  go_roundw
                  case rel => exact ⟨b + 1, by go_num, by have := HB6.out; omega, HR.out _ (by (repeat' split) <;> omega)⟩
                  case measure => (have := HB6.out; simp [intOf] <;> omega)
            · obtain rfl : b = 6 := by omega
              have hd2 : decide ((6 : Int) < 6) = false := by simp
              have HR := Lib.hid (show ThIs w gf gt hf ht G H (36 * a + 6 * (o + 1)) wr from by rw [show 36 * a + 6 * (o + 1) = 36 * a + 6 * o + 6 by omega]; exact HTB.out)
              clear HTB
              go_wp2
              go_roundw
              case rel => exact ⟨o + 1, by go_num, by have := HO6.out; omega, HR.out⟩
              case measure => (have := HO6.out; simp [intOf] <;> omega)
        · obtain rfl : o = 6 := by omega
          have hd1 : decide ((6 : Int) < 6) = false := by simp
          have HR := Lib.hid (show ThIs w gf gt hf ht G H (36 * (a + 1)) wr from by rw [show 36 * (a + 1) = 36 * a + 6 * 6 by omega]; exact HTO.out)
          clear HTO
          go_wp2
          go_roundw
          case rel => exact ⟨a + 1, by go_num, by have := HA6.out; omega, HR.out⟩
          case measure => (have := HA6.out; simp [intOf] <;> omega)
    · obtain rfl : a = 6 := by omega
      have hd0 : decide ((6 : Int) < 6) = false := by simp
      have hM : (thenTo G H (36 * 6)).length = 36 := thenTo_len _ _ _
      have HN := Lib.hid (show ThenPost gf ht G H w (.returned (.agg (gcells gf ht (thenTo G H (36 * 6))).toArray)) (wr.setRow (w.heap.size + 2) (gcells gf ht (thenTo G H (36 * 6))).toArray) from
        ⟨rfl, below_setRow HTA.out.b _ (by omega)⟩)
      have HNR := Lib.hid (setRow_heap wr (w.heap.size + 2) _ (gcells gf ht (thenTo G H (36 * 6))).toArray _ _ HTA.out.r)
      have HSZ := Lib.hid (gcells_size (f := gf) (t := ht) hM)
      have HSY := Lib.hid (z36_size (f := gf) (t := ht) hM)
      have HMM := Lib.hid HTA.out.m
      clear hM ha6
      generalize thenTo G H (36 * 6) = M at *
      go_wp2_with (first
        | (with_reducible refine at_load 49 5 ?_
           refine wpList_load_row rfl 49 (.tmp 5) rfl (w.heap.size + 3) rfl 49 _ (0, 0) _ HMM.out Try.underlying49 rfl HSZ.out ?_)
        | (with_reducible refine at_store 49 4 59 ?_
           refine wpList_store_row rfl 49 (.tmp 4) (.tmp 59) rfl (w.heap.size + 2) (gcells gf ht M).toArray rfl rfl 49 _ HTA.out.r HSZ.out HSY.out (gcells_one _ _ _) ?_))
      refine bodyPost_ret (results_cell_row rfl _ _ (w.heap.size + 2) 49 (gcells gf ht M).toArray (0, 0) _ (by rfl) HNR.out Try.underlying49 rfl HSZ.out) rfl ?_
      exact HN.out

end Go.Proofs.Ytgjmefcognoepaa.Pr
