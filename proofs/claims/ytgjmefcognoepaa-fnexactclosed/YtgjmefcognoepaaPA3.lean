/-
  THE WALK over impl.newArcGraph.
-/
import Derived.Test.YtgjmefcognoepaaPA2
namespace Go.Proofs.Ytgjmefcognoepaa.Pr
open Go Go.RowKit Go.Maps Go.WideMaps

set_option maxRecDepth 100000 in
set_option maxHeartbeats 4000000 in
theorem newArc_any (g : Gr) (vs : List Value) (S : Nat → Prop) (w : World) (hF : FGr S w vs g) (hS : ∀ b, S b → b < w.heap.size) (hl : g.rs.length ≤ 1048576) :
    Calls Try.prog 16 #[.agg vs.toArray] w (NewPost g w) := by
  obtain ⟨ars, crs, rfl, r0⟩ := hF
  -- the worlds ahead of the loop
  have ha0 := alloc3_0 w (.cells #[.int .i64 g.f, .int .i64 g.t, .slice ars g.rs.length crs] 38) (.cells (gcells 0 0 z36).toArray 49) (.cells (gcells 0 0 z36).toArray 49)
  have ha1 := alloc3_1 w (.cells #[.int .i64 g.f, .int .i64 g.t, .slice ars g.rs.length crs] 38) (.cells (gcells 0 0 z36).toArray 49) (.cells (gcells 0 0 z36).toArray 49)
  have ha2 := alloc3_2 w (.cells #[.int .i64 g.f, .int .i64 g.t, .slice ars g.rs.length crs] 38) (.cells (gcells 0 0 z36).toArray 49) (.cells (gcells 0 0 z36).toArray 49)
  have hab := alloc3_below w (.cells #[.int .i64 g.f, .int .i64 g.t, .slice ars g.rs.length crs] 38) (.cells (gcells 0 0 z36).toArray 49) (.cells (gcells 0 0 z36).toArray 49)
  have H0 : GB _ _ g.f g.t z36 := setRow_heap _ (w.heap.size + 2) _ (gcells g.f g.t z36).toArray _ _ ha2
  have H1 := (setRow_other _ (w.heap.size + 2) (w.heap.size) (gcells g.f g.t z36).toArray (by omega)).trans ha0
  have H2 := (setRow_other _ (w.heap.size + 2) (w.heap.size + 1) (gcells g.f g.t z36).toArray (by omega)).trans ha1
  have H3 := below_setRow hab (g := w.heap.size + 2) (gcells g.f g.t z36).toArray (by omega)
  obtain ⟨W1, hW1⟩ : ∃ W1, World.setRow (((w.alloc (.cells #[.int .i64 g.f, .int .i64 g.t, .slice ars g.rs.length crs] 38)).alloc (.cells (gcells 0 0 z36).toArray 49)).alloc (.cells (gcells 0 0 z36).toArray 49)) (w.heap.size + 2) (gcells g.f g.t z36).toArray = W1 := ⟨_, rfl⟩
  rw [hW1] at H0 H1 H2 H3
  have HA2 := Lib.hid ha2
  have HW1 := Lib.hid hW1
  have HK0 := Lib.hid H0
  have HK1 := Lib.hid H1
  have HK2 := Lib.hid H2
  have HB := Lib.hid H3
  have HR := Lib.hid (fun (W : World) (hW : Below w.heap.size w W) => RowIn.kept FAr_keeps r0 (Same.below hS hW))
  obtain ⟨q0, q1, q2, -, -, -⟩ := cells3 H1
  clear ha0 ha1 ha2 hab H0 H1 H2 H3 hW1 r0 hS
  go_enter Try.func16, Try.ntmps16
  go_wp2_with (first
    | (with_reducible refine at_build 49 _ ?_
       refine wpList_build_is rfl 49 _ rfl [(0, .int .i64 g.f), (1, .int .i64 g.t)] _ rfl (built_graph g.f g.t) ?_)
    | (with_reducible refine at_store 49 4 12 ?_
       refine wpList_store_row rfl 49 (.tmp 4) (.tmp 12) rfl (w.heap.size + 2) (gcells g.f g.t z36).toArray rfl rfl 49 _ HA2.out infoSAG rfl (gcells_one _ _ _) ?_
       erw [HW1.out]))
  go_loopw [5, 16] (fun v5 v16 wr => NgRel w W1 g v5 v16 wr) (fun _ v16 _ => (g.rs.length - (intOf v16).toNat))
  case atStart => exact ⟨0, -1, z36, rfl, rfl, Nat.zero_le _, ⟨fun _ => rfl, fun j h e => by omega⟩, Tab.nil, fun i h h2 => by omega, fun i h h2 => by omega, HK0.out, HB.out, rfl, rfl⟩
  case round =>
    obtain ⟨k, z, L, rfl, rfl, hk, hlast, hT, hin, hup, hgb, hb, hp0, hp1⟩ := hrel
    have HGB := Lib.hid hgb
    have HBW := Lib.hid hb
    have HP0 := Lib.hid (hp0.trans HK1.out)
    have HP1 := Lib.hid (hp1.trans HK2.out)
    have HPP := Lib.hid (And.intro hp0 hp1)
    have HT := Lib.hid hT
    have hws := hgb.lt
    clear hgb hb hp0 hp1 hT q0 q1 q2
    by_cases hlt : k < g.rs.length
    · have hd0 : decide ((k : Int) < (g.rs.length : Int)) = true := decide_eq_true (by omega)
      obtain ⟨b, off, vs, rfl, hSb, hvn, hcc, hFF⟩ := HR.out _ HBW.out k hlt
      obtain rfl := hFF
      have x0 : wr.cell? ⟨b, off + k * 3, none⟩ = some (.int .i64 g.rs[k].a) := hcc 0 (by simp)
      have x1 : wr.cell? ⟨b, off + k * 3 + 1, none⟩ = some (.int .i64 g.rs[k].b) := hcc 1 (by simp)
      have x2 : wr.cell? ⟨b, off + k * 3 + 2, none⟩ = some (.bool g.rs[k].s) := hcc 2 (by simp)
      have hbE : Below wr.heap.size wr (wr.alloc (.cells #[.int .i64 g.rs[k].a, .int .i64 g.rs[k].b, .bool g.rs[k].s] 59)) := (Below.refl _ _).alloc (Nat.le_refl _) _
      have kE := heap_alloc_new wr (.cells #[.int .i64 g.rs[k].a, .int .i64 g.rs[k].b, .bool g.rs[k].s] 59)
      obtain ⟨⟨xa, xb, xs⟩, hx⟩ : ∃ x, g.rs[k] = x := ⟨_, rfl⟩
      have HHX := Lib.hid hx
      rw [hx] at x0 x1 x2 hbE kE
      dsimp only at x0 x1 x2 hbE kE
      obtain ⟨wE, hwE⟩ : ∃ wE, wr.alloc (.cells #[.int .i64 xa, .int .i64 xb, .bool xs] 59) = wE := ⟨_, rfl⟩
      rw [hwE] at hbE kE
      have HBE := Lib.hid (below_step HBW.out hbE)
      have HGE := Lib.hid (HGB.out.below hbE)
      have HE1 := Lib.hid ((hbE.block _ (by omega : w.heap.size + 1 < wr.heap.size)).trans HP1.out)
      have HE0 := Lib.hid ((hbE.block _ (by omega : w.heap.size < wr.heap.size)).trans HP0.out)
      have HEE := Lib.hid (And.intro ((hbE.block _ (by omega : w.heap.size < wr.heap.size)).trans HPP.out.1) ((hbE.block _ (by omega : w.heap.size + 1 < wr.heap.size)).trans HPP.out.2))
      have hwEs : wr.heap.size < wE.heap.size := lt_of_block kE
      obtain ⟨e0, e1, e2, -, -, -⟩ := cells3 kE
      have HA := Lib.hid (arcPlace_any xa)
      have HBb := Lib.hid (arcPlace_any xb)
      have HIN := Lib.hid hin
      have HUP := Lib.hid hup
      have HLAST := Lib.hid hlast
      clear hcc hvn hSb hx kE hbE hin hup hlast
      -- not right: nothing
      have HNO := Lib.hid (show ¬ RightA g.rs → NewPost g w (.returned (.tuple #[.agg (gcells 0 0 z36).toArray, .bool false])) (wE.setRow (w.heap.size + 1) (gcells 0 0 z36).toArray) from
        fun hn => ⟨.inr ⟨rfl, hn⟩, below_setRow HBE.out (g := w.heap.size + 1) (gcells 0 0 z36).toArray (by omega)⟩)
      have HNR := Lib.hid (setRow_heap wE (w.heap.size + 1) _ (gcells 0 0 z36).toArray _ _ HE1.out)
      go_wp2_with fail
      refine (HA.out wE).mono ?_
      rintro e w2 ⟨rfl, rfl⟩
      cases hA : (decide (0 ≤ xa) && decide (xa < 6)) with
      | false =>
        have HN := Lib.hid (HNO.out (fun R => by have h1 := (R.pl k hlt).1; rw [HHX.out] at h1; unfold inA at h1; dsimp only at h1; simp at hA; omega))
        clear HNO hA HA HBb
        go_wp2_with (first
          | (with_reducible refine at_build 49 _ ?_
             refine wpList_build_is rfl 49 _ rfl [] _ rfl built_none ?_)
          | (with_reducible refine at_store 49 2 40 ?_
             refine wpList_store_row rfl 49 (.tmp 2) (.tmp 40) rfl (w.heap.size + 1) (gcells 0 0 z36).toArray rfl rfl 49 _ HE1.out infoSAG rfl (gcells_one _ _ _) ?_))
        refine bodyPost_ret (results_row_two rfl _ _ (w.heap.size + 1) 49 (gcells 0 0 z36).toArray (0, 0) _ (by rfl) HNR.out Try.underlying49 rfl infoSAG) rfl ?_
        exact HN.out
      | true =>
      go_wp2_with fail
      refine (HBb.out w2).mono ?_
      rintro e w3 ⟨rfl, rfl⟩
      cases hB : (decide (0 ≤ xb) && decide (xb < 6)) with
      | false =>
        have HN := Lib.hid (HNO.out (fun R => by have h1 := (R.pl k hlt).2; rw [HHX.out] at h1; unfold inA at h1; dsimp only at h1; simp at hB; omega))
        clear HNO hA hB HA HBb
        go_wp2_with (first
          | (with_reducible refine at_build 49 _ ?_
             refine wpList_build_is rfl 49 _ rfl [] _ rfl built_none ?_)
          | (with_reducible refine at_store 49 2 40 ?_
             refine wpList_store_row rfl 49 (.tmp 2) (.tmp 40) rfl (w.heap.size + 1) (gcells 0 0 z36).toArray rfl rfl 49 _ HE1.out infoSAG rfl (gcells_one _ _ _) ?_))
        refine bodyPost_ret (results_row_two rfl _ _ (w.heap.size + 1) 49 (gcells 0 0 z36).toArray (0, 0) _ (by rfl) HNR.out Try.underlying49 rfl infoSAG) rfl ?_
        exact HN.out
      | true =>
      obtain ⟨a, ha6, rfl⟩ : ∃ a : Nat, a < 6 ∧ xa = (a : Int) := ⟨xa.toNat, by simp at hA; omega, by simp at hA; omega⟩
      obtain ⟨c, hc6, rfl⟩ : ∃ c : Nat, c < 6 ∧ xb = (c : Int) := ⟨xb.toNat, by simp at hB; omega, by simp at hB; omega⟩
      have m1 : IntKind.i64.wrap ((a : Int) * 6) = (a : Int) * 6 := IntWalk.i64_in _ (by omega)
      have m2 : IntKind.i64.wrap ((a : Int) * 6 + (c : Int)) = (a : Int) * 6 + (c : Int) := IntWalk.i64_in _ (by omega)
      clear hA hB HA HBb
      by_cases hlk : (a : Int) * 6 + (c : Int) ≤ z
      · have hd1 : decide ((a : Int) * 6 + (c : Int) ≤ z) = true := decide_eq_true hlk
        have HN := Lib.hid (HNO.out (fun R => by
          obtain ⟨h1, h2⟩ := HLAST.out
          cases k with
          | zero => have := h1 rfl; omega
          | succ j =>
            have h3 := h2 j (by omega) rfl
            have h4 := R.up j hlt
            have h5 := R.pl j (by omega)
            rw [HHX.out] at h4
            unfold arcKey at h4
            unfold inA at h5
            dsimp only at h4
            omega))
        clear HNO hlk
        go_wp2_with (first
          | (with_reducible refine at_build 49 _ ?_
             refine wpList_build_is rfl 49 _ rfl [] _ rfl built_none ?_)
          | (with_reducible refine at_store 49 2 40 ?_
             refine wpList_store_row rfl 49 (.tmp 2) (.tmp 40) rfl (w.heap.size + 1) (gcells 0 0 z36).toArray rfl rfl 49 _ HE1.out infoSAG rfl (gcells_one _ _ _) ?_))
        refine bodyPost_ret (results_row_two rfl _ _ (w.heap.size + 1) 49 (gcells 0 0 z36).toArray (0, 0) _ (by rfl) HNR.out Try.underlying49 rfl infoSAG) rfl ?_
        exact HN.out
      · have hd1 : decide ((a : Int) * 6 + (c : Int) ≤ z) = false := decide_eq_false hlk
        have HSTEP := Lib.hid (show NgRel w W1 g (.int .i64 ((a : Int) * 6 + (c : Int))) (.int .i64 ((k : Int) + 1)) (w3.drew.setCell ⟨w.heap.size + 2, 2 + (6 * a + c), none⟩ (.int .u8 (strOf xs))) from by
          have hpl : ∀ i (h : i < g.rs.length), i < k + 1 → inA g.rs[i].a ∧ inA g.rs[i].b := fun i h h2 => by
            by_cases hik : i = k
            · subst hik; rw [HHX.out]; unfold inA; dsimp only; omega
            · exact HIN.out i h (by omega)
          have hlz : ∀ j (h : j < g.rs.length), k = j + 1 → 6 * g.rs[j].a + g.rs[j].b < 6 * (a : Int) + (c : Int) := fun j h e => by
            have := HLAST.out.2 j h e; omega
          have hkup : ∀ i (h : i + 1 < g.rs.length), i + 1 < k + 1 → arcKey g.rs[i] < arcKey g.rs[i + 1] := fun i h h2 => by
            by_cases hik : i + 1 = k
            · have h3 := hlz i (by omega) hik.symm
              have h5 := hpl i (by omega) (by omega)
              subst hik
              rw [HHX.out]
              unfold arcKey
              unfold inA at h5
              dsimp only
              omega
            · exact HUP.out i h (by omega)
          refine ⟨k + 1, _, L.set (6 * a + c) (strOf xs), by go_num, rfl, by omega, ⟨fun h => by omega, fun j h e => ?_⟩, ?_, hpl, hkup, ?_, ?_, ?_, ?_⟩
          · obtain rfl : k = j := by omega
            rw [HHX.out]; dsimp only; omega
          · rw [List.take_succ_eq_append_getElem hlt, HHX.out]
            have hn := key_apart (l := g.rs.take k) (x := ⟨(a : Int), (c : Int), xs⟩) (fun i h => by
              rw [List.length_take] at h; rw [List.getElem_take]; exact hpl i (by omega) (by omega)) (fun i h => by
              rw [List.length_take] at h; rw [List.getElem_take, List.getElem_take]; exact hkup i (by omega) (by omega)) (by unfold inA; dsimp only; omega) (fun h => by
              have e : (g.rs.take k).length = k := by rw [List.length_take]; omega
              rw [e] at h
              have := hlz (k - 1) (by omega) (by omega)
              simp only [e, List.getElem_take]
              exact this)
            exact HT.out.snoc ha6 hc6 rfl rfl hn
          · exact GB.set (show GB w3.drew (w.heap.size + 2) g.f g.t L from HGE.out) (6 * a + c) (strOf xs)
          · exact below_set (below_drew HBE.out) _ _ (by omega)
          · rw [heap_setCell_other _ ⟨w.heap.size + 2, _, none⟩ _ _ (show w.heap.size ≠ w.heap.size + 2 by omega)]; exact HEE.out.1
          · rw [heap_setCell_other _ ⟨w.heap.size + 2, _, none⟩ _ _ (show w.heap.size + 1 ≠ w.heap.size + 2 by omega)]; exact HEE.out.2)
        have HSA := Lib.hid (strength_any xs w3.drew)
        have sc : w3.drew.cell? ⟨w.heap.size + 2, 2 + (6 * a + c), none⟩ = some (.int .u8 (gd L (6 * a + c))) := GB.cell (show GB w3.drew (w.heap.size + 2) g.f g.t L from HGE.out) HT.out.len (by omega)
        have sf : w3.drew.frozen? ⟨w.heap.size + 2, 2 + (6 * a + c), none⟩ = false := GB.fz (show GB w3.drew (w.heap.size + 2) g.f g.t L from HGE.out) _
        clear HNO hlk
        go_wp2_with fail
        have hi1 : (0 : Int) ≤ (a : Int) := by omega
        have hi2 : (a : Int) < 6 := by omega
        have hi3 : (0 : Int) ≤ (c : Int) := by omega
        have hi4 : (c : Int) < 6 := by omega
        rw [show 2 + (6 * a + c) = 2 + a * 6 + c by omega] at sc sf HSTEP
        go_still_tail 10, (by kernel_rfl)
        still_call (HSA.out)
        repeat still_step
        refine wpStill_nil ?_
        change wpList _ _ _ _ _ w3.drew
        go_wp2
        go_roundw
        case rel => exact HSTEP.out
        case measure => (simp [intOf] <;> omega)
    · obtain rfl : k = g.rs.length := by omega
      have hd0 : decide ((g.rs.length : Int) < (g.rs.length : Int)) = false := by simp
      have hTL : Tab L g.rs := by have := HT.out; rwa [List.take_length] at this
      have HN := Lib.hid (show NewPost g w (.returned (.tuple #[.agg (gcells g.f g.t L).toArray, .bool true])) (wr.setRow (w.heap.size + 1) (gcells g.f g.t L).toArray) from
        ⟨.inl ⟨L, rfl, hTL, ⟨fun i h => hin i h h, fun i h => hup i h h⟩⟩, below_setRow HBW.out (g := w.heap.size + 1) (gcells g.f g.t L).toArray (by omega)⟩)
      have HNR := Lib.hid (setRow_heap wr (w.heap.size + 1) _ (gcells g.f g.t L).toArray _ _ HP1.out)
      have HSZ := Lib.hid (show (Try.prog.info? 49).map (·.size) = some (gcells g.f g.t L).toArray.size by rw [infoSAG, List.size_toArray, gcells_len hTL.len])
      have HSY := Lib.hid (show (gcells 0 0 z36).toArray.size = (gcells g.f g.t L).toArray.size by rw [List.size_toArray, List.size_toArray, gcells_len hTL.len]; rfl)
      clear hin hup hlast hTL
      go_wp2_with (first
        | (with_reducible refine at_load 49 4 ?_
           refine wpList_load_row rfl 49 (.tmp 4) rfl (w.heap.size + 2) rfl 49 _ (0, 0) _ HGB.out Try.underlying49 rfl HSZ.out ?_)
        | (with_reducible refine at_store 49 2 58 ?_
           refine wpList_store_row rfl 49 (.tmp 2) (.tmp 58) rfl (w.heap.size + 1) (gcells g.f g.t L).toArray rfl rfl 49 _ HP1.out HSZ.out HSY.out (gcells_one _ _ _) ?_))
      refine bodyPost_ret (results_row_two rfl _ _ (w.heap.size + 1) 49 (gcells g.f g.t L).toArray (0, 0) _ (by rfl) HNR.out Try.underlying49 rfl HSZ.out) rfl ?_
      exact HN.out

end Go.Proofs.Ytgjmefcognoepaa.Pr
