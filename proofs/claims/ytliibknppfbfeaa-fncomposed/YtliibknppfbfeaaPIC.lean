/-
  impl.Compose answers as the reference does.
-/
import Derived.Test.YtliibknppfbfeaaPA7
import Derived.Test.YtliibknppfbfeaaPLC
namespace Go.Proofs.Ytliibknppfbfeaa.Pr
open Go Go.RowKit Go.Maps Go.WideMaps

theorem NewPost.any {g : Gr} {w : World} {e : Ending} {w' : World} (h : NewPost g w e w') : ∃ (f t : Int) (L : List Int) (ok : Bool), e = .returned (.tuple #[.agg (gcells f t L).toArray, .bool ok]) ∧ L.length = 36 ∧ (ok = true → f = g.f ∧ t = g.t ∧ Tab L g.rs ∧ RightA g.rs) ∧ (ok = false → ¬ RightA g.rs) ∧ Below w.heap.size w w' := by
  obtain ⟨h1, hb⟩ := h
  rcases h1 with ⟨L, rfl, hT, hR⟩ | ⟨rfl, hR⟩
  · exact ⟨_, _, L, true, rfl, hT.len, fun _ => ⟨rfl, rfl, hT, hR⟩, fun h => (by cases h), hb⟩
  · exact ⟨_, _, z36, false, rfl, by simp, fun h => (by cases h), fun _ => hR, hb⟩

set_option maxRecDepth 100000 in
set_option maxHeartbeats 4000000 in
theorem implCompose : ImplCompose := by
  intro g h vg vh S w hF1 hF2 hS hl1 hl2
  have hG := hF1
  have hH := hF2
  obtain ⟨ag, cg, rfl, r1⟩ := hF1
  obtain ⟨ah, ch, rfl, r2⟩ := hF2
  have hb0 := alloc3_below w (.cells #[.int .i64 g.f, .int .i64 g.t, .slice ag g.rs.length cg] 26) (.cells #[.int .i64 h.f, .int .i64 h.t, .slice ah h.rs.length ch] 26) (.cells #[.int .i64 0, .int .i64 0, .slice none 0 0] 26)
  have k0 := alloc3_0 w (.cells #[.int .i64 g.f, .int .i64 g.t, .slice ag g.rs.length cg] 26) (.cells #[.int .i64 h.f, .int .i64 h.t, .slice ah h.rs.length ch] 26) (.cells #[.int .i64 0, .int .i64 0, .slice none 0 0] 26)
  have k1 := alloc3_1 w (.cells #[.int .i64 g.f, .int .i64 g.t, .slice ag g.rs.length cg] 26) (.cells #[.int .i64 h.f, .int .i64 h.t, .slice ah h.rs.length ch] 26) (.cells #[.int .i64 0, .int .i64 0, .slice none 0 0] 26)
  have k2 := alloc3_2 w (.cells #[.int .i64 g.f, .int .i64 g.t, .slice ag g.rs.length cg] 26) (.cells #[.int .i64 h.f, .int .i64 h.t, .slice ah h.rs.length ch] 26) (.cells #[.int .i64 0, .int .i64 0, .slice none 0 0] 26)
  obtain ⟨w0, hw0⟩ : ∃ w0, ((w.alloc (.cells #[.int .i64 g.f, .int .i64 g.t, .slice ag g.rs.length cg] 26)).alloc (.cells #[.int .i64 h.f, .int .i64 h.t, .slice ah h.rs.length ch] 26)).alloc (.cells #[.int .i64 0, .int .i64 0, .slice none 0 0] 26) = w0 := ⟨_, rfl⟩
  rw [hw0] at hb0 k0 k1 k2
  have HN1 := Lib.hid (newArc_any g _ S w0 (FGr_keeps.1 _ _ _ _ _ hG (Same.below hS hb0)) (fun b hb => Nat.lt_of_lt_of_le (hS b hb) hb0.size) hl1)
  have HH := Lib.hid (fun (W : World) (hW : Below w.heap.size w W) => newArc_any h _ S W (FGr_keeps.1 _ _ _ _ _ hH (Same.below hS hW)) (fun b hb => Nat.lt_of_lt_of_le (hS b hb) hW.size) hl2)
  have HB0 := Lib.hid hb0
  have HK1 := Lib.hid k1
  have HK2 := Lib.hid k2
  obtain ⟨g0, g1, g2, -, -, -⟩ := cells3 k0
  clear hG hH hS r1 r2 hb0 k0 k1 k2
  go_enter Try.func8, Try.ntmps8
  go_wp2_with fail
  refine HN1.out.mono ?_
  rintro e w1 he
  obtain ⟨f1, t1, L1, ok1, rfl, hL1, hy1, hn1, hb1⟩ := he.any
  clear he g0 g1 g2 hw0 HN1
  -- the first graph's block
  have HB1 := Lib.hid (below_step HB0.out hb1)
  have HZ1 := Lib.hid (heap_alloc_new w1 (.cells (gcells 0 0 z36).toArray 50))
  have hgb := setRow_heap _ w1.heap.size _ (gcells f1 t1 L1).toArray _ _ HZ1.out
  have hbl := below_setRow (below_alloc HB1.out (.cells (gcells 0 0 z36).toArray 50)) (g := w1.heap.size) (gcells f1 t1 L1).toArray HB1.out.size
  have hk1 := (setRow_other _ w1.heap.size (w.heap.size + 1) (gcells f1 t1 L1).toArray (by have := lt_of_block HK1.out; have := hb1.size; omega)).trans (((below_alloc (Below.refl w1.heap.size w1) (.cells (gcells 0 0 z36).toArray 50)).block _ (by have := lt_of_block HK1.out; have := hb1.size; omega)).trans ((hb1.block _ (lt_of_block HK1.out)).trans HK1.out))
  have hk2 := (setRow_other _ w1.heap.size (w.heap.size + 2) (gcells f1 t1 L1).toArray (by have := lt_of_block HK2.out; have := hb1.size; omega)).trans (((below_alloc (Below.refl w1.heap.size w1) (.cells (gcells 0 0 z36).toArray 50)).block _ (by have := lt_of_block HK2.out; have := hb1.size; omega)).trans ((hb1.block _ (lt_of_block HK2.out)).trans HK2.out))
  obtain ⟨w2, hw2⟩ : ∃ w2, (w1.alloc (.cells (gcells 0 0 z36).toArray 50)).setRow w1.heap.size (gcells f1 t1 L1).toArray = w2 := ⟨_, rfl⟩
  rw [hw2] at hgb hbl hk1 hk2
  have HGA := Lib.hid (show GB w2 w1.heap.size f1 t1 L1 from hgb)
  have HB2 := Lib.hid hbl
  have HW2 := Lib.hid hw2
  have HSZ1 := Lib.hid (gcells_size (f := f1) (t := t1) hL1)
  have HSY1 := Lib.hid (z36_size (f := f1) (t := t1) hL1)
  have HL1 := Lib.hid hL1
  have HY1 := Lib.hid hy1
  have HNO1 := Lib.hid hn1
  have HK1b := Lib.hid hk1
  have HK2b := Lib.hid hk2
  obtain ⟨h0, h1, h2, -, -, -⟩ := cells3 hk1
  have HB1w := Lib.hid (show w.heap.size + 3 ≤ w1.heap.size by have := lt_of_block HK2.out; have := hb1.size; omega)
  clear hb1 hgb hbl hw2 hL1 hy1 hn1 hk1 hk2 HK1 HK2
  go_wp2_with (first
    | (with_reducible refine at_store 50 6 13 ?_
       refine wpList_store_row rfl 50 (.tmp 6) (.tmp 13) rfl w1.heap.size (gcells f1 t1 L1).toArray rfl rfl 50 _ HZ1.out HSZ1.out HSY1.out (gcells_one _ _ _) ?_
       erw [HW2.out])
    | fail)
  obtain ⟨B1, hB1⟩ : ∃ B1, w1.heap.size = B1 := ⟨_, rfl⟩
  rw [hB1] at HGA HB1w ⊢
  clear hB1 HZ1 HW2 HSY1 HB1
  refine (HH.out w2 HB2.out).mono ?_
  rintro e w3 he
  obtain ⟨f2, t2, L2, ok2, rfl, hL2, hy2, hn2, hb3⟩ := he.any
  clear he h0 h1 h2 HH
  -- the second graph's block
  have HB3 := Lib.hid (below_step HB2.out hb3)
  have HZ3 := Lib.hid (heap_alloc_new w3 (.cells (gcells 0 0 z36).toArray 50))
  have hgb := setRow_heap _ w3.heap.size _ (gcells f2 t2 L2).toArray _ _ HZ3.out
  have hbl := below_setRow (below_alloc HB3.out (.cells (gcells 0 0 z36).toArray 50)) (g := w3.heap.size) (gcells f2 t2 L2).toArray HB3.out.size
  have hkeep : ∀ j, j < w2.heap.size → ((w3.alloc (.cells (gcells 0 0 z36).toArray 50)).setRow w3.heap.size (gcells f2 t2 L2).toArray).heap[j]? = w2.heap[j]? := fun j hj =>
    (setRow_other _ w3.heap.size j _ (by have := hb3.size; omega)).trans (((below_alloc (Below.refl w3.heap.size w3) (.cells (gcells 0 0 z36).toArray 50)).block _ (by have := hb3.size; omega)).trans (hb3.block _ hj))
  obtain ⟨w4, hw4⟩ : ∃ w4, (w3.alloc (.cells (gcells 0 0 z36).toArray 50)).setRow w3.heap.size (gcells f2 t2 L2).toArray = w4 := ⟨_, rfl⟩
  rw [hw4] at hgb hbl hkeep
  have HGB := Lib.hid (show GB w4 w3.heap.size f2 t2 L2 from hgb)
  have HGA4 := Lib.hid (show GB w4 B1 f1 t1 L1 from (hkeep _ HGA.out.lt).trans HGA.out)
  have hk2 := (hkeep _ (lt_of_block HK2b.out)).trans HK2b.out
  have HK2c := Lib.hid hk2
  have HB4 := Lib.hid hbl
  have HW4 := Lib.hid hw4
  have HSZ2 := Lib.hid (gcells_size (f := f2) (t := t2) hL2)
  have HSY2 := Lib.hid (z36_size (f := f2) (t := t2) hL2)
  have HL2 := Lib.hid hL2
  have HY2 := Lib.hid hy2
  have HNO2 := Lib.hid hn2
  have HB3w := Lib.hid (show w.heap.size + 3 ≤ w3.heap.size by have := HB1w.out; have := HGA.out.lt; have := hb3.size; omega)
  clear hb3 hgb hbl hw4 hL2 hy2 hn2 hk2 hkeep HK1b HK2b HGA
  have a1 := HGA4.out.c1
  have a2 := HGB.out.c0
  -- the two ways out
  have HNOT := Lib.hid (show ∀ (_ : ¬ (RightA g.rs ∧ RightA h.rs ∧ g.t = h.f)), CmpPost g h w (.returned (.tuple #[.agg #[.int .i64 0, .int .i64 0, .slice none 0 0], .bool false])) (((w4.setCell ⟨w.heap.size + 2, 0, none⟩ (.int .i64 0)).setCell ⟨w.heap.size + 2, 1, none⟩ (.int .i64 0)).setCell ⟨w.heap.size + 2, 2, none⟩ (.slice none 0 0)) from fun hno => by
    refine ⟨.slice none 0 0, by rw [compAns_no hno], by rw [compAns_no hno]; exact World.ownsRow_nil _ _ _ _, below_set (below_set (below_set HB4.out _ _ (by omega)) _ _ (by omega)) _ _ (by omega)⟩)
  obtain ⟨c0, c1, c2, e0, e1, e2⟩ := cells3 (P := w.heap.size + 2) HK2c.out
  obtain ⟨s1, s2, s3⟩ := set3 (P := w.heap.size + 2) HK2c.out (.int .i64 0) (.int .i64 0) (.slice none 0 0) HB4.out (by omega)
  have HS1 := Lib.hid s1
  clear s1 s2 s3
  cases ok1 with
  | false =>
    have HN := Lib.hid (HNOT.out (fun R => HNO1.out rfl R.1))
    clear HNOT
    go_wp2_with (first
      | (with_reducible refine at_store 50 8 18 ?_
         refine wpList_store_row rfl 50 (.tmp 8) (.tmp 18) rfl w3.heap.size (gcells f2 t2 L2).toArray rfl rfl 50 _ HZ3.out HSZ2.out HSY2.out (gcells_one _ _ _) ?_
         erw [HW4.out])
      | fail)
    refine bodyPost_ret (results_row_two rfl _ _ (w.heap.size + 1 + 1) 26 #[.int .i64 0, .int .i64 0, .slice none 0 0] (0, 0) _ (by rfl) HS1.out Try.underlying26 rfl infoSGraph) rfl ?_
    exact HN.out
  | true =>
  obtain ⟨rfl, rfl, hT1, hR1⟩ := HY1.out rfl
  have HT1 := Lib.hid hT1
  have HR1 := Lib.hid hR1
  clear hT1 hR1
  cases ok2 with
  | false =>
    have HN := Lib.hid (HNOT.out (fun R => HNO2.out rfl R.2.1))
    clear HNOT
    go_wp2_with (first
      | (with_reducible refine at_store 50 8 18 ?_
         refine wpList_store_row rfl 50 (.tmp 8) (.tmp 18) rfl w3.heap.size (gcells f2 t2 L2).toArray rfl rfl 50 _ HZ3.out HSZ2.out HSY2.out (gcells_one _ _ _) ?_
         erw [HW4.out])
      | fail)
    refine bodyPost_ret (results_row_two rfl _ _ (w.heap.size + 1 + 1) 26 #[.int .i64 0, .int .i64 0, .slice none 0 0] (0, 0) _ (by rfl) HS1.out Try.underlying26 rfl infoSGraph) rfl ?_
    exact HN.out
  | true =>
  obtain ⟨rfl, rfl, hT2, hR2⟩ := HY2.out rfl
  have HT2 := Lib.hid hT2
  have HR2 := Lib.hid hR2
  clear hT2 hR2
  by_cases hgh : g.t = h.f
  · have hne : (g.t != h.f) = false := by simpa using hgh
    have HANS := Lib.hid (compAns_ok HR1.out HR2.out hgh)
    have HTH := Lib.hid (fun W : World => then_any g.f g.t h.f h.t L1 L2 HL1.out HL2.out W)
    have HGR := Lib.hid (fun W : World => graph_any g.f h.t (thenT L1 L2) (thenTo_len _ _ _) W)
    have HLI := Lib.hid (thenT_list HT1.out HT2.out HR1.out)
    clear hgh HNOT HS1 c0 c1 c2 e0 e1 e2
    go_wp2_with (first
      | (with_reducible refine at_store 50 8 18 ?_
         refine wpList_store_row rfl 50 (.tmp 8) (.tmp 18) rfl w3.heap.size (gcells h.f h.t L2).toArray rfl rfl 50 _ HZ3.out HSZ2.out HSY2.out (gcells_one _ _ _) ?_
         erw [HW4.out])
      | (with_reducible refine at_load 50 6 ?_
         refine wpList_load_row rfl 50 (.tmp 6) rfl B1 rfl 50 _ (0, 0) _ HGA4.out Try.underlying50 rfl HSZ1.out ?_)
      | (with_reducible refine at_load 50 8 ?_
         refine wpList_load_row rfl 50 (.tmp 8) rfl w3.heap.size rfl 50 _ (0, 0) _ HGB.out Try.underlying50 rfl HSZ2.out ?_)
      | fail)
    refine (HTH.out _).mono ?_
    rintro e w5 ⟨rfl, hb5⟩
    have HB5 := Lib.hid (below_step HB4.out hb5)
    have HK5 := Lib.hid ((hb5.block _ (lt_of_block HK2c.out)).trans HK2c.out)
    clear hb5 a1 a2 HTH
    go_wp2_with fail
    refine (HGR.out _).mono ?_
    rintro e w6 ⟨v, rfl, ho, hb6⟩
    rw [HLI.out] at ho
    obtain ⟨av, cv, rfl⟩ := owns_shape ho
    have hb := below_step HB5.out hb6
    have k6 := (hb6.block _ (lt_of_block HK5.out)).trans HK5.out
    have hs5 := lt_of_block HK5.out
    obtain ⟨c0, c1, c2, e0, e1, e2⟩ := cells3 (P := w.heap.size + 2) k6
    obtain ⟨s1, s2, s3⟩ := set3 (P := w.heap.size + 2) k6 (.int .i64 g.f) (.int .i64 h.t) (.slice av (compA g.rs h.rs).length cv) hb (by omega)
    have HS1 := Lib.hid s1
    have HP := Lib.hid (show CmpPost g h w (.returned (.tuple #[.agg #[.int .i64 g.f, .int .i64 h.t, .slice av (compA g.rs h.rs).length cv], .bool true])) _ from ⟨_, by rw [HANS.out], by
      rw [HANS.out]
      exact owns_mono (show w.heap.size ≤ w5.heap.size by omega) (row_set (row_set (row_set ho (by omega) _) (by omega) _) (by omega) _), s2⟩)
    clear hb6 hb k6 hs5 ho s1 s2 s3 HGR HLI HANS
    generalize (compA g.rs h.rs).length = al at *
    go_wp2
    refine bodyPost_ret (results_row_two rfl _ _ (w.heap.size + 1 + 1) 26 #[.int .i64 g.f, .int .i64 h.t, .slice av al cv] (0, 0) _ (by rfl) HS1.out Try.underlying26 rfl infoSGraph) rfl ?_
    exact HP.out
  · have hne : (g.t != h.f) = true := by simpa using hgh
    have HN := Lib.hid (HNOT.out (fun R => hgh R.2.2))
    clear HNOT hgh
    go_wp2_with (first
      | (with_reducible refine at_store 50 8 18 ?_
         refine wpList_store_row rfl 50 (.tmp 8) (.tmp 18) rfl w3.heap.size (gcells h.f h.t L2).toArray rfl rfl 50 _ HZ3.out HSZ2.out HSY2.out (gcells_one _ _ _) ?_
         erw [HW4.out])
      | fail)
    refine bodyPost_ret (results_row_two rfl _ _ (w.heap.size + 1 + 1) 26 #[.int .i64 0, .int .i64 0, .slice none 0 0] (0, 0) _ (by rfl) HS1.out Try.underlying26 rfl infoSGraph) rfl ?_
    exact HN.out

end Go.Proofs.Ytliibknppfbfeaa.Pr
