/-
  laws.FnExactTupleOk answers true.
-/
import Derived.Test.YtkhliflgflhheaaDoorTuples
namespace Go.Proofs.YtkhliflgflhheaaDoor
open Go Go.RowKit Go.Maps Go.WideMaps

set_option maxRecDepth 100000 in
set_option maxHeartbeats 2000000 in
theorem law_FnExactTupleOk (a : Option Addr) (cap : Nat) (xs : List ByteArray) (w : World) (hrow : StrsAt w a xs) (hn : xs.length ≤ 9223372036854775807) (hs : ∀ x ∈ xs, x.size ≤ 9223372036854775807) (hE : Env w.heap.size w) :
    Calls Tryd.prog 4 #[.agg #[.slice a xs.length cap]] w fun e w' => e = .returned (.bool true) ∧ Below w.heap.size w w' := by
  have HROW := Lib.hid hrow
  have HS := Lib.hid hs
  have HE := Lib.hid hE
  have hb0 := (Below.refl w.heap.size w).alloc (Nat.le_refl _) (Obj.cells #[Value.slice a xs.length cap] 33)
  have kb0 : (w.alloc (Obj.cells #[Value.slice a xs.length cap] 33)).heap[w.heap.size]? = some (.cells #[Value.slice a xs.length cap] 33 (0, 0)) := heap_alloc_new w _
  have HB0 := Lib.hid hb0
  have HKB := Lib.hid (fun (w3 : World) (h : Below (w.alloc (Obj.cells #[Value.slice a xs.length cap] 33)).heap.size (w.alloc (Obj.cells #[Value.slice a xs.length cap] 33)) w3) => (show w3.cell? ⟨w.heap.size, 0, none⟩ = some (.slice a xs.length cap) by
    rw [cell_of_row w3 _ 0 _ _ _ ((h.block _ (lt_of_block kb0)).trans kb0)]; rfl))
  clear hs hrow hE hb0 kb0
  go_enter Tryd.func4, Tryd.ntmps4
  go_wp2_with fail
  generalize w.alloc (Obj.cells #[Value.slice a xs.length cap] 33) = W0 at *
  refine (szTuple_any a cap xs W0 (HROW.out.kept HB0.out) hn HS.out).mono ?_
  rintro e w1 ⟨⟨r, rfl, hr⟩, hb1⟩
  rcases hr with hr | ⟨hr, htot⟩
  · have hd2 : decide (r < 0) = true := decide_eq_true hr
    have HB1 := Lib.hid (below_step HB0.out hb1)
    clear hb1
    go_wp2
    go_ret
    exact ⟨rfl, HB1.out⟩
  · have hd2 : decide (r < 0) = false := decide_eq_false (by omega)
    have hxn : xs.length ≤ 1048576 := by omega
    have HXS := Lib.hid (fun (x : ByteArray) (hx : x ∈ xs) => (show x.size ≤ 1048576 by have := tot_mem hx; omega))
    have hB1 := below_step HB0.out hb1
    have hc1 := HKB.out w1 hb1
    have HW1 := Lib.hid hb1
    clear htot hr hb1 HS
    go_wp2_with fail
    refine (toTuple_any a cap xs w1 (HROW.out.kept hB1) hxn).mono ?_
    rintro e w2 ⟨v2, rfl, ho2, hb2⟩
    have hB2 := below_step hB1 hb2
    have HW2 := Lib.hid (below_step HW1.out hb2)
    clear hb2 hB1 hc1 HW1
    go_wp2_with fail
    refine (specTupleOk _ _ xs w2 ho2 hxn HXS.out).mono ?_
    rintro e w3 ⟨r3, rfl, hr3, hb3⟩
    have hB3 := below_step hB2 hb3
    have HW3 := Lib.hid (below_step HW2.out hb3)
    have hc3 := HKB.out w3 HW3.out
    clear hb3 ho2 hB2 HW2
    go_wp2_with fail
    refine (toTuple_any a cap xs w3 (HROW.out.kept hB3) hxn).mono ?_
    rintro e w4 ⟨v4, rfl, ho4, hb4⟩
    have hB4 := below_step hB3 hb4
    have HW4 := Lib.hid (below_step HW3.out hb4)
    obtain ⟨a4, c4, rfl⟩ := owns_shape ho4
    clear hb4 hB3 HW3 hc3
    have hb4a := (Below.refl w4.heap.size w4).alloc (Nat.le_refl _) (Obj.cells #[Value.slice a4 xs.length c4] 36)
    have k4 : (w4.alloc (Obj.cells #[Value.slice a4 xs.length c4] 36)).heap[w4.heap.size]? = some (.cells #[Value.slice a4 xs.length c4] 36 (0, 0)) := heap_alloc_new w4 _
    go_wp2_with fail
    generalize w4.alloc (Obj.cells #[Value.slice a4 xs.length c4] 36) = W4 at *
    have hB4' := below_step hB4 hb4a
    have HW4' := Lib.hid (below_step HW4.out hb4a)
    have ho4' := row_kept ho4 hb4a
    refine (implTupleOk _ _ xs W4 (HE.out.stays hB4').top ho4' hxn HXS.out).mono ?_
    rintro e w5 ⟨r5, rfl, hr5, hb5⟩
    obtain rfl : r3 = r5 := by
      have := hr3.trans hr5.symm
      cases r3 <;> cases r5 <;> simp at this ⊢
    have hB5 := below_step hB4' hb5
    have HW5 := Lib.hid (below_step HW4'.out hb5)
    have ho5 := row_kept ho4' hb5
    have k5 := (hb5.block _ (lt_of_block k4)).trans k4
    have hc5 := HKB.out w5 HW5.out
    have hd5 : w5.cell? ⟨w4.heap.size, 0, none⟩ = some (.slice a4 xs.length c4) := by rw [cell_of_row w5 _ 0 _ _ _ k5]; rfl
    have hoo : (r3 != r3) = false := by simp
    have HK5 := Lib.hid k5
    have HO5 := Lib.hid ho5
    clear hr3 hr5 hb5 ho4' ho4 ho5 k5 k4 hb4a hB4 hB4' HW4 HW4'
    have hl4 := cell_lt hd5
    have hl0 := cell_lt hc5
    have hB50 : Below w5.heap.size w5 w5 := Below.refl _ _
    go_wp2_with fail
    go_region_held3 (fun w' => w'.cell? ⟨w4.heap.size, 0, none⟩ = some (.slice a4 xs.length c4) ∧ w'.cell? ⟨w.heap.size, 0, none⟩ = some (.slice a xs.length cap) ∧ Below w5.heap.size w5 w') (first | exact ⟨by assumption, by assumption, by assumption⟩ | (refine ⟨?_, ?_, ?_⟩ <;> first | assumption | (apply Below.drew; assumption) | (simp [*]; done)))
      (first
        | (go_at_call 18
           refine (toTuple_any a cap xs _ (HROW.out.kept hB5.drew) hxn).mono ?_
           rintro e w6 ⟨v6, rfl, ho6, hb6⟩
           obtain ⟨a6, c6, rfl⟩ := owns_shape ho6
           have hs1 : Below w5.heap.size w5 w6 := below_step hB50.drew hb6
           have hs2 : w6.cell? ⟨w4.heap.size, 0, none⟩ = some (.slice a4 xs.length c4) := (hs1.cell hl4).trans hd5
           have hs3 : w6.cell? ⟨w.heap.size, 0, none⟩ = some (.slice a xs.length cap) := (hs1.cell hl0).trans hc5
           have HO6 := Lib.hid ho6
           have HQ := Lib.hid (eqTuple_any xs _ _ _ _ w6 (row_kept HO5.out hs1) ho6 (by omega))
           clear ho6 hb6)
        | (go_at_call 20
           refine HQ.out.mono ?_
           rintro e w7 ⟨rfl, hb7⟩
           have hs4 : Below w5.heap.size w5 w7 := below_step hs1 hb7
           have hs5 : w7.cell? ⟨w4.heap.size, 0, none⟩ = some (.slice a4 xs.length c4) := (hs4.cell hl4).trans hd5
           have hs6 : w7.cell? ⟨w.heap.size, 0, none⟩ = some (.slice a xs.length cap) := (hs4.cell hl0).trans hc5
           clear hb7))
    go_wp2
    go_ret
    exact ⟨rfl, below_step hB5 hs4⟩

end Go.Proofs.YtkhliflgflhheaaDoor
