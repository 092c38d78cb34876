/-
  THE WALKS of slices.Index and Contains over graphs as tables, of closing.put.
-/
import Derived.Test.YtgjmefcognoepaaPQ3
import Derived.Test.YtgjmefcognoepaaPQ5
namespace Go.Proofs.Ytgjmefcognoepaa.Pr
open Go Go.RowKit Go.Maps Go.WideMaps

theorem ag_same {p : Gr × List Int} (hA : Tab p.2 p.1.rs ∧ RightA p.1.rs) {g : Gr} {L : List Int} (hT : Tab L g.rs) (hR : RightA g.rs) : (g.f = p.1.f ∧ g.t = p.1.t ∧ L = p.2) ↔ p.1 = g := by
  obtain ⟨h1, h2⟩ := hA
  have hs := hT.same h1 hR h2
  obtain ⟨gf, gt, gr⟩ := g
  obtain ⟨⟨pf, pt, pr⟩, pL⟩ := p
  simp only [Gr.mk.injEq]
  constructor
  · rintro ⟨a, b, c⟩
    exact ⟨a.symm, b.symm, (hs.1 c).symm⟩
  · rintro ⟨a, b, c⟩
    exact ⟨a.symm, b.symm, hs.2 c.symm⟩
theorem exec_eql_agg {P : Program} {a : Act} {o : Oper} {W : World} (ty t2 : TypeId) (x y : Operand) (ho : o.op = .binOp .eql ty x y t2) (xs ys : Array Value) (r : Bool) (hx : a.eval x = .agg xs) (hy : a.eval y = .agg ys) (hm : P.eqGuardType P.depth ty = false)
    (hr : (Op.equalIn 10000 ty (.agg xs) (.agg ys)).run P W = .ok r W) : (execOp a.eval o).run P W = .ok (.value (.bool r)) W := by
  unfold execOp
  simp only [ho, hx, hy, Sem.run_bind, run_eqGuard_agg (P := P) W _ _ _ _ _ _ hm, run_eql_struct, hr, Result.andThen_ok, Sem.run_pure]
theorem eqgAG : Try.prog.eqGuardType Try.prog.depth 49 = false := by kernel_rfl
def IxRel (w0 : World) (ys : List (Gr × List Int)) (g : Gr) (v : Value) (wr : World) : Prop := ∃ k : Nat, v = .int .i64 (k : Int) ∧ k ≤ ys.length ∧ g ∉ (ys.take k).map Prod.fst ∧ Below w0.heap.size w0 wr

set_option maxRecDepth 100000 in
set_option maxHeartbeats 4000000 in
theorem agIndex_any (ys : List (Gr × List Int)) (hA : AgOk ys) (a : Option Addr) (c B : Nat) (g : Gr) (L : List Int) (hT : Tab L g.rs) (hR : RightA g.rs) (w : World) (hown : w.ownsRow B 49 38 (.slice a ys.length c) ys.length (agCells ys)) (hn : ys.length ≤ 1048576) :
    Calls Try.prog 36 #[.slice a ys.length c, .agg (gcells g.f g.t L).toArray] w fun e w' => (∃ r : Int, e = .returned (.int .i64 r) ∧ (0 ≤ r ↔ g ∈ ys.map Prod.fst)) ∧ Below w.heap.size w w' := by
  have HO := Lib.hid (fun (W : World) (hW : Below w.heap.size w W) => row_kept hown hW)
  have HA := Lib.hid hA
  have HT := Lib.hid hT
  have HR := Lib.hid hR
  have hb0 : Below w.heap.size w (w.alloc (.cells (gcells g.f g.t L).toArray 49)) := (Below.refl _ _).alloc (Nat.le_refl _) _
  have hgb : GB (w.alloc (.cells (gcells g.f g.t L).toArray 49)) w.heap.size g.f g.t L := heap_alloc_new w _
  obtain ⟨w0, hw0⟩ : ∃ w0, w.alloc (.cells (gcells g.f g.t L).toArray 49) = w0 := ⟨_, rfl⟩
  rw [hw0] at hb0 hgb
  have HB0 := Lib.hid hb0
  have HGB := Lib.hid hgb
  have HSZ := Lib.hid (gcells_size (f := g.f) (t := g.t) hT.len)
  clear hA hT hR hown hb0 hgb
  go_enter Try.func36, Try.ntmps36
  go_wp2
  go_loopw [8] (fun v wr => IxRel w0 ys g v wr) (fun v _ => (ys.length - (intOf v).toNat))
  case atStart => exact ⟨0, rfl, Nat.zero_le _, by simp, Below.refl _ _⟩
  case round =>
    obtain ⟨k, rfl, hk, hno, hb⟩ := hrel
    by_cases hlt : k < ys.length
    · have hd : decide ((k : Int) < (ys.length : Int)) = true := decide_eq_true (by omega)
      have hb1 := below_step HB0.out hb
      obtain ⟨b, rfl, hB1, hB2, hrg⟩ := ag_at HA.out (HO.out wr hb1) hlt
      have hAk := HA.out _ (List.getElem_mem hlt)
      have HSK := Lib.hid (show (Try.prog.info? 49).map (·.size) = some (gcells ys[k].1.f ys[k].1.t ys[k].2).length by rw [infoSAG, gcells_len hAk.1.len])
      have HEQ := Lib.hid (fun (W : World) => run_eq_ag (f := g.f) (t := g.t) (f' := ys[k].1.f) (t' := ys[k].1.t) HT.out.len hAk.1.len 9995 W)
      have HSA := Lib.hid (ag_same hAk HT.out HR.out)
      have htk : (ys.take (k + 1)).map Prod.fst = (ys.take k).map Prod.fst ++ [ys[k].1] := by rw [List.take_succ_eq_append_getElem hlt, List.map_append]; rfl
      have HTK := Lib.hid htk
      have HNO := Lib.hid hno
      have HMEM := Lib.hid (List.mem_map_of_mem (f := Prod.fst) (List.getElem_mem hlt))
      have HB := Lib.hid hb
      have hgw := HGB.out.below hb
      have hgw2 : (wr.heap[w.heap.size]? = some (.cells (gcells g.f g.t L).toArray 49 (0, 0))) := hgw
      have z1 : (0 : Int) ≤ (k : Int) := by omega
      have z2 : (k : Int) < (ys.length : Int) := by omega
      obtain ⟨p, hp⟩ : ∃ p, ys[k] = p := ⟨_, rfl⟩
      rw [hp] at hrg HSK HEQ HSA HTK HMEM
      clear htk hno hb hb1 hgw hAk hp hw0
      go_wp2
      refine wp_region_held_drew (S := fun w' => w'.heap[w.heap.size]? = some (.cells (gcells g.f g.t L).toArray 49 (0, 0)) ∧ w'.rangeAt b (k * 38) (gcells p.1.f p.1.t p.2)) (by kernel_rfl) ⟨hgw2, hrg⟩ (fun hHeld => ?_)
      refine wpAnyH_take (i := 0) (v := .agg (gcells g.f g.t L).toArray) rfl (by kernel_rfl) (by kernel_rfl) (by kernel_rfl) (fun _ _ _ h => h) (Or.inl ⟨by rfl, ?_⟩) (by assumption) ?_
      · intro w9 hSw
        exact exec_load_row 49 (.tmp 3) rfl w.heap.size rfl _ _ (0, 0) _ hSw.1 Try.underlying49 rfl HSZ.out
      try simp only [Act.put, List.getElem_toArray, List.getElem_cons_zero, List.setIfInBounds_toArray, List.set_cons_zero, List.set_cons_succ]
      refine wpAnyH_take (i := 1) (v := ?_) rfl (by kernel_rfl) (by kernel_rfl) (by kernel_rfl) (fun _ _ _ h => h) (Or.inl ⟨by rfl, ?_⟩) (by assumption) ?_
      rotate_left
      · (intro w9 hSw; obtain ⟨s0, s1⟩ := hSw; go_simp; try with_reducible rfl)
      try simp only [Act.put, List.getElem_toArray, List.getElem_cons_zero, List.getElem_cons_succ, List.setIfInBounds_toArray, List.set_cons_zero, List.set_cons_succ]
      refine wpAnyH_take (i := 2) (v := ?_) rfl (by kernel_rfl) (by kernel_rfl) (by kernel_rfl) (fun _ _ _ h => h) (Or.inl ⟨by rfl, ?_⟩) (by assumption) ?_
      rotate_left
      · (intro w9 hSw; obtain ⟨s0, s1⟩ := hSw; go_simp; try with_reducible rfl)
      try simp only [Act.put, List.getElem_toArray, List.getElem_cons_zero, List.getElem_cons_succ, List.setIfInBounds_toArray, List.set_cons_zero, List.set_cons_succ]
      refine wpAnyH_take (i := 3) (v := ?_) rfl (by kernel_rfl) (by kernel_rfl) (by kernel_rfl) (fun _ _ _ h => h) (Or.inl ⟨by rfl, ?_⟩) (by assumption) ?_
      rotate_left
      · (intro w9 hSw; obtain ⟨s0, s1⟩ := hSw; go_simp; try with_reducible rfl)
      try simp only [Act.put, List.getElem_toArray, List.getElem_cons_zero, List.getElem_cons_succ, List.setIfInBounds_toArray, List.set_cons_zero, List.set_cons_succ]
      refine wpAnyH_take (i := 4) (v := .agg (gcells p.1.f p.1.t p.2).toArray) rfl (by kernel_rfl) (by kernel_rfl) (by kernel_rfl) (fun _ _ _ h => h) (Or.inl ⟨by rfl, ?_⟩) (by assumption) ?_
      · intro w9 hSw
        exact exec_load_mid 49 (.tmp 14) rfl b (k * 38) rfl _ _ hSw.2 Try.underlying49 rfl HSK.out
      try simp only [Act.put, List.getElem_toArray, List.getElem_cons_zero, List.getElem_cons_succ, List.setIfInBounds_toArray, List.set_cons_zero, List.set_cons_succ]
      refine wpAnyH_take (i := 5) (v := .bool (decide (g.f = p.1.f ∧ g.t = p.1.t ∧ L = p.2))) rfl (by kernel_rfl) (by kernel_rfl) (by kernel_rfl) (fun _ _ _ h => h) (Or.inl ⟨by rfl, ?_⟩) (by assumption) ?_
      · intro w9 hSw
        exact exec_eql_agg 49 _ (.tmp 11) (.tmp 15) rfl _ _ _ rfl rfl eqgAG (HEQ.out _)
      try simp only [Act.put, List.getElem_toArray, List.getElem_cons_zero, List.getElem_cons_succ, List.setIfInBounds_toArray, List.set_cons_zero, List.set_cons_succ]
      refine wpAnyH_done (by kernel_rfl) ?_ _
      by_cases hs : g.f = p.1.f ∧ g.t = p.1.t ∧ L = p.2
      · have hd2 : decide (g.f = p.1.f ∧ g.t = p.1.t ∧ L = p.2) = true := decide_eq_true hs
        have HP := Lib.hid (show (∃ r : Int, Ending.returned (.int .i64 (k : Int)) = .returned (.int .i64 r) ∧ (0 ≤ r ↔ g ∈ ys.map Prod.fst)) from ⟨(k : Int), rfl, ⟨fun _ => by rw [← HSA.out.1 hs]; exact HMEM.out, fun _ => by omega⟩⟩)
        have HB2 := Lib.hid (below_step HB0.out HB.out)
        rw [hd2]
        clear hd2 hs HEQ HSA
        go_wp2_with fail
        go_ret
        exact ⟨HP.out, by first | exact HB2.out | exact HB2.out.drew⟩
      · have hd2 : decide (g.f = p.1.f ∧ g.t = p.1.t ∧ L = p.2) = false := decide_eq_false hs
        have HR2 := Lib.hid (fun (W : World) (hW : Below w0.heap.size w0 W) => (⟨k + 1, by go_num, by omega, by
          rw [HTK.out]
          intro h
          rcases List.mem_append.1 h with h | h
          · exact HNO.out h
          · exact hs (HSA.out.2 (List.mem_singleton.1 h).symm), hW⟩ : IxRel w0 ys g (.int .i64 ((k : Int) + 1)) W))
        rw [hd2]
        clear hd2 hs HEQ HSA
        go_wp2_with fail
        go_roundw
        case rel => exact HR2.out _ (by first | exact HB.out | exact HB.out.drew)
        case measure => (simp [intOf] <;> omega)
    · obtain rfl : k = ys.length := by omega
      have hd : decide ((ys.length : Int) < (ys.length : Int)) = false := by simp
      rw [List.take_length] at hno
      have HP := Lib.hid (show (∃ r : Int, Ending.returned (.int .i64 (-1)) = .returned (.int .i64 r) ∧ (0 ≤ r ↔ g ∈ ys.map Prod.fst)) from ⟨-1, rfl, ⟨fun h => by omega, fun h => absurd h hno⟩⟩)
      have HB2 := Lib.hid (below_step HB0.out hb)
      clear hno hb
      go_wp2
      go_ret
      exact ⟨HP.out, HB2.out⟩

set_option maxRecDepth 100000 in
set_option maxHeartbeats 4000000 in
theorem agContains_any (ys : List (Gr × List Int)) (hA : AgOk ys) (a : Option Addr) (c B : Nat) (g : Gr) (L : List Int) (hT : Tab L g.rs) (hR : RightA g.rs) (w : World) (hown : w.ownsRow B 49 38 (.slice a ys.length c) ys.length (agCells ys)) (hn : ys.length ≤ 1048576) :
    Calls Try.prog 33 #[.slice a ys.length c, .agg (gcells g.f g.t L).toArray] w fun e w' => (∃ r : Bool, e = .returned (.bool r) ∧ (r = true ↔ g ∈ ys.map Prod.fst)) ∧ Below w.heap.size w w' := by
  have HIX := Lib.hid (fun (W : World) (hW : Below w.heap.size w W) => agIndex_any ys hA a c B g L hT hR W (row_kept hown hW) hn)
  have hb0 : Below w.heap.size w (w.alloc (.cells (gcells g.f g.t L).toArray 49)) := (Below.refl _ _).alloc (Nat.le_refl _) _
  have hgb : GB (w.alloc (.cells (gcells g.f g.t L).toArray 49)) w.heap.size g.f g.t L := heap_alloc_new w _
  obtain ⟨w0, hw0⟩ : ∃ w0, w.alloc (.cells (gcells g.f g.t L).toArray 49) = w0 := ⟨_, rfl⟩
  rw [hw0] at hb0 hgb
  have HB0 := Lib.hid hb0
  have hgb2 : w0.heap[w.heap.size]? = some (.cells (gcells g.f g.t L).toArray 49 (0, 0)) := hgb
  have HSZ := Lib.hid (gcells_size (f := g.f) (t := g.t) hT.len)
  clear hA hT hR hown hb0 hgb
  go_enter Try.func33, Try.ntmps33
  go_wp2_with (first
    | (with_reducible refine at_load 49 3 ?_
       refine wpList_load_row rfl 49 (.tmp 3) rfl w.heap.size rfl 49 _ (0, 0) _ hgb2 Try.underlying49 rfl HSZ.out ?_)
    | fail)
  refine (HIX.out _ HB0.out).mono ?_
  rintro e w1 ⟨⟨r, rfl, hr⟩, hb1⟩
  have HB1 := Lib.hid (below_step HB0.out hb1)
  have HR := Lib.hid hr
  clear hb1 hr HIX hgb2
  by_cases h0 : 0 ≤ r
  · have hd : decide (0 ≤ r) = true := decide_eq_true h0
    go_wp2
    go_ret
    exact ⟨⟨true, rfl, ⟨fun _ => HR.out.1 h0, fun _ => rfl⟩⟩, HB1.out⟩
  · have hd : decide (0 ≤ r) = false := decide_eq_false h0
    go_wp2
    go_ret
    exact ⟨⟨false, rfl, ⟨(fun h => nomatch h), fun h => (by have := HR.out.2 h; omega)⟩⟩, HB1.out⟩

def PutPost (B gc : Nat) (wb : World) (v0 : Value) (n0 : Nat) (l : List Gr) (g : Gr) (w : World) (e : Ending) (w' : World) : Prop := ∃ (a : Option Addr) (c : Nat) (ys : List (Gr × List Int)), e = .returned (.bool (decide (ys.length ≤ 120))) ∧ Clo B gc a c ys w' ∧ ys.map Prod.fst = addG l g ∧ Below B wb w' ∧ Still gc v0 n0 w w' ∧ ∀ b, (Value.slice a ys.length c).ownBlock = some b → v0.ownBlock = some b ∨ w.heap.size ≤ b

set_option maxRecDepth 100000 in
set_option maxHeartbeats 4000000 in
theorem put_any (B gc : Nat) (wb : World) (ys : List (Gr × List Int)) (a : Option Addr) (c : Nat) (g : Gr) (L : List Int) (hT : Tab L g.rs) (hR : RightA g.rs) (w : World) (hC : Clo B gc a c ys w) (hn : ys.length ≤ 120) (hb : Below B wb w) (hB : B ≤ w.heap.size) :
    Calls Try.prog 28 #[.pointer (some ⟨gc, 0, none⟩), .agg (gcells g.f g.t L).toArray] w (PutPost B gc wb (.slice a ys.length c) ys.length (ys.map Prod.fst) g w) := by
  have hb0 : Below w.heap.size w (w.alloc (.cells (gcells g.f g.t L).toArray 49)) := (Below.refl _ _).alloc (Nat.le_refl _) _
  have hgb : (w.alloc (.cells (gcells g.f g.t L).toArray 49)).heap[w.heap.size]? = some (.cells (gcells g.f g.t L).toArray 49 (0, 0)) := heap_alloc_new w _
  obtain ⟨w0, hw0⟩ : ∃ w0, w.alloc (.cells (gcells g.f g.t L).toArray 49) = w0 := ⟨_, rfl⟩
  rw [hw0] at hb0 hgb
  have HB0 := Lib.hid hb0
  have HGB := Lib.hid hgb
  have HC := Lib.hid (fun (W : World) (hW : Below w.heap.size w W) => hC.kept hW)
  have HSZ := Lib.hid (gcells_size (f := g.f) (t := g.t) hT.len)
  have HCO := Lib.hid (fun (W : World) (hW : Below w0.heap.size w0 W) => agContains_any ys hC.ok a c B g L hT hR W (hC.kept (below_step hb0 hW)).own (by omega))
  have HT := Lib.hid hT
  have HR := Lib.hid hR
  have HB := Lib.hid hb
  have hk := (hC.kept hb0).blk
  have q0 := cell_of_row _ gc 0 _ _ _ hk
  simp only [List.getElem?_toArray, List.getElem?_cons_zero] at q0
  clear hC hT hR hb hk hb0
  go_enter Try.func28, Try.ntmps28
  go_wp2
  refine wp_region_held_drew (S := fun w' => w'.heap[w.heap.size]? = some (.cells (gcells g.f g.t L).toArray 49 (0, 0)) ∧ w'.cell? ⟨gc, 0, none⟩ = some (.slice a ys.length c)) (by kernel_rfl) ⟨hgb, q0⟩ (fun hHeld => ?_)
  have hc : Below w0.heap.size w0 w0.drew := drewG (Below.refl _ _)
  refine wpAnyH_take (i := 0) (v := ?_) rfl (by kernel_rfl) (by kernel_rfl) (by kernel_rfl) (fun _ _ _ h => h) (Or.inl ⟨by rfl, ?_⟩) (by assumption) ?_
  rotate_left
  · (intro w9 hSw; obtain ⟨s0, s1⟩ := hSw; go_simp; try with_reducible rfl)
  try simp only [Act.put, List.getElem_toArray, List.getElem_cons_zero, List.setIfInBounds_toArray, List.set_cons_zero, List.set_cons_succ]
  refine wpAnyH_take (i := 1) (v := ?_) rfl (by kernel_rfl) (by kernel_rfl) (by kernel_rfl) (fun _ _ _ h => h) (Or.inl ⟨by rfl, ?_⟩) (by assumption) ?_
  rotate_left
  · (intro w9 hSw; obtain ⟨s0, s1⟩ := hSw; go_simp; try with_reducible rfl)
  try simp only [Act.put, List.getElem_toArray, List.getElem_cons_zero, List.getElem_cons_succ, List.setIfInBounds_toArray, List.set_cons_zero, List.set_cons_succ]
  refine wpAnyH_take (i := 2) (v := ?_) rfl (by kernel_rfl) (by kernel_rfl) (by kernel_rfl) (fun _ _ _ h => h) (Or.inl ⟨by rfl, ?_⟩) (by assumption) ?_
  rotate_left
  · (intro w9 hSw; obtain ⟨s0, s1⟩ := hSw; go_simp; try with_reducible rfl)
  try simp only [Act.put, List.getElem_toArray, List.getElem_cons_zero, List.getElem_cons_succ, List.setIfInBounds_toArray, List.set_cons_zero, List.set_cons_succ]
  refine wpAnyH_take (i := 3) (v := ?_) rfl (by kernel_rfl) (by kernel_rfl) (by kernel_rfl) (fun _ _ _ h => h) (Or.inl ⟨by rfl, ?_⟩) (by assumption) ?_
  rotate_left
  · (intro w9 hSw; obtain ⟨s0, s1⟩ := hSw; go_simp; try with_reducible rfl)
  try simp only [Act.put, List.getElem_toArray, List.getElem_cons_zero, List.getElem_cons_succ, List.setIfInBounds_toArray, List.set_cons_zero, List.set_cons_succ]
  refine wpAnyH_take (i := 4) (v := .agg (gcells g.f g.t L).toArray) rfl (by kernel_rfl) (by kernel_rfl) (by kernel_rfl) (fun _ _ _ h => h) (Or.inl ⟨by rfl, ?_⟩) (by assumption) ?_
  · intro w9 hSw
    exact exec_load_row 49 (.tmp 3) rfl w.heap.size rfl _ _ (0, 0) _ hSw.1 Try.underlying49 rfl HSZ.out
  try simp only [Act.put, List.getElem_toArray, List.getElem_cons_zero, List.getElem_cons_succ, List.setIfInBounds_toArray, List.set_cons_zero, List.set_cons_succ]
  refine wpAnyH_ready (rs := [5]) (by kernel_rfl) (by simp) ?_
  refine AllReadyH.cons rfl (fun K hK => ?_) AllReadyH.nil
  go_simp
  refine (HCO.out _ hc).mono ?_
  rintro e w1 ⟨⟨r, rfl, hr⟩, hb1⟩
  have hcn := below_step hc hb1
  have hgb1 := (hcn.block _ (lt_of_block hgb)).trans hgb
  have q1 := (hcn.cell (p := ⟨gc, 0, none⟩) (cell_lt q0)).trans q0
  have HB1 := Lib.hid (below_step HB0.out hcn)
  clear hc hb1 hcn
  go_wp2_with fail
  refine hK.out _ _ ⟨hgb1, q1⟩ (fun _ => ?_)
  clear hK K
  try simp only [Act.put, List.getElem_toArray, List.getElem_cons_zero, List.getElem_cons_succ, List.setIfInBounds_toArray, List.set_cons_zero, List.set_cons_succ]
  refine wpAnyH_done (by kernel_rfl) ?_ _
  cases r with
  | true =>
    have HP := Lib.hid (show PutPost B gc wb (.slice a ys.length c) ys.length (ys.map Prod.fst) g w (.returned (.bool true)) w1 from ⟨a, c, ys, by rw [decide_eq_true hn], HC.out w1 HB1.out, by rw [addG_in (hr.1 rfl)], HB.out.trans (HB1.out.mono hB), Still.below HB1.out, fun b h => .inl h⟩)
    clear hr hgb1 q1 hgb q0
    go_wp2_with fail
    go_ret
    exact HP.out
  | false =>
    have HNI := Lib.hid (show g ∉ ys.map Prod.fst from fun h => by have := hr.2 h; cases this)
    clear hr hgb q0
    go_wp2_with fail
    have hkx := heap_alloc_new w1.drew (.cells (gcells g.f g.t L).toArray 49)
    have hba : Below w.heap.size w (w1.drew.alloc (.cells (gcells g.f g.t L).toArray 49)) := below_alloc (drewG HB1.out) _
    have hPl : w.heap.size < w1.heap.size := lt_of_block hgb1
    have hgl : gc < w1.heap.size := cell_lt q1
    obtain ⟨g', cap, w2, hrun, hb2k, hC2, hbb2, hs2, hbb3, hst, hold, hnew⟩ := (HC.out w (Below.refl _ _)).push HT.out HR.out hba hkx (by omega) HB.out hB
    have hP1 : (w1.drew.alloc (.cells (gcells g.f g.t L).toArray 49)).heap[w.heap.size]? = some (.cells (gcells g.f g.t L).toArray 49 (0, 0)) := (heap_alloc_old w1.drew _ hPl).trans hgb1
    have hP2 : w2.heap[w.heap.size]? = some (.cells (gcells g.f g.t L).toArray 49 (0, 0)) := (hold w.heap.size (lt_of_block hP1) (fun h => by have := (own_lt3 (HC.out w (Below.refl _ _)).own h).2; omega)).trans hP1
    have q1d : w1.drew.cell? ⟨gc, 0, none⟩ = some (.slice a ys.length c) := q1
    have q1a : (w1.drew.alloc (.cells (gcells g.f g.t L).toArray 49)).cell? ⟨gc, 0, none⟩ = some (.slice a ys.length c) := by
      rw [← q1d]
      unfold World.cell?
      rw [show (⟨gc, 0, none⟩ : Addr).block = gc from rfl, heap_alloc_old w1.drew _ hgl]
    have q2 := cell_of_row _ gc 0 _ _ _ hb2k
    simp only [List.getElem?_toArray, List.getElem?_cons_zero] at q2
    have hf2 : w2.frozen? ⟨gc, 0, none⟩ = false := frozen_of_row w2 gc 0 _ _ hb2k
    have q3 := cell_of_row _ gc 0 _ _ _ hC2.blk
    simp only [List.getElem?_toArray, List.getElem?_cons_zero] at q3
    have hP3 : (w2.setCell ⟨gc, 0, none⟩ (.slice (some ⟨g', 0, none⟩) (ys.length + 1) cap)).heap[w.heap.size]? = some (.cells (gcells g.f g.t L).toArray 49 (0, 0)) := (heap_setCell_other w2 ⟨gc, 0, none⟩ w.heap.size _ (fun e => by have := lt_of_block (HC.out w (Below.refl _ _)).blk; have : w.heap.size = gc := e; omega)).trans hP2
    have HRUN := Lib.hid hrun
    have hlen1 : (ys ++ [(g, L)]).length = ys.length + 1 := by simp
    rw [hlen1] at q3
    have HP := Lib.hid (show PutPost B gc wb (.slice a ys.length c) ys.length (ys.map Prod.fst) g w (.returned (.bool (decide (ys.length ≤ 119)))) (w2.setCell ⟨gc, 0, none⟩ (.slice (some ⟨g', 0, none⟩) (ys.length + 1) cap)) from ⟨some ⟨g', 0, none⟩, cap, ys ++ [(g, L)], by rw [hlen1, show decide (ys.length ≤ 119) = decide (ys.length + 1 ≤ 120) from decide_eq_decide.2 (by omega)], hC2, by rw [List.map_append, addG_out HNI.out]; rfl, hbb3, hst, fun b h => by
        obtain rfl : g' = b := Option.some.inj h
        exact hnew⟩)
    have HP3 := Lib.hid hP3
    clear hkx hba hrun hb2k hC2 hbb2 hs2 hbb3 hst hold hnew hP3 hlen1
    refine wp_region_held_drew (S := fun w' => w'.heap[w.heap.size]? = some (.cells (gcells g.f g.t L).toArray 49 (0, 0))) (by kernel_rfl) hgb1 (fun hHeld => ?_)
    refine wpAnyH_take (i := 0) (v := ?_) rfl (by kernel_rfl) (by kernel_rfl) (by kernel_rfl) (fun _ _ _ h => h) (Or.inl ⟨by rfl, ?_⟩) (by assumption) ?_
    rotate_left
    · (intro w9 hSw; go_simp; try with_reducible rfl)
    try simp only [Act.put, List.getElem_toArray, List.getElem_cons_zero, List.setIfInBounds_toArray, List.set_cons_zero, List.set_cons_succ]
    refine wpAnyH_take (i := 1) (v := ?_) rfl (by kernel_rfl) (by kernel_rfl) (by kernel_rfl) (fun _ _ _ h => h) (Or.inl ⟨by rfl, ?_⟩) (by assumption) ?_
    rotate_left
    · (intro w9 hSw; go_simp; try with_reducible rfl)
    try simp only [Act.put, List.getElem_toArray, List.getElem_cons_zero, List.getElem_cons_succ, List.setIfInBounds_toArray, List.set_cons_zero, List.set_cons_succ]
    refine wpAnyH_take (i := 2) (v := ?_) rfl (by kernel_rfl) (by kernel_rfl) (by kernel_rfl) (fun _ _ _ h => h) (Or.inl ⟨by rfl, ?_⟩) (by assumption) ?_
    rotate_left
    · (intro w9 hSw; go_simp; try with_reducible rfl)
    try simp only [Act.put, List.getElem_toArray, List.getElem_cons_zero, List.getElem_cons_succ, List.setIfInBounds_toArray, List.set_cons_zero, List.set_cons_succ]
    refine wpAnyH_take (i := 3) (v := ?_) rfl (by kernel_rfl) (by kernel_rfl) (by kernel_rfl) (fun _ _ _ h => h) (Or.inl ⟨by rfl, ?_⟩) (by assumption) ?_
    rotate_left
    · (intro w9 hSw; go_simp; try with_reducible rfl)
    try simp only [Act.put, List.getElem_toArray, List.getElem_cons_zero, List.getElem_cons_succ, List.setIfInBounds_toArray, List.set_cons_zero, List.set_cons_succ]
    refine wpAnyH_take (i := 5) (v := .agg (gcells g.f g.t L).toArray) rfl (by kernel_rfl) (by kernel_rfl) (by kernel_rfl) (fun _ _ _ h => h) (Or.inl ⟨by rfl, ?_⟩) (by assumption) ?_
    · intro w9 hSw
      exact exec_load_row 49 (.tmp 3) rfl w.heap.size rfl _ _ (0, 0) _ hSw Try.underlying49 rfl HSZ.out
    try simp only [Act.put, List.getElem_toArray, List.getElem_cons_zero, List.getElem_cons_succ, List.setIfInBounds_toArray, List.set_cons_zero, List.set_cons_succ]
    refine wpAnyH_ready (rs := [4, 6]) (by kernel_rfl) (by simp) ?_
    refine AllReadyH.cons rfl (fun K hK => ?_) (AllReadyH.cons rfl (fun K hK => ?_) AllReadyH.nil)
    · go_simp
      refine hK.out _ _ hgb1 (fun _ => ?_)
      clear hK K
      try simp only [Act.put, List.getElem_toArray, List.getElem_cons_zero, List.getElem_cons_succ, List.setIfInBounds_toArray, List.set_cons_zero, List.set_cons_succ]
      refine wpAnyH_ready (rs := [6]) (by kernel_rfl) (by simp) ?_
      refine AllReadyH.cons rfl (fun K hK => ?_) AllReadyH.nil
      refine wp_ag (.tmp 16) rfl HT.out.len rfl ?_
      refine hK.out _ _ hP1 (fun _ => ?_)
      clear hK K
      try simp only [Act.put, List.getElem_toArray, List.getElem_cons_zero, List.getElem_cons_succ, List.setIfInBounds_toArray, List.set_cons_zero, List.set_cons_succ]
      refine wpAnyH_ready (rs := [7]) (by kernel_rfl) (by simp) ?_
      refine AllReadyH.cons rfl (fun K hK => ?_) AllReadyH.nil
      refine wp_append_run _ _ _ rfl rfl rfl HRUN.out ?_
      refine hK.out _ _ hP2 (fun _ => ?_)
      clear hK K
      try simp only [Act.put, List.getElem_toArray, List.getElem_cons_zero, List.getElem_cons_succ, List.setIfInBounds_toArray, List.set_cons_zero, List.set_cons_succ]
      refine wpAnyH_take (i := 8) (v := ?_) rfl (by kernel_rfl) (by kernel_rfl) (by kernel_rfl) (fun _ _ _ h => h) (Or.inl ⟨by rfl, ?_⟩) (by assumption) ?_
      rotate_left
      · (intro w9 hSw; go_simp; try with_reducible rfl)
      try simp only [Act.put, List.getElem_toArray, List.getElem_cons_zero, List.getElem_cons_succ, List.setIfInBounds_toArray, List.set_cons_zero, List.set_cons_succ]
      refine wpAnyH_take (i := 9) (v := ?_) rfl (by kernel_rfl) (by kernel_rfl) (by kernel_rfl) (fun _ _ _ h => h) (Or.inl ⟨by rfl, ?_⟩) (by assumption) ?_
      rotate_left
      · (intro w9 hSw; go_simp; try with_reducible rfl)
      try simp only [Act.put, List.getElem_toArray, List.getElem_cons_zero, List.getElem_cons_succ, List.setIfInBounds_toArray, List.set_cons_zero, List.set_cons_succ]
      refine wpAnyH_ready (rs := [10]) (by kernel_rfl) (by simp) ?_
      refine AllReadyH.cons rfl (fun K hK => ?_) AllReadyH.nil
      go_simp
      refine hK.out _ _ HP3.out (fun _ => ?_)
      clear hK K
      try simp only [Act.put, List.getElem_toArray, List.getElem_cons_zero, List.getElem_cons_succ, List.setIfInBounds_toArray, List.set_cons_zero, List.set_cons_succ]
      refine wpAnyH_done (by kernel_rfl) ?_ _
      go_wp2_with fail
      go_ret
      obtain ⟨a1, c1, ys1, he, h⟩ := HP.out
      refine ⟨a1, c1, ys1, Eq.trans ?_ he, h⟩
      show Ending.returned (Value.bool (decide (((ys.length : Int) + 1) ≤ 120))) = _
      exact congrArg (fun b => Ending.returned (Value.bool b)) (decide_eq_decide.2 (by omega))
    · refine wp_ag (.tmp 16) rfl HT.out.len rfl ?_
      refine hK.out _ _ hP1 (fun _ => ?_)
      clear hK K
      try simp only [Act.put, List.getElem_toArray, List.getElem_cons_zero, List.getElem_cons_succ, List.setIfInBounds_toArray, List.set_cons_zero, List.set_cons_succ]
      refine wpAnyH_ready (rs := [4]) (by kernel_rfl) (by simp) ?_
      refine AllReadyH.cons rfl (fun K hK => ?_) AllReadyH.nil
      go_simp
      refine hK.out _ _ hP1 (fun _ => ?_)
      clear hK K
      try simp only [Act.put, List.getElem_toArray, List.getElem_cons_zero, List.getElem_cons_succ, List.setIfInBounds_toArray, List.set_cons_zero, List.set_cons_succ]
      refine wpAnyH_ready (rs := [7]) (by kernel_rfl) (by simp) ?_
      refine AllReadyH.cons rfl (fun K hK => ?_) AllReadyH.nil
      refine wp_append_run _ _ _ rfl rfl rfl HRUN.out ?_
      refine hK.out _ _ hP2 (fun _ => ?_)
      clear hK K
      try simp only [Act.put, List.getElem_toArray, List.getElem_cons_zero, List.getElem_cons_succ, List.setIfInBounds_toArray, List.set_cons_zero, List.set_cons_succ]
      refine wpAnyH_take (i := 8) (v := ?_) rfl (by kernel_rfl) (by kernel_rfl) (by kernel_rfl) (fun _ _ _ h => h) (Or.inl ⟨by rfl, ?_⟩) (by assumption) ?_
      rotate_left
      · (intro w9 hSw; go_simp; try with_reducible rfl)
      try simp only [Act.put, List.getElem_toArray, List.getElem_cons_zero, List.getElem_cons_succ, List.setIfInBounds_toArray, List.set_cons_zero, List.set_cons_succ]
      refine wpAnyH_take (i := 9) (v := ?_) rfl (by kernel_rfl) (by kernel_rfl) (by kernel_rfl) (fun _ _ _ h => h) (Or.inl ⟨by rfl, ?_⟩) (by assumption) ?_
      rotate_left
      · (intro w9 hSw; go_simp; try with_reducible rfl)
      try simp only [Act.put, List.getElem_toArray, List.getElem_cons_zero, List.getElem_cons_succ, List.setIfInBounds_toArray, List.set_cons_zero, List.set_cons_succ]
      refine wpAnyH_ready (rs := [10]) (by kernel_rfl) (by simp) ?_
      refine AllReadyH.cons rfl (fun K hK => ?_) AllReadyH.nil
      go_simp
      refine hK.out _ _ HP3.out (fun _ => ?_)
      clear hK K
      try simp only [Act.put, List.getElem_toArray, List.getElem_cons_zero, List.getElem_cons_succ, List.setIfInBounds_toArray, List.set_cons_zero, List.set_cons_succ]
      refine wpAnyH_done (by kernel_rfl) ?_ _
      go_wp2_with fail
      go_ret
      obtain ⟨a1, c1, ys1, he, h⟩ := HP.out
      refine ⟨a1, c1, ys1, Eq.trans ?_ he, h⟩
      show Ending.returned (Value.bool (decide (((ys.length : Int) + 1) ≤ 120))) = _
      exact congrArg (fun b => Ending.returned (Value.bool b)) (decide_eq_decide.2 (by omega))
end Go.Proofs.Ytgjmefcognoepaa.Pr
