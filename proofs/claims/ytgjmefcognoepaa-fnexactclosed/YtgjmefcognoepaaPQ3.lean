/-
  THE WALKS of spec.l08Add and spec.Closed.
-/
import Derived.Test.YtgjmefcognoepaaPQ2
namespace Go.Proofs.Ytgjmefcognoepaa.Pr
open Go Go.RowKit Go.Maps Go.WideMaps

theorem wp_append_run {P : Program} {w w' : World} {o : Oper} {a : Act} {Kk : Act → World → Prop} {Q : Exit → Act → World → Prop} (s x : Operand) (t : TypeId) (ho : o.op = .call { callee := .builtin .append, args := #[s, x], argTypes := #[t, t] })
    {v u v' : Value} (hs : a.eval s = v) (hx : a.eval x = u) (hrun : ∀ ty, (Builtin.append_ #[t, t] ty #[v, u]).run P w = .ok v' w') (h : Kk (a.put o.dst v') w') : o.wp P a w Kk Q := by
  unfold Oper.wp execOp
  simp only [ho, resolve, invoke, builtin, Sem.run_bind, Sem.run_pure, Result.andThen_ok, List.map_toArray, List.map_cons, List.map_nil, hs, hx, hrun]
  exact h
theorem drewG {B : Nat} {a w : World} (h : Below B a w) : Below B a w.drew := ⟨h.os, h.tape, h.output, h.size, h.block⟩
def ALoop (w0 : World) (l : List Gr) (g : Gr) (v : Value) (wr : World) : Prop := ∃ k : Nat, v = .int .i64 (k : Int) ∧ k ≤ l.length ∧ g ∉ l.take k ∧ Below w0.heap.size w0 wr
def AddPost (B : Nat) (wb : World) (l : List Gr) (g : Gr) (e : Ending) (w' : World) : Prop := ∃ (a : Option Addr) (c : Nat) (xs : List (Gr × Value)), e = .returned (.slice a xs.length c) ∧ OwnGS B w' (.slice a xs.length c) xs ∧ xs.map Prod.fst = addG l g ∧ Below B wb w'

set_option maxRecDepth 100000 in
set_option maxHeartbeats 4000000 in
theorem specAdd_any (B : Nat) (wb : World) (a : Option Addr) (c : Nat) (xs : List (Gr × Value)) (g : Gr) (vg : List Value) (S : Nat → Prop) (w : World) (hO : OwnGS B w (.slice a xs.length c) xs) (hb : Below B wb w) (hB : B ≤ w.heap.size)
    (hF : FGr S w vg g) (hS : ∀ b, S b → b < w.heap.size) (hl : g.rs.length ≤ 1048576) (hn : xs.length ≤ 1048575) (hx : ∀ p ∈ xs, p.1.rs.length ≤ 1048576) :
    Calls Try.prog 13 #[.slice a xs.length c, .agg vg.toArray] w (AddPost B wb (xs.map Prod.fst) g) := by
  have hG := hF
  obtain ⟨ag, cg, rfl, r1⟩ := hF
  have hb0 : Below w.heap.size w (w.alloc (.cells #[.int .i64 g.f, .int .i64 g.t, .slice ag g.rs.length cg] 38)) := (Below.refl _ _).alloc (Nat.le_refl _) _
  have k0 := heap_alloc_new w (.cells #[.int .i64 g.f, .int .i64 g.t, .slice ag g.rs.length cg] 38)
  obtain ⟨w0, hw0⟩ : ∃ w0, w.alloc (.cells #[.int .i64 g.f, .int .i64 g.t, .slice ag g.rs.length cg] 38) = w0 := ⟨_, rfl⟩
  rw [hw0] at hb0 k0
  have HG := Lib.hid (fun (W : World) (hW : Below w.heap.size w W) => FGr_keeps.1 _ _ _ _ _ hG (Same.below hS hW))
  have HS := Lib.hid (fun (W : World) (hW : Below w.heap.size w W) (b : Nat) (hb : S b) => Nat.lt_of_lt_of_le (hS b hb) hW.size)
  have HR1 := Lib.hid (fun (W : World) (hW : Below w.heap.size w W) => RowIn.kept FAr_keeps r1 (Same.below hS hW))
  have HO := Lib.hid (fun (W : World) (hW : Below w.heap.size w W) => hO.kept hW)
  have HBB := Lib.hid (fun (W : World) (hW : Below w.heap.size w W) => hb.trans (hW.mono hB))
  have HB0 := Lib.hid hb0
  have HK0 := Lib.hid k0
  have HX := Lib.hid hx
  have HBS := Lib.hid hB
  clear hG hS r1 hb0 k0 hO hb hx hB
  go_enter Try.func13, Try.ntmps13
  go_wp2
  go_loopw [5] (fun v wr => ALoop w0 (xs.map Prod.fst) g v wr) (fun v _ => (xs.length - (intOf v).toNat))
  case atStart => exact ⟨0, rfl, Nat.zero_le _, by simp, Below.refl _ _⟩
  case round =>
    obtain ⟨k, rfl, hk, hno, hb⟩ := hrel
    rw [List.length_map] at hk
    have hb1 := below_step HB0.out hb
    by_cases hlt : k < xs.length
    · have hd : decide ((k : Int) < (xs.length : Int)) = true := decide_eq_true (by omega)
      obtain ⟨gb, ar, cr, rfl, hg1, hg2, hpr, c0, c1, c2, hFk⟩ := (HO.out wr hb1).at hlt
      have k1 := (hb.block _ (lt_of_block HK0.out)).trans HK0.out
      obtain ⟨g0, g1, g2, -, -, -⟩ := cells3 k1
      have HSM := Lib.hid (fun (W : World) (hW : Below wr.heap.size wr W) => specSame_any xs[k].1 g _ _ _ S W (FGr_keeps.1 _ _ _ _ _ hFk (Same.below (fun b h => h.2) hW)) (HG.out W (below_step hb1 hW)) (fun b h => Nat.lt_of_lt_of_le h.2 hW.size) (HS.out W (below_step hb1 hW)) (HX.out _ (List.getElem_mem hlt)) hl)
      have htk : (xs.map Prod.fst).take (k + 1) = (xs.map Prod.fst).take k ++ [xs[k].1] := by
        rw [List.take_succ_eq_append_getElem (by rw [List.length_map]; exact hlt), List.getElem_map]
      have HYES := Lib.hid (fun (h : xs[k].1 = g) (W : World) (hW : Below wr.heap.size wr W) => (⟨some ⟨gb, 0, none⟩, c, xs, rfl, HO.out W (below_step hb1 hW), by
        rw [addG_in]
        rw [← h]
        exact List.mem_map.2 ⟨_, List.getElem_mem hlt, rfl⟩, HBB.out W (below_step hb1 hW)⟩ : AddPost B wb (xs.map Prod.fst) g (.returned (.slice (some ⟨gb, 0, none⟩) xs.length c)) W))
      have HNX := Lib.hid (fun (h : ¬ xs[k].1 = g) (W : World) (hW : Below wr.heap.size wr W) => (⟨k + 1, by go_num, by rw [List.length_map]; omega, by
        rw [htk, List.mem_append, List.mem_singleton]
        rintro (h2 | h2)
        · exact hno h2
        · exact h h2.symm, below_step hb hW⟩ : ALoop w0 (xs.map Prod.fst) g (.int .i64 ((k : Int) + 1)) W))
      clear hno hb hb1 hFk htk hpr k1
      obtain ⟨p, hp⟩ : ∃ p, xs[k] = p := ⟨_, rfl⟩
      rw [hp] at c0 c1 c2 HSM HYES HNX
      clear hp
      have z4 : (0 : Int) ≤ (k : Int) := by omega
      have z5 : (k : Int) < (xs.length : Int) := by omega
      have HSMW := Lib.hid (fun (W : World) (h : Below wr.heap.size wr W) => HSM.out W h)
      clear HSM
      have hB0 : Below wr.heap.size wr wr := Below.refl _ _
      have hgb : gb < wr.heap.size := cell_lt c0
      have hgw : w.heap.size < wr.heap.size := cell_lt g0
      go_wp2
      refine wp_region_held_drew (S := (fun w' => w'.cell? ⟨gb, k * 3, none⟩ = some (.int .i64 p.1.f) ∧ w'.cell? ⟨gb, k * 3 + 1, none⟩ = some (.int .i64 p.1.t) ∧ w'.cell? ⟨gb, k * 3 + 2, none⟩ = some (.slice ar p.1.rs.length cr) ∧ w'.cell? ⟨w.heap.size, 0, none⟩ = some (.int .i64 g.f) ∧ w'.cell? ⟨w.heap.size, 1, none⟩ = some (.int .i64 g.t) ∧ w'.cell? ⟨w.heap.size, 2, none⟩ = some (.slice ag g.rs.length cg))) (by kernel_rfl) ⟨c0, c1, c2, g0, g1, g2⟩ (fun hHeld => ?_)
      have hc : Below wr.heap.size wr wr.drew := drewG (Below.refl _ _)
      refine wpAnyH_take (i := 0) (v := ?_) rfl (by kernel_rfl) (by kernel_rfl) (by kernel_rfl) (fun _ _ _ h => h) (Or.inl ⟨by rfl, ?_⟩) (by assumption) ?_
      rotate_left
      · (intro w9 hSw; obtain ⟨s0, s1, s2, s3, s4, s5⟩ := hSw; go_simp; try with_reducible rfl)
      try simp only [Act.put, List.getElem_toArray, List.getElem_cons_zero, List.setIfInBounds_toArray, List.set_cons_zero, List.set_cons_succ]
      refine wpAnyH_take (i := 1) (v := ?_) rfl (by kernel_rfl) (by kernel_rfl) (by kernel_rfl) (fun _ _ _ h => h) (Or.inl ⟨by rfl, ?_⟩) (by assumption) ?_
      rotate_left
      · (intro w9 hSw; obtain ⟨s0, s1, s2, s3, s4, s5⟩ := hSw; go_simp; try with_reducible rfl)
      try simp only [Act.put, List.getElem_toArray, List.getElem_cons_zero, List.getElem_cons_succ, List.setIfInBounds_toArray, List.set_cons_zero, List.set_cons_succ]
      refine wpAnyH_take (i := 2) (v := ?_) rfl (by kernel_rfl) (by kernel_rfl) (by kernel_rfl) (fun _ _ _ h => h) (Or.inl ⟨by rfl, ?_⟩) (by assumption) ?_
      rotate_left
      · (intro w9 hSw; obtain ⟨s0, s1, s2, s3, s4, s5⟩ := hSw; go_simp; try with_reducible rfl)
      try simp only [Act.put, List.getElem_toArray, List.getElem_cons_zero, List.getElem_cons_succ, List.setIfInBounds_toArray, List.set_cons_zero, List.set_cons_succ]
      refine wpAnyH_take (i := 3) (v := ?_) rfl (by kernel_rfl) (by kernel_rfl) (by kernel_rfl) (fun _ _ _ h => h) (Or.inl ⟨by rfl, ?_⟩) (by assumption) ?_
      rotate_left
      · (intro w9 hSw; obtain ⟨s0, s1, s2, s3, s4, s5⟩ := hSw; go_simp; try with_reducible rfl)
      try simp only [Act.put, List.getElem_toArray, List.getElem_cons_zero, List.getElem_cons_succ, List.setIfInBounds_toArray, List.set_cons_zero, List.set_cons_succ]
      refine wpAnyH_take (i := 4) (v := ?_) rfl (by kernel_rfl) (by kernel_rfl) (by kernel_rfl) (fun _ _ _ h => h) (Or.inl ⟨by rfl, ?_⟩) (by assumption) ?_
      rotate_left
      · (intro w9 hSw; obtain ⟨s0, s1, s2, s3, s4, s5⟩ := hSw; go_simp; try with_reducible rfl)
      try simp only [Act.put, List.getElem_toArray, List.getElem_cons_zero, List.getElem_cons_succ, List.setIfInBounds_toArray, List.set_cons_zero, List.set_cons_succ]
      refine wpAnyH_ready (rs := [5]) (by kernel_rfl) (by simp) ?_
      refine AllReadyH.cons rfl (fun K hK => ?_) AllReadyH.nil
      go_simp
      refine (HSMW.out _ hc).mono ?_
      rintro e9 w9 ⟨⟨r, rfl, hr⟩, hb9⟩
      have hb1 := below_step hc hb9
      clear hc hb9
      go_wp2_with fail
      refine hK.out _ _ ⟨(hb1.cell (p := ⟨gb, k * 3, none⟩) hgb).trans c0, (hb1.cell (p := ⟨gb, k * 3 + 1, none⟩) hgb).trans c1, (hb1.cell (p := ⟨gb, k * 3 + 2, none⟩) hgb).trans c2, (hb1.cell (p := ⟨w.heap.size, 0, none⟩) hgw).trans g0, (hb1.cell (p := ⟨w.heap.size, 1, none⟩) hgw).trans g1, (hb1.cell (p := ⟨w.heap.size, 2, none⟩) hgw).trans g2⟩ (fun _ => ?_)
      clear hK K
      try simp only [Act.put, List.getElem_toArray, List.getElem_cons_zero, List.getElem_cons_succ, List.setIfInBounds_toArray, List.set_cons_zero, List.set_cons_succ]
      refine wpAnyH_done (by kernel_rfl) ?_ _
      cases r with
      | true =>
        have HR := Lib.hid (HYES.out (hr.1 rfl) w9 hb1)
        clear hr hb1 HYES HNX HSMW c0 c1 c2 g0 g1 g2
        go_wp2
        go_ret
        exact HR.out
      | false =>
        have HR := Lib.hid (HNX.out (fun h => by have := hr.2 h; cases this) w9 hb1)
        clear hr hb1 HYES HNX HSMW c0 c1 c2 g0 g1 g2
        go_wp2
        go_roundw
        case rel => exact HR.out
        case measure => (simp [intOf] <;> omega)
    · obtain rfl : k = xs.length := by omega
      have hd : decide ((xs.length : Int) < (xs.length : Int)) = false := by simp
      rw [show xs.length = (xs.map Prod.fst).length by simp, List.take_length] at hno
      have k1 := (hb.block _ (lt_of_block HK0.out)).trans HK0.out
      obtain ⟨g0, g1, g2, -, -, -⟩ := cells3 k1
      have hbz : Below wr.heap.size wr (wr.alloc (.cells #[] 59)).drew := drewG ((Below.refl _ _).alloc (Nat.le_refl _) _)
      have below_drewA := hbz
      obtain ⟨y, w2, hrun, hyo, hy1, hb2⟩ := copy_arcs wr (wr.alloc (.cells #[] 59)).drew wr.heap.size S ag cg g.rs (HR1.out wr hb1) (HS.out wr hb1) hl hbz (nil_rowA wr _ rfl)
      obtain ⟨ay, cy, rfl⟩ := owns_shape hyo
      have HG2 := Lib.hid (show w2.cell? ⟨w.heap.size, 0, none⟩ = some (.int .i64 g.f) ∧ w2.cell? ⟨w.heap.size, 1, none⟩ = some (.int .i64 g.t) ∧ w2.cell? ⟨w.heap.size, 2, none⟩ = some (.slice ag g.rs.length cg) from ⟨(hb2.cell (p := ⟨w.heap.size, 0, none⟩) (lt_of_block k1)).trans g0, (hb2.cell (p := ⟨w.heap.size, 1, none⟩) (lt_of_block k1)).trans g1, (hb2.cell (p := ⟨w.heap.size, 2, none⟩) (lt_of_block k1)).trans g2⟩)
      obtain ⟨g', cap, w3, hrun3, hO3, hb3, hs3, hk3⟩ := (HO.out wr hb1).push hb2 g hyo hy1 (by omega) (HBB.out wr hb1) (by have := hb1.size; have := HBS.out; omega)
      have HP := Lib.hid (show AddPost B wb (xs.map Prod.fst) g (.returned (.slice (some ⟨g', 0, none⟩) (xs.length + 1) cap)) w3 from ⟨some ⟨g', 0, none⟩, cap, xs ++ [(g, .slice ay g.rs.length cy)], by rw [List.length_append]; rfl, by rw [List.length_append]; exact hO3, by rw [List.map_append, addG_out hno]; rfl, hb3⟩)
      have hne3 : (Value.slice a xs.length c).ownBlock ≠ some w.heap.size := fun h => by have := (own_lt3 (HO.out w (Below.refl _ _)).out h).2; omega
      have hc3 : ∀ j, w3.cell? ⟨w.heap.size, j, none⟩ = w2.cell? ⟨w.heap.size, j, none⟩ := fun j => by
        unfold World.cell?
        rw [show (⟨w.heap.size, j, none⟩ : Addr).block = w.heap.size from rfl, hk3 w.heap.size (by have := lt_of_block k1; have := hb2.size; omega) hne3]
      have HG3 := Lib.hid (show w3.cell? ⟨w.heap.size, 0, none⟩ = some (.int .i64 g.f) ∧ w3.cell? ⟨w.heap.size, 1, none⟩ = some (.int .i64 g.t) ∧ w3.cell? ⟨w.heap.size, 2, none⟩ = some (.slice ag g.rs.length cg) from ⟨(hc3 0).trans HG2.out.1, (hc3 1).trans HG2.out.2.1, (hc3 2).trans HG2.out.2.2⟩)
      have HG4 := Lib.hid (fun (o : Obj) => (⟨((below_alloc (Below.refl w2.heap.size w2) o).cell (p := ⟨w.heap.size, 0, none⟩) (cell_lt HG2.out.1)).trans HG2.out.1, ((below_alloc (Below.refl w2.heap.size w2) o).cell (p := ⟨w.heap.size, 1, none⟩) (cell_lt HG2.out.1)).trans HG2.out.2.1, ((below_alloc (Below.refl w2.heap.size w2) o).cell (p := ⟨w.heap.size, 2, none⟩) (cell_lt HG2.out.1)).trans HG2.out.2.2⟩ : (w2.alloc o).cell? ⟨w.heap.size, 0, none⟩ = some (.int .i64 g.f) ∧ (w2.alloc o).cell? ⟨w.heap.size, 1, none⟩ = some (.int .i64 g.t) ∧ (w2.alloc o).cell? ⟨w.heap.size, 2, none⟩ = some (.slice ag g.rs.length cg)))
      have HRUN := Lib.hid hrun
      have HRUN3 := Lib.hid hrun3
      have hg0 : w.heap.size < wr.heap.size := lt_of_block k1
      clear hno hb hb1 k1 hrun hyo hb2 hrun3 hO3 hb3 hs3 hk3 hne3 hc3
      go_wp2
      refine wp_region_held_drew (S := (fun w' => w'.cell? ⟨w.heap.size, 0, none⟩ = some (.int .i64 g.f) ∧ w'.cell? ⟨w.heap.size, 1, none⟩ = some (.int .i64 g.t) ∧ w'.cell? ⟨w.heap.size, 2, none⟩ = some (.slice ag g.rs.length cg))) (by kernel_rfl) ⟨g0, g1, g2⟩ (fun hHeld => ?_)
      refine wpAnyH_take (i := 0) (v := ?_) rfl (by kernel_rfl) (by kernel_rfl) (by kernel_rfl) (fun _ _ _ h => h) (Or.inl ⟨by rfl, ?_⟩) (by assumption) ?_
      rotate_left
      · (intro w9 hSw; obtain ⟨s0, s1, s2⟩ := hSw; go_simp; try with_reducible rfl)
      try simp only [Act.put, List.getElem_toArray, List.getElem_cons_zero, List.setIfInBounds_toArray, List.set_cons_zero, List.set_cons_succ]
      refine wpAnyH_take (i := 1) (v := ?_) rfl (by kernel_rfl) (by kernel_rfl) (by kernel_rfl) (fun _ _ _ h => h) (Or.inl ⟨by rfl, ?_⟩) (by assumption) ?_
      rotate_left
      · (intro w9 hSw; obtain ⟨s0, s1, s2⟩ := hSw; go_simp; try with_reducible rfl)
      try simp only [Act.put, List.getElem_toArray, List.getElem_cons_zero, List.getElem_cons_succ, List.setIfInBounds_toArray, List.set_cons_zero, List.set_cons_succ]
      refine wpAnyH_take (i := 2) (v := ?_) rfl (by kernel_rfl) (by kernel_rfl) (by kernel_rfl) (fun _ _ _ h => h) (Or.inl ⟨by rfl, ?_⟩) (by assumption) ?_
      rotate_left
      · (intro w9 hSw; obtain ⟨s0, s1, s2⟩ := hSw; go_simp; try with_reducible rfl)
      try simp only [Act.put, List.getElem_toArray, List.getElem_cons_zero, List.getElem_cons_succ, List.setIfInBounds_toArray, List.set_cons_zero, List.set_cons_succ]
      refine wpAnyH_take (i := 3) (v := ?_) rfl (by kernel_rfl) (by kernel_rfl) (by kernel_rfl) (fun _ _ _ h => h) (Or.inl ⟨by rfl, ?_⟩) (by assumption) ?_
      rotate_left
      · (intro w9 hSw; obtain ⟨s0, s1, s2⟩ := hSw; go_simp; try with_reducible rfl)
      try simp only [Act.put, List.getElem_toArray, List.getElem_cons_zero, List.getElem_cons_succ, List.setIfInBounds_toArray, List.set_cons_zero, List.set_cons_succ]
      refine wpAnyH_take (i := 4) (v := ?_) rfl (by kernel_rfl) (by kernel_rfl) (by kernel_rfl) (fun _ _ _ h => h) (Or.inl ⟨by rfl, ?_⟩) (by assumption) ?_
      rotate_left
      · (intro w9 hSw; obtain ⟨s0, s1, s2⟩ := hSw; go_simp; try with_reducible rfl)
      try simp only [Act.put, List.getElem_toArray, List.getElem_cons_zero, List.getElem_cons_succ, List.setIfInBounds_toArray, List.set_cons_zero, List.set_cons_succ]
      refine wpAnyH_take (i := 6) (v := ?_) rfl (by kernel_rfl) (by kernel_rfl) (by kernel_rfl) (fun _ _ _ h => h) (Or.inl ⟨by rfl, ?_⟩) (by assumption) ?_
      rotate_left
      · (intro w9 hSw; obtain ⟨s0, s1, s2⟩ := hSw; go_simp; try with_reducible rfl)
      try simp only [Act.put, List.getElem_toArray, List.getElem_cons_zero, List.getElem_cons_succ, List.setIfInBounds_toArray, List.set_cons_zero, List.set_cons_succ]
      refine wpAnyH_take (i := 7) (v := ?_) rfl (by kernel_rfl) (by kernel_rfl) (by kernel_rfl) (fun _ _ _ h => h) (Or.inl ⟨by rfl, ?_⟩) (by assumption) ?_
      rotate_left
      · (intro w9 hSw; obtain ⟨s0, s1, s2⟩ := hSw; go_simp; try with_reducible rfl)
      try simp only [Act.put, List.getElem_toArray, List.getElem_cons_zero, List.getElem_cons_succ, List.setIfInBounds_toArray, List.set_cons_zero, List.set_cons_succ]
      refine wpAnyH_ready (rs := [5]) (by kernel_rfl) (by simp) ?_
      refine AllReadyH.cons rfl (fun K hK => ?_) AllReadyH.nil
      go_simp
      refine hK.out _ _ ⟨(below_drewA.cell (p := ⟨w.heap.size, 0, none⟩) hg0).trans g0, (below_drewA.cell (p := ⟨w.heap.size, 1, none⟩) hg0).trans g1, (below_drewA.cell (p := ⟨w.heap.size, 2, none⟩) hg0).trans g2⟩ (fun _ => ?_)
      clear hK K
      try simp only [Act.put, List.getElem_toArray, List.getElem_cons_zero, List.getElem_cons_succ, List.setIfInBounds_toArray, List.set_cons_zero, List.set_cons_succ]
      refine wpAnyH_ready (rs := [8]) (by kernel_rfl) (by simp) ?_
      refine AllReadyH.cons rfl (fun K hK => ?_) AllReadyH.nil
      refine wp_append_run _ _ _ rfl rfl rfl HRUN.out ?_
      refine hK.out _ _ HG2.out (fun _ => ?_)
      clear hK K
      try simp only [Act.put, List.getElem_toArray, List.getElem_cons_zero, List.getElem_cons_succ, List.setIfInBounds_toArray, List.set_cons_zero, List.set_cons_succ]
      refine wpAnyH_take (i := 9) (v := ?_) rfl (by kernel_rfl) (by kernel_rfl) (by kernel_rfl) (fun _ _ _ h => h) (Or.inl ⟨by rfl, ?_⟩) (by assumption) ?_
      rotate_left
      · (intro w9 hSw; obtain ⟨s0, s1, s2⟩ := hSw; go_simp; try with_reducible rfl)
      try simp only [Act.put, List.getElem_toArray, List.getElem_cons_zero, List.getElem_cons_succ, List.setIfInBounds_toArray, List.set_cons_zero, List.set_cons_succ]
      refine wpAnyH_ready (rs := [10]) (by kernel_rfl) (by simp) ?_
      refine AllReadyH.cons rfl (fun K hK => ?_) AllReadyH.nil
      go_simp
      refine hK.out _ _ (HG4.out _) (fun _ => ?_)
      clear hK K
      try simp only [Act.put, List.getElem_toArray, List.getElem_cons_zero, List.getElem_cons_succ, List.setIfInBounds_toArray, List.set_cons_zero, List.set_cons_succ]
      refine wpAnyH_ready (rs := [11]) (by kernel_rfl) (by simp) ?_
      refine AllReadyH.cons rfl (fun K hK => ?_) AllReadyH.nil
      refine wp_append_run _ _ _ rfl rfl rfl HRUN3.out ?_
      refine hK.out _ _ (HG3.out) (fun _ => ?_)
      clear hK K
      try simp only [Act.put, List.getElem_toArray, List.getElem_cons_zero, List.getElem_cons_succ, List.setIfInBounds_toArray, List.set_cons_zero, List.set_cons_succ]
      refine wpAnyH_take (i := 12) (v := ?_) rfl (by kernel_rfl) (by kernel_rfl) (by kernel_rfl) (fun _ _ _ h => h) (Or.inl ⟨by rfl, ?_⟩) (by assumption) ?_
      rotate_left
      · (intro w9 hSw; obtain ⟨s0, s1, s2⟩ := hSw; go_simp; try with_reducible rfl)
      try simp only [Act.put, List.getElem_toArray, List.getElem_cons_zero, List.getElem_cons_succ, List.setIfInBounds_toArray, List.set_cons_zero, List.set_cons_succ]
      refine wpAnyH_done (by kernel_rfl) ?_ _
      go_wp2_with fail
      go_ret
      exact HP.out

end Go.Proofs.Ytgjmefcognoepaa.Pr
