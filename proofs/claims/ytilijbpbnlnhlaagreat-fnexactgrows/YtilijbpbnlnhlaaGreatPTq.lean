/-
  THE LAWS' OWN COPYING, with one word more: what it lays anew are plain rows, in which nothing is frozen.
-/
import Derived.Test.YtilijbpbnlnhlaaGreatPTr
namespace Go.Proofs.YtilijbpbnlnhlaaGreat.Pr
open Go Go.RowKit Go.Maps Go.WideMaps

/-- All blocks from n on are rows with nothing frozen in them. -/
def Plain (n : Nat) (w : World) : Prop := ∀ b, n ≤ b → b < w.heap.size → ∃ cur ty, w.heap[b]? = some (.cells cur ty (0, 0))
theorem Plain.start (w : World) : Plain w.heap.size w := fun _ h1 h2 => by omega
theorem Plain.alloc {n : Nat} {w : World} (h : Plain n w) (cs : Array Value) (ty : TypeId) : Plain n (w.alloc (.cells cs ty)) := by
  intro b h1 h2
  have hs : (w.alloc (.cells cs ty)).heap.size = w.heap.size + 1 := by simp
  by_cases hb : b < w.heap.size
  · rw [heap_alloc_old w _ hb]; exact h b h1 hb
  · obtain rfl : b = w.heap.size := by omega
    exact ⟨cs, ty, heap_alloc_new w _⟩
theorem Plain.setCell {n : Nat} {w : World} (h : Plain n w) (g o : Nat) (u : Value) : Plain n (w.setCell ⟨g, o, none⟩ u) := by
  intro b h1 h2
  have hs : (w.setCell ⟨g, o, none⟩ u).heap.size = w.heap.size := by simp [World.setCell]
  obtain ⟨cur, ty, hc⟩ := h b h1 (by omega)
  by_cases hb : b = g
  · subst hb
    exact ⟨cur.setIfInBounds o u, ty, heap_setCell_same w b o cur ty u hc⟩
  · exact ⟨cur, ty, (heap_setCell_other w ⟨g, o, none⟩ b u hb).trans hc⟩
theorem Plain.step {n : Nat} {w w' : World} (h : Plain n w) (hb : Below w.heap.size w w') (h' : Plain w.heap.size w') : Plain n w' := by
  intro b h1 h2
  by_cases hl : b < w.heap.size
  · rw [hb.block b hl]; exact h b h1 hl
  · exact h' b (by omega) h2
theorem Plain.setAll : ∀ {n : Nat} {w : World} (_ : Plain n w) (g o : Nat) (vs : List Value), Plain n (Pr.setAll w g o vs)
  | _, _, h, _, _, [] => h
  | _, _, h, g, o, v :: r => Plain.setAll (h.setCell g o v) g (o + 1) r
theorem Plain.frozen {n : Nat} {w : World} (h : Plain n w) {b : Nat} (h1 : n ≤ b) (h2 : b < w.heap.size) (o : Nat) : w.frozen? ⟨b, o, none⟩ = false := by
  obtain ⟨cur, ty, hc⟩ := h b h1 h2
  exact frozen_row hc o

def TpRelIntS (w : World) (xs : List Int) (g : Nat) (v4 : Value) (wr : World) : Prop :=
  ∃ k : Nat, v4 = .int .i64 (k : Int) ∧ k ≤ xs.length ∧ wr.ownsRow w.heap.size 3 1 (.slice (some ⟨g, 0, none⟩) xs.length xs.length) xs.length (intCells (xs.take k ++ List.replicate (xs.length - k) 0)) ∧ Below w.heap.size w wr ∧ Plain w.heap.size wr

set_option maxRecDepth 100000 in
set_option maxHeartbeats 2000000 in
theorem tpIntS_any (a : Option Addr) (cap : Nat) (xs : List Int) (S : Nat → Prop) (w : World) (hrow : IntsIn S w a xs) (hS : ∀ b, S b → b < w.heap.size) (hn : xs.length ≤ 1048576) :
    Calls Tryz.prog 51 #[.slice a xs.length cap] w fun e w' => ∃ g : Nat, e = .returned (.slice (some ⟨g, 0, none⟩) xs.length xs.length) ∧ IntsIn (Seg w.heap.size w'.heap.size) w' (some ⟨g, 0, none⟩) xs ∧ Below w.heap.size w w' ∧ Plain w.heap.size w' := by
  have HR := Lib.hid hrow
  have HS := Lib.hid hS
  clear hrow hS
  obtain ⟨i0, hi0, hz0, hz1, hz2⟩ := info_parts infoIntS
  have hmk : (Instr.makeSlice 23 (.int .i64 (xs.length : Int)) (.int .i64 (xs.length : Int))).run Tryz.prog w = .ok (.slice (some ⟨w.heap.size, 0, none⟩) xs.length xs.length) (w.alloc (.cells (madeCells #[.int .i64 0] xs.length) 3)) := by
    rw [run_make w 23 3 i0 _ Tryz.underlying23 hi0 hz0 .i64 .i64 _ _ (by omega) (by omega) (by rw [hz2]; omega) (by omega), hz1, Int.toNat_natCast, Nat.mul_one]
    rfl
  have hown0 : (w.alloc (.cells (madeCells #[.int .i64 0] xs.length) 3)).ownsRow w.heap.size 3 1 (.slice (some ⟨w.heap.size, 0, none⟩) xs.length xs.length) xs.length (intCells ([] ++ List.replicate xs.length 0)) := by
    refine ⟨by simp [intCells], .inr ⟨w.heap.size, xs.length, _, rfl, Nat.le_refl _, heap_alloc_new w _, Nat.le_refl _, by unfold maxLen; omega, by rw [size_madeCells, Nat.mul_one], ?_⟩⟩
    rw [toList_madeCells_one, Nat.mul_one]
    simp [intCells]
  have hb0 := (Below.refl w.heap.size w).alloc (Nat.le_refl _) (Obj.cells (madeCells #[.int .i64 0] xs.length) 3)
  have hp0 := Lib.hid ((Plain.start w).alloc (madeCells #[.int .i64 0] xs.length) 3)
  generalize w.alloc (.cells (madeCells #[.int .i64 0] xs.length) 3) = W0 at *
  clear hi0 hz0 hz1 hz2
  go_enter Tryz.func51, Tryz.ntmps51
  go_wp2
  clear hmk
  go_loopw [4] (fun v4 wr => TpRelIntS w xs w.heap.size v4 wr) (fun v4 _ => (xs.length - (intOf v4).toNat))
  case atStart => exact ⟨0, rfl, Nat.zero_le _, hown0, hb0, hp0.out⟩
  case round =>
    obtain ⟨k, rfl, hk, hown, hb, hp⟩ := hrel
    have HP := Lib.hid hp
    clear hp
    by_cases hlt : k < xs.length
    · obtain ⟨b, off, rfl, hbl, hx⟩ := HR.out k hlt
      have hx' : wr.cell? ⟨b, off + k, none⟩ = some (.int .i64 xs[k]) := (hb.cell (HS.out _ hbl)).trans hx
      obtain ⟨u, hu⟩ : ∃ u, wr.cell? ⟨w.heap.size, k, none⟩ = some u := ⟨_, (hown.cellAt k (by omega)).trans (List.getElem?_eq_getElem (by simp [intCells]; omega))⟩
      have hfz : wr.frozen? ⟨w.heap.size, k, none⟩ = false := row_frozen hown k
      have HRR := Lib.hid ((⟨k + 1, by go_num, by omega, by
          have hos := owns_set hown hlt (.int .i64 xs[k])
          have hcl : (intCells (xs.take k ++ List.replicate (xs.length - k) 0)).set k (.int .i64 xs[k]) = intCells (xs.take (k + 1) ++ List.replicate (xs.length - (k + 1)) 0) := by
            have e2 : (intCells (xs.take k)).length = k := by simp [intCells]; omega
            rw [List.take_succ_eq_append_getElem hlt, show xs.length - k = (xs.length - (k + 1)) + 1 from by omega, List.replicate_succ]
            simp only [intCells, List.map_append, List.map_cons] at e2 ⊢
            rw [List.set_append_right _ _ (by omega), e2]
            simp
          rw [hcl] at hos
          exact hos, hb.setCell (p := ⟨w.heap.size, k, none⟩) (Nat.le_refl _) _, HP.out.setCell _ _ _⟩ : TpRelIntS w xs w.heap.size (.int .i64 ((k : Int) + 1)) (wr.setCell ⟨w.heap.size, k, none⟩ (.int .i64 xs[k]))))
      clear hown hb hx hbl
      generalize xs[k] = x at *
      go_wp2
      go_roundw
      case rel => exact HRR.out
      case measure => simp [intOf]; omega
    · obtain rfl : k = xs.length := by omega
      rw [List.take_length, Nat.sub_self, List.replicate_zero, List.append_nil] at hown
      have hgl : w.heap.size < wr.heap.size := by
        rcases hown.2 with ⟨h', _⟩ | ⟨g', cap', cur, hv', _, hh', _⟩
        · cases h'
        · simp only [Value.slice.injEq, Option.some.injEq, Addr.mk.injEq, true_and, and_true] at hv'
          obtain ⟨rfl, rfl⟩ := hv'
          exact lt_of_block hh'
      have HO := Lib.hid (own_IntS hown hgl (Nat.le_refl _))
      clear hown hgl
      go_wp2
      go_ret
      exact ⟨_, rfl, HO.out, hb, HP.out⟩

set_option maxRecDepth 100000 in
set_option maxHeartbeats 2000000 in
theorem tpExp_any (x : It) (vs : List Value) (S : Nat → Prop) (w : World) (hF : FIt S w vs x) (hS : ∀ b, S b → b < w.heap.size) (hn : x.wt ≤ 1048576) :
    Calls Tryz.prog 50 #[.agg vs.toArray] w fun e w' => ∃ us : List Value, e = .returned (.agg us.toArray) ∧ FIt (Seg w.heap.size w'.heap.size) w' us x ∧ Below w.heap.size w w' ∧ Plain w.heap.size w' := by
  obtain ⟨axs, cxs, rfl, rr0⟩ := hF
  unfold It.wt at hn
  have HZ2 := Lib.hid (fun (W : World) (hW : Below w.heap.size w W) => tpIntS_any axs cxs x.xs S W (rr0.kept (Same.below hS hW)) (fun b hb => Nat.lt_of_lt_of_le (hS b hb) hW.size) (by have := lenIntS x.xs; omega))
  clear rr0 hS
  have hb := alloc3_below w (Obj.cells #[.int .i64 x.k, .string x.s, .slice axs x.xs.length cxs] 68) (Obj.cells #[.int .i64 0, .string ⟨#[]⟩, .slice none 0 0] 49) (Obj.cells #[.int .i64 x.k, .string x.s, .slice none 0 0] 49)
  have hs0 := alloc3_size w (Obj.cells #[.int .i64 x.k, .string x.s, .slice axs x.xs.length cxs] 68) (Obj.cells #[.int .i64 0, .string ⟨#[]⟩, .slice none 0 0] 49) (Obj.cells #[.int .i64 x.k, .string x.s, .slice none 0 0] 49)
  have k1 := alloc3_1 w (Obj.cells #[.int .i64 x.k, .string x.s, .slice axs x.xs.length cxs] 68) (Obj.cells #[.int .i64 0, .string ⟨#[]⟩, .slice none 0 0] 49) (Obj.cells #[.int .i64 x.k, .string x.s, .slice none 0 0] 49)
  have k2 := alloc3_2 w (Obj.cells #[.int .i64 x.k, .string x.s, .slice axs x.xs.length cxs] 68) (Obj.cells #[.int .i64 0, .string ⟨#[]⟩, .slice none 0 0] 49) (Obj.cells #[.int .i64 x.k, .string x.s, .slice none 0 0] 49)
  have KP := Lib.hid (alloc3_0 w (Obj.cells #[.int .i64 x.k, .string x.s, .slice axs x.xs.length cxs] 68) (Obj.cells #[.int .i64 0, .string ⟨#[]⟩, .slice none 0 0] 49) (Obj.cells #[.int .i64 x.k, .string x.s, .slice none 0 0] 49))
  have HP := Lib.hid ((((Plain.start w).alloc _ _).alloc _ _).alloc _ _ : Plain w.heap.size (((w.alloc (Obj.cells #[.int .i64 x.k, .string x.s, .slice axs x.xs.length cxs] 68)).alloc (Obj.cells #[.int .i64 0, .string ⟨#[]⟩, .slice none 0 0] 49)).alloc (Obj.cells #[.int .i64 x.k, .string x.s, .slice none 0 0] 49)))
  go_enter Tryz.func50, Tryz.ntmps50
  go_wp2_with fail
  refine (HZ2.out _ hb).mono ?_
  rintro e w2 ⟨g2, rfl, hI2, hb1, hp1⟩
  replace hI2 := hI2.mono (fun b hb => hb.mono (show w.heap.size + 3 ≤ _ by omega) (Nat.le_refl _))
  replace k1 := (hb1.block _ (by omega)).trans k1
  replace k2 := (hb1.block _ (by omega)).trans k2
  replace KP := Lib.hid ((hb1.block _ (lt_of_block KP.out)).trans KP.out)
  replace hb := below_step hb hb1
  replace hs0 : w.heap.size + 3 ≤ w2.heap.size := by have := hb1.size; omega
  replace HP := Lib.hid (HP.out.step hb1 hp1)
  clear HZ2 hb1 hp1
  have c10 := (cell_of_row _ (w.heap.size + 1) 0 _ _ _ k1)
  simp only [List.getElem?_toArray, List.getElem?_cons_zero] at c10
  have c11 := (cell_of_row _ (w.heap.size + 1) 1 _ _ _ k1)
  simp only [List.getElem?_toArray, List.getElem?_cons_zero, List.getElem?_cons_succ] at c11
  have c12 := (cell_of_row _ (w.heap.size + 1) 2 _ _ _ k1)
  simp only [List.getElem?_toArray, List.getElem?_cons_zero, List.getElem?_cons_succ] at c12
  have c20 := (cell_of_row _ (w.heap.size + 2) 0 _ _ _ k2)
  simp only [List.getElem?_toArray, List.getElem?_cons_zero] at c20
  have c21 := (cell_of_row _ (w.heap.size + 2) 1 _ _ _ k2)
  simp only [List.getElem?_toArray, List.getElem?_cons_zero, List.getElem?_cons_succ] at c21
  have c22 := (cell_of_row _ (w.heap.size + 2) 2 _ _ _ k2)
  simp only [List.getElem?_toArray, List.getElem?_cons_zero, List.getElem?_cons_succ] at c22
  have f10 := frozen_row k1 0
  have f20 := frozen_row k2 0
  have f11 := frozen_row k1 1
  have f21 := frozen_row k2 1
  have f12 := frozen_row k1 2
  have f22 := frozen_row k2 2
  try clear p0
  have p0 := cell_of_row _ (w.heap.size) 0 _ _ _ KP.out
  simp only [List.getElem?_toArray, List.getElem?_cons_zero] at p0
  try clear p1
  have p1 := cell_of_row _ (w.heap.size) 1 _ _ _ KP.out
  simp only [List.getElem?_toArray, List.getElem?_cons_zero, List.getElem?_cons_succ] at p1
  try clear p2
  have p2 := cell_of_row _ (w.heap.size) 2 _ _ _ KP.out
  simp only [List.getElem?_toArray, List.getElem?_cons_zero, List.getElem?_cons_succ] at p2
  have HhI2 := Lib.hid hI2
  clear hI2
  have HK1 := Lib.hid k1
  have HK2 := Lib.hid k2
  have HB := Lib.hid hb
  clear k1 k2 hb
  go_wp2
  obtain ⟨hres, hbel, hsame, hsz⟩ := laid_out (w := w) (W := w2) (c := 3) 2 [.slice (some ⟨g2, 0, none⟩) x.xs.length x.xs.length] [.int .i64 x.k, .string x.s, .slice (some ⟨g2, 0, none⟩) x.xs.length x.xs.length] HK1.out HK2.out HB.out (by simp) (by simp) (by simp)
  refine bodyPost_ret (results_cell_row rfl _ _ (w.heap.size + 1) 49 #[.int .i64 x.k, .string x.s, .slice (some ⟨g2, 0, none⟩) x.xs.length x.xs.length] (0, 0) _ (by rfl) hres Tryz.underlying49 rfl infoSExp) rfl ?_
  refine ⟨[.int .i64 x.k, .string x.s, .slice (some ⟨g2, 0, none⟩) x.xs.length x.xs.length], rfl, ⟨_, _, rfl, ?_⟩, hbel, ?_⟩
  · exact (HhI2.out.kept (hsame _ (fun h => by have := h.1; omega) (fun h => by have := h.1; omega))).mono (fun b hb => hb.mono (by omega) (Nat.le_of_eq hsz.symm))
  · exact (HP.out.setAll (w.heap.size + 2) 2 [.slice (some ⟨g2, 0, none⟩) x.xs.length x.xs.length]).setAll (w.heap.size + 1) 0 [.int .i64 x.k, .string x.s, .slice (some ⟨g2, 0, none⟩) x.xs.length x.xs.length]

def TpRelExpS (w : World) (l : List It) (v4 : Value) (wr : World) : Prop :=
  ∃ (k : Nat), v4 = .int .i64 (k : Int) ∧ k ≤ l.length ∧ RowTo FIt 3 49 w.heap.size w.heap.size wr l k ∧ Below w.heap.size w wr ∧ Plain w.heap.size wr

set_option maxRecDepth 100000 in
set_option maxHeartbeats 2000000 in
theorem tpExpS_any (a : Option Addr) (cap : Nat) (l : List It) (S : Nat → Prop) (w : World) (hrow : RowIn FIt 3 S w a l) (hS : ∀ b, S b → b < w.heap.size) (hn : wtExpS l ≤ 1048576) :
    Calls Tryz.prog 25 #[.slice a l.length cap] w fun e w' => ∃ g : Nat, e = .returned (.slice (some ⟨g, 0, none⟩) l.length l.length) ∧ RowIn FIt 3 (Seg w.heap.size w'.heap.size) w' (some ⟨g, 0, none⟩) l ∧ Below w.heap.size w w' ∧ Plain w.heap.size w' := by
  have HR := Lib.hid hrow
  have HS := Lib.hid hS
  have HW := Lib.hid hn
  have hln := lenExpS l
  have hln2 : l.length ≤ 1048576 := by omega
  clear hrow hS hn hln
  obtain ⟨i0, hi0, hz0, hz1, hz2⟩ := info_parts infoExp
  have hmk : (Instr.makeSlice 32 (.int .i64 (l.length : Int)) (.int .i64 (l.length : Int))).run Tryz.prog w = .ok (.slice (some ⟨w.heap.size, 0, none⟩) l.length l.length) (w.alloc (.cells (madeCells #[.int .i64 0, .string ⟨#[]⟩, .slice none 0 0] (l.length * 3)) 49)) := by
    rw [run_make w 32 49 i0 _ Tryz.underlying32 hi0 hz0 .i64 .i64 _ _ (by omega) (by omega) (by rw [hz2]; omega) (by omega), hz1, Int.toNat_natCast]
    rfl
  have hst : TpRelExpS w l (.int .i64 0) (w.alloc (.cells (madeCells #[.int .i64 0, .string ⟨#[]⟩, .slice none 0 0] (l.length * 3)) 49)) :=
    ⟨0, rfl, Nat.zero_le _, ⟨⟨_, heap_alloc_new w _, size_madeCells _ _⟩, Nat.le_refl _, fun i h hi => by omega⟩, (Below.refl w.heap.size w).alloc (Nat.le_refl _) _, (Plain.start w).alloc _ _⟩
  have HST := Lib.hid hst
  generalize w.alloc (.cells (madeCells #[.int .i64 0, .string ⟨#[]⟩, .slice none 0 0] (l.length * 3)) 49) = W0 at *
  clear hi0 hz0 hz1 hz2 hst
  go_enter Tryz.func25, Tryz.ntmps25
  go_wp2
  clear hmk
  go_loopw [4] (fun v4 wr => TpRelExpS w l v4 wr) (fun v4 _ => (l.length - (intOf v4).toNat))
  case atStart => exact HST.out
  case round =>
    obtain ⟨k, rfl, hk, hto, hb, hp⟩ := hrel
    have HP := Lib.hid hp
    clear hp
    by_cases hlt : k < l.length
    · obtain ⟨b, off, vs, rfl, hbl, hvl, hcc, hFF⟩ := RowIn.kept FIt_keeps HR.out (Same.below HS.out hb) k hlt
      have HC := Lib.hid hFF
      obtain ⟨axs, cxs, rfl, hh0⟩ := hFF
      have hx0 : wr.cell? ⟨b, off + k * 3, none⟩ = some (.int .i64 l[k].k) := hcc 0 (by simp)
      have hx1 : wr.cell? ⟨b, off + k * 3 + 1, none⟩ = some (.string l[k].s) := hcc 1 (by simp)
      have hx2 : wr.cell? ⟨b, off + k * 3 + 2, none⟩ = some (.slice axs l[k].xs.length cxs) := hcc 2 (by simp)
      have hxw : l[k].wt ≤ 1048576 := by
        have h1 := HW.out
        have h2 := wsum_mem It.wt (List.getElem_mem hlt)
        unfold wtExpS at h1
        omega
      have HZ := Lib.hid (tpExp_any l[k] _ S wr HC.out (fun q hq => Nat.lt_of_lt_of_le (HS.out q hq) hb.size) hxw)
      have HSTEP := Lib.hid (fun (w1 : World) (hb1 : Below wr.heap.size wr w1) (us : List Value) (hu : us.length = 3) (hF : FIt (Seg wr.heap.size w1.heap.size) w1 us l[k]) => hto.step FIt_keeps hlt hb1 hu hF)
      have HROOM := Lib.hid (fun (w1 : World) (hb1 : Below wr.heap.size wr w1) (j : Nat) (hj : j < 3) => hto.room hb1 hlt hj)
      have HB := Lib.hid hb
      clear hb hto hcc hvl hbl HC hxw hh0
      generalize l[k] = x at *
      go_wp2_with fail
      refine HZ.out.mono ?_
      rintro e w1 ⟨us, rfl, hFu, hb1, hp1⟩
      have hul : us.length = 3 := by
        obtain ⟨bxs, dxs, rfl, gg0⟩ := hFu
        rfl
      obtain ⟨hr1, hr2⟩ := HSTEP.out w1 hb1 us hul hFu
      have HRR := Lib.hid ((⟨k + 1, by go_num, by omega, hr1, (HB.out.mono (Nat.le_refl _)).trans hr2, (HP.out.step hb1 hp1).setAll _ _ _⟩ : TpRelExpS w l (.int .i64 ((k : Int) + 1)) (setAll w1 w.heap.size (k * 3) us)))
      obtain ⟨⟨u0, hu0⟩, hf0⟩ := HROOM.out w1 hb1 0 (by omega)
      obtain ⟨⟨u1, hu1⟩, hf1⟩ := HROOM.out w1 hb1 1 (by omega)
      obtain ⟨⟨u2, hu2⟩, hf2⟩ := HROOM.out w1 hb1 2 (by omega)
      clear HZ HSTEP HROOM hr1 hr2 hb1 hp1
      obtain ⟨axs, cxs, rfl, gg0⟩ := hFu
      clear gg0
      simp only [Nat.add_zero] at hu0 hf0
      go_wp2
      go_roundw
      case rel => exact HRR.out
      case measure => simp [intOf]; omega
    · obtain rfl : k = l.length := by omega
      have HO := Lib.hid (hto.done FIt_keeps)
      clear hto
      go_wp2
      go_ret
      exact ⟨_, rfl, HO.out, hb, HP.out⟩

set_option maxRecDepth 100000 in
set_option maxHeartbeats 2000000 in
theorem tpLit_any (x : It) (vs : List Value) (S : Nat → Prop) (w : World) (hF : FIt S w vs x) (hS : ∀ b, S b → b < w.heap.size) (hn : x.wt ≤ 1048576) :
    Calls Tryz.prog 26 #[.agg vs.toArray] w fun e w' => ∃ us : List Value, e = .returned (.agg us.toArray) ∧ FIt (Seg w.heap.size w'.heap.size) w' us x ∧ Below w.heap.size w w' ∧ Plain w.heap.size w' := by
  obtain ⟨axs, cxs, rfl, rr0⟩ := hF
  unfold It.wt at hn
  have HZ2 := Lib.hid (fun (W : World) (hW : Below w.heap.size w W) => tpIntS_any axs cxs x.xs S W (rr0.kept (Same.below hS hW)) (fun b hb => Nat.lt_of_lt_of_le (hS b hb) hW.size) (by have := lenIntS x.xs; omega))
  clear rr0 hS
  have hb := alloc3_below w (Obj.cells #[.int .i64 x.k, .string x.s, .slice axs x.xs.length cxs] 25) (Obj.cells #[.int .i64 0, .string ⟨#[]⟩, .slice none 0 0] 33) (Obj.cells #[.int .i64 x.k, .string x.s, .slice none 0 0] 33)
  have hs0 := alloc3_size w (Obj.cells #[.int .i64 x.k, .string x.s, .slice axs x.xs.length cxs] 25) (Obj.cells #[.int .i64 0, .string ⟨#[]⟩, .slice none 0 0] 33) (Obj.cells #[.int .i64 x.k, .string x.s, .slice none 0 0] 33)
  have k1 := alloc3_1 w (Obj.cells #[.int .i64 x.k, .string x.s, .slice axs x.xs.length cxs] 25) (Obj.cells #[.int .i64 0, .string ⟨#[]⟩, .slice none 0 0] 33) (Obj.cells #[.int .i64 x.k, .string x.s, .slice none 0 0] 33)
  have k2 := alloc3_2 w (Obj.cells #[.int .i64 x.k, .string x.s, .slice axs x.xs.length cxs] 25) (Obj.cells #[.int .i64 0, .string ⟨#[]⟩, .slice none 0 0] 33) (Obj.cells #[.int .i64 x.k, .string x.s, .slice none 0 0] 33)
  have KP := Lib.hid (alloc3_0 w (Obj.cells #[.int .i64 x.k, .string x.s, .slice axs x.xs.length cxs] 25) (Obj.cells #[.int .i64 0, .string ⟨#[]⟩, .slice none 0 0] 33) (Obj.cells #[.int .i64 x.k, .string x.s, .slice none 0 0] 33))
  have HP := Lib.hid ((((Plain.start w).alloc _ _).alloc _ _).alloc _ _ : Plain w.heap.size (((w.alloc (Obj.cells #[.int .i64 x.k, .string x.s, .slice axs x.xs.length cxs] 25)).alloc (Obj.cells #[.int .i64 0, .string ⟨#[]⟩, .slice none 0 0] 33)).alloc (Obj.cells #[.int .i64 x.k, .string x.s, .slice none 0 0] 33)))
  go_enter Tryz.func26, Tryz.ntmps26
  go_wp2_with fail
  refine (HZ2.out _ hb).mono ?_
  rintro e w2 ⟨g2, rfl, hI2, hb1, hp1⟩
  replace hI2 := hI2.mono (fun b hb => hb.mono (show w.heap.size + 3 ≤ _ by omega) (Nat.le_refl _))
  replace k1 := (hb1.block _ (by omega)).trans k1
  replace k2 := (hb1.block _ (by omega)).trans k2
  replace KP := Lib.hid ((hb1.block _ (lt_of_block KP.out)).trans KP.out)
  replace hb := below_step hb hb1
  replace hs0 : w.heap.size + 3 ≤ w2.heap.size := by have := hb1.size; omega
  replace HP := Lib.hid (HP.out.step hb1 hp1)
  clear HZ2 hb1 hp1
  have c10 := (cell_of_row _ (w.heap.size + 1) 0 _ _ _ k1)
  simp only [List.getElem?_toArray, List.getElem?_cons_zero] at c10
  have c11 := (cell_of_row _ (w.heap.size + 1) 1 _ _ _ k1)
  simp only [List.getElem?_toArray, List.getElem?_cons_zero, List.getElem?_cons_succ] at c11
  have c12 := (cell_of_row _ (w.heap.size + 1) 2 _ _ _ k1)
  simp only [List.getElem?_toArray, List.getElem?_cons_zero, List.getElem?_cons_succ] at c12
  have c20 := (cell_of_row _ (w.heap.size + 2) 0 _ _ _ k2)
  simp only [List.getElem?_toArray, List.getElem?_cons_zero] at c20
  have c21 := (cell_of_row _ (w.heap.size + 2) 1 _ _ _ k2)
  simp only [List.getElem?_toArray, List.getElem?_cons_zero, List.getElem?_cons_succ] at c21
  have c22 := (cell_of_row _ (w.heap.size + 2) 2 _ _ _ k2)
  simp only [List.getElem?_toArray, List.getElem?_cons_zero, List.getElem?_cons_succ] at c22
  have f10 := frozen_row k1 0
  have f20 := frozen_row k2 0
  have f11 := frozen_row k1 1
  have f21 := frozen_row k2 1
  have f12 := frozen_row k1 2
  have f22 := frozen_row k2 2
  try clear p0
  have p0 := cell_of_row _ (w.heap.size) 0 _ _ _ KP.out
  simp only [List.getElem?_toArray, List.getElem?_cons_zero] at p0
  try clear p1
  have p1 := cell_of_row _ (w.heap.size) 1 _ _ _ KP.out
  simp only [List.getElem?_toArray, List.getElem?_cons_zero, List.getElem?_cons_succ] at p1
  try clear p2
  have p2 := cell_of_row _ (w.heap.size) 2 _ _ _ KP.out
  simp only [List.getElem?_toArray, List.getElem?_cons_zero, List.getElem?_cons_succ] at p2
  have HhI2 := Lib.hid hI2
  clear hI2
  have HK1 := Lib.hid k1
  have HK2 := Lib.hid k2
  have HB := Lib.hid hb
  clear k1 k2 hb
  go_wp2
  obtain ⟨hres, hbel, hsame, hsz⟩ := laid_out (w := w) (W := w2) (c := 3) 2 [.slice (some ⟨g2, 0, none⟩) x.xs.length x.xs.length] [.int .i64 x.k, .string x.s, .slice (some ⟨g2, 0, none⟩) x.xs.length x.xs.length] HK1.out HK2.out HB.out (by simp) (by simp) (by simp)
  refine bodyPost_ret (results_cell_row rfl _ _ (w.heap.size + 1) 33 #[.int .i64 x.k, .string x.s, .slice (some ⟨g2, 0, none⟩) x.xs.length x.xs.length] (0, 0) _ (by rfl) hres Tryz.underlying33 rfl infoSLit) rfl ?_
  refine ⟨[.int .i64 x.k, .string x.s, .slice (some ⟨g2, 0, none⟩) x.xs.length x.xs.length], rfl, ⟨_, _, rfl, ?_⟩, hbel, ?_⟩
  · exact (HhI2.out.kept (hsame _ (fun h => by have := h.1; omega) (fun h => by have := h.1; omega))).mono (fun b hb => hb.mono (by omega) (Nat.le_of_eq hsz.symm))
  · exact (HP.out.setAll (w.heap.size + 2) 2 [.slice (some ⟨g2, 0, none⟩) x.xs.length x.xs.length]).setAll (w.heap.size + 1) 0 [.int .i64 x.k, .string x.s, .slice (some ⟨g2, 0, none⟩) x.xs.length x.xs.length]

def TpRelLitS (w : World) (l : List It) (v4 : Value) (wr : World) : Prop :=
  ∃ (k : Nat), v4 = .int .i64 (k : Int) ∧ k ≤ l.length ∧ RowTo FIt 3 33 w.heap.size w.heap.size wr l k ∧ Below w.heap.size w wr ∧ Plain w.heap.size wr

set_option maxRecDepth 100000 in
set_option maxHeartbeats 2000000 in
theorem tpLitS_any (a : Option Addr) (cap : Nat) (l : List It) (S : Nat → Prop) (w : World) (hrow : RowIn FIt 3 S w a l) (hS : ∀ b, S b → b < w.heap.size) (hn : wtLitS l ≤ 1048576) :
    Calls Tryz.prog 27 #[.slice a l.length cap] w fun e w' => ∃ g : Nat, e = .returned (.slice (some ⟨g, 0, none⟩) l.length l.length) ∧ RowIn FIt 3 (Seg w.heap.size w'.heap.size) w' (some ⟨g, 0, none⟩) l ∧ Below w.heap.size w w' ∧ Plain w.heap.size w' := by
  have HR := Lib.hid hrow
  have HS := Lib.hid hS
  have HW := Lib.hid hn
  have hln := lenLitS l
  have hln2 : l.length ≤ 1048576 := by omega
  clear hrow hS hn hln
  obtain ⟨i0, hi0, hz0, hz1, hz2⟩ := info_parts infoLit
  have hmk : (Instr.makeSlice 34 (.int .i64 (l.length : Int)) (.int .i64 (l.length : Int))).run Tryz.prog w = .ok (.slice (some ⟨w.heap.size, 0, none⟩) l.length l.length) (w.alloc (.cells (madeCells #[.int .i64 0, .string ⟨#[]⟩, .slice none 0 0] (l.length * 3)) 33)) := by
    rw [run_make w 34 33 i0 _ Tryz.underlying34 hi0 hz0 .i64 .i64 _ _ (by omega) (by omega) (by rw [hz2]; omega) (by omega), hz1, Int.toNat_natCast]
    rfl
  have hst : TpRelLitS w l (.int .i64 0) (w.alloc (.cells (madeCells #[.int .i64 0, .string ⟨#[]⟩, .slice none 0 0] (l.length * 3)) 33)) :=
    ⟨0, rfl, Nat.zero_le _, ⟨⟨_, heap_alloc_new w _, size_madeCells _ _⟩, Nat.le_refl _, fun i h hi => by omega⟩, (Below.refl w.heap.size w).alloc (Nat.le_refl _) _, (Plain.start w).alloc _ _⟩
  have HST := Lib.hid hst
  generalize w.alloc (.cells (madeCells #[.int .i64 0, .string ⟨#[]⟩, .slice none 0 0] (l.length * 3)) 33) = W0 at *
  clear hi0 hz0 hz1 hz2 hst
  go_enter Tryz.func27, Tryz.ntmps27
  go_wp2
  clear hmk
  go_loopw [4] (fun v4 wr => TpRelLitS w l v4 wr) (fun v4 _ => (l.length - (intOf v4).toNat))
  case atStart => exact HST.out
  case round =>
    obtain ⟨k, rfl, hk, hto, hb, hp⟩ := hrel
    have HP := Lib.hid hp
    clear hp
    by_cases hlt : k < l.length
    · obtain ⟨b, off, vs, rfl, hbl, hvl, hcc, hFF⟩ := RowIn.kept FIt_keeps HR.out (Same.below HS.out hb) k hlt
      have HC := Lib.hid hFF
      obtain ⟨axs, cxs, rfl, hh0⟩ := hFF
      have hx0 : wr.cell? ⟨b, off + k * 3, none⟩ = some (.int .i64 l[k].k) := hcc 0 (by simp)
      have hx1 : wr.cell? ⟨b, off + k * 3 + 1, none⟩ = some (.string l[k].s) := hcc 1 (by simp)
      have hx2 : wr.cell? ⟨b, off + k * 3 + 2, none⟩ = some (.slice axs l[k].xs.length cxs) := hcc 2 (by simp)
      have hxw : l[k].wt ≤ 1048576 := by
        have h1 := HW.out
        have h2 := wsum_mem It.wt (List.getElem_mem hlt)
        unfold wtLitS at h1
        omega
      have HZ := Lib.hid (tpLit_any l[k] _ S wr HC.out (fun q hq => Nat.lt_of_lt_of_le (HS.out q hq) hb.size) hxw)
      have HSTEP := Lib.hid (fun (w1 : World) (hb1 : Below wr.heap.size wr w1) (us : List Value) (hu : us.length = 3) (hF : FIt (Seg wr.heap.size w1.heap.size) w1 us l[k]) => hto.step FIt_keeps hlt hb1 hu hF)
      have HROOM := Lib.hid (fun (w1 : World) (hb1 : Below wr.heap.size wr w1) (j : Nat) (hj : j < 3) => hto.room hb1 hlt hj)
      have HB := Lib.hid hb
      clear hb hto hcc hvl hbl HC hxw hh0
      generalize l[k] = x at *
      go_wp2_with fail
      refine HZ.out.mono ?_
      rintro e w1 ⟨us, rfl, hFu, hb1, hp1⟩
      have hul : us.length = 3 := by
        obtain ⟨bxs, dxs, rfl, gg0⟩ := hFu
        rfl
      obtain ⟨hr1, hr2⟩ := HSTEP.out w1 hb1 us hul hFu
      have HRR := Lib.hid ((⟨k + 1, by go_num, by omega, hr1, (HB.out.mono (Nat.le_refl _)).trans hr2, (HP.out.step hb1 hp1).setAll _ _ _⟩ : TpRelLitS w l (.int .i64 ((k : Int) + 1)) (setAll w1 w.heap.size (k * 3) us)))
      obtain ⟨⟨u0, hu0⟩, hf0⟩ := HROOM.out w1 hb1 0 (by omega)
      obtain ⟨⟨u1, hu1⟩, hf1⟩ := HROOM.out w1 hb1 1 (by omega)
      obtain ⟨⟨u2, hu2⟩, hf2⟩ := HROOM.out w1 hb1 2 (by omega)
      clear HZ HSTEP HROOM hr1 hr2 hb1 hp1
      obtain ⟨axs, cxs, rfl, gg0⟩ := hFu
      clear gg0
      simp only [Nat.add_zero] at hu0 hf0
      go_wp2
      go_roundw
      case rel => exact HRR.out
      case measure => simp [intOf]; omega
    · obtain rfl : k = l.length := by omega
      have HO := Lib.hid (hto.done FIt_keeps)
      clear hto
      go_wp2
      go_ret
      exact ⟨_, rfl, HO.out, hb, HP.out⟩

set_option maxRecDepth 100000 in
set_option maxHeartbeats 2000000 in
theorem tpRule_any (x : Ru) (vs : List Value) (S : Nat → Prop) (w : World) (hF : FRu S w vs x) (hS : ∀ b, S b → b < w.heap.size) (hn : x.wt ≤ 1048576) :
    Calls Tryz.prog 8 #[.agg vs.toArray] w fun e w' => ∃ us : List Value, e = .returned (.agg us.toArray) ∧ FRu (Seg w.heap.size w'.heap.size) w' us x ∧ Below w.heap.size w w' ∧ Plain w.heap.size w' := by
  obtain ⟨aes, ces, ahdxs, chdxs, abd, cbd, rfl, rr0, rr1, rr2⟩ := hF
  unfold Ru.wt at hn
  have HZ0 := Lib.hid (fun (W : World) (hW : Below w.heap.size w W) => tpExpS_any aes ces x.es S W (RowIn.kept FIt_keeps rr0 (Same.below hS hW)) (fun b hb => Nat.lt_of_lt_of_le (hS b hb) hW.size) (by omega))
  have HZ1 := Lib.hid (fun (W : World) (hW : Below w.heap.size w W) => tpLit_any x.hd _ S W (FIt_keeps.1 S w W _ x.hd ⟨ahdxs, chdxs, rfl, rr1⟩ (Same.below hS hW)) (fun b hb => Nat.lt_of_lt_of_le (hS b hb) hW.size) (by omega))
  have HZ2 := Lib.hid (fun (W : World) (hW : Below w.heap.size w W) => tpLitS_any abd cbd x.bd S W (RowIn.kept FIt_keeps rr2 (Same.below hS hW)) (fun b hb => Nat.lt_of_lt_of_le (hS b hb) hW.size) (by omega))
  clear rr0 rr1 rr2 hS
  have hb := alloc3_below w (Obj.cells #[.slice aes x.es.length ces, .int .i64 x.hd.k, .string x.hd.s, .slice ahdxs x.hd.xs.length chdxs, .slice abd x.bd.length cbd] 28) (Obj.cells #[.slice none 0 0, .int .i64 0, .string ⟨#[]⟩, .slice none 0 0, .slice none 0 0] 36) (Obj.cells #[.slice none 0 0, .int .i64 0, .string ⟨#[]⟩, .slice none 0 0, .slice none 0 0] 36)
  have hs0 := alloc3_size w (Obj.cells #[.slice aes x.es.length ces, .int .i64 x.hd.k, .string x.hd.s, .slice ahdxs x.hd.xs.length chdxs, .slice abd x.bd.length cbd] 28) (Obj.cells #[.slice none 0 0, .int .i64 0, .string ⟨#[]⟩, .slice none 0 0, .slice none 0 0] 36) (Obj.cells #[.slice none 0 0, .int .i64 0, .string ⟨#[]⟩, .slice none 0 0, .slice none 0 0] 36)
  have k1 := alloc3_1 w (Obj.cells #[.slice aes x.es.length ces, .int .i64 x.hd.k, .string x.hd.s, .slice ahdxs x.hd.xs.length chdxs, .slice abd x.bd.length cbd] 28) (Obj.cells #[.slice none 0 0, .int .i64 0, .string ⟨#[]⟩, .slice none 0 0, .slice none 0 0] 36) (Obj.cells #[.slice none 0 0, .int .i64 0, .string ⟨#[]⟩, .slice none 0 0, .slice none 0 0] 36)
  have k2 := alloc3_2 w (Obj.cells #[.slice aes x.es.length ces, .int .i64 x.hd.k, .string x.hd.s, .slice ahdxs x.hd.xs.length chdxs, .slice abd x.bd.length cbd] 28) (Obj.cells #[.slice none 0 0, .int .i64 0, .string ⟨#[]⟩, .slice none 0 0, .slice none 0 0] 36) (Obj.cells #[.slice none 0 0, .int .i64 0, .string ⟨#[]⟩, .slice none 0 0, .slice none 0 0] 36)
  have KP := Lib.hid (alloc3_0 w (Obj.cells #[.slice aes x.es.length ces, .int .i64 x.hd.k, .string x.hd.s, .slice ahdxs x.hd.xs.length chdxs, .slice abd x.bd.length cbd] 28) (Obj.cells #[.slice none 0 0, .int .i64 0, .string ⟨#[]⟩, .slice none 0 0, .slice none 0 0] 36) (Obj.cells #[.slice none 0 0, .int .i64 0, .string ⟨#[]⟩, .slice none 0 0, .slice none 0 0] 36))
  have HP := Lib.hid ((((Plain.start w).alloc _ _).alloc _ _).alloc _ _ : Plain w.heap.size (((w.alloc (Obj.cells #[.slice aes x.es.length ces, .int .i64 x.hd.k, .string x.hd.s, .slice ahdxs x.hd.xs.length chdxs, .slice abd x.bd.length cbd] 28)).alloc (Obj.cells #[.slice none 0 0, .int .i64 0, .string ⟨#[]⟩, .slice none 0 0, .slice none 0 0] 36)).alloc (Obj.cells #[.slice none 0 0, .int .i64 0, .string ⟨#[]⟩, .slice none 0 0, .slice none 0 0] 36)))
  go_enter Tryz.func8, Tryz.ntmps8
  go_wp2_with fail
  refine (HZ0.out _ hb).mono ?_
  rintro e w0 ⟨g0, rfl, hI0, hb1, hp1⟩
  replace hI0 := RowIn.mono FIt_keeps hI0 (fun b hb => hb.mono (show w.heap.size + 3 ≤ _ by omega) (Nat.le_refl _))
  replace k1 := (hb1.block _ (by omega)).trans k1
  replace k2 := (hb1.block _ (by omega)).trans k2
  replace KP := Lib.hid ((hb1.block _ (lt_of_block KP.out)).trans KP.out)
  replace hb := below_step hb hb1
  replace hs0 : w.heap.size + 3 ≤ w0.heap.size := by have := hb1.size; omega
  replace HP := Lib.hid (HP.out.step hb1 hp1)
  clear HZ0 hb1 hp1
  have c10 := (cell_of_row _ (w.heap.size + 1) 0 _ _ _ k1)
  simp only [List.getElem?_toArray, List.getElem?_cons_zero] at c10
  have c11 := (cell_of_row _ (w.heap.size + 1) 1 _ _ _ k1)
  simp only [List.getElem?_toArray, List.getElem?_cons_zero, List.getElem?_cons_succ] at c11
  have c12 := (cell_of_row _ (w.heap.size + 1) 2 _ _ _ k1)
  simp only [List.getElem?_toArray, List.getElem?_cons_zero, List.getElem?_cons_succ] at c12
  have c13 := (cell_of_row _ (w.heap.size + 1) 3 _ _ _ k1)
  simp only [List.getElem?_toArray, List.getElem?_cons_zero, List.getElem?_cons_succ] at c13
  have c14 := (cell_of_row _ (w.heap.size + 1) 4 _ _ _ k1)
  simp only [List.getElem?_toArray, List.getElem?_cons_zero, List.getElem?_cons_succ] at c14
  have c20 := (cell_of_row _ (w.heap.size + 2) 0 _ _ _ k2)
  simp only [List.getElem?_toArray, List.getElem?_cons_zero] at c20
  have c21 := (cell_of_row _ (w.heap.size + 2) 1 _ _ _ k2)
  simp only [List.getElem?_toArray, List.getElem?_cons_zero, List.getElem?_cons_succ] at c21
  have c22 := (cell_of_row _ (w.heap.size + 2) 2 _ _ _ k2)
  simp only [List.getElem?_toArray, List.getElem?_cons_zero, List.getElem?_cons_succ] at c22
  have c23 := (cell_of_row _ (w.heap.size + 2) 3 _ _ _ k2)
  simp only [List.getElem?_toArray, List.getElem?_cons_zero, List.getElem?_cons_succ] at c23
  have c24 := (cell_of_row _ (w.heap.size + 2) 4 _ _ _ k2)
  simp only [List.getElem?_toArray, List.getElem?_cons_zero, List.getElem?_cons_succ] at c24
  have f10 := frozen_row k1 0
  have f20 := frozen_row k2 0
  have f11 := frozen_row k1 1
  have f21 := frozen_row k2 1
  have f12 := frozen_row k1 2
  have f22 := frozen_row k2 2
  have f13 := frozen_row k1 3
  have f23 := frozen_row k2 3
  have f14 := frozen_row k1 4
  have f24 := frozen_row k2 4
  try clear p0
  have p0 := cell_of_row _ (w.heap.size) 0 _ _ _ KP.out
  simp only [List.getElem?_toArray, List.getElem?_cons_zero] at p0
  try clear p1
  have p1 := cell_of_row _ (w.heap.size) 1 _ _ _ KP.out
  simp only [List.getElem?_toArray, List.getElem?_cons_zero, List.getElem?_cons_succ] at p1
  try clear p2
  have p2 := cell_of_row _ (w.heap.size) 2 _ _ _ KP.out
  simp only [List.getElem?_toArray, List.getElem?_cons_zero, List.getElem?_cons_succ] at p2
  try clear p3
  have p3 := cell_of_row _ (w.heap.size) 3 _ _ _ KP.out
  simp only [List.getElem?_toArray, List.getElem?_cons_zero, List.getElem?_cons_succ] at p3
  try clear p4
  have p4 := cell_of_row _ (w.heap.size) 4 _ _ _ KP.out
  simp only [List.getElem?_toArray, List.getElem?_cons_zero, List.getElem?_cons_succ] at p4
  go_wp2_with fail
  clear c10 c20 f10 f20 p0 c11 c21 f11 f21 p1 c12 c22 f12 f22 p2 c13 c23 f13 f23 p3 c14 c24 f14 f24 p4
  replace k1 := (heap_setCell_other _ ⟨w.heap.size + 2, 0, none⟩ _ (.slice (some ⟨g0, 0, none⟩) x.es.length x.es.length) (show w.heap.size + 1 ≠ w.heap.size + 2 by omega)).trans k1
  replace k2 := heap_setCell_same _ (w.heap.size + 2) 0 _ _ (.slice (some ⟨g0, 0, none⟩) x.es.length x.es.length) k2
  simp only [List.setIfInBounds_toArray, List.set_cons_zero] at k2
  replace KP := Lib.hid ((heap_setCell_other _ ⟨w.heap.size + 2, 0, none⟩ _ (.slice (some ⟨g0, 0, none⟩) x.es.length x.es.length) (show w.heap.size ≠ w.heap.size + 2 by omega)).trans KP.out)
  replace hb := below_set hb (g := w.heap.size + 2) 0 (.slice (some ⟨g0, 0, none⟩) x.es.length x.es.length) (by omega)
  replace HP := Lib.hid (HP.out.setCell (w.heap.size + 2) 0 (.slice (some ⟨g0, 0, none⟩) x.es.length x.es.length))
  replace hI0 := RowIn.kept FIt_keeps hI0 (Same.set _ (g := w.heap.size + 2) (fun h => by have := h.1; omega) 0 (.slice (some ⟨g0, 0, none⟩) x.es.length x.es.length))
  replace hI0 := RowIn.mono FIt_keeps hI0 (fun b hb => hb.mono (Nat.le_refl _) (grown_set _ (w.heap.size + 2) 0 (.slice (some ⟨g0, 0, none⟩) x.es.length x.es.length)).size)
  have hs1 := hs0
  replace hs1 := Nat.le_trans hs1 (grown_set _ (w.heap.size + 2) 0 (.slice (some ⟨g0, 0, none⟩) x.es.length x.es.length)).size
  clear hs0
  have hs0 := hs1
  clear hs1
  refine (HZ1.out _ hb).mono ?_
  rintro e w1 ⟨us1, rfl, ⟨bahdxs, bchdxs, rfl, hI1_0⟩, hb1, hp1⟩
  replace hI0 := RowIn.kept FIt_keeps hI0 (Same.below (fun b hb => hb.2) hb1)
  replace hI0 := RowIn.mono FIt_keeps hI0 (fun b hb => hb.mono (Nat.le_refl _) hb1.size)
  replace hI1_0 := hI1_0.mono (fun b hb => hb.mono (show w.heap.size + 3 ≤ _ by omega) (Nat.le_refl _))
  replace k1 := (hb1.block _ (by omega)).trans k1
  replace k2 := (hb1.block _ (by omega)).trans k2
  replace KP := Lib.hid ((hb1.block _ (lt_of_block KP.out)).trans KP.out)
  replace hb := below_step hb hb1
  replace hs0 : w.heap.size + 3 ≤ w1.heap.size := by have := hb1.size; omega
  replace HP := Lib.hid (HP.out.step hb1 hp1)
  clear HZ1 hb1 hp1
  have c10 := (cell_of_row _ (w.heap.size + 1) 0 _ _ _ k1)
  simp only [List.getElem?_toArray, List.getElem?_cons_zero] at c10
  have c11 := (cell_of_row _ (w.heap.size + 1) 1 _ _ _ k1)
  simp only [List.getElem?_toArray, List.getElem?_cons_zero, List.getElem?_cons_succ] at c11
  have c12 := (cell_of_row _ (w.heap.size + 1) 2 _ _ _ k1)
  simp only [List.getElem?_toArray, List.getElem?_cons_zero, List.getElem?_cons_succ] at c12
  have c13 := (cell_of_row _ (w.heap.size + 1) 3 _ _ _ k1)
  simp only [List.getElem?_toArray, List.getElem?_cons_zero, List.getElem?_cons_succ] at c13
  have c14 := (cell_of_row _ (w.heap.size + 1) 4 _ _ _ k1)
  simp only [List.getElem?_toArray, List.getElem?_cons_zero, List.getElem?_cons_succ] at c14
  have c20 := (cell_of_row _ (w.heap.size + 2) 0 _ _ _ k2)
  simp only [List.getElem?_toArray, List.getElem?_cons_zero] at c20
  have c21 := (cell_of_row _ (w.heap.size + 2) 1 _ _ _ k2)
  simp only [List.getElem?_toArray, List.getElem?_cons_zero, List.getElem?_cons_succ] at c21
  have c22 := (cell_of_row _ (w.heap.size + 2) 2 _ _ _ k2)
  simp only [List.getElem?_toArray, List.getElem?_cons_zero, List.getElem?_cons_succ] at c22
  have c23 := (cell_of_row _ (w.heap.size + 2) 3 _ _ _ k2)
  simp only [List.getElem?_toArray, List.getElem?_cons_zero, List.getElem?_cons_succ] at c23
  have c24 := (cell_of_row _ (w.heap.size + 2) 4 _ _ _ k2)
  simp only [List.getElem?_toArray, List.getElem?_cons_zero, List.getElem?_cons_succ] at c24
  have f10 := frozen_row k1 0
  have f20 := frozen_row k2 0
  have f11 := frozen_row k1 1
  have f21 := frozen_row k2 1
  have f12 := frozen_row k1 2
  have f22 := frozen_row k2 2
  have f13 := frozen_row k1 3
  have f23 := frozen_row k2 3
  have f14 := frozen_row k1 4
  have f24 := frozen_row k2 4
  try clear p0
  have p0 := cell_of_row _ (w.heap.size) 0 _ _ _ KP.out
  simp only [List.getElem?_toArray, List.getElem?_cons_zero] at p0
  try clear p1
  have p1 := cell_of_row _ (w.heap.size) 1 _ _ _ KP.out
  simp only [List.getElem?_toArray, List.getElem?_cons_zero, List.getElem?_cons_succ] at p1
  try clear p2
  have p2 := cell_of_row _ (w.heap.size) 2 _ _ _ KP.out
  simp only [List.getElem?_toArray, List.getElem?_cons_zero, List.getElem?_cons_succ] at p2
  try clear p3
  have p3 := cell_of_row _ (w.heap.size) 3 _ _ _ KP.out
  simp only [List.getElem?_toArray, List.getElem?_cons_zero, List.getElem?_cons_succ] at p3
  try clear p4
  have p4 := cell_of_row _ (w.heap.size) 4 _ _ _ KP.out
  simp only [List.getElem?_toArray, List.getElem?_cons_zero, List.getElem?_cons_succ] at p4
  go_wp2_with fail
  clear c10 c20 f10 f20 p0 c11 c21 f11 f21 p1 c12 c22 f12 f22 p2 c13 c23 f13 f23 p3 c14 c24 f14 f24 p4
  replace k1 := (heap_setCell_other _ ⟨w.heap.size + 2, 1, none⟩ _ (.int .i64 x.hd.k) (show w.heap.size + 1 ≠ w.heap.size + 2 by omega)).trans k1
  replace k2 := heap_setCell_same _ (w.heap.size + 2) 1 _ _ (.int .i64 x.hd.k) k2
  simp only [List.setIfInBounds_toArray, List.set_cons_zero, List.set_cons_succ] at k2
  replace KP := Lib.hid ((heap_setCell_other _ ⟨w.heap.size + 2, 1, none⟩ _ (.int .i64 x.hd.k) (show w.heap.size ≠ w.heap.size + 2 by omega)).trans KP.out)
  replace hb := below_set hb (g := w.heap.size + 2) 1 (.int .i64 x.hd.k) (by omega)
  replace HP := Lib.hid (HP.out.setCell (w.heap.size + 2) 1 (.int .i64 x.hd.k))
  replace hI0 := RowIn.kept FIt_keeps hI0 (Same.set _ (g := w.heap.size + 2) (fun h => by have := h.1; omega) 1 (.int .i64 x.hd.k))
  replace hI0 := RowIn.mono FIt_keeps hI0 (fun b hb => hb.mono (Nat.le_refl _) (grown_set _ (w.heap.size + 2) 1 (.int .i64 x.hd.k)).size)
  replace hI1_0 := hI1_0.kept (Same.set _ (g := w.heap.size + 2) (fun h => by have := h.1; omega) 1 (.int .i64 x.hd.k))
  replace hI1_0 := hI1_0.mono (fun b hb => hb.mono (Nat.le_refl _) (grown_set _ (w.heap.size + 2) 1 (.int .i64 x.hd.k)).size)
  replace k1 := (heap_setCell_other _ ⟨w.heap.size + 2, 2, none⟩ _ (.string x.hd.s) (show w.heap.size + 1 ≠ w.heap.size + 2 by omega)).trans k1
  replace k2 := heap_setCell_same _ (w.heap.size + 2) 2 _ _ (.string x.hd.s) k2
  simp only [List.setIfInBounds_toArray, List.set_cons_zero, List.set_cons_succ] at k2
  replace KP := Lib.hid ((heap_setCell_other _ ⟨w.heap.size + 2, 2, none⟩ _ (.string x.hd.s) (show w.heap.size ≠ w.heap.size + 2 by omega)).trans KP.out)
  replace hb := below_set hb (g := w.heap.size + 2) 2 (.string x.hd.s) (by omega)
  replace HP := Lib.hid (HP.out.setCell (w.heap.size + 2) 2 (.string x.hd.s))
  replace hI0 := RowIn.kept FIt_keeps hI0 (Same.set _ (g := w.heap.size + 2) (fun h => by have := h.1; omega) 2 (.string x.hd.s))
  replace hI0 := RowIn.mono FIt_keeps hI0 (fun b hb => hb.mono (Nat.le_refl _) (grown_set _ (w.heap.size + 2) 2 (.string x.hd.s)).size)
  replace hI1_0 := hI1_0.kept (Same.set _ (g := w.heap.size + 2) (fun h => by have := h.1; omega) 2 (.string x.hd.s))
  replace hI1_0 := hI1_0.mono (fun b hb => hb.mono (Nat.le_refl _) (grown_set _ (w.heap.size + 2) 2 (.string x.hd.s)).size)
  replace k1 := (heap_setCell_other _ ⟨w.heap.size + 2, 3, none⟩ _ (.slice bahdxs x.hd.xs.length bchdxs) (show w.heap.size + 1 ≠ w.heap.size + 2 by omega)).trans k1
  replace k2 := heap_setCell_same _ (w.heap.size + 2) 3 _ _ (.slice bahdxs x.hd.xs.length bchdxs) k2
  simp only [List.setIfInBounds_toArray, List.set_cons_zero, List.set_cons_succ] at k2
  replace KP := Lib.hid ((heap_setCell_other _ ⟨w.heap.size + 2, 3, none⟩ _ (.slice bahdxs x.hd.xs.length bchdxs) (show w.heap.size ≠ w.heap.size + 2 by omega)).trans KP.out)
  replace hb := below_set hb (g := w.heap.size + 2) 3 (.slice bahdxs x.hd.xs.length bchdxs) (by omega)
  replace HP := Lib.hid (HP.out.setCell (w.heap.size + 2) 3 (.slice bahdxs x.hd.xs.length bchdxs))
  replace hI0 := RowIn.kept FIt_keeps hI0 (Same.set _ (g := w.heap.size + 2) (fun h => by have := h.1; omega) 3 (.slice bahdxs x.hd.xs.length bchdxs))
  replace hI0 := RowIn.mono FIt_keeps hI0 (fun b hb => hb.mono (Nat.le_refl _) (grown_set _ (w.heap.size + 2) 3 (.slice bahdxs x.hd.xs.length bchdxs)).size)
  replace hI1_0 := hI1_0.kept (Same.set _ (g := w.heap.size + 2) (fun h => by have := h.1; omega) 3 (.slice bahdxs x.hd.xs.length bchdxs))
  replace hI1_0 := hI1_0.mono (fun b hb => hb.mono (Nat.le_refl _) (grown_set _ (w.heap.size + 2) 3 (.slice bahdxs x.hd.xs.length bchdxs)).size)
  have hs1 := hs0
  replace hs1 := Nat.le_trans hs1 (grown_set _ (w.heap.size + 2) 1 (.int .i64 x.hd.k)).size
  replace hs1 := Nat.le_trans hs1 (grown_set _ (w.heap.size + 2) 2 (.string x.hd.s)).size
  replace hs1 := Nat.le_trans hs1 (grown_set _ (w.heap.size + 2) 3 (.slice bahdxs x.hd.xs.length bchdxs)).size
  clear hs0
  have hs0 := hs1
  clear hs1
  refine (HZ2.out _ hb).mono ?_
  rintro e w2 ⟨g2, rfl, hI2, hb1, hp1⟩
  replace hI0 := RowIn.kept FIt_keeps hI0 (Same.below (fun b hb => hb.2) hb1)
  replace hI0 := RowIn.mono FIt_keeps hI0 (fun b hb => hb.mono (Nat.le_refl _) hb1.size)
  replace hI1_0 := hI1_0.kept (Same.below (fun b hb => hb.2) hb1)
  replace hI1_0 := hI1_0.mono (fun b hb => hb.mono (Nat.le_refl _) hb1.size)
  replace hI2 := RowIn.mono FIt_keeps hI2 (fun b hb => hb.mono (show w.heap.size + 3 ≤ _ by omega) (Nat.le_refl _))
  replace k1 := (hb1.block _ (by omega)).trans k1
  replace k2 := (hb1.block _ (by omega)).trans k2
  replace KP := Lib.hid ((hb1.block _ (lt_of_block KP.out)).trans KP.out)
  replace hb := below_step hb hb1
  replace hs0 : w.heap.size + 3 ≤ w2.heap.size := by have := hb1.size; omega
  replace HP := Lib.hid (HP.out.step hb1 hp1)
  clear HZ2 hb1 hp1
  have c10 := (cell_of_row _ (w.heap.size + 1) 0 _ _ _ k1)
  simp only [List.getElem?_toArray, List.getElem?_cons_zero] at c10
  have c11 := (cell_of_row _ (w.heap.size + 1) 1 _ _ _ k1)
  simp only [List.getElem?_toArray, List.getElem?_cons_zero, List.getElem?_cons_succ] at c11
  have c12 := (cell_of_row _ (w.heap.size + 1) 2 _ _ _ k1)
  simp only [List.getElem?_toArray, List.getElem?_cons_zero, List.getElem?_cons_succ] at c12
  have c13 := (cell_of_row _ (w.heap.size + 1) 3 _ _ _ k1)
  simp only [List.getElem?_toArray, List.getElem?_cons_zero, List.getElem?_cons_succ] at c13
  have c14 := (cell_of_row _ (w.heap.size + 1) 4 _ _ _ k1)
  simp only [List.getElem?_toArray, List.getElem?_cons_zero, List.getElem?_cons_succ] at c14
  have c20 := (cell_of_row _ (w.heap.size + 2) 0 _ _ _ k2)
  simp only [List.getElem?_toArray, List.getElem?_cons_zero] at c20
  have c21 := (cell_of_row _ (w.heap.size + 2) 1 _ _ _ k2)
  simp only [List.getElem?_toArray, List.getElem?_cons_zero, List.getElem?_cons_succ] at c21
  have c22 := (cell_of_row _ (w.heap.size + 2) 2 _ _ _ k2)
  simp only [List.getElem?_toArray, List.getElem?_cons_zero, List.getElem?_cons_succ] at c22
  have c23 := (cell_of_row _ (w.heap.size + 2) 3 _ _ _ k2)
  simp only [List.getElem?_toArray, List.getElem?_cons_zero, List.getElem?_cons_succ] at c23
  have c24 := (cell_of_row _ (w.heap.size + 2) 4 _ _ _ k2)
  simp only [List.getElem?_toArray, List.getElem?_cons_zero, List.getElem?_cons_succ] at c24
  have f10 := frozen_row k1 0
  have f20 := frozen_row k2 0
  have f11 := frozen_row k1 1
  have f21 := frozen_row k2 1
  have f12 := frozen_row k1 2
  have f22 := frozen_row k2 2
  have f13 := frozen_row k1 3
  have f23 := frozen_row k2 3
  have f14 := frozen_row k1 4
  have f24 := frozen_row k2 4
  try clear p0
  have p0 := cell_of_row _ (w.heap.size) 0 _ _ _ KP.out
  simp only [List.getElem?_toArray, List.getElem?_cons_zero] at p0
  try clear p1
  have p1 := cell_of_row _ (w.heap.size) 1 _ _ _ KP.out
  simp only [List.getElem?_toArray, List.getElem?_cons_zero, List.getElem?_cons_succ] at p1
  try clear p2
  have p2 := cell_of_row _ (w.heap.size) 2 _ _ _ KP.out
  simp only [List.getElem?_toArray, List.getElem?_cons_zero, List.getElem?_cons_succ] at p2
  try clear p3
  have p3 := cell_of_row _ (w.heap.size) 3 _ _ _ KP.out
  simp only [List.getElem?_toArray, List.getElem?_cons_zero, List.getElem?_cons_succ] at p3
  try clear p4
  have p4 := cell_of_row _ (w.heap.size) 4 _ _ _ KP.out
  simp only [List.getElem?_toArray, List.getElem?_cons_zero, List.getElem?_cons_succ] at p4
  have HhI0 := Lib.hid hI0
  clear hI0
  have HhI1_0 := Lib.hid hI1_0
  clear hI1_0
  have HhI2 := Lib.hid hI2
  clear hI2
  have HK1 := Lib.hid k1
  have HK2 := Lib.hid k2
  have HB := Lib.hid hb
  clear k1 k2 hb
  go_wp2
  obtain ⟨hres, hbel, hsame, hsz⟩ := laid_out (w := w) (W := w2) (c := 5) 4 [.slice (some ⟨g2, 0, none⟩) x.bd.length x.bd.length] [.slice (some ⟨g0, 0, none⟩) x.es.length x.es.length, .int .i64 x.hd.k, .string x.hd.s, .slice bahdxs x.hd.xs.length bchdxs, .slice (some ⟨g2, 0, none⟩) x.bd.length x.bd.length] HK1.out HK2.out HB.out (by simp) (by simp) (by simp)
  refine bodyPost_ret (results_cell_row rfl _ _ (w.heap.size + 1) 36 #[.slice (some ⟨g0, 0, none⟩) x.es.length x.es.length, .int .i64 x.hd.k, .string x.hd.s, .slice bahdxs x.hd.xs.length bchdxs, .slice (some ⟨g2, 0, none⟩) x.bd.length x.bd.length] (0, 0) _ (by rfl) hres Tryz.underlying36 rfl infoSRule) rfl ?_
  refine ⟨[.slice (some ⟨g0, 0, none⟩) x.es.length x.es.length, .int .i64 x.hd.k, .string x.hd.s, .slice bahdxs x.hd.xs.length bchdxs, .slice (some ⟨g2, 0, none⟩) x.bd.length x.bd.length], rfl, ⟨_, _, _, _, _, _, rfl, ?_, ?_, ?_⟩, hbel, ?_⟩
  · exact RowIn.mono FIt_keeps (RowIn.kept FIt_keeps HhI0.out (hsame _ (fun h => by have := h.1; omega) (fun h => by have := h.1; omega))) (fun b hb => hb.mono (by omega) (Nat.le_of_eq hsz.symm))
  · exact (HhI1_0.out.kept (hsame _ (fun h => by have := h.1; omega) (fun h => by have := h.1; omega))).mono (fun b hb => hb.mono (by omega) (Nat.le_of_eq hsz.symm))
  · exact RowIn.mono FIt_keeps (RowIn.kept FIt_keeps HhI2.out (hsame _ (fun h => by have := h.1; omega) (fun h => by have := h.1; omega))) (fun b hb => hb.mono (by omega) (Nat.le_of_eq hsz.symm))
  · exact (HP.out.setAll (w.heap.size + 2) 4 [.slice (some ⟨g2, 0, none⟩) x.bd.length x.bd.length]).setAll (w.heap.size + 1) 0 [.slice (some ⟨g0, 0, none⟩) x.es.length x.es.length, .int .i64 x.hd.k, .string x.hd.s, .slice bahdxs x.hd.xs.length bchdxs, .slice (some ⟨g2, 0, none⟩) x.bd.length x.bd.length]

end Go.Proofs.YtilijbpbnlnhlaaGreat.Pr
