/-
  laws.FnExactCompose answers true, if the program's Compose answers as the reference's does.
-/
import Derived.Test.YtliibknppfbfeaaPLC
import Derived.Test.YtliibknppfbfeaaPGm
import Derived.Test.YtliibknppfbfeaaPGp
import Derived.Deep.DeepCutAuto
namespace Go.Proofs.Ytliibknppfbfeaa.Pr
open Go Go.RowKit Go.Maps Go.WideMaps

abbrev zc3 : Array Value := #[.int .i64 0, .int .i64 0, .slice none 0 0]
/-- What lies in the two arguments' blocks. -/
def ParIn (B : Nat) (g0 g1 g2 h0 h1 h2 : Value) (w w' : World) : Prop :=
  w'.cell? ⟨B, 0, none⟩ = some g0 ∧ w'.cell? ⟨B, 1, none⟩ = some g1 ∧ w'.cell? ⟨B, 2, none⟩ = some g2 ∧ w'.cell? ⟨B + 1, 0, none⟩ = some h0 ∧ w'.cell? ⟨B + 1, 1, none⟩ = some h1 ∧ w'.cell? ⟨B + 1, 2, none⟩ = some h2 ∧ Below w.heap.size w w'
/-- An answer in a block of its own. -/
def OutIn (r : Gr) (lo X : Nat) (w : World) : Prop :=
  ∃ av cv, w.heap[X]? = some (.cells #[.int .i64 r.f, .int .i64 r.t, .slice av r.rs.length cv] 26 (0, 0)) ∧ w.ownsRow lo 55 3 (.slice av r.rs.length cv) r.rs.length (arcCells r.rs) ∧ lo ≤ X
def CmpAt (r : Gr) (ok : Bool) (w : World) (e : Ending) (w' : World) : Prop :=
  ∃ v, e = .returned (.tuple #[.agg #[.int .i64 r.f, .int .i64 r.t, v], .bool ok]) ∧ w'.ownsRow w.heap.size 55 3 v r.rs.length (arcCells r.rs) ∧ Below w.heap.size w w'
def CC (r : Gr) (ok : Bool) (w : World) (s6 s7 : Value) (wx : World) : Prop := ∃ X : Nat, s6 = .pointer (some ⟨X, 0, none⟩) ∧ s7 = .bool ok ∧ OutIn r w.heap.size X wx ∧ Below w.heap.size w wx
theorem owns_same {w w' : World} {base : Nat} {e : TypeId} {size : Nat} {v : Value} {n : Nat} {xs : List Value} (h : w.ownsRow base e size v n xs) (hs : ∀ b, v.ownBlock = some b → w'.heap[b]? = w.heap[b]?) : w'.ownsRow base e size v n xs := by
  refine ⟨h.1, ?_⟩
  rcases h.2 with h' | ⟨g, cap, cur, rfl, hg, hh, r⟩
  · exact .inl h'
  · exact .inr ⟨g, cap, cur, rfl, hg, (hs g (by simp [Value.ownBlock])).trans hh, r⟩
theorem graph_ne_arc : (26 : TypeId) ≠ 55 := by decide
theorem leaf3 {r : Gr} {w0 W : World} {X lo : Nat} {av : Option Addr} {cv : Nat} (kx : W.heap[X]? = some (.cells zc3 26 (0, 0))) (hb : Below w0.heap.size w0 W)
    (ho : W.ownsRow lo 55 3 (.slice av r.rs.length cv) r.rs.length (arcCells r.rs)) (hlo : w0.heap.size ≤ lo) (hX : w0.heap.size ≤ X) :
    Below w0.heap.size w0 (((W.setCell ⟨X, 0, none⟩ (.int .i64 r.f)).setCell ⟨X, 1, none⟩ (.int .i64 r.t)).setCell ⟨X, 2, none⟩ (.slice av r.rs.length cv)) ∧
    OutIn r w0.heap.size X (((W.setCell ⟨X, 0, none⟩ (.int .i64 r.f)).setCell ⟨X, 1, none⟩ (.int .i64 r.t)).setCell ⟨X, 2, none⟩ (.slice av r.rs.length cv)) := by
  obtain ⟨s1, s2, s3⟩ := set3 kx (.int .i64 r.f) (.int .i64 r.t) (.slice av r.rs.length cv) hb hX
  refine ⟨s2, av, cv, s1, owns_same (owns_mono hlo ho) fun b hbk => s3 b fun e => ?_, hX⟩
  subst e
  rcases own_ne ho kx graph_ne_arc with h | h
  · rw [h] at hbk; cases hbk
  · exact h hbk
theorem below_drw {B : Nat} {a w : World} (h : Below B a w) : Below B a w.drew := ⟨h.os, h.tape, h.output, h.size, h.block⟩
theorem leafN {r : Gr} {w0 W : World} {lo : Nat} {av : Option Addr} {cv : Nat} (hb : Below w0.heap.size w0 W) (ho : W.ownsRow lo 55 3 (.slice av r.rs.length cv) r.rs.length (arcCells r.rs)) (hlo : w0.heap.size ≤ lo) :
    Below w0.heap.size w0 (W.alloc (.cells #[.int .i64 r.f, .int .i64 r.t, .slice av r.rs.length cv] 26)) ∧ OutIn r w0.heap.size W.heap.size (W.alloc (.cells #[.int .i64 r.f, .int .i64 r.t, .slice av r.rs.length cv] 26)) :=
  ⟨below_alloc hb _, av, cv, heap_alloc_new W _, (owns_mono hlo ho).alloc _, hb.size⟩
theorem fgr_up {lo : Nat} {w w' : World} {vs : List Value} {g : Gr} (h : FGr (Seg lo w.heap.size) w vs g) (hb : Below w.heap.size w w') : FGr (fun b => b < w'.heap.size) w' vs g := fgr_all h (fun _ h => h.2) hb

/-- What lies where, from the program's answer on. -/
structure CmpSt (g h r : Gr) (B : Nat) (gv hv : Array Value) (X : Nat) (av : Option Addr) (cv lo hi P2 : Nat) (v7 : Value) (B7 : Nat) (rs7 : List Ar) (w : World) : Prop where
  qg : w.heap[B]? = some (.cells gv 35 (0, 0))
  qh : w.heap[B + 1]? = some (.cells hv 35 (0, 0))
  hx : w.heap[X]? = some (.cells #[.int .i64 r.f, .int .i64 r.t, .slice av r.rs.length cv] 26 (0, 0))
  rx : RowIn FAr 3 (Seg lo hi) w av r.rs
  hp : w.heap[P2]? = some (.cells #[.int .i64 r.f, .int .i64 r.t, v7] 26 (0, 0))
  ow : w.ownsRow B7 55 3 v7 rs7.length (arcCells rs7)
  sz : hi ≤ w.heap.size
theorem CmpSt.keep {g h r : Gr} {B : Nat} {gv hv : Array Value} {X : Nat} {av : Option Addr} {cv lo hi P2 : Nat} {v7 : Value} {B7 : Nat} {rs7 : List Ar} {w w' : World} (H : CmpSt g h r B gv hv X av cv lo hi P2 v7 B7 rs7 w) (S : Nat → Prop)
    (hs : w.heap.size ≤ w'.heap.size) (hk : ∀ b, b < w.heap.size → ¬ S b → w'.heap[b]? = w.heap[b]?) (n0 : ¬ S B) (n1 : ¬ S (B + 1)) (n2 : ¬ S X) (n3 : ∀ b, Seg lo hi b → ¬ S b) (n4 : ¬ S P2) (n5 : ∀ b, v7.ownBlock = some b → ¬ S b) :
    CmpSt g h r B gv hv X av cv lo hi P2 v7 B7 rs7 w' :=
  ⟨(hk _ (lt_of_block H.qg) n0).trans H.qg, (hk _ (lt_of_block H.qh) n1).trans H.qh, (hk _ (lt_of_block H.hx) n2).trans H.hx, RowIn.kept FAr_keeps H.rx (fun b hb => hk b (Nat.lt_of_lt_of_le hb.2 H.sz) (n3 b hb)), (hk _ (lt_of_block H.hp) n4).trans H.hp,
    owns_same H.ow (fun b hb => hk b (by
      rcases H.ow.2 with ⟨rfl, _⟩ | ⟨g', cap, cur, rfl, _, hh, _⟩
      · simp [Value.ownBlock] at hb
      · simp [Value.ownBlock] at hb; subst hb; exact lt_of_block hh) (n5 b hb)), Nat.le_trans H.sz hs⟩
theorem CmpSt.below {g h r : Gr} {B : Nat} {gv hv : Array Value} {X : Nat} {av : Option Addr} {cv lo hi P2 : Nat} {v7 : Value} {B7 : Nat} {rs7 : List Ar} {w w' : World} (H : CmpSt g h r B gv hv X av cv lo hi P2 v7 B7 rs7 w) (hb : Below w.heap.size w w') :
    CmpSt g h r B gv hv X av cv lo hi P2 v7 B7 rs7 w' := H.keep (fun _ => False) hb.size (fun b h _ => hb.block b h) id id id (fun _ _ => id) id (fun _ _ => id)
theorem CmpSt.row {g h r : Gr} {B : Nat} {gv hv : Array Value} {X : Nat} {av : Option Addr} {cv lo hi P2 : Nat} {v7 : Value} {B7 : Nat} {w : World} (H : CmpSt g h r B gv hv X av cv lo hi P2 v7 B7 r.rs w) : FGr (Seg B7 w.heap.size) w [.int .i64 r.f, .int .i64 r.t, v7] r := by
  obtain ⟨a, c, rfl⟩ := owns_shape H.ow
  exact ⟨a, c, rfl, own_arcs H.ow⟩
theorem CmpSt.want {g h r : Gr} {B : Nat} {gv hv : Array Value} {X : Nat} {av : Option Addr} {cv lo hi P2 : Nat} {v7 : Value} {B7 : Nat} {rs7 : List Ar} {w : World} (H : CmpSt g h r B gv hv X av cv lo hi P2 v7 B7 rs7 w) : FGr (Seg lo hi) w [.int .i64 r.f, .int .i64 r.t, .slice av r.rs.length cv] r := ⟨av, cv, rfl, H.rx⟩

theorem cellRow_kept {S : Nat → Prop} {w w' : World} {a : Option Addr} {n c : Nat} (h : CellRow S w a n c) (hs : Same S w w') : CellRow S w' a n c := fun i hi => by
  obtain ⟨b, off, cur, ty, rfl, hb, hh, hc⟩ := h i hi
  exact ⟨b, off, cur, ty, rfl, hb, (hs b hb).trans hh, hc⟩
theorem below_off {S : Nat → Prop} {W w w' : World} (h : Below W.heap.size W w) (hs : w.heap.size ≤ w'.heap.size) (h1 : w'.os = w.os) (h2 : w'.tape = w.tape) (h3 : w'.output = w.output) (hk : ∀ b, b < w.heap.size → ¬ S b → w'.heap[b]? = w.heap[b]?)
    (hS : ∀ b, b < W.heap.size → ¬ S b) : Below W.heap.size W w' := ⟨h1.trans h.os, h2.trans h.tape, h3.trans h.output, Nat.le_trans h.size hs, fun b hb => (hk b (Nat.lt_of_lt_of_le hb h.size) (hS b hb)).trans (h.block b hb)⟩

set_option maxRecDepth 100000 in
set_option maxHeartbeats 16000000 in
theorem law_FnExactCompose_of (IMPL : ImplCompose) (g h : Gr) (vg vh : List Value) (W : World) (hF1 : FGr (fun b => b < W.heap.size) W vg g) (hF2 : FGr (fun b => b < W.heap.size) W vh h) (hf1 : g.fits) (hf2 : h.fits) :
    Calls Try.prog 4 #[.agg vg.toArray, .agg vh.toArray] W fun e w' => e = .returned (.bool true) ∧ Below W.heap.size W w' := by
  have hG1 := hF1
  have hH1 := hF2
  obtain ⟨ag, cg, rfl, _⟩ := hF1
  obtain ⟨ah, ch, rfl, _⟩ := hF2
  have hb0 := ((Below.refl W.heap.size W).alloc (Nat.le_refl _) (Obj.cells #[.int .i64 g.f, .int .i64 g.t, .slice ag g.rs.length cg] 35)).alloc (by simp) (Obj.cells #[.int .i64 h.f, .int .i64 h.t, .slice ah h.rs.length ch] 35)
  have k0 := (heap_alloc_old _ (Obj.cells #[.int .i64 h.f, .int .i64 h.t, .slice ah h.rs.length ch] 35) (by simp)).trans (heap_alloc_new W (Obj.cells #[.int .i64 g.f, .int .i64 g.t, .slice ag g.rs.length cg] 35))
  have k1 := heap_alloc2_new W (Obj.cells #[.int .i64 g.f, .int .i64 g.t, .slice ag g.rs.length cg] 35) (Obj.cells #[.int .i64 h.f, .int .i64 h.t, .slice ah h.rs.length ch] 35)
  obtain ⟨W0, hW0⟩ : ∃ W0, (W.alloc (.cells #[.int .i64 g.f, .int .i64 g.t, .slice ag g.rs.length cg] 35)).alloc (.cells #[.int .i64 h.f, .int .i64 h.t, .slice ah h.rs.length ch] 35) = W0 := ⟨_, rfl⟩
  rw [hW0] at hb0 k0 k1
  have HG := Lib.hid (fun (w1 : World) (b : Below W.heap.size W w1) => (FGr_keeps.1 _ _ _ _ _ hG1 (Same.below (fun _ h => h) b) : FGr (fun b => b < W.heap.size) w1 _ g))
  have HH := Lib.hid (fun (w1 : World) (b : Below W.heap.size W w1) => (FGr_keeps.1 _ _ _ _ _ hH1 (Same.below (fun _ h => h) b) : FGr (fun b => b < W.heap.size) w1 _ h))
  have HLT := Lib.hid (fun (w1 : World) (h : Below W.heap.size W w1) (b : Nat) (hb : b < W.heap.size) => Nat.lt_of_lt_of_le hb h.size)
  have HS1 := Lib.hid (szGraph_any g _ 1048576 _ W0 (HG.out W0 hb0) (HLT.out W0 hb0) hf1 (by omega) (by omega))
  have HF2 := Lib.hid hf2
  obtain ⟨q0, q1, q2, -, -, -⟩ := cells3 k0
  have HB0 := Lib.hid hb0
  have HK0 := Lib.hid (And.intro k0 k1)
  clear hG1 hH1 hf1 hf2 hb0 k0 k1
  go_enter Try.func4, Try.ntmps4
  go_wp2_with fail
  refine HS1.out.mono ?_
  rintro e w1 ⟨⟨r, rfl, hr⟩, hb1⟩
  have HB1 := Lib.hid (below_step HB0.out hb1)
  have HK1 := Lib.hid (And.intro ((hb1.block _ (lt_of_block HK0.out.1)).trans HK0.out.1) ((hb1.block _ (lt_of_block HK0.out.2)).trans HK0.out.2))
  clear hb1 HS1 HK0 q0 q1 q2 hW0
  rcases hr with ⟨hr, _⟩ | ⟨rfl, hwt⟩
  · have hd : decide (r < 0) = true := decide_eq_true hr
    go_wp2
    go_ret
    exact ⟨rfl, HB1.out⟩
  have hd : decide ((1048576 : Int) - (g.wt : Int) < 0) = false := decide_eq_false (by omega)
  have HWG := Lib.hid (show g.wt ≤ 1048576 by omega)
  have hl1 : g.rs.length ≤ 1048576 := by have := HWG.out; unfold Gr.wt wtArcS at this; exact this
  have HS2 := Lib.hid (szGraph_any h _ ((1048576 : Int) - (g.wt : Int)) _ w1 (HH.out w1 HB1.out) (HLT.out w1 HB1.out) HF2.out (by omega) (by omega))
  obtain ⟨q0, q1, q2, -, -, -⟩ := cells3 HK1.out.2
  generalize g.wt = gw at hd HS2 hwt ⊢
  go_wp2_with fail
  refine HS2.out.mono ?_
  rintro e w2 ⟨⟨r, rfl, hr⟩, hb2⟩
  have HB2 := Lib.hid (below_step HB1.out hb2)
  have HK2 := Lib.hid (And.intro ((hb2.block _ (lt_of_block HK1.out.1)).trans HK1.out.1) ((hb2.block _ (lt_of_block HK1.out.2)).trans HK1.out.2))
  clear hb2 HS2 HK1 q0 q1 q2
  rcases hr with ⟨hr, _⟩ | ⟨rfl, hwt2⟩
  · have hd2 : decide (r < 0) = true := decide_eq_true hr
    go_wp2
    go_ret
    exact ⟨rfl, HB2.out⟩
  have hd2 : decide ((1048576 : Int) - (gw : Int) - (h.wt : Int) < 0) = false := decide_eq_false (by omega)
  have HWH := Lib.hid (show h.wt ≤ 1048576 by omega)
  have hl2 : h.rs.length ≤ 1048576 := by have := HWH.out; unfold Gr.wt wtArcS at this; exact this
  have HTG := Lib.hid (fun (w' : World) (hW : Below W.heap.size W w') => toGraph_any g _ _ w' (HG.out w' hW) (HLT.out w' hW) HWG.out)
  have HTH := Lib.hid (fun (w' : World) (hW : Below W.heap.size W w') => toGraph_any h _ _ w' (HH.out w' hW) (HLT.out w' hW) HWH.out)
  have HPG := Lib.hid (fun (w' : World) (hW : Below W.heap.size W w') => tpGraph_any g _ _ w' (HG.out w' hW) (HLT.out w' hW) HWG.out)
  have HPH := Lib.hid (fun (w' : World) (hW : Below W.heap.size W w') => tpGraph_any h _ _ w' (HH.out w' hW) (HLT.out w' hW) HWH.out)
  obtain ⟨⟨r, ok⟩, hA⟩ : ∃ A, compAns g h = A := ⟨_, rfl⟩
  have hrl : r.rs.length ≤ 36 := by
    have : r = (compAns g h).1 := by rw [hA]
    rw [this]
    unfold compAns
    split
    · exact arcsTo_len g.rs h.rs 36
    · simp
  have HRL := Lib.hid hrl
  have HSP := Lib.hid (show ∀ (u3 u4 : List Value) (w' : World), FGr (fun b => b < w'.heap.size) w' u3 g → FGr (fun b => b < w'.heap.size) w' u4 h → Calls Try.prog 9 #[.agg u3.toArray, .agg u4.toArray] w' (CmpAt r ok w') from fun u3 u4 w' h3 h4 => by
    have := specCompose_any g h u3 u4 _ w' h3 h4 (fun _ h => h) hl1 hl2
    unfold CmpPost at this
    rw [hA] at this
    exact this)
  have HIM := Lib.hid (show ∀ (u3 u4 : List Value) (w' : World), FGr (fun b => b < w'.heap.size) w' u3 g → FGr (fun b => b < w'.heap.size) w' u4 h → Calls Try.prog 8 #[.agg u3.toArray, .agg u4.toArray] w' (CmpAt r ok w') from fun u3 u4 w' h3 h4 => by
    have := IMPL g h u3 u4 _ w' h3 h4 (fun _ h => h) hl1 hl2
    unfold CmpPost at this
    rw [hA] at this
    exact this)
  generalize h.wt = hw at hd2 hwt2 ⊢
  clear hwt hwt2 hA IMPL hrl
  -- the reference
  have HBW := Lib.hid HB2.out
  have HPI := Lib.hid (show ∀ w' : World, Below w2.heap.size w2 w' → ParIn W.heap.size (.int .i64 g.f) (.int .i64 g.t) (.slice ag g.rs.length cg) (.int .i64 h.f) (.int .i64 h.t) (.slice ah h.rs.length ch) w2 w' from fun w' hb => by
    obtain ⟨q0, q1, q2, -, -, -⟩ := cells3 ((hb.block _ (lt_of_block HK2.out.1)).trans HK2.out.1)
    obtain ⟨r0, r1, r2, -, -, -⟩ := cells3 ((hb.block _ (lt_of_block HK2.out.2)).trans HK2.out.2)
    exact ⟨q0, q1, q2, r0, r1, r2, hb⟩)
  go_upto_region 8 with (fail)
  go_cut [6, 7] (fun s6 s7 wx => CC r ok w2 s6 s7 wx)
  case first =>
    refine wp_region_held_drew (S := ParIn W.heap.size (.int .i64 g.f) (.int .i64 g.t) (.slice ag g.rs.length cg) (.int .i64 h.f) (.int .i64 h.t) (.slice ah h.rs.length ch) w2) (by kernel_rfl) (HPI.out _ (below_drw (Below.refl _ _))) (fun hHeld => ?_)
    have hc : Below w2.heap.size w2 w2.drew := below_drw (Below.refl _ _)
    refine wpAnyH_take (i := 0) (v := ?_) rfl (by kernel_rfl) (by kernel_rfl) (by kernel_rfl) (fun _ _ _ h => h) (Or.inl ⟨by rfl, ?_⟩) (by assumption) ?_
    rotate_left
    · (intro w9 hSw; obtain ⟨s0, s1, s2, s3, s4, s5, s6⟩ := hSw; go_simp; try with_reducible rfl)
    try simp only [Act.put, List.getElem_toArray, List.getElem_cons_zero, List.getElem_cons_succ, List.setIfInBounds_toArray, List.set_cons_zero, List.set_cons_succ]
    refine wpAnyH_take (i := 2) (v := ?_) rfl (by kernel_rfl) (by kernel_rfl) (by kernel_rfl) (fun _ _ _ h => h) (Or.inl ⟨by rfl, ?_⟩) (by assumption) ?_
    rotate_left
    · (intro w9 hSw; obtain ⟨s0, s1, s2, s3, s4, s5, s6⟩ := hSw; go_simp; try with_reducible rfl)
    try simp only [Act.put, List.getElem_toArray, List.getElem_cons_zero, List.getElem_cons_succ, List.setIfInBounds_toArray, List.set_cons_zero, List.set_cons_succ]
    refine wpAnyH_ready (rs := [1, 8]) (by kernel_rfl) (by simp) ?_
    refine AllReadyH.cons rfl (fun K hK => ?_) (AllReadyH.cons rfl (fun K hK => ?_) AllReadyH.nil)
    · go_simp
      refine (HTG.out _ (below_step HBW.out hc)).mono ?_
      rintro e wa1 ⟨u3, rfl, hF, hbn⟩
      have HU3 := Lib.hid hF
      have hcn := below_step hc hbn
      have HC3 := Lib.hid (Below.refl wa1.heap.size wa1)
      clear hc hbn hF
      have hc := hcn
      clear hcn
      go_wp2_with fail
      refine hK.out _ _ (HPI.out _ hc) (fun _ => ?_)
      clear hK K
      try simp only [Act.put, List.getElem_toArray, List.getElem_cons_zero, List.getElem_cons_succ, List.setIfInBounds_toArray, List.set_cons_zero, List.set_cons_succ]
      refine wpAnyH_ready (rs := [3, 8]) (by kernel_rfl) (by simp) ?_
      refine AllReadyH.cons rfl (fun K hK => ?_) (AllReadyH.cons rfl (fun K hK => ?_) AllReadyH.nil)
      · go_simp
        refine (HTH.out _ (below_step HBW.out hc)).mono ?_
        rintro e wa13 ⟨u4, rfl, hF, hbn⟩
        have HU4 := Lib.hid hF
        have hcn := below_step hc hbn
        have HC3 := Lib.hid (below_step HC3.out hbn)
        have HC4 := Lib.hid (Below.refl wa13.heap.size wa13)
        clear hc hbn hF
        have hc := hcn
        clear hcn
        go_wp2_with fail
        refine hK.out _ _ (HPI.out _ hc) (fun _ => ?_)
        clear hK K
        try simp only [Act.put, List.getElem_toArray, List.getElem_cons_zero, List.getElem_cons_succ, List.setIfInBounds_toArray, List.set_cons_zero, List.set_cons_succ]
        refine wpAnyH_ready (rs := [4, 8]) (by kernel_rfl) (by simp) ?_
        refine AllReadyH.cons rfl (fun K hK => ?_) (AllReadyH.cons rfl (fun K hK => ?_) AllReadyH.nil)
        · go_simp
          refine (HSP.out u3 u4 _ (fgr_up HU3.out HC3.out) (fgr_up HU4.out HC4.out)).mono ?_
          rintro e wa134 ⟨v5, rfl, ho5, hbn⟩
          obtain ⟨av, cv, rfl⟩ := owns_shape ho5
          have HOW := Lib.hid ho5
          have HLO := Lib.hid hc.size
          have hcn := below_step hc hbn
          clear hc hbn ho5
          have hc := hcn
          clear hcn
          go_wp2_with fail
          refine hK.out _ _ (HPI.out _ hc) (fun _ => ?_)
          clear hK K
          try simp only [Act.put, List.getElem_toArray, List.getElem_cons_zero, List.getElem_cons_succ, List.setIfInBounds_toArray, List.set_cons_zero, List.set_cons_succ]
          refine wpAnyH_take (i := 5) (v := ?_) rfl (by kernel_rfl) (by kernel_rfl) (by kernel_rfl) (fun _ _ _ h => h) (Or.inl ⟨by rfl, ?_⟩) (by assumption) ?_
          rotate_left
          · (intro w9 hSw; obtain ⟨s0, s1, s2, s3, s4, s5, s6⟩ := hSw; go_simp; try with_reducible rfl)
          try simp only [Act.put, List.getElem_toArray, List.getElem_cons_zero, List.getElem_cons_succ, List.setIfInBounds_toArray, List.set_cons_zero, List.set_cons_succ]
          refine wpAnyH_take (i := 6) (v := ?_) rfl (by kernel_rfl) (by kernel_rfl) (by kernel_rfl) (fun _ _ _ h => h) (Or.inl ⟨by rfl, ?_⟩) (by assumption) ?_
          rotate_left
          · (intro w9 hSw; obtain ⟨s0, s1, s2, s3, s4, s5, s6⟩ := hSw; go_simp; try with_reducible rfl)
          try simp only [Act.put, List.getElem_toArray, List.getElem_cons_zero, List.getElem_cons_succ, List.setIfInBounds_toArray, List.set_cons_zero, List.set_cons_succ]
          refine wpAnyH_take (i := 7) (v := ?_) rfl (by kernel_rfl) (by kernel_rfl) (by kernel_rfl) (fun _ _ _ h => h) (Or.inl ⟨by rfl, ?_⟩) (by assumption) ?_
          rotate_left
          · (intro w9 hSw; obtain ⟨s0, s1, s2, s3, s4, s5, s6⟩ := hSw; go_simp; try with_reducible rfl)
          try simp only [Act.put, List.getElem_toArray, List.getElem_cons_zero, List.getElem_cons_succ, List.setIfInBounds_toArray, List.set_cons_zero, List.set_cons_succ]
          refine wpAnyH_ready (rs := [8]) (by kernel_rfl) (by simp) ?_
          refine AllReadyH.cons rfl (fun K hK => ?_) AllReadyH.nil
          go_simp
          have hcn := below_alloc hc (.cells zc3 26)
          refine hK.out _ _ (HPI.out _ hcn) (fun _ => ?_)
          clear hK K
          try simp only [Act.put, List.getElem_toArray, List.getElem_cons_zero, List.getElem_cons_succ, List.setIfInBounds_toArray, List.set_cons_zero, List.set_cons_succ]
          have kx := heap_alloc_new wa134 (.cells zc3 26)
          have ho := HOW.out.alloc (.cells zc3 26)
          refine wpAnyH_ready (rs := [9]) (by kernel_rfl) (by simp) ?_
          refine AllReadyH.cons rfl (fun K hK => ?_) AllReadyH.nil
          have HLF := Lib.hid (leafN (r := r) hc HOW.out HLO.out)
          clear kx ho
          go_simp
          refine hK.out _ _ (HPI.out _ HLF.out.1) (fun _ => ?_)
          clear hK K
          try simp only [Act.put, List.getElem_toArray, List.getElem_cons_zero, List.getElem_cons_succ, List.setIfInBounds_toArray, List.set_cons_zero, List.set_cons_succ]
          refine wpAnyH_take (i := 10) (v := ?_) rfl (by kernel_rfl) (by kernel_rfl) (by kernel_rfl) (fun _ _ _ h => h) (Or.inl ⟨by rfl, ?_⟩) (by assumption) ?_
          rotate_left
          · (intro w9 hSw; obtain ⟨s0, s1, s2, s3, s4, s5, s6⟩ := hSw; go_simp; try with_reducible rfl)
          try simp only [Act.put, List.getElem_toArray, List.getElem_cons_zero, List.getElem_cons_succ, List.setIfInBounds_toArray, List.set_cons_zero, List.set_cons_succ]
          refine wpAnyH_done (by kernel_rfl) ?_ _
          go_wp2_with fail
          go_meet
          exact ⟨_, rfl, rfl, HLF.out.2, HLF.out.1⟩
        · go_simp
          have hcn := below_alloc hc (.cells zc3 26)
          have HX := Lib.hid (heap_alloc_new wa13 (.cells zc3 26))
          have HXW := Lib.hid hc.size
          have HC3 := Lib.hid (below_alloc HC3.out (.cells zc3 26))
          have HC4 := Lib.hid (below_alloc HC4.out (.cells zc3 26))
          refine hK.out _ _ (HPI.out _ hcn) (fun _ => ?_)
          clear hK K hc
          have hc := hcn
          clear hcn
          try simp only [Act.put, List.getElem_toArray, List.getElem_cons_zero, List.getElem_cons_succ, List.setIfInBounds_toArray, List.set_cons_zero, List.set_cons_succ]
          obtain ⟨wa13x, hwx⟩ : ∃ wx, wa13.alloc (.cells zc3 26) = wx := ⟨_, rfl⟩
          rw [hwx] at HX hc HC3 HC4
          change wpAnyH _ _ _ _ _ _ _ _ (wa13.alloc (.cells zc3 26))
          rw [hwx]
          clear hwx
          refine wpAnyH_ready (rs := [4]) (by kernel_rfl) (by simp) ?_
          refine AllReadyH.cons rfl (fun K hK => ?_) AllReadyH.nil
          go_simp
          refine (HSP.out u3 u4 _ (fgr_up HU3.out HC3.out) (fgr_up HU4.out HC4.out)).mono ?_
          rintro e wa13x4 ⟨v5, rfl, ho5, hbn⟩
          obtain ⟨av, cv, rfl⟩ := owns_shape ho5
          have HOW := Lib.hid ho5
          have HLO := Lib.hid hc.size
          have hcn := below_step hc hbn
          have HX := Lib.hid ((hbn.block _ (lt_of_block HX.out)).trans HX.out)
          have HXW := Lib.hid (show w2.heap.size ≤ wa13.heap.size from HXW.out)
          clear hc hbn ho5
          have hc := hcn
          clear hcn
          go_wp2_with fail
          refine hK.out _ _ (HPI.out _ hc) (fun _ => ?_)
          clear hK K
          try simp only [Act.put, List.getElem_toArray, List.getElem_cons_zero, List.getElem_cons_succ, List.setIfInBounds_toArray, List.set_cons_zero, List.set_cons_succ]
          refine wpAnyH_take (i := 5) (v := ?_) rfl (by kernel_rfl) (by kernel_rfl) (by kernel_rfl) (fun _ _ _ h => h) (Or.inl ⟨by rfl, ?_⟩) (by assumption) ?_
          rotate_left
          · (intro w9 hSw; obtain ⟨s0, s1, s2, s3, s4, s5, s6⟩ := hSw; go_simp; try with_reducible rfl)
          try simp only [Act.put, List.getElem_toArray, List.getElem_cons_zero, List.getElem_cons_succ, List.setIfInBounds_toArray, List.set_cons_zero, List.set_cons_succ]
          refine wpAnyH_take (i := 6) (v := ?_) rfl (by kernel_rfl) (by kernel_rfl) (by kernel_rfl) (fun _ _ _ h => h) (Or.inl ⟨by rfl, ?_⟩) (by assumption) ?_
          rotate_left
          · (intro w9 hSw; obtain ⟨s0, s1, s2, s3, s4, s5, s6⟩ := hSw; go_simp; try with_reducible rfl)
          try simp only [Act.put, List.getElem_toArray, List.getElem_cons_zero, List.getElem_cons_succ, List.setIfInBounds_toArray, List.set_cons_zero, List.set_cons_succ]
          refine wpAnyH_take (i := 7) (v := ?_) rfl (by kernel_rfl) (by kernel_rfl) (by kernel_rfl) (fun _ _ _ h => h) (Or.inl ⟨by rfl, ?_⟩) (by assumption) ?_
          rotate_left
          · (intro w9 hSw; obtain ⟨s0, s1, s2, s3, s4, s5, s6⟩ := hSw; go_simp; try with_reducible rfl)
          try simp only [Act.put, List.getElem_toArray, List.getElem_cons_zero, List.getElem_cons_succ, List.setIfInBounds_toArray, List.set_cons_zero, List.set_cons_succ]
          have hcn := hc
          have ho := HOW.out
          have kx := HX.out
          obtain ⟨c0, c1, c2, e0, e1, e2⟩ := cells3 (P := wa13.heap.size) kx
          refine wpAnyH_ready (rs := [9]) (by kernel_rfl) (by simp) ?_
          refine AllReadyH.cons rfl (fun K hK => ?_) AllReadyH.nil
          have HLF := Lib.hid (leaf3 (r := r) (X := wa13.heap.size) kx hcn ho HLO.out HXW.out)
          clear kx ho
          go_simp
          refine hK.out _ _ (HPI.out _ HLF.out.1) (fun _ => ?_)
          clear hK K
          try simp only [Act.put, List.getElem_toArray, List.getElem_cons_zero, List.getElem_cons_succ, List.setIfInBounds_toArray, List.set_cons_zero, List.set_cons_succ]
          refine wpAnyH_take (i := 10) (v := ?_) rfl (by kernel_rfl) (by kernel_rfl) (by kernel_rfl) (fun _ _ _ h => h) (Or.inl ⟨by rfl, ?_⟩) (by assumption) ?_
          rotate_left
          · (intro w9 hSw; obtain ⟨s0, s1, s2, s3, s4, s5, s6⟩ := hSw; go_simp; try with_reducible rfl)
          try simp only [Act.put, List.getElem_toArray, List.getElem_cons_zero, List.getElem_cons_succ, List.setIfInBounds_toArray, List.set_cons_zero, List.set_cons_succ]
          refine wpAnyH_done (by kernel_rfl) ?_ _
          go_wp2_with fail
          go_meet
          exact ⟨_, rfl, rfl, HLF.out.2, HLF.out.1⟩
      · go_simp
        have hcn := below_alloc hc (.cells zc3 26)
        have HX := Lib.hid (heap_alloc_new wa1 (.cells zc3 26))
        have HXW := Lib.hid hc.size
        have HC3 := Lib.hid (below_alloc HC3.out (.cells zc3 26))
        refine hK.out _ _ (HPI.out _ hcn) (fun _ => ?_)
        clear hK K hc
        have hc := hcn
        clear hcn
        try simp only [Act.put, List.getElem_toArray, List.getElem_cons_zero, List.getElem_cons_succ, List.setIfInBounds_toArray, List.set_cons_zero, List.set_cons_succ]
        obtain ⟨wa1x, hwx⟩ : ∃ wx, wa1.alloc (.cells zc3 26) = wx := ⟨_, rfl⟩
        rw [hwx] at HX hc HC3
        change wpAnyH _ _ _ _ _ _ _ _ (wa1.alloc (.cells zc3 26))
        rw [hwx]
        clear hwx
        refine wpAnyH_ready (rs := [3]) (by kernel_rfl) (by simp) ?_
        refine AllReadyH.cons rfl (fun K hK => ?_) AllReadyH.nil
        go_simp
        refine (HTH.out _ (below_step HBW.out hc)).mono ?_
        rintro e wa1x3 ⟨u4, rfl, hF, hbn⟩
        have HU4 := Lib.hid hF
        have hcn := below_step hc hbn
        have HC3 := Lib.hid (below_step HC3.out hbn)
        have HC4 := Lib.hid (Below.refl wa1x3.heap.size wa1x3)
        have HX := Lib.hid ((hbn.block _ (lt_of_block HX.out)).trans HX.out)
        have HXW := Lib.hid (show w2.heap.size ≤ wa1.heap.size from HXW.out)
        clear hc hbn hF
        have hc := hcn
        clear hcn
        go_wp2_with fail
        refine hK.out _ _ (HPI.out _ hc) (fun _ => ?_)
        clear hK K
        try simp only [Act.put, List.getElem_toArray, List.getElem_cons_zero, List.getElem_cons_succ, List.setIfInBounds_toArray, List.set_cons_zero, List.set_cons_succ]
        refine wpAnyH_ready (rs := [4]) (by kernel_rfl) (by simp) ?_
        refine AllReadyH.cons rfl (fun K hK => ?_) AllReadyH.nil
        go_simp
        refine (HSP.out u3 u4 _ (fgr_up HU3.out HC3.out) (fgr_up HU4.out HC4.out)).mono ?_
        rintro e wa1x34 ⟨v5, rfl, ho5, hbn⟩
        obtain ⟨av, cv, rfl⟩ := owns_shape ho5
        have HOW := Lib.hid ho5
        have HLO := Lib.hid hc.size
        have hcn := below_step hc hbn
        have HX := Lib.hid ((hbn.block _ (lt_of_block HX.out)).trans HX.out)
        have HXW := Lib.hid (show w2.heap.size ≤ wa1.heap.size from HXW.out)
        clear hc hbn ho5
        have hc := hcn
        clear hcn
        go_wp2_with fail
        refine hK.out _ _ (HPI.out _ hc) (fun _ => ?_)
        clear hK K
        try simp only [Act.put, List.getElem_toArray, List.getElem_cons_zero, List.getElem_cons_succ, List.setIfInBounds_toArray, List.set_cons_zero, List.set_cons_succ]
        refine wpAnyH_take (i := 5) (v := ?_) rfl (by kernel_rfl) (by kernel_rfl) (by kernel_rfl) (fun _ _ _ h => h) (Or.inl ⟨by rfl, ?_⟩) (by assumption) ?_
        rotate_left
        · (intro w9 hSw; obtain ⟨s0, s1, s2, s3, s4, s5, s6⟩ := hSw; go_simp; try with_reducible rfl)
        try simp only [Act.put, List.getElem_toArray, List.getElem_cons_zero, List.getElem_cons_succ, List.setIfInBounds_toArray, List.set_cons_zero, List.set_cons_succ]
        refine wpAnyH_take (i := 6) (v := ?_) rfl (by kernel_rfl) (by kernel_rfl) (by kernel_rfl) (fun _ _ _ h => h) (Or.inl ⟨by rfl, ?_⟩) (by assumption) ?_
        rotate_left
        · (intro w9 hSw; obtain ⟨s0, s1, s2, s3, s4, s5, s6⟩ := hSw; go_simp; try with_reducible rfl)
        try simp only [Act.put, List.getElem_toArray, List.getElem_cons_zero, List.getElem_cons_succ, List.setIfInBounds_toArray, List.set_cons_zero, List.set_cons_succ]
        refine wpAnyH_take (i := 7) (v := ?_) rfl (by kernel_rfl) (by kernel_rfl) (by kernel_rfl) (fun _ _ _ h => h) (Or.inl ⟨by rfl, ?_⟩) (by assumption) ?_
        rotate_left
        · (intro w9 hSw; obtain ⟨s0, s1, s2, s3, s4, s5, s6⟩ := hSw; go_simp; try with_reducible rfl)
        try simp only [Act.put, List.getElem_toArray, List.getElem_cons_zero, List.getElem_cons_succ, List.setIfInBounds_toArray, List.set_cons_zero, List.set_cons_succ]
        have hcn := hc
        have ho := HOW.out
        have kx := HX.out
        obtain ⟨c0, c1, c2, e0, e1, e2⟩ := cells3 (P := wa1.heap.size) kx
        refine wpAnyH_ready (rs := [9]) (by kernel_rfl) (by simp) ?_
        refine AllReadyH.cons rfl (fun K hK => ?_) AllReadyH.nil
        have HLF := Lib.hid (leaf3 (r := r) (X := wa1.heap.size) kx hcn ho HLO.out HXW.out)
        clear kx ho
        go_simp
        refine hK.out _ _ (HPI.out _ HLF.out.1) (fun _ => ?_)
        clear hK K
        try simp only [Act.put, List.getElem_toArray, List.getElem_cons_zero, List.getElem_cons_succ, List.setIfInBounds_toArray, List.set_cons_zero, List.set_cons_succ]
        refine wpAnyH_take (i := 10) (v := ?_) rfl (by kernel_rfl) (by kernel_rfl) (by kernel_rfl) (fun _ _ _ h => h) (Or.inl ⟨by rfl, ?_⟩) (by assumption) ?_
        rotate_left
        · (intro w9 hSw; obtain ⟨s0, s1, s2, s3, s4, s5, s6⟩ := hSw; go_simp; try with_reducible rfl)
        try simp only [Act.put, List.getElem_toArray, List.getElem_cons_zero, List.getElem_cons_succ, List.setIfInBounds_toArray, List.set_cons_zero, List.set_cons_succ]
        refine wpAnyH_done (by kernel_rfl) ?_ _
        go_wp2_with fail
        go_meet
        exact ⟨_, rfl, rfl, HLF.out.2, HLF.out.1⟩
    · go_simp
      have hcn := below_alloc hc (.cells zc3 26)
      have HX := Lib.hid (heap_alloc_new w2.drew (.cells zc3 26))
      have HXW := Lib.hid hc.size
      refine hK.out _ _ (HPI.out _ hcn) (fun _ => ?_)
      clear hK K hc
      have hc := hcn
      clear hcn
      try simp only [Act.put, List.getElem_toArray, List.getElem_cons_zero, List.getElem_cons_succ, List.setIfInBounds_toArray, List.set_cons_zero, List.set_cons_succ]
      obtain ⟨wax, hwx⟩ : ∃ wx, w2.drew.alloc (.cells zc3 26) = wx := ⟨_, rfl⟩
      rw [hwx] at HX hc 
      change wpAnyH _ _ _ _ _ _ _ _ (w2.drew.alloc (.cells zc3 26))
      rw [hwx]
      clear hwx
      refine wpAnyH_ready (rs := [1]) (by kernel_rfl) (by simp) ?_
      refine AllReadyH.cons rfl (fun K hK => ?_) AllReadyH.nil
      go_simp
      refine (HTG.out _ (below_step HBW.out hc)).mono ?_
      rintro e wax1 ⟨u3, rfl, hF, hbn⟩
      have HU3 := Lib.hid hF
      have hcn := below_step hc hbn
      have HC3 := Lib.hid (Below.refl wax1.heap.size wax1)
      have HX := Lib.hid ((hbn.block _ (lt_of_block HX.out)).trans HX.out)
      have HXW := Lib.hid (show w2.heap.size ≤ w2.drew.heap.size from HXW.out)
      clear hc hbn hF
      have hc := hcn
      clear hcn
      go_wp2_with fail
      refine hK.out _ _ (HPI.out _ hc) (fun _ => ?_)
      clear hK K
      try simp only [Act.put, List.getElem_toArray, List.getElem_cons_zero, List.getElem_cons_succ, List.setIfInBounds_toArray, List.set_cons_zero, List.set_cons_succ]
      refine wpAnyH_ready (rs := [3]) (by kernel_rfl) (by simp) ?_
      refine AllReadyH.cons rfl (fun K hK => ?_) AllReadyH.nil
      go_simp
      refine (HTH.out _ (below_step HBW.out hc)).mono ?_
      rintro e wax13 ⟨u4, rfl, hF, hbn⟩
      have HU4 := Lib.hid hF
      have hcn := below_step hc hbn
      have HC3 := Lib.hid (below_step HC3.out hbn)
      have HC4 := Lib.hid (Below.refl wax13.heap.size wax13)
      have HX := Lib.hid ((hbn.block _ (lt_of_block HX.out)).trans HX.out)
      have HXW := Lib.hid (show w2.heap.size ≤ w2.drew.heap.size from HXW.out)
      clear hc hbn hF
      have hc := hcn
      clear hcn
      go_wp2_with fail
      refine hK.out _ _ (HPI.out _ hc) (fun _ => ?_)
      clear hK K
      try simp only [Act.put, List.getElem_toArray, List.getElem_cons_zero, List.getElem_cons_succ, List.setIfInBounds_toArray, List.set_cons_zero, List.set_cons_succ]
      refine wpAnyH_ready (rs := [4]) (by kernel_rfl) (by simp) ?_
      refine AllReadyH.cons rfl (fun K hK => ?_) AllReadyH.nil
      go_simp
      refine (HSP.out u3 u4 _ (fgr_up HU3.out HC3.out) (fgr_up HU4.out HC4.out)).mono ?_
      rintro e wax134 ⟨v5, rfl, ho5, hbn⟩
      obtain ⟨av, cv, rfl⟩ := owns_shape ho5
      have HOW := Lib.hid ho5
      have HLO := Lib.hid hc.size
      have hcn := below_step hc hbn
      have HX := Lib.hid ((hbn.block _ (lt_of_block HX.out)).trans HX.out)
      have HXW := Lib.hid (show w2.heap.size ≤ w2.drew.heap.size from HXW.out)
      clear hc hbn ho5
      have hc := hcn
      clear hcn
      go_wp2_with fail
      refine hK.out _ _ (HPI.out _ hc) (fun _ => ?_)
      clear hK K
      try simp only [Act.put, List.getElem_toArray, List.getElem_cons_zero, List.getElem_cons_succ, List.setIfInBounds_toArray, List.set_cons_zero, List.set_cons_succ]
      refine wpAnyH_take (i := 5) (v := ?_) rfl (by kernel_rfl) (by kernel_rfl) (by kernel_rfl) (fun _ _ _ h => h) (Or.inl ⟨by rfl, ?_⟩) (by assumption) ?_
      rotate_left
      · (intro w9 hSw; obtain ⟨s0, s1, s2, s3, s4, s5, s6⟩ := hSw; go_simp; try with_reducible rfl)
      try simp only [Act.put, List.getElem_toArray, List.getElem_cons_zero, List.getElem_cons_succ, List.setIfInBounds_toArray, List.set_cons_zero, List.set_cons_succ]
      refine wpAnyH_take (i := 6) (v := ?_) rfl (by kernel_rfl) (by kernel_rfl) (by kernel_rfl) (fun _ _ _ h => h) (Or.inl ⟨by rfl, ?_⟩) (by assumption) ?_
      rotate_left
      · (intro w9 hSw; obtain ⟨s0, s1, s2, s3, s4, s5, s6⟩ := hSw; go_simp; try with_reducible rfl)
      try simp only [Act.put, List.getElem_toArray, List.getElem_cons_zero, List.getElem_cons_succ, List.setIfInBounds_toArray, List.set_cons_zero, List.set_cons_succ]
      refine wpAnyH_take (i := 7) (v := ?_) rfl (by kernel_rfl) (by kernel_rfl) (by kernel_rfl) (fun _ _ _ h => h) (Or.inl ⟨by rfl, ?_⟩) (by assumption) ?_
      rotate_left
      · (intro w9 hSw; obtain ⟨s0, s1, s2, s3, s4, s5, s6⟩ := hSw; go_simp; try with_reducible rfl)
      try simp only [Act.put, List.getElem_toArray, List.getElem_cons_zero, List.getElem_cons_succ, List.setIfInBounds_toArray, List.set_cons_zero, List.set_cons_succ]
      have hcn := hc
      have ho := HOW.out
      have kx := HX.out
      obtain ⟨c0, c1, c2, e0, e1, e2⟩ := cells3 (P := w2.heap.size) kx
      refine wpAnyH_ready (rs := [9]) (by kernel_rfl) (by simp) ?_
      refine AllReadyH.cons rfl (fun K hK => ?_) AllReadyH.nil
      have HLF := Lib.hid (leaf3 (r := r) (X := w2.heap.size) kx hcn ho HLO.out HXW.out)
      clear kx ho
      go_simp
      refine hK.out _ _ (HPI.out _ HLF.out.1) (fun _ => ?_)
      clear hK K
      try simp only [Act.put, List.getElem_toArray, List.getElem_cons_zero, List.getElem_cons_succ, List.setIfInBounds_toArray, List.set_cons_zero, List.set_cons_succ]
      refine wpAnyH_take (i := 10) (v := ?_) rfl (by kernel_rfl) (by kernel_rfl) (by kernel_rfl) (fun _ _ _ h => h) (Or.inl ⟨by rfl, ?_⟩) (by assumption) ?_
      rotate_left
      · (intro w9 hSw; obtain ⟨s0, s1, s2, s3, s4, s5, s6⟩ := hSw; go_simp; try with_reducible rfl)
      try simp only [Act.put, List.getElem_toArray, List.getElem_cons_zero, List.getElem_cons_succ, List.setIfInBounds_toArray, List.set_cons_zero, List.set_cons_succ]
      refine wpAnyH_done (by kernel_rfl) ?_ _
      go_wp2_with fail
      go_meet
      exact ⟨_, rfl, rfl, HLF.out.2, HLF.out.1⟩

  case rest =>
    obtain ⟨X, rfl, rfl, ⟨av, cv, hx, hox, hxl⟩, hbc⟩ := hcut
    have HBC := Lib.hid (below_step HB2.out hbc)
    have kg := (hbc.block _ (lt_of_block HK2.out.1)).trans HK2.out.1
    have kh := (hbc.block _ (lt_of_block HK2.out.2)).trans HK2.out.2
    have HN1 := Lib.hid (show W.heap.size + 1 < w2.heap.size ∧ w2.heap.size ≤ wc.heap.size ∧ X < wc.heap.size ∧ w2.heap.size ≤ X from ⟨lt_of_block HK2.out.2, hbc.size, lt_of_block hx, hxl⟩)
    have HKG := Lib.hid kg
    have HKH := Lib.hid kh
    have HKX := Lib.hid hx
    have HRX := Lib.hid (own_arcs hox)
    obtain ⟨q0, q1, q2, -, -, -⟩ := cells3 kg
    have HP1 := Lib.hid (HPG.out wc HBC.out)
    clear kg kh hx hox hxl hbc HPI HSP
    -- the two copies
    go_wp2_with fail
    refine HP1.out.mono ?_
    rintro e w3 ⟨u3, rfl, hF3, hb3, hp3⟩
    obtain ⟨a3, c3, rfl, hr3⟩ := hF3
    have HC3 := Lib.hid (RowIn.cellRow hr3 hp3)
    have HR3 := Lib.hid hr3
    have hb4 : Below w3.heap.size w3 (w3.alloc (.cells #[.int .i64 g.f, .int .i64 g.t, .slice a3 g.rs.length c3] 26)) := (Below.refl _ _).alloc (Nat.le_refl _) _
    have k4 := heap_alloc_new w3 (.cells #[.int .i64 g.f, .int .i64 g.t, .slice a3 g.rs.length c3] 26)
    obtain ⟨w4, hw4⟩ : ∃ w4, w3.alloc (.cells #[.int .i64 g.f, .int .i64 g.t, .slice a3 g.rs.length c3] 26) = w4 := ⟨_, rfl⟩
    rw [hw4] at hb4 k4
    have HB34 := Lib.hid hb4
    have HBC4 := Lib.hid (below_step hb3 hb4)
    have HK4 := Lib.hid k4
    have HB4 := Lib.hid (below_step HBC.out HBC4.out)
    have HN3 := Lib.hid (show wc.heap.size ≤ w3.heap.size ∧ w3.heap.size < w4.heap.size from ⟨hb3.size, lt_of_block k4⟩)
    have kh4 := (HBC4.out.block _ (lt_of_block HKH.out)).trans HKH.out
    have HP2 := Lib.hid (HPH.out w4 HB4.out)
    clear hr3 hp3 hb3 hb4 k4 q0 q1 q2 HP1
    obtain ⟨r0, r1, r2, -, -, -⟩ := cells3 kh4
    clear kh4
    go_wp2_with fail
    refine HP2.out.mono ?_
    rintro e w5 ⟨u5, rfl, hF5, hb5, hp5⟩
    obtain ⟨a5, c5, rfl, hr5⟩ := hF5
    have HC5 := Lib.hid (RowIn.cellRow hr5 hp5)
    have HR5 := Lib.hid hr5
    have hb6 : Below w5.heap.size w5 (w5.alloc (.cells #[.int .i64 h.f, .int .i64 h.t, .slice a5 h.rs.length c5] 26)) := (Below.refl _ _).alloc (Nat.le_refl _) _
    have k6 := heap_alloc_new w5 (.cells #[.int .i64 h.f, .int .i64 h.t, .slice a5 h.rs.length c5] 26)
    obtain ⟨w6, hw6⟩ : ∃ w6, w5.alloc (.cells #[.int .i64 h.f, .int .i64 h.t, .slice a5 h.rs.length c5] 26) = w6 := ⟨_, rfl⟩
    rw [hw6] at hb6 k6
    have HB56 := Lib.hid hb6
    have HB46 := Lib.hid (below_step hb5 hb6)
    have HB36 := Lib.hid (below_step HB34.out HB46.out)
    have HBC6 := Lib.hid (below_step HBC4.out HB46.out)
    have HK6 := Lib.hid k6
    have HK46 := Lib.hid ((HB46.out.block _ (lt_of_block HK4.out)).trans HK4.out)
    have HN5 := Lib.hid (show w4.heap.size ≤ w5.heap.size ∧ w5.heap.size < w6.heap.size from ⟨hb5.size, lt_of_block k6⟩)
    have HIC := Lib.hid (HIM.out _ _ w6 (fgr_all (S := Seg wc.heap.size w3.heap.size) ⟨a3, c3, rfl, HR3.out⟩ (fun _ h => h.2) HB36.out) (fgr_all (S := Seg w4.heap.size w5.heap.size) ⟨a5, c5, rfl, HR5.out⟩ (fun _ h => h.2) HB56.out))
    obtain ⟨x0, x1, x2, -, -, -⟩ := cells3 HK46.out
    obtain ⟨y0, y1, y2, -, -, -⟩ := cells3 HK6.out
    clear hr5 hp5 hb5 hb6 k6 r0 r1 r2 HP2 hw4
    -- the program
    go_wp2_with fail
    refine HIC.out.mono ?_
    rintro e w7 ⟨v7, rfl, ho7, hb7⟩
    obtain ⟨a7, c7, rfl⟩ := owns_shape ho7
    have hb8 : Below w7.heap.size w7 (w7.alloc (.cells #[.int .i64 r.f, .int .i64 r.t, .slice a7 r.rs.length c7] 26)) := (Below.refl _ _).alloc (Nat.le_refl _) _
    have k8 := heap_alloc_new w7 (.cells #[.int .i64 r.f, .int .i64 r.t, .slice a7 r.rs.length c7] 26)
    have ho8 := ho7.alloc (.cells #[.int .i64 r.f, .int .i64 r.t, .slice a7 r.rs.length c7] 26)
    obtain ⟨w8, hw8⟩ : ∃ w8, w7.alloc (.cells #[.int .i64 r.f, .int .i64 r.t, .slice a7 r.rs.length c7] 26) = w8 := ⟨_, rfl⟩
    rw [hw8] at hb8 k8 ho8
    have HB68 := Lib.hid (below_step hb7 hb8)
    have HBC8 := Lib.hid (below_step HBC6.out HB68.out)
    have HB8 := Lib.hid (below_step HBC.out HBC8.out)
    have HN7 := Lib.hid (show w6.heap.size ≤ w7.heap.size ∧ w7.heap.size < w8.heap.size from ⟨hb7.size, lt_of_block k8⟩)
    have hst : CmpSt g h r W.heap.size #[.int .i64 g.f, .int .i64 g.t, .slice ag g.rs.length cg] #[.int .i64 h.f, .int .i64 h.t, .slice ah h.rs.length ch] X av cv w2.heap.size wc.heap.size w7.heap.size (.slice a7 r.rs.length c7) w6.heap.size r.rs w8 :=
      ⟨(HBC8.out.block _ (lt_of_block HKG.out)).trans HKG.out, (HBC8.out.block _ (lt_of_block HKH.out)).trans HKH.out, (HBC8.out.block _ (lt_of_block HKX.out)).trans HKX.out, RowIn.kept FAr_keeps HRX.out (Same.below (fun _ h => h.2) HBC8.out), k8, ho8, HBC8.out.size⟩
    have HST := Lib.hid hst
    have HX0 := Lib.hid ((HB68.out.block _ (lt_of_block HK46.out)).trans HK46.out)
    have HX1 := Lib.hid ((HB68.out.block _ (lt_of_block HK6.out)).trans HK6.out)
    have HB38 := Lib.hid (below_step HB36.out HB68.out)
    have HB58 := Lib.hid (below_step HB56.out HB68.out)
    clear ho7 hb7 hb8 k8 ho8 hst x0 x1 x2 y0 y1 y2 HIC hw6 HKG HKH HKX HRX HBC4 HBC6 HB34 HB36 HB46 HK4 HK46 HK6 HB4 HB56
    obtain ⟨x0, x1, x2, -, -, -⟩ := cells3 HST.out.hp
    obtain ⟨y0, y1, y2, -, -, -⟩ := cells3 HST.out.hx
    have HWR := Lib.hid (show r.wt ≤ 2000000 by unfold Gr.wt wtArcS; have := HRL.out; omega)
    have HE1 := Lib.hid (eqGraph_any r _ _ _ _ w8 HST.out.row HST.out.want (fun _ h => h.2) (fun _ h => Nat.lt_of_lt_of_le h.2 HST.out.sz) HWR.out)
    have hne : (ok != ok) = false := by simp
    go_wp2_with fail
    refine HE1.out.mono ?_
    rintro e w9 ⟨rfl, hb9⟩
    have HST9 := Lib.hid (HST.out.below hb9)
    have HX09 := Lib.hid ((hb9.block _ (lt_of_block HX0.out)).trans HX0.out)
    have HX19 := Lib.hid ((hb9.block _ (lt_of_block HX1.out)).trans HX1.out)
    have HB9 := Lib.hid (below_step HB8.out hb9)
    have HB39 := Lib.hid (below_step HB38.out hb9)
    have HB59 := Lib.hid (below_step HB58.out hb9)
    have HB89 := Lib.hid hb9
    clear hb9 HE1 x0 x1 x2 y0 y1 y2 hw8 HST HX0 HX1 HB8 HB38 HB58
    have HSL9 := Lib.hid (show ∀ b, Seg wc.heap.size w3.heap.size b → b < w9.heap.size from fun b h => Nat.lt_of_lt_of_le h.2 HB39.out.size)
    have HF9 := Lib.hid (show FGr (Seg wc.heap.size w3.heap.size) w9 [.int .i64 g.f, .int .i64 g.t, .slice a3 g.rs.length c3] g from ⟨a3, c3, rfl, RowIn.kept FAr_keeps HR3.out (Same.below (fun _ h => h.2) HB39.out)⟩)
    have HT3 := Lib.hid (fun (w' : World) (hw : Below w9.heap.size w9 w') => HTG.out w' (below_step HB9.out hw))
    have HEQ := Lib.hid (fun (w8 w' : World) (h1 : Below w9.heap.size w9 w8) (h2 : Below w8.heap.size w8 w') (lo : Nat) (us : List Value) (hF : FGr (Seg lo w8.heap.size) w8 us g) =>
      eqGraph_any g [.int .i64 g.f, .int .i64 g.t, .slice a3 g.rs.length c3] us _ _ w' (FGr_keeps.1 _ _ _ _ _ HF9.out (Same.below HSL9.out (below_step h1 h2))) (FGr_keeps.1 _ _ _ _ _ hF (Same.below (fun b h => h.2) h2)) (fun b hb => Nat.lt_of_lt_of_le (HSL9.out b hb) (below_step h1 h2).size) (fun b hb => Nat.lt_of_lt_of_le hb.2 h2.size) (by have := HWG.out; omega))
    have hg1 : W.heap.size < w9.heap.size := lt_of_block HST9.out.qg
    have hg2 : w3.heap.size < w9.heap.size := lt_of_block HX09.out
    obtain ⟨y0, y1, y2, -, -, -⟩ := cells3 HST9.out.qg
    obtain ⟨t0, t1, t2, -, -, -⟩ := cells3 HX09.out
    have hB0 : Below w9.heap.size w9 w9 := Below.refl _ _
    go_wp2
    go_region_held3 (fun w' => w'.cell? ⟨W.heap.size, 0, none⟩ = some (.int .i64 g.f) ∧ w'.cell? ⟨W.heap.size, 1, none⟩ = some (.int .i64 g.t) ∧ w'.cell? ⟨W.heap.size, 2, none⟩ = some (.slice ag g.rs.length cg) ∧ w'.cell? ⟨w3.heap.size, 0, none⟩ = some (.int .i64 g.f) ∧ w'.cell? ⟨w3.heap.size, 1, none⟩ = some (.int .i64 g.t) ∧ w'.cell? ⟨w3.heap.size, 2, none⟩ = some (.slice a3 g.rs.length c3) ∧ Below w9.heap.size w9 w')
          (refine ⟨?_, ?_, ?_, ?_, ?_, ?_, ?_⟩ <;> (first | assumption | (simp [*]; done) | (apply below_drw; assumption)))
          (first
            | (go_at_call 12
               refine (HT3.out _ (by first | assumption | (apply below_drw; assumption))).mono ?_
               rintro e8 w8' ⟨us8, rfl, hF8, hb8⟩
               have hb8' : Below w9.heap.size w9 w8' := below_step (by first | assumption | (apply below_drw; assumption)) hb8
               have HF8 := Lib.hid hF8
               obtain ⟨m1, n1, rfl, _⟩ := hF8
               have z80 := (hb8'.cell (p := ⟨W.heap.size, 0, none⟩) hg1).trans y0
               have z81 := (hb8'.cell (p := ⟨W.heap.size, 1, none⟩) hg1).trans y1
               have z82 := (hb8'.cell (p := ⟨W.heap.size, 2, none⟩) hg1).trans y2
               have x80 := (hb8'.cell (p := ⟨w3.heap.size, 0, none⟩) hg2).trans t0
               have x81 := (hb8'.cell (p := ⟨w3.heap.size, 1, none⟩) hg2).trans t1
               have x82 := (hb8'.cell (p := ⟨w3.heap.size, 2, none⟩) hg2).trans t2
               clear hb8)
            | (go_at_call 13
               refine (HEQ.out w8' _ hb8' (by first | exact Below.refl _ _ | exact below_drw (Below.refl _ _)) _ _ HF8.out).mono ?_
               rintro e9 w10 ⟨rfl, hb9⟩
               have hb9' : Below w9.heap.size w9 w10 := below_step hb8' (by first | exact hb9 | exact hb9)
               have z90 := (hb9'.cell (p := ⟨W.heap.size, 0, none⟩) hg1).trans y0
               have z91 := (hb9'.cell (p := ⟨W.heap.size, 1, none⟩) hg1).trans y1
               have z92 := (hb9'.cell (p := ⟨W.heap.size, 2, none⟩) hg1).trans y2
               have x90 := (hb9'.cell (p := ⟨w3.heap.size, 0, none⟩) hg2).trans t0
               have x91 := (hb9'.cell (p := ⟨w3.heap.size, 1, none⟩) hg2).trans t1
               have x92 := (hb9'.cell (p := ⟨w3.heap.size, 2, none⟩) hg2).trans t2
               clear hb9)
            | fail)
    have HBN := Lib.hid hb9'
    clear HT3 HEQ hB0 hb8' hb9' HF8 HSL9 HF9 y0 y1 y2 t0 t1 t2 z80 z81 z82 x80 x81 x82 z90 z91 z92 x90 x91 x92 hg1 hg2
    have HST10 := Lib.hid (HST9.out.below HBN.out)
    have HX010 := Lib.hid ((HBN.out.block _ (lt_of_block HX09.out)).trans HX09.out)
    have HX110 := Lib.hid ((HBN.out.block _ (lt_of_block HX19.out)).trans HX19.out)
    have HB10 := Lib.hid (below_step HB9.out HBN.out)
    have HB310 := Lib.hid (below_step HB39.out HBN.out)
    have HB510 := Lib.hid (below_step HB59.out HBN.out)
    have HB810 := Lib.hid (below_step HB89.out HBN.out)
    clear HBN HST9 HX09 HX19 HB9 HB39 HB59 HB89
    have HSL10 := Lib.hid (show ∀ b, Seg w4.heap.size w5.heap.size b → b < w10.heap.size from fun b h => Nat.lt_of_lt_of_le h.2 HB510.out.size)
    have HF10 := Lib.hid (show FGr (Seg w4.heap.size w5.heap.size) w10 [.int .i64 h.f, .int .i64 h.t, .slice a5 h.rs.length c5] h from ⟨a5, c5, rfl, RowIn.kept FAr_keeps HR5.out (Same.below (fun _ h => h.2) HB510.out)⟩)
    have HT3 := Lib.hid (fun (w' : World) (hw : Below w10.heap.size w10 w') => HTH.out w' (below_step HB10.out hw))
    have HEQ := Lib.hid (fun (w8 w' : World) (h1 : Below w10.heap.size w10 w8) (h2 : Below w8.heap.size w8 w') (lo : Nat) (us : List Value) (hF : FGr (Seg lo w8.heap.size) w8 us h) =>
      eqGraph_any h [.int .i64 h.f, .int .i64 h.t, .slice a5 h.rs.length c5] us _ _ w' (FGr_keeps.1 _ _ _ _ _ HF10.out (Same.below HSL10.out (below_step h1 h2))) (FGr_keeps.1 _ _ _ _ _ hF (Same.below (fun b h => h.2) h2)) (fun b hb => Nat.lt_of_lt_of_le (HSL10.out b hb) (below_step h1 h2).size) (fun b hb => Nat.lt_of_lt_of_le hb.2 h2.size) (by have := HWH.out; omega))
    have hg1 : (W.heap.size + 1) < w10.heap.size := lt_of_block HST10.out.qh
    have hg2 : w5.heap.size < w10.heap.size := lt_of_block HX110.out
    obtain ⟨y0, y1, y2, -, -, -⟩ := cells3 HST10.out.qh
    obtain ⟨t0, t1, t2, -, -, -⟩ := cells3 HX110.out
    have hB0 : Below w10.heap.size w10 w10 := Below.refl _ _
    go_wp2
    go_region_held3 (fun w' => w'.cell? ⟨W.heap.size + 1, 0, none⟩ = some (.int .i64 h.f) ∧ w'.cell? ⟨W.heap.size + 1, 1, none⟩ = some (.int .i64 h.t) ∧ w'.cell? ⟨W.heap.size + 1, 2, none⟩ = some (.slice ah h.rs.length ch) ∧ w'.cell? ⟨w5.heap.size, 0, none⟩ = some (.int .i64 h.f) ∧ w'.cell? ⟨w5.heap.size, 1, none⟩ = some (.int .i64 h.t) ∧ w'.cell? ⟨w5.heap.size, 2, none⟩ = some (.slice a5 h.rs.length c5) ∧ Below w10.heap.size w10 w')
          (refine ⟨?_, ?_, ?_, ?_, ?_, ?_, ?_⟩ <;> (first | assumption | (simp [*]; done) | (apply below_drw; assumption)))
          (first
            | (go_at_call 12
               refine (HT3.out _ (by first | assumption | (apply below_drw; assumption))).mono ?_
               rintro e8 w8' ⟨us8, rfl, hF8, hb8⟩
               have hb8' : Below w10.heap.size w10 w8' := below_step (by first | assumption | (apply below_drw; assumption)) hb8
               have HF8 := Lib.hid hF8
               obtain ⟨m1, n1, rfl, _⟩ := hF8
               have z80 := (hb8'.cell (p := ⟨W.heap.size + 1, 0, none⟩) hg1).trans y0
               have z81 := (hb8'.cell (p := ⟨W.heap.size + 1, 1, none⟩) hg1).trans y1
               have z82 := (hb8'.cell (p := ⟨W.heap.size + 1, 2, none⟩) hg1).trans y2
               have x80 := (hb8'.cell (p := ⟨w5.heap.size, 0, none⟩) hg2).trans t0
               have x81 := (hb8'.cell (p := ⟨w5.heap.size, 1, none⟩) hg2).trans t1
               have x82 := (hb8'.cell (p := ⟨w5.heap.size, 2, none⟩) hg2).trans t2
               clear hb8)
            | (go_at_call 13
               refine (HEQ.out w8' _ hb8' (by first | exact Below.refl _ _ | exact below_drw (Below.refl _ _)) _ _ HF8.out).mono ?_
               rintro e9 w11 ⟨rfl, hb9⟩
               have hb9' : Below w10.heap.size w10 w11 := below_step hb8' (by first | exact hb9 | exact hb9)
               have z90 := (hb9'.cell (p := ⟨W.heap.size + 1, 0, none⟩) hg1).trans y0
               have z91 := (hb9'.cell (p := ⟨W.heap.size + 1, 1, none⟩) hg1).trans y1
               have z92 := (hb9'.cell (p := ⟨W.heap.size + 1, 2, none⟩) hg1).trans y2
               have x90 := (hb9'.cell (p := ⟨w5.heap.size, 0, none⟩) hg2).trans t0
               have x91 := (hb9'.cell (p := ⟨w5.heap.size, 1, none⟩) hg2).trans t1
               have x92 := (hb9'.cell (p := ⟨w5.heap.size, 2, none⟩) hg2).trans t2
               clear hb9)
            | fail)
    have HBN := Lib.hid hb9'
    clear HT3 HEQ hB0 hb8' hb9' HF8 HSL10 HF10 y0 y1 y2 t0 t1 t2 z80 z81 z82 x80 x81 x82 z90 z91 z92 x90 x91 x92 hg1 hg2
    have HST11 := Lib.hid (HST10.out.below HBN.out)
    have HX011 := Lib.hid ((HBN.out.block _ (lt_of_block HX010.out)).trans HX010.out)
    have HX111 := Lib.hid ((HBN.out.block _ (lt_of_block HX110.out)).trans HX110.out)
    have HB11 := Lib.hid (below_step HB10.out HBN.out)
    have HB311 := Lib.hid (below_step HB310.out HBN.out)
    have HB511 := Lib.hid (below_step HB510.out HBN.out)
    have HB811 := Lib.hid (below_step HB810.out HBN.out)
    clear HBN HST10 HX010 HX110 HB10 HB310 HB510 HB810
    -- the arguments are marked
    obtain ⟨x0, x1, x2, -, -, -⟩ := cells3 HX011.out
    have HM1 := Lib.hid (markGraph_any g a3 c3 (Seg wc.heap.size w3.heap.size) w11 (fun b hb => Nat.lt_of_lt_of_le hb.2 HB311.out.size) (cellRow_kept HC3.out (Same.below (fun _ h => h.2) HB311.out)) 1 (by omega) (by omega) (by have := HWG.out; unfold Gr.wt wtArcS at this; omega))
    obtain ⟨k1, hk1⟩ : ∃ k1 : Int, 1 + 3 * (g.rs.length : Int) = k1 := ⟨_, rfl⟩
    rw [hk1] at HM1
    have hk1b : 0 ≤ k1 ∧ k1 ≤ 4000000 := by have := HWG.out; unfold Gr.wt wtArcS at this; omega
    have HK1B := Lib.hid hk1b
    clear hk1 hk1b
    go_wp2_with fail
    refine HM1.out.mono ?_
    rintro e w12 ⟨rfl, hs12, o12, t12, p12, hk12⟩
    have HN11 := Lib.hid (show w8.heap.size ≤ w11.heap.size from HB811.out.size)
    have hn0 : ∀ b, Seg wc.heap.size w3.heap.size b → wc.heap.size ≤ b ∧ b < w3.heap.size := fun _ h => h
    have HST12 := Lib.hid (HST11.out.keep (Seg wc.heap.size w3.heap.size) hs12 hk12 (fun h => by have := hn0 _ h; have := HN1.out; omega) (fun h => by have := hn0 _ h; have := HN1.out; omega) (fun h => by have := hn0 _ h; have := HN1.out; omega)
      (fun b h h' => by have := hn0 _ h'; have := h.2; omega) (fun h => by have := hn0 _ h; have := HN3.out; have := HN5.out; have := HN7.out; omega) (fun b h h' => by have := hn0 _ h'; have := own_ge HST11.out.ow b h; have := HN3.out; have := HN5.out; omega))
    have HX112 := Lib.hid ((hk12 _ (lt_of_block HX111.out) (fun h => by have := hn0 _ h; have := HN3.out; have := HN5.out; omega)).trans HX111.out)
    have HB12 := Lib.hid (below_off HB11.out hs12 o12 t12 p12 hk12 (fun b hb h => by have := hn0 _ h; have := HN1.out; omega))
    have hcr := cellRow_kept HC5.out (Same.below (fun _ h => h.2) HB511.out)
    have hcr12 := cellRow_kept hcr (w' := w12) (fun b hb => hk12 b (Nat.lt_of_lt_of_le hb.2 HB511.out.size) (fun h => by have := hn0 _ h; have := hb.1; have := HN3.out; omega))
    have HM2 := Lib.hid (markGraph_any h a5 c5 (Seg w4.heap.size w5.heap.size) w12 (fun b hb => Nat.lt_of_lt_of_le hb.2 (Nat.le_trans HB511.out.size hs12)) hcr12 k1 HK1B.out.1 (by have := HK1B.out; omega) (by have := HWH.out; unfold Gr.wt wtArcS at this; omega))
    have HN12 := Lib.hid hs12
    clear hs12 o12 t12 p12 hk12 hn0 hcr hcr12 HM1 x0 x1 x2
    obtain ⟨y0, y1, y2, -, -, -⟩ := cells3 HX112.out
    obtain ⟨k2, hk2⟩ : ∃ k2 : Int, k1 + 3 * (h.rs.length : Int) = k2 := ⟨_, rfl⟩
    rw [hk2] at HM2
    have hk2b : 0 ≤ k2 := by have := HK1B.out; omega
    clear hk2
    go_wp2_with fail
    refine HM2.out.mono ?_
    rintro e w13 ⟨rfl, hs13, o13, t13, p13, hk13⟩
    have hn1 : ∀ b, Seg w4.heap.size w5.heap.size b → w4.heap.size ≤ b ∧ b < w5.heap.size := fun _ h => h
    have HST13 := Lib.hid (HST12.out.keep (Seg w4.heap.size w5.heap.size) hs13 hk13 (fun h => by have := hn1 _ h; have := HN1.out; have := HN3.out; omega) (fun h => by have := hn1 _ h; have := HN1.out; have := HN3.out; omega) (fun h => by have := hn1 _ h; have := HN1.out; have := HN3.out; omega)
      (fun b h h' => by have := hn1 _ h'; have := h.2; have := HN3.out; omega) (fun h => by have := hn1 _ h; have := HN5.out; have := HN7.out; omega) (fun b h h' => by have := hn1 _ h'; have := own_ge HST12.out.ow b h; have := HN5.out; omega))
    have HB13 := Lib.hid (below_off HB12.out hs13 o13 t13 p13 hk13 (fun b hb h => by have := hn1 _ h; have := HN1.out; have := HN3.out; omega))
    clear hs13 o13 t13 p13 hk13 hn1 HM2 y0 y1 y2
    have hd3 : decide (k2 < 0) = false := decide_eq_false (by omega)
    clear hk2b
    obtain ⟨x0, x1, x2, -, -, -⟩ := cells3 HST13.out.hp
    obtain ⟨y0, y1, y2, -, -, -⟩ := cells3 HST13.out.hx
    have HE2 := Lib.hid (eqGraph_any r _ _ _ _ w13 HST13.out.row HST13.out.want (fun _ h => h.2) (fun _ h => Nat.lt_of_lt_of_le h.2 HST13.out.sz) HWR.out)
    go_wp2_with fail
    refine HE2.out.mono ?_
    rintro e w14 ⟨rfl, hb14⟩
    have HST14 := Lib.hid (HST13.out.below hb14)
    have HB14 := Lib.hid (below_step HB13.out hb14)
    clear hb14 HE2 x0 x1 x2 y0 y1 y2 hd3 HST13 HST12 HST11 HX112
    obtain ⟨x0, x1, x2, -, -, -⟩ := cells3 HST14.out.hp
    -- the answer is marked
    have HM3 := Lib.hid (markGraph_own r.f r.t r.rs w6.heap.size _ w14 (by have := HST14.out.sz; have := lt_of_block HST14.out.hp; have := HN7.out; omega) HST14.out.ow (by have := HRL.out; omega))
    obtain ⟨m, hm⟩ : ∃ m : Int, 1 + 3 * (r.rs.length : Int) = m := ⟨_, rfl⟩
    have HMM := Lib.hid hm
    rw [hm] at HM3
    have hmb : decide (m < 0) = false := decide_eq_false (by omega)
    have hmm : (m != m) = false := by simp
    clear hm
    go_wp2_with fail
    refine HM3.out.mono ?_
    rintro e w15 ⟨rfl, ho15, hs15, o15, t15, p15, hk15⟩
    have hown : ∀ b, Value.ownBlock (.slice a7 r.rs.length c7) = some b → w6.heap.size ≤ b := own_ge HST14.out.ow
    have HST15 := Lib.hid (show CmpSt g h r W.heap.size #[.int .i64 g.f, .int .i64 g.t, .slice ag g.rs.length cg] #[.int .i64 h.f, .int .i64 h.t, .slice ah h.rs.length ch] X av cv w2.heap.size wc.heap.size w7.heap.size (.slice a7 r.rs.length c7) w6.heap.size (marksA r.rs.length) w15 from by
      have hk15' : ∀ b, b < w14.heap.size → b < w6.heap.size → w15.heap[b]? = w14.heap[b]? := fun b h1 h2 => hk15 b h1 (fun e => by have := hown b e; omega)
      have hpl : w7.heap.size < w14.heap.size := lt_of_block HST14.out.hp
      refine ⟨(hk15' _ (lt_of_block HST14.out.qg) (by have := HN1.out; have := HN3.out; have := HN5.out; omega)).trans HST14.out.qg, (hk15' _ (lt_of_block HST14.out.qh) (by have := HN1.out; have := HN3.out; have := HN5.out; omega)).trans HST14.out.qh, (hk15' _ (lt_of_block HST14.out.hx) (by have := HN1.out; have := HN3.out; have := HN5.out; omega)).trans HST14.out.hx,
        RowIn.kept FAr_keeps HST14.out.rx (fun b hb => hk15' b (Nat.lt_of_lt_of_le hb.2 HST14.out.sz) (by have := hb.2; have := HN3.out; have := HN5.out; omega)), (hk15 _ hpl (fun e => ?_)).trans HST14.out.hp, by rw [marksA_len]; exact ho15, Nat.le_trans HST14.out.sz hs15⟩
      rcases own_ne HST14.out.ow HST14.out.hp graph_ne_arc with h | h
      · rw [h] at e; cases e
      · exact h e)
    have HB15 := Lib.hid (below_off (S := fun b => Value.ownBlock (.slice a7 r.rs.length c7) = some b) HB14.out hs15 o15 t15 p15 (fun b h1 h2 => hk15 b h1 h2) (fun b hb e => by have := hown b e; have := HN1.out; have := HN3.out; have := HN5.out; omega))
    clear ho15 hs15 o15 t15 p15 hk15 hown HM3 HST14 x0 x1 x2
    obtain ⟨x0, x1, x2, -, -, -⟩ := cells3 HST15.out.hp
    have HH1 := Lib.hid (show ∀ W' : World, Below w15.heap.size w15 W' → Calls Try.prog 15 #[.agg #[.int .i64 r.f, .int .i64 r.t, .slice a7 r.rs.length c7], .int .i64 1] W' fun e w' => e = .returned (.int .i64 m) ∧ Below W'.heap.size W' w' from fun W' hW => by
      have := heldGraph_own r.f r.t r.rs.length w6.heap.size _ W' (by have := (HST15.out.below hW).ow; rw [marksA_len] at this; exact this) (by have := HRL.out; omega)
      rw [HMM.out] at this
      exact this)
    go_wp2_with fail
    refine (HH1.out w15 (Below.refl _ _)).mono ?_
    rintro e w16 ⟨rfl, hb16⟩
    have HST16 := Lib.hid (HST15.out.below hb16)
    have HB1516 := Lib.hid hb16
    have HB16 := Lib.hid (below_step HB15.out hb16)
    clear hb16 x0 x1 x2
    -- once more
    have HBW := Lib.hid HB16.out
    have HPI := Lib.hid (show ∀ w' : World, Below w16.heap.size w16 w' → ParIn W.heap.size (.int .i64 g.f) (.int .i64 g.t) (.slice ag g.rs.length cg) (.int .i64 h.f) (.int .i64 h.t) (.slice ah h.rs.length ch) w16 w' from fun w' hb => by
      obtain ⟨q0, q1, q2, -, -, -⟩ := cells3 ((hb.block _ (lt_of_block HST16.out.qg)).trans HST16.out.qg)
      obtain ⟨r0, r1, r2, -, -, -⟩ := cells3 ((hb.block _ (lt_of_block HST16.out.qh)).trans HST16.out.qh)
      exact ⟨q0, q1, q2, r0, r1, r2, hb⟩)
    go_upto_region 31 with (fail)
    go_cut [15, 16] (fun s15 s16 wx => CC r ok w16 s15 s16 wx)
    case first =>
      refine wp_region_held_drew (S := ParIn W.heap.size (.int .i64 g.f) (.int .i64 g.t) (.slice ag g.rs.length cg) (.int .i64 h.f) (.int .i64 h.t) (.slice ah h.rs.length ch) w16) (by kernel_rfl) (HPI.out _ (below_drw (Below.refl _ _))) (fun hHeld => ?_)
      have hc : Below w16.heap.size w16 w16.drew := below_drw (Below.refl _ _)
      refine wpAnyH_take (i := 0) (v := ?_) rfl (by kernel_rfl) (by kernel_rfl) (by kernel_rfl) (fun _ _ _ h => h) (Or.inl ⟨by rfl, ?_⟩) (by assumption) ?_
      rotate_left
      · (intro w9 hSw; obtain ⟨s0, s1, s2, s3, s4, s5, s6⟩ := hSw; go_simp; try with_reducible rfl)
      try simp only [Act.put, List.getElem_toArray, List.getElem_cons_zero, List.getElem_cons_succ, List.setIfInBounds_toArray, List.set_cons_zero, List.set_cons_succ]
      refine wpAnyH_take (i := 2) (v := ?_) rfl (by kernel_rfl) (by kernel_rfl) (by kernel_rfl) (fun _ _ _ h => h) (Or.inl ⟨by rfl, ?_⟩) (by assumption) ?_
      rotate_left
      · (intro w9 hSw; obtain ⟨s0, s1, s2, s3, s4, s5, s6⟩ := hSw; go_simp; try with_reducible rfl)
      try simp only [Act.put, List.getElem_toArray, List.getElem_cons_zero, List.getElem_cons_succ, List.setIfInBounds_toArray, List.set_cons_zero, List.set_cons_succ]
      refine wpAnyH_ready (rs := [1, 8]) (by kernel_rfl) (by simp) ?_
      refine AllReadyH.cons rfl (fun K hK => ?_) (AllReadyH.cons rfl (fun K hK => ?_) AllReadyH.nil)
      · go_simp
        refine (HTG.out _ (below_step HBW.out hc)).mono ?_
        rintro e wb1 ⟨u3, rfl, hF, hbn⟩
        have HU3 := Lib.hid hF
        have hcn := below_step hc hbn
        have HC3 := Lib.hid (Below.refl wb1.heap.size wb1)
        clear hc hbn hF
        have hc := hcn
        clear hcn
        go_wp2_with fail
        refine hK.out _ _ (HPI.out _ hc) (fun _ => ?_)
        clear hK K
        try simp only [Act.put, List.getElem_toArray, List.getElem_cons_zero, List.getElem_cons_succ, List.setIfInBounds_toArray, List.set_cons_zero, List.set_cons_succ]
        refine wpAnyH_ready (rs := [3, 8]) (by kernel_rfl) (by simp) ?_
        refine AllReadyH.cons rfl (fun K hK => ?_) (AllReadyH.cons rfl (fun K hK => ?_) AllReadyH.nil)
        · go_simp
          refine (HTH.out _ (below_step HBW.out hc)).mono ?_
          rintro e wb13 ⟨u4, rfl, hF, hbn⟩
          have HU4 := Lib.hid hF
          have hcn := below_step hc hbn
          have HC3 := Lib.hid (below_step HC3.out hbn)
          have HC4 := Lib.hid (Below.refl wb13.heap.size wb13)
          clear hc hbn hF
          have hc := hcn
          clear hcn
          go_wp2_with fail
          refine hK.out _ _ (HPI.out _ hc) (fun _ => ?_)
          clear hK K
          try simp only [Act.put, List.getElem_toArray, List.getElem_cons_zero, List.getElem_cons_succ, List.setIfInBounds_toArray, List.set_cons_zero, List.set_cons_succ]
          refine wpAnyH_ready (rs := [4, 8]) (by kernel_rfl) (by simp) ?_
          refine AllReadyH.cons rfl (fun K hK => ?_) (AllReadyH.cons rfl (fun K hK => ?_) AllReadyH.nil)
          · go_simp
            refine (HIM.out u3 u4 _ (fgr_up HU3.out HC3.out) (fgr_up HU4.out HC4.out)).mono ?_
            rintro e wb134 ⟨v5, rfl, ho5, hbn⟩
            obtain ⟨av, cv, rfl⟩ := owns_shape ho5
            have HOW := Lib.hid ho5
            have HLO := Lib.hid hc.size
            have hcn := below_step hc hbn
            clear hc hbn ho5
            have hc := hcn
            clear hcn
            go_wp2_with fail
            refine hK.out _ _ (HPI.out _ hc) (fun _ => ?_)
            clear hK K
            try simp only [Act.put, List.getElem_toArray, List.getElem_cons_zero, List.getElem_cons_succ, List.setIfInBounds_toArray, List.set_cons_zero, List.set_cons_succ]
            refine wpAnyH_take (i := 5) (v := ?_) rfl (by kernel_rfl) (by kernel_rfl) (by kernel_rfl) (fun _ _ _ h => h) (Or.inl ⟨by rfl, ?_⟩) (by assumption) ?_
            rotate_left
            · (intro w9 hSw; obtain ⟨s0, s1, s2, s3, s4, s5, s6⟩ := hSw; go_simp; try with_reducible rfl)
            try simp only [Act.put, List.getElem_toArray, List.getElem_cons_zero, List.getElem_cons_succ, List.setIfInBounds_toArray, List.set_cons_zero, List.set_cons_succ]
            refine wpAnyH_take (i := 6) (v := ?_) rfl (by kernel_rfl) (by kernel_rfl) (by kernel_rfl) (fun _ _ _ h => h) (Or.inl ⟨by rfl, ?_⟩) (by assumption) ?_
            rotate_left
            · (intro w9 hSw; obtain ⟨s0, s1, s2, s3, s4, s5, s6⟩ := hSw; go_simp; try with_reducible rfl)
            try simp only [Act.put, List.getElem_toArray, List.getElem_cons_zero, List.getElem_cons_succ, List.setIfInBounds_toArray, List.set_cons_zero, List.set_cons_succ]
            refine wpAnyH_take (i := 7) (v := ?_) rfl (by kernel_rfl) (by kernel_rfl) (by kernel_rfl) (fun _ _ _ h => h) (Or.inl ⟨by rfl, ?_⟩) (by assumption) ?_
            rotate_left
            · (intro w9 hSw; obtain ⟨s0, s1, s2, s3, s4, s5, s6⟩ := hSw; go_simp; try with_reducible rfl)
            try simp only [Act.put, List.getElem_toArray, List.getElem_cons_zero, List.getElem_cons_succ, List.setIfInBounds_toArray, List.set_cons_zero, List.set_cons_succ]
            refine wpAnyH_ready (rs := [8]) (by kernel_rfl) (by simp) ?_
            refine AllReadyH.cons rfl (fun K hK => ?_) AllReadyH.nil
            go_simp
            have hcn := below_alloc hc (.cells zc3 26)
            refine hK.out _ _ (HPI.out _ hcn) (fun _ => ?_)
            clear hK K
            try simp only [Act.put, List.getElem_toArray, List.getElem_cons_zero, List.getElem_cons_succ, List.setIfInBounds_toArray, List.set_cons_zero, List.set_cons_succ]
            have kx := heap_alloc_new wb134 (.cells zc3 26)
            have ho := HOW.out.alloc (.cells zc3 26)
            refine wpAnyH_ready (rs := [9]) (by kernel_rfl) (by simp) ?_
            refine AllReadyH.cons rfl (fun K hK => ?_) AllReadyH.nil
            have HLF := Lib.hid (leafN (r := r) hc HOW.out HLO.out)
            clear kx ho
            go_simp
            refine hK.out _ _ (HPI.out _ HLF.out.1) (fun _ => ?_)
            clear hK K
            try simp only [Act.put, List.getElem_toArray, List.getElem_cons_zero, List.getElem_cons_succ, List.setIfInBounds_toArray, List.set_cons_zero, List.set_cons_succ]
            refine wpAnyH_take (i := 10) (v := ?_) rfl (by kernel_rfl) (by kernel_rfl) (by kernel_rfl) (fun _ _ _ h => h) (Or.inl ⟨by rfl, ?_⟩) (by assumption) ?_
            rotate_left
            · (intro w9 hSw; obtain ⟨s0, s1, s2, s3, s4, s5, s6⟩ := hSw; go_simp; try with_reducible rfl)
            try simp only [Act.put, List.getElem_toArray, List.getElem_cons_zero, List.getElem_cons_succ, List.setIfInBounds_toArray, List.set_cons_zero, List.set_cons_succ]
            refine wpAnyH_done (by kernel_rfl) ?_ _
            go_wp2_with fail
            go_meet
            exact ⟨_, rfl, rfl, HLF.out.2, HLF.out.1⟩
          · go_simp
            have hcn := below_alloc hc (.cells zc3 26)
            have HX := Lib.hid (heap_alloc_new wb13 (.cells zc3 26))
            have HXW := Lib.hid hc.size
            have HC3 := Lib.hid (below_alloc HC3.out (.cells zc3 26))
            have HC4 := Lib.hid (below_alloc HC4.out (.cells zc3 26))
            refine hK.out _ _ (HPI.out _ hcn) (fun _ => ?_)
            clear hK K hc
            have hc := hcn
            clear hcn
            try simp only [Act.put, List.getElem_toArray, List.getElem_cons_zero, List.getElem_cons_succ, List.setIfInBounds_toArray, List.set_cons_zero, List.set_cons_succ]
            obtain ⟨wb13x, hwx⟩ : ∃ wx, wb13.alloc (.cells zc3 26) = wx := ⟨_, rfl⟩
            rw [hwx] at HX hc HC3 HC4
            change wpAnyH _ _ _ _ _ _ _ _ (wb13.alloc (.cells zc3 26))
            rw [hwx]
            clear hwx
            refine wpAnyH_ready (rs := [4]) (by kernel_rfl) (by simp) ?_
            refine AllReadyH.cons rfl (fun K hK => ?_) AllReadyH.nil
            go_simp
            refine (HIM.out u3 u4 _ (fgr_up HU3.out HC3.out) (fgr_up HU4.out HC4.out)).mono ?_
            rintro e wb13x4 ⟨v5, rfl, ho5, hbn⟩
            obtain ⟨av, cv, rfl⟩ := owns_shape ho5
            have HOW := Lib.hid ho5
            have HLO := Lib.hid hc.size
            have hcn := below_step hc hbn
            have HX := Lib.hid ((hbn.block _ (lt_of_block HX.out)).trans HX.out)
            have HXW := Lib.hid (show w16.heap.size ≤ wb13.heap.size from HXW.out)
            clear hc hbn ho5
            have hc := hcn
            clear hcn
            go_wp2_with fail
            refine hK.out _ _ (HPI.out _ hc) (fun _ => ?_)
            clear hK K
            try simp only [Act.put, List.getElem_toArray, List.getElem_cons_zero, List.getElem_cons_succ, List.setIfInBounds_toArray, List.set_cons_zero, List.set_cons_succ]
            refine wpAnyH_take (i := 5) (v := ?_) rfl (by kernel_rfl) (by kernel_rfl) (by kernel_rfl) (fun _ _ _ h => h) (Or.inl ⟨by rfl, ?_⟩) (by assumption) ?_
            rotate_left
            · (intro w9 hSw; obtain ⟨s0, s1, s2, s3, s4, s5, s6⟩ := hSw; go_simp; try with_reducible rfl)
            try simp only [Act.put, List.getElem_toArray, List.getElem_cons_zero, List.getElem_cons_succ, List.setIfInBounds_toArray, List.set_cons_zero, List.set_cons_succ]
            refine wpAnyH_take (i := 6) (v := ?_) rfl (by kernel_rfl) (by kernel_rfl) (by kernel_rfl) (fun _ _ _ h => h) (Or.inl ⟨by rfl, ?_⟩) (by assumption) ?_
            rotate_left
            · (intro w9 hSw; obtain ⟨s0, s1, s2, s3, s4, s5, s6⟩ := hSw; go_simp; try with_reducible rfl)
            try simp only [Act.put, List.getElem_toArray, List.getElem_cons_zero, List.getElem_cons_succ, List.setIfInBounds_toArray, List.set_cons_zero, List.set_cons_succ]
            refine wpAnyH_take (i := 7) (v := ?_) rfl (by kernel_rfl) (by kernel_rfl) (by kernel_rfl) (fun _ _ _ h => h) (Or.inl ⟨by rfl, ?_⟩) (by assumption) ?_
            rotate_left
            · (intro w9 hSw; obtain ⟨s0, s1, s2, s3, s4, s5, s6⟩ := hSw; go_simp; try with_reducible rfl)
            try simp only [Act.put, List.getElem_toArray, List.getElem_cons_zero, List.getElem_cons_succ, List.setIfInBounds_toArray, List.set_cons_zero, List.set_cons_succ]
            have hcn := hc
            have ho := HOW.out
            have kx := HX.out
            obtain ⟨c0, c1, c2, e0, e1, e2⟩ := cells3 (P := wb13.heap.size) kx
            refine wpAnyH_ready (rs := [9]) (by kernel_rfl) (by simp) ?_
            refine AllReadyH.cons rfl (fun K hK => ?_) AllReadyH.nil
            have HLF := Lib.hid (leaf3 (r := r) (X := wb13.heap.size) kx hcn ho HLO.out HXW.out)
            clear kx ho
            go_simp
            refine hK.out _ _ (HPI.out _ HLF.out.1) (fun _ => ?_)
            clear hK K
            try simp only [Act.put, List.getElem_toArray, List.getElem_cons_zero, List.getElem_cons_succ, List.setIfInBounds_toArray, List.set_cons_zero, List.set_cons_succ]
            refine wpAnyH_take (i := 10) (v := ?_) rfl (by kernel_rfl) (by kernel_rfl) (by kernel_rfl) (fun _ _ _ h => h) (Or.inl ⟨by rfl, ?_⟩) (by assumption) ?_
            rotate_left
            · (intro w9 hSw; obtain ⟨s0, s1, s2, s3, s4, s5, s6⟩ := hSw; go_simp; try with_reducible rfl)
            try simp only [Act.put, List.getElem_toArray, List.getElem_cons_zero, List.getElem_cons_succ, List.setIfInBounds_toArray, List.set_cons_zero, List.set_cons_succ]
            refine wpAnyH_done (by kernel_rfl) ?_ _
            go_wp2_with fail
            go_meet
            exact ⟨_, rfl, rfl, HLF.out.2, HLF.out.1⟩
        · go_simp
          have hcn := below_alloc hc (.cells zc3 26)
          have HX := Lib.hid (heap_alloc_new wb1 (.cells zc3 26))
          have HXW := Lib.hid hc.size
          have HC3 := Lib.hid (below_alloc HC3.out (.cells zc3 26))
          refine hK.out _ _ (HPI.out _ hcn) (fun _ => ?_)
          clear hK K hc
          have hc := hcn
          clear hcn
          try simp only [Act.put, List.getElem_toArray, List.getElem_cons_zero, List.getElem_cons_succ, List.setIfInBounds_toArray, List.set_cons_zero, List.set_cons_succ]
          obtain ⟨wb1x, hwx⟩ : ∃ wx, wb1.alloc (.cells zc3 26) = wx := ⟨_, rfl⟩
          rw [hwx] at HX hc HC3
          change wpAnyH _ _ _ _ _ _ _ _ (wb1.alloc (.cells zc3 26))
          rw [hwx]
          clear hwx
          refine wpAnyH_ready (rs := [3]) (by kernel_rfl) (by simp) ?_
          refine AllReadyH.cons rfl (fun K hK => ?_) AllReadyH.nil
          go_simp
          refine (HTH.out _ (below_step HBW.out hc)).mono ?_
          rintro e wb1x3 ⟨u4, rfl, hF, hbn⟩
          have HU4 := Lib.hid hF
          have hcn := below_step hc hbn
          have HC3 := Lib.hid (below_step HC3.out hbn)
          have HC4 := Lib.hid (Below.refl wb1x3.heap.size wb1x3)
          have HX := Lib.hid ((hbn.block _ (lt_of_block HX.out)).trans HX.out)
          have HXW := Lib.hid (show w16.heap.size ≤ wb1.heap.size from HXW.out)
          clear hc hbn hF
          have hc := hcn
          clear hcn
          go_wp2_with fail
          refine hK.out _ _ (HPI.out _ hc) (fun _ => ?_)
          clear hK K
          try simp only [Act.put, List.getElem_toArray, List.getElem_cons_zero, List.getElem_cons_succ, List.setIfInBounds_toArray, List.set_cons_zero, List.set_cons_succ]
          refine wpAnyH_ready (rs := [4]) (by kernel_rfl) (by simp) ?_
          refine AllReadyH.cons rfl (fun K hK => ?_) AllReadyH.nil
          go_simp
          refine (HIM.out u3 u4 _ (fgr_up HU3.out HC3.out) (fgr_up HU4.out HC4.out)).mono ?_
          rintro e wb1x34 ⟨v5, rfl, ho5, hbn⟩
          obtain ⟨av, cv, rfl⟩ := owns_shape ho5
          have HOW := Lib.hid ho5
          have HLO := Lib.hid hc.size
          have hcn := below_step hc hbn
          have HX := Lib.hid ((hbn.block _ (lt_of_block HX.out)).trans HX.out)
          have HXW := Lib.hid (show w16.heap.size ≤ wb1.heap.size from HXW.out)
          clear hc hbn ho5
          have hc := hcn
          clear hcn
          go_wp2_with fail
          refine hK.out _ _ (HPI.out _ hc) (fun _ => ?_)
          clear hK K
          try simp only [Act.put, List.getElem_toArray, List.getElem_cons_zero, List.getElem_cons_succ, List.setIfInBounds_toArray, List.set_cons_zero, List.set_cons_succ]
          refine wpAnyH_take (i := 5) (v := ?_) rfl (by kernel_rfl) (by kernel_rfl) (by kernel_rfl) (fun _ _ _ h => h) (Or.inl ⟨by rfl, ?_⟩) (by assumption) ?_
          rotate_left
          · (intro w9 hSw; obtain ⟨s0, s1, s2, s3, s4, s5, s6⟩ := hSw; go_simp; try with_reducible rfl)
          try simp only [Act.put, List.getElem_toArray, List.getElem_cons_zero, List.getElem_cons_succ, List.setIfInBounds_toArray, List.set_cons_zero, List.set_cons_succ]
          refine wpAnyH_take (i := 6) (v := ?_) rfl (by kernel_rfl) (by kernel_rfl) (by kernel_rfl) (fun _ _ _ h => h) (Or.inl ⟨by rfl, ?_⟩) (by assumption) ?_
          rotate_left
          · (intro w9 hSw; obtain ⟨s0, s1, s2, s3, s4, s5, s6⟩ := hSw; go_simp; try with_reducible rfl)
          try simp only [Act.put, List.getElem_toArray, List.getElem_cons_zero, List.getElem_cons_succ, List.setIfInBounds_toArray, List.set_cons_zero, List.set_cons_succ]
          refine wpAnyH_take (i := 7) (v := ?_) rfl (by kernel_rfl) (by kernel_rfl) (by kernel_rfl) (fun _ _ _ h => h) (Or.inl ⟨by rfl, ?_⟩) (by assumption) ?_
          rotate_left
          · (intro w9 hSw; obtain ⟨s0, s1, s2, s3, s4, s5, s6⟩ := hSw; go_simp; try with_reducible rfl)
          try simp only [Act.put, List.getElem_toArray, List.getElem_cons_zero, List.getElem_cons_succ, List.setIfInBounds_toArray, List.set_cons_zero, List.set_cons_succ]
          have hcn := hc
          have ho := HOW.out
          have kx := HX.out
          obtain ⟨c0, c1, c2, e0, e1, e2⟩ := cells3 (P := wb1.heap.size) kx
          refine wpAnyH_ready (rs := [9]) (by kernel_rfl) (by simp) ?_
          refine AllReadyH.cons rfl (fun K hK => ?_) AllReadyH.nil
          have HLF := Lib.hid (leaf3 (r := r) (X := wb1.heap.size) kx hcn ho HLO.out HXW.out)
          clear kx ho
          go_simp
          refine hK.out _ _ (HPI.out _ HLF.out.1) (fun _ => ?_)
          clear hK K
          try simp only [Act.put, List.getElem_toArray, List.getElem_cons_zero, List.getElem_cons_succ, List.setIfInBounds_toArray, List.set_cons_zero, List.set_cons_succ]
          refine wpAnyH_take (i := 10) (v := ?_) rfl (by kernel_rfl) (by kernel_rfl) (by kernel_rfl) (fun _ _ _ h => h) (Or.inl ⟨by rfl, ?_⟩) (by assumption) ?_
          rotate_left
          · (intro w9 hSw; obtain ⟨s0, s1, s2, s3, s4, s5, s6⟩ := hSw; go_simp; try with_reducible rfl)
          try simp only [Act.put, List.getElem_toArray, List.getElem_cons_zero, List.getElem_cons_succ, List.setIfInBounds_toArray, List.set_cons_zero, List.set_cons_succ]
          refine wpAnyH_done (by kernel_rfl) ?_ _
          go_wp2_with fail
          go_meet
          exact ⟨_, rfl, rfl, HLF.out.2, HLF.out.1⟩
      · go_simp
        have hcn := below_alloc hc (.cells zc3 26)
        have HX := Lib.hid (heap_alloc_new w16.drew (.cells zc3 26))
        have HXW := Lib.hid hc.size
        refine hK.out _ _ (HPI.out _ hcn) (fun _ => ?_)
        clear hK K hc
        have hc := hcn
        clear hcn
        try simp only [Act.put, List.getElem_toArray, List.getElem_cons_zero, List.getElem_cons_succ, List.setIfInBounds_toArray, List.set_cons_zero, List.set_cons_succ]
        obtain ⟨wbx, hwx⟩ : ∃ wx, w16.drew.alloc (.cells zc3 26) = wx := ⟨_, rfl⟩
        rw [hwx] at HX hc 
        change wpAnyH _ _ _ _ _ _ _ _ (w16.drew.alloc (.cells zc3 26))
        rw [hwx]
        clear hwx
        refine wpAnyH_ready (rs := [1]) (by kernel_rfl) (by simp) ?_
        refine AllReadyH.cons rfl (fun K hK => ?_) AllReadyH.nil
        go_simp
        refine (HTG.out _ (below_step HBW.out hc)).mono ?_
        rintro e wbx1 ⟨u3, rfl, hF, hbn⟩
        have HU3 := Lib.hid hF
        have hcn := below_step hc hbn
        have HC3 := Lib.hid (Below.refl wbx1.heap.size wbx1)
        have HX := Lib.hid ((hbn.block _ (lt_of_block HX.out)).trans HX.out)
        have HXW := Lib.hid (show w16.heap.size ≤ w16.drew.heap.size from HXW.out)
        clear hc hbn hF
        have hc := hcn
        clear hcn
        go_wp2_with fail
        refine hK.out _ _ (HPI.out _ hc) (fun _ => ?_)
        clear hK K
        try simp only [Act.put, List.getElem_toArray, List.getElem_cons_zero, List.getElem_cons_succ, List.setIfInBounds_toArray, List.set_cons_zero, List.set_cons_succ]
        refine wpAnyH_ready (rs := [3]) (by kernel_rfl) (by simp) ?_
        refine AllReadyH.cons rfl (fun K hK => ?_) AllReadyH.nil
        go_simp
        refine (HTH.out _ (below_step HBW.out hc)).mono ?_
        rintro e wbx13 ⟨u4, rfl, hF, hbn⟩
        have HU4 := Lib.hid hF
        have hcn := below_step hc hbn
        have HC3 := Lib.hid (below_step HC3.out hbn)
        have HC4 := Lib.hid (Below.refl wbx13.heap.size wbx13)
        have HX := Lib.hid ((hbn.block _ (lt_of_block HX.out)).trans HX.out)
        have HXW := Lib.hid (show w16.heap.size ≤ w16.drew.heap.size from HXW.out)
        clear hc hbn hF
        have hc := hcn
        clear hcn
        go_wp2_with fail
        refine hK.out _ _ (HPI.out _ hc) (fun _ => ?_)
        clear hK K
        try simp only [Act.put, List.getElem_toArray, List.getElem_cons_zero, List.getElem_cons_succ, List.setIfInBounds_toArray, List.set_cons_zero, List.set_cons_succ]
        refine wpAnyH_ready (rs := [4]) (by kernel_rfl) (by simp) ?_
        refine AllReadyH.cons rfl (fun K hK => ?_) AllReadyH.nil
        go_simp
        refine (HIM.out u3 u4 _ (fgr_up HU3.out HC3.out) (fgr_up HU4.out HC4.out)).mono ?_
        rintro e wbx134 ⟨v5, rfl, ho5, hbn⟩
        obtain ⟨av, cv, rfl⟩ := owns_shape ho5
        have HOW := Lib.hid ho5
        have HLO := Lib.hid hc.size
        have hcn := below_step hc hbn
        have HX := Lib.hid ((hbn.block _ (lt_of_block HX.out)).trans HX.out)
        have HXW := Lib.hid (show w16.heap.size ≤ w16.drew.heap.size from HXW.out)
        clear hc hbn ho5
        have hc := hcn
        clear hcn
        go_wp2_with fail
        refine hK.out _ _ (HPI.out _ hc) (fun _ => ?_)
        clear hK K
        try simp only [Act.put, List.getElem_toArray, List.getElem_cons_zero, List.getElem_cons_succ, List.setIfInBounds_toArray, List.set_cons_zero, List.set_cons_succ]
        refine wpAnyH_take (i := 5) (v := ?_) rfl (by kernel_rfl) (by kernel_rfl) (by kernel_rfl) (fun _ _ _ h => h) (Or.inl ⟨by rfl, ?_⟩) (by assumption) ?_
        rotate_left
        · (intro w9 hSw; obtain ⟨s0, s1, s2, s3, s4, s5, s6⟩ := hSw; go_simp; try with_reducible rfl)
        try simp only [Act.put, List.getElem_toArray, List.getElem_cons_zero, List.getElem_cons_succ, List.setIfInBounds_toArray, List.set_cons_zero, List.set_cons_succ]
        refine wpAnyH_take (i := 6) (v := ?_) rfl (by kernel_rfl) (by kernel_rfl) (by kernel_rfl) (fun _ _ _ h => h) (Or.inl ⟨by rfl, ?_⟩) (by assumption) ?_
        rotate_left
        · (intro w9 hSw; obtain ⟨s0, s1, s2, s3, s4, s5, s6⟩ := hSw; go_simp; try with_reducible rfl)
        try simp only [Act.put, List.getElem_toArray, List.getElem_cons_zero, List.getElem_cons_succ, List.setIfInBounds_toArray, List.set_cons_zero, List.set_cons_succ]
        refine wpAnyH_take (i := 7) (v := ?_) rfl (by kernel_rfl) (by kernel_rfl) (by kernel_rfl) (fun _ _ _ h => h) (Or.inl ⟨by rfl, ?_⟩) (by assumption) ?_
        rotate_left
        · (intro w9 hSw; obtain ⟨s0, s1, s2, s3, s4, s5, s6⟩ := hSw; go_simp; try with_reducible rfl)
        try simp only [Act.put, List.getElem_toArray, List.getElem_cons_zero, List.getElem_cons_succ, List.setIfInBounds_toArray, List.set_cons_zero, List.set_cons_succ]
        have hcn := hc
        have ho := HOW.out
        have kx := HX.out
        obtain ⟨c0, c1, c2, e0, e1, e2⟩ := cells3 (P := w16.heap.size) kx
        refine wpAnyH_ready (rs := [9]) (by kernel_rfl) (by simp) ?_
        refine AllReadyH.cons rfl (fun K hK => ?_) AllReadyH.nil
        have HLF := Lib.hid (leaf3 (r := r) (X := w16.heap.size) kx hcn ho HLO.out HXW.out)
        clear kx ho
        go_simp
        refine hK.out _ _ (HPI.out _ HLF.out.1) (fun _ => ?_)
        clear hK K
        try simp only [Act.put, List.getElem_toArray, List.getElem_cons_zero, List.getElem_cons_succ, List.setIfInBounds_toArray, List.set_cons_zero, List.set_cons_succ]
        refine wpAnyH_take (i := 10) (v := ?_) rfl (by kernel_rfl) (by kernel_rfl) (by kernel_rfl) (fun _ _ _ h => h) (Or.inl ⟨by rfl, ?_⟩) (by assumption) ?_
        rotate_left
        · (intro w9 hSw; obtain ⟨s0, s1, s2, s3, s4, s5, s6⟩ := hSw; go_simp; try with_reducible rfl)
        try simp only [Act.put, List.getElem_toArray, List.getElem_cons_zero, List.getElem_cons_succ, List.setIfInBounds_toArray, List.set_cons_zero, List.set_cons_succ]
        refine wpAnyH_done (by kernel_rfl) ?_ _
        go_wp2_with fail
        go_meet
        exact ⟨_, rfl, rfl, HLF.out.2, HLF.out.1⟩

    case rest =>
      obtain ⟨Y, rfl, rfl, ⟨ay, cy, hy, hoy, hyl⟩, hbd⟩ := hcut
      have HST17 := Lib.hid (HST16.out.below hbd)
      have HB17 := Lib.hid (below_step HB16.out hbd)
      have HB1517 := Lib.hid (below_step HB1516.out hbd)
      have HE3 := Lib.hid (eqGraph_any r _ _ _ _ wc ⟨ay, cy, rfl, own_arcs hoy⟩ HST17.out.want (fun _ h => h.2) (fun _ h => Nat.lt_of_lt_of_le h.2 HST17.out.sz) HWR.out)
      obtain ⟨x0, x1, x2, -, -, -⟩ := cells3 hy
      obtain ⟨y0, y1, y2, -, -, -⟩ := cells3 HST17.out.hx
      clear hy hoy hyl hbd HPI HIM
      go_wp2_with fail
      refine HE3.out.mono ?_
      rintro e w18 ⟨rfl, hb18⟩
      have HB18 := Lib.hid (below_step HB17.out hb18)
      have HB1518 := Lib.hid (below_step HB1517.out hb18)
      have HST18 := Lib.hid (HST17.out.below hb18)
      clear hb18 x0 x1 x2 y0 y1 y2 HE3
      obtain ⟨x0, x1, x2, -, -, -⟩ := cells3 HST18.out.hp
      go_wp2_with fail
      refine (HH1.out w18 HB1518.out).mono ?_
      rintro e w19 ⟨rfl, hb19⟩
      have HP := Lib.hid (below_step HB18.out hb19)
      clear hb19 x0 x1 x2
      go_wp2
      go_ret
      exact ⟨rfl, HP.out⟩

end Go.Proofs.Ytliibknppfbfeaa.Pr
