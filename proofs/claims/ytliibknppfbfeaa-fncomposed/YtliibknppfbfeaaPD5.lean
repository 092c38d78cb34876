/-
  THE DRAWING of two graphs.
-/
import Derived.Test.YtliibknppfbfeaaPD3
namespace Go.Proofs.Ytliibknppfbfeaa.Pr
open Go Go.RowKit Go.Maps Go.WideMaps

def DcPost (w : World) (e : Ending) (w' : World) : Prop :=
  ∃ (g h : Gr) (ag ah : Option Addr) (cg ch : Nat), e = .returned (.tuple #[.agg #[.int .i64 g.f, .int .i64 g.t, .slice ag g.rs.length cg], .agg #[.int .i64 h.f, .int .i64 h.t, .slice ah h.rs.length ch]]) ∧
    FGr (Seg w.heap.size w'.heap.size) w' [.int .i64 g.f, .int .i64 g.t, .slice ag g.rs.length cg] g ∧ FGr (Seg w.heap.size w'.heap.size) w' [.int .i64 h.f, .int .i64 h.t, .slice ah h.rs.length ch] h ∧ g.rs.length ≤ 10 ∧ h.rs.length ≤ 10 ∧ Below w.heap.size w w'
theorem results_rows2 {P : Program} {fn : Func} {p q : Tmp} {ty : TypeId} (h : fn.results = #[.cell p ty, .cell q ty]) (tmps : Array Value) (w : World) (g g2 : Nat) (t : TypeId) (cs cs2 : Array Value) (fr : Nat × Nat) (d : TypeDesc)
    (hp : tmps.getD p undef = .pointer (some ⟨g, 0, none⟩)) (hq : tmps.getD q undef = .pointer (some ⟨g2, 0, none⟩)) (hg : w.heap[g]? = some (.cells cs t fr)) (hg2 : w.heap[g2]? = some (.cells cs2 t fr))
    (hu : P.underlying ty = some d) (hd : (match d with | .struct _ | .array _ _ => true | _ => false) = true) (hi : (P.info? ty).map (·.size) = some cs.size) (hi2 : (P.info? ty).map (·.size) = some cs2.size) :
    (results fn tmps).run P w = .ok (.tuple #[.agg cs, .agg cs2]) w := by
  have hp' : tmps[p]?.getD undef = .pointer (some ⟨g, 0, none⟩) := by simpa using hp
  have hq' : tmps[q]?.getD undef = .pointer (some ⟨g2, 0, none⟩) := by simpa using hq
  simp [results, h, hp', hq', asAddr, run_loadVar_row w g t ty cs fr d hg hu hd hi, run_loadVar_row w g2 t ty cs2 fr d hg2 hu hd hi2]

set_option maxRecDepth 100000 in
set_option maxHeartbeats 8000000 in
theorem drawCompose_any {a : Option Addr} {len cap : Nat} (w : World) (hcode : CodeAt w a len) :
    Calls Try.prog 7 #[.slice a len cap] w (DcPost w) := by
  have hb0 := ((Below.refl w.heap.size w).alloc (Nat.le_refl _) (Obj.cells #[.int .i64 0, .int .i64 0, .slice none 0 0] 26)).alloc (by simp) (Obj.cells #[.int .i64 0, .int .i64 0, .slice none 0 0] 26)
  have k0 := (heap_alloc_old _ (Obj.cells #[.int .i64 0, .int .i64 0, .slice none 0 0] 26) (by simp)).trans (heap_alloc_new w (Obj.cells #[.int .i64 0, .int .i64 0, .slice none 0 0] 26))
  have k1 := heap_alloc2_new w (Obj.cells #[.int .i64 0, .int .i64 0, .slice none 0 0] 26) (Obj.cells #[.int .i64 0, .int .i64 0, .slice none 0 0] 26)
  obtain ⟨w2, hw2⟩ : ∃ w2, (w.alloc (.cells #[.int .i64 0, .int .i64 0, .slice none 0 0] 26)).alloc (.cells #[.int .i64 0, .int .i64 0, .slice none 0 0] 26) = w2 := ⟨_, rfl⟩
  rw [hw2] at hb0 k0 k1
  have HO := Lib.hid (open_any (cap := cap) w2 (hcode.kept hb0))
  have HB0 := Lib.hid hb0
  have HK0 := Lib.hid k0
  have HK1 := Lib.hid k1
  clear hcode hb0 k0 k1
  go_enter Try.func7, Try.ntmps7
  go_wp2_with fail
  refine HO.out.mono ?_
  rintro e w3 ⟨c, rfl, hC3⟩
  have HB3 := Lib.hid (below_step HB0.out hC3.below)
  have HK03 := Lib.hid ((hC3.below.block _ (lt_of_block HK0.out)).trans HK0.out)
  have HK13 := Lib.hid ((hC3.below.block _ (lt_of_block HK1.out)).trans HK1.out)
  have HCN := Lib.hid (show w2.heap.size ≤ c ∧ c < w3.heap.size ∧ w.heap.size + 1 < w2.heap.size from ⟨hC3.new, hC3.lt, lt_of_block HK1.out⟩)
  have HG1 := Lib.hid (graphDraw_any (by omega) w3 hC3)
  clear hC3 HO hw2 HK0 HK1
  go_wp2_with fail
  refine HG1.out.mono ?_
  rintro e w4 ⟨g, v, rfl, ho4, hl4, hC4, hs4, hk4⟩
  obtain ⟨ag, cg, rfl⟩ := owns_shape ho4
  have hb5 : Below w4.heap.size w4 (w4.alloc (.cells #[.int .i64 g.f, .int .i64 g.t, .slice ag g.rs.length cg] 26)) := (Below.refl _ _).alloc (Nat.le_refl _) _
  have k5 := heap_alloc_new w4 (.cells #[.int .i64 g.f, .int .i64 g.t, .slice ag g.rs.length cg] 26)
  have ho5 := ho4.alloc (.cells #[.int .i64 g.f, .int .i64 g.t, .slice ag g.rs.length cg] 26)
  have hC5 := hC4.kept hb5
  have h05 := (hb5.block _ (by have := lt_of_block HK03.out; omega)).trans ((hk4 w.heap.size (lt_of_block HK03.out) (by have := HCN.out; omega)).trans HK03.out)
  have h15 := (hb5.block _ (by have := lt_of_block HK13.out; omega)).trans ((hk4 (w.heap.size + 1) (lt_of_block HK13.out) (by have := HCN.out; omega)).trans HK13.out)
  obtain ⟨w5, hw5⟩ : ∃ w5, w4.alloc (.cells #[.int .i64 g.f, .int .i64 g.t, .slice ag g.rs.length cg] 26) = w5 := ⟨_, rfl⟩
  rw [hw5] at hb5 k5 ho5 hC5 h05 h15
  have HO5 := Lib.hid ho5
  have HK5 := Lib.hid k5
  have H05 := Lib.hid h05
  have H15 := Lib.hid h15
  have HL4 := Lib.hid hl4
  have HN5 := Lib.hid (show c < w3.heap.size ∧ w3.heap.size ≤ w4.heap.size ∧ w4.heap.size < w5.heap.size from ⟨HCN.out.2.1, hs4, lt_of_block k5⟩)
  have HG2 := Lib.hid (show ∀ W : World, W = w5 ∨ W = w5.drew → Calls Try.prog 19 #[.pointer (some ⟨c, 0, none⟩)] W (DgPost w2 W c a len cap 30) from fun W hW => by
    have hcu : CurAt w2 W c a len cap 30 := by
      rcases hW with rfl | rfl
      · exact hC5
      · exact hC5.kept (below_drew2 (Below.refl _ _))
    exact graphDraw_any (by omega) W hcu)
  clear ho4 hl4 hC4 hs4 hk4 hb5 k5 ho5 hC5 h05 h15 HG1 HK03 HK13
  go_wp2
  refine wp_region_held_drew (S := fun w' => w'.heap[w4.heap.size]? = some (.cells #[.int .i64 g.f, .int .i64 g.t, .slice ag g.rs.length cg] 26 (0, 0))) (by kernel_rfl) HK5.out (fun hHeld => ?_)
  refine wpAnyH_take (i := 0) (v := ?_) rfl (by kernel_rfl) (by kernel_rfl) (by kernel_rfl) (fun _ _ _ h => h) (Or.inl ⟨by rfl, ?_⟩) (by assumption) ?_
  rotate_left
  · (intro w9 hSw; (try dsimp only at hSw); obtain ⟨s0, s1, s2, -, -, -⟩ := cells3 hSw; go_simp; try with_reducible rfl)
  try simp only [Act.put, List.getElem_toArray, List.getElem_cons_zero, List.getElem_cons_succ, List.setIfInBounds_toArray, List.set_cons_zero, List.set_cons_succ]
  refine wpAnyH_take (i := 1) (v := ?_) rfl (by kernel_rfl) (by kernel_rfl) (by kernel_rfl) (fun _ _ _ h => h) (Or.inl ⟨by rfl, ?_⟩) (by assumption) ?_
  rotate_left
  · (intro w9 hSw; (try dsimp only at hSw); go_simp; try with_reducible rfl)
  try simp only [Act.put, List.getElem_toArray, List.getElem_cons_zero, List.getElem_cons_succ, List.setIfInBounds_toArray, List.set_cons_zero, List.set_cons_succ]
  refine wpAnyH_ready (rs := [2]) (by kernel_rfl) (by simp) ?_
  refine AllReadyH.cons rfl (fun K hK => ?_) AllReadyH.nil
  go_simp
  refine (HG2.out _ (.inr rfl)).mono ?_
  rintro e w6 ⟨h, v, rfl, ho6, hl6, hC6, hs6, hk6⟩
  obtain ⟨ah, ch, rfl⟩ := owns_shape ho6
  have hk6' : ∀ j, j < w5.heap.size → j ≠ c → w6.heap[j]? = w5.heap[j]? := hk6
  have hs6' : w5.heap.size ≤ w6.heap.size := hs6
  have hG6 := (hk6' w4.heap.size (lt_of_block HK5.out) (by have := HN5.out; omega)).trans HK5.out
  have h06 := (hk6' w.heap.size (lt_of_block H05.out) (by have := HCN.out; omega)).trans H05.out
  have h16 := (hk6' (w.heap.size + 1) (lt_of_block H15.out) (by have := HCN.out; omega)).trans H15.out
  have hb6 : Below w.heap.size w w6 := below_step HB0.out hC6.below
  have hrow5 : RowIn FAr 3 (Seg w2.heap.size w6.heap.size) w6 ag g.rs := by
    have hr := own_arcs HO5.out
    refine RowIn.mono FAr_keeps (RowIn.kept FAr_keeps hr (fun b hb => hk6' b hb.2 (by have := hb.1; have := HN5.out; omega))) (fun b hb => ⟨by have := hb.1; have := HN5.out; have := HCN.out; omega, Nat.lt_of_lt_of_le hb.2 hs6'⟩)
  have hrow6 : RowIn FAr 3 (Seg w2.heap.size w6.heap.size) w6 ah h.rs := RowIn.mono FAr_keeps (own_arcs ho6) (fun b hb => ⟨by have : w5.heap.size ≤ b := hb.1; have := HN5.out; have := HCN.out; omega, hb.2⟩)
  have HFIN := Lib.hid (show ∀ wf : World, Below w.heap.size w wf → wf.heap[w.heap.size]? = some (.cells #[.int .i64 g.f, .int .i64 g.t, .slice ag g.rs.length cg] 26 (0, 0)) → wf.heap[w.heap.size + 1]? = some (.cells #[.int .i64 h.f, .int .i64 h.t, .slice ah h.rs.length ch] 26 (0, 0)) →
      (∀ j, j ≠ w.heap.size → j ≠ w.heap.size + 1 → wf.heap[j]? = w6.heap[j]?) → w6.heap.size ≤ wf.heap.size → DcPost w (.returned (.tuple #[.agg #[.int .i64 g.f, .int .i64 g.t, .slice ag g.rs.length cg], .agg #[.int .i64 h.f, .int .i64 h.t, .slice ah h.rs.length ch]])) wf from fun wf hb hg1 hh1 hk hsz => by
    have hn := HCN.out
    have up : ∀ b, Seg w2.heap.size w6.heap.size b → Seg w.heap.size wf.heap.size b := fun b hb => ⟨by have := hb.1; omega, Nat.lt_of_lt_of_le hb.2 hsz⟩
    have sm : Same (Seg w2.heap.size w6.heap.size) w6 wf := fun b hb => hk b (by have := hb.1; omega) (by have := hb.1; omega)
    exact ⟨g, h, ag, ah, cg, ch, rfl, ⟨ag, cg, rfl, RowIn.mono FAr_keeps (RowIn.kept FAr_keeps hrow5 sm) up⟩, ⟨ah, ch, rfl, RowIn.mono FAr_keeps (RowIn.kept FAr_keeps hrow6 sm) up⟩, HL4.out, hl6, hb⟩)
  have hn2 : w.heap.size + 1 < w4.heap.size := by have := HCN.out; have := HN5.out; omega
  obtain ⟨a1, a2, a3⟩ := set3 (w0 := w) (P := w.heap.size) h06 (.int .i64 g.f) (.int .i64 g.t) (.slice ag g.rs.length cg) hb6 (Nat.le_refl _)
  have ha2' := (a3 (w.heap.size + 1) (by omega)).trans h16
  obtain ⟨b1, b2, b3⟩ := set3 (w0 := w) (P := w.heap.size + 1) ha2' (.int .i64 h.f) (.int .i64 h.t) (.slice ah h.rs.length ch) a2 (by omega)
  have HA1 := Lib.hid ((a3 w4.heap.size (by omega)).trans hG6)
  have HA2 := Lib.hid ha2'
  have HB1 := Lib.hid ((b3 w4.heap.size (by omega)).trans HA1.out)
  have HPA := Lib.hid (HFIN.out _ b2 ((b3 w.heap.size (by omega)).trans a1) b1 (fun j h1 h2 => (b3 j h2).trans (a3 j h1)) (by simp))
  have HRA := Lib.hid (And.intro ((b3 w.heap.size (by omega)).trans a1) b1)
  obtain ⟨c0, c1, c2, e0, e1, e2⟩ := cells3 (P := w.heap.size) h06
  clear a1 a2 a3 b1 b2 b3 ha2' hk6 hk6' hs6 hs6' hC6 ho6 hrow5 hrow6 hb6 h06 HG2 HO5 hw5
  go_wp2_with fail
  refine hK.out _ _ hG6 (fun _ => ?_)
  clear hK K
  try simp only [Act.put, List.getElem_toArray, List.getElem_cons_zero, List.getElem_cons_succ, List.setIfInBounds_toArray, List.set_cons_zero, List.set_cons_succ]
  refine wpAnyH_ready (rs := [3]) (by kernel_rfl) (by simp) ?_
  refine AllReadyH.cons rfl (fun K hK => ?_) AllReadyH.nil
  go_simp
  refine hK.out _ _ HA1.out (fun _ => ?_)
  clear hK K c0 c1 c2 e0 e1 e2
  try simp only [Act.put, List.getElem_toArray, List.getElem_cons_zero, List.getElem_cons_succ, List.setIfInBounds_toArray, List.set_cons_zero, List.set_cons_succ]
  obtain ⟨c0, c1, c2, e0, e1, e2⟩ := cells3 (P := w.heap.size + 1) HA2.out
  refine wpAnyH_ready (rs := [4]) (by kernel_rfl) (by simp) ?_
  refine AllReadyH.cons rfl (fun K hK => ?_) AllReadyH.nil
  go_simp
  refine hK.out _ _ HB1.out (fun _ => ?_)
  clear hK K c0 c1 c2 e0 e1 e2
  try simp only [Act.put, List.getElem_toArray, List.getElem_cons_zero, List.getElem_cons_succ, List.setIfInBounds_toArray, List.set_cons_zero, List.set_cons_succ]
  refine wpAnyH_done (by kernel_rfl) ?_ _
  clear hHeld hG6 h16
  go_wp2
  refine bodyPost_ret (results_rows2 rfl _ _ w.heap.size (w.heap.size + 1) 26 #[.int .i64 g.f, .int .i64 g.t, .slice ag g.rs.length cg] #[.int .i64 h.f, .int .i64 h.t, .slice ah h.rs.length ch] (0, 0) _ (by rfl) (by rfl) HRA.out.1 HRA.out.2 Try.underlying26 rfl infoSGraph infoSGraph) rfl ?_
  exact HPA.out

end Go.Proofs.Ytliibknppfbfeaa.Pr
