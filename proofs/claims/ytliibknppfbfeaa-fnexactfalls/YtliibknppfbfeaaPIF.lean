/-
  impl.Falls asks what the reference's does; the law of Falls.
-/
import Derived.Test.YtliibknppfbfeaaPA6
import Derived.Test.YtliibknppfbfeaaPLF
namespace Go.Proofs.Ytliibknppfbfeaa.Pr
open Go Go.RowKit Go.Maps Go.WideMaps

theorem at_load_g {P : Program} {ops : Array Oper} {rest : List Oper} {d : Option Tmp} {p : String} {t0 : TypeId} {af : Array _} {gd : Nat × Bool} {a : Act} {w : World} {Q : Exit → Act → World → Prop} (ty : TypeId) (x : Tmp)
    (h : wpList P ops Q ({ dst := d, op := .load ty (.tmp x), type := t0, pos := p, after := af, guard := some gd } :: rest) a w) : wpList P ops Q ({ dst := d, op := .load ty (.tmp x), type := t0, pos := p, after := af, guard := some gd } :: rest) a w := h
theorem wpList_load_row_g {P : Program} {ops : Array Oper} {rest : List Oper} {o : Oper} {a : Act} {w : World} {Q : Exit → Act → World → Prop} (hw : Region.wanted o (yielded ops a.tmps) = true) (ty : TypeId) (x : Operand) (ho : o.op = .load ty x)
    (g : Nat) (hx : a.eval x = .pointer (some ⟨g, 0, none⟩)) (t : TypeId) (cs : Array Value) (fr : Nat × Nat) (d : TypeDesc) (hg : w.heap[g]? = some (.cells cs t fr))
    (hu : P.underlying ty = some d) (hd : (match d with | .struct _ | .array _ _ => true | _ => false) = true) (hi : (P.info? ty).map (·.size) = some cs.size)
    (h : wpList P ops Q rest (a.put o.dst (.agg cs)) w) : wpList P ops Q (o :: rest) a w :=
  wpList_step fun _ hK => by
    rw [if_pos hw]
    exact wp_load_row ty x ho g hx t cs fr d hg hu hd hi (hK _ _ h)

theorem falls_same {g : Gr} {G : List Int} (T : Tab G g.rs) (R : RightA g.rs) : FallsT g.f g.t G ↔ FallsR g := by
  have hs := thenT_same T R
  have hd := falls_diag T R
  have hc : compAns g g = (g, true) ↔ g.f = g.t ∧ compA g.rs g.rs = g.rs := by
    unfold compAns
    constructor
    · intro h
      split at h
      · rename_i hr
        injection h with h1 h2
        exact ⟨hr.2.2.symm, by have := congrArg Gr.rs h1; exact this⟩
      · injection h with h1 h2
        cases h2
    · rintro ⟨h1, h2⟩
      rw [if_pos ⟨R, R, h1.symm⟩, h2]
  unfold FallsT FallsR
  rw [hc, hd]
  constructor
  · rintro (h | h | h)
    · exact ⟨R, fun hh => absurd hh.1 h⟩
    · exact ⟨R, fun hh => absurd (hs.2 hh.2) h⟩
    · exact ⟨R, fun _ => h⟩
  · rintro ⟨_, h⟩
    by_cases h1 : g.f = g.t
    · by_cases h2 : thenT G G = G
      · exact .inr (.inr (h ⟨h1, hs.1 h2⟩))
      · exact .inr (.inl h2)
    · exact .inl h1

set_option maxRecDepth 100000 in
set_option maxHeartbeats 4000000 in
theorem implFalls : ImplFalls := by
  intro g vg S w hF hS hl
  have hG := hF
  obtain ⟨ag, cg, rfl, r1⟩ := hF
  have hb0 : Below w.heap.size w (w.alloc (.cells #[.int .i64 g.f, .int .i64 g.t, .slice ag g.rs.length cg] 26)) := (Below.refl _ _).alloc (Nat.le_refl _) _
  have k0 := heap_alloc_new w (.cells #[.int .i64 g.f, .int .i64 g.t, .slice ag g.rs.length cg] 26)
  obtain ⟨w0, hw0⟩ : ∃ w0, w.alloc (.cells #[.int .i64 g.f, .int .i64 g.t, .slice ag g.rs.length cg] 26) = w0 := ⟨_, rfl⟩
  rw [hw0] at hb0 k0
  have HNA := Lib.hid (newArc_any g _ S w0 (FGr_keeps.1 _ _ _ _ _ hG (Same.below hS hb0)) (fun b hb => Nat.lt_of_lt_of_le (hS b hb) hb0.size) hl)
  have HB0 := Lib.hid hb0
  obtain ⟨g0, g1, g2, -, -, -⟩ := cells3 k0
  clear hG hS r1 hb0 k0
  go_enter Try.func17, Try.ntmps17
  go_wp2_with fail
  refine HNA.out.mono ?_
  rintro e w1 ⟨he, hb1⟩
  have HB1 := Lib.hid (below_step HB0.out hb1)
  clear hb1 g0 g1 g2 HNA
  rcases he with ⟨L, rfl, hT, hR⟩ | ⟨rfl, hR⟩
  · have HSZ := Lib.hid (gcells_size (f := g.f) (t := g.t) hT.len)
    have HSY := Lib.hid (z36_size (f := g.f) (t := g.t) hT.len)
    have HK := Lib.hid (heap_alloc_new w1 (.cells (gcells 0 0 z36).toArray 50))
    have HKS := Lib.hid (setRow_heap _ w1.heap.size _ (gcells g.f g.t L).toArray _ _ HK.out)
    have HB2 := Lib.hid (below_setRow (below_alloc HB1.out (.cells (gcells 0 0 z36).toArray 50)) (g := w1.heap.size) (gcells g.f g.t L).toArray HB1.out.size)
    obtain ⟨w2, hw2⟩ : ∃ w2, (w1.alloc (.cells (gcells 0 0 z36).toArray 50)).setRow w1.heap.size (gcells g.f g.t L).toArray = w2 := ⟨_, rfl⟩
    rw [hw2] at HKS HB2
    have HW2 := Lib.hid hw2
    have HFA := Lib.hid (falls_any g.f g.t L hT.len w2)
    have HSM := Lib.hid (falls_same hT hR)
    clear hT hR hw2
    go_wp2_with (first
      | (with_reducible refine at_store 50 3 8 ?_
         refine wpList_store_row rfl 50 (.tmp 3) (.tmp 8) rfl w1.heap.size (gcells g.f g.t L).toArray rfl rfl 50 _ HK.out HSZ.out HSY.out (gcells_one _ _ _) ?_
         erw [HW2.out])
      | (with_reducible refine at_load_g 50 3 ?_
         refine wpList_load_row_g (by rfl) 50 (.tmp 3) rfl w1.heap.size rfl 50 _ (0, 0) _ HKS.out Try.underlying50 rfl HSZ.out ?_)
      | fail)
    refine HFA.out.mono ?_
    rintro e w3 ⟨⟨r, rfl, hr⟩, hb3⟩
    have HP := Lib.hid (show (∃ r' : Bool, Ending.returned (.bool r) = .returned (.bool r') ∧ (r' = true ↔ FallsR g)) ∧ Below w.heap.size w w3 from ⟨⟨r, rfl, hr.trans HSM.out⟩, below_step HB2.out hb3⟩)
    clear hr hb3 HFA HSM
    go_wp2
    go_ret
    exact HP.out
  · have HK := Lib.hid (heap_alloc_new w1 (.cells (gcells 0 0 z36).toArray 50))
    have HP := Lib.hid (show (∃ r' : Bool, Ending.returned (.bool false) = .returned (.bool r') ∧ (r' = true ↔ FallsR g)) ∧ Below w.heap.size w ((w1.alloc (.cells (gcells 0 0 z36).toArray 50)).setRow w1.heap.size (gcells 0 0 z36).toArray) from
      ⟨⟨false, rfl, ⟨fun h => (by cases h), fun h => absurd h.1 hR⟩⟩, below_setRow (below_alloc HB1.out _) _ HB1.out.size⟩)
    clear hR
    go_wp2_with (first
      | (with_reducible refine at_store 50 3 8 ?_
         refine wpList_store_row rfl 50 (.tmp 3) (.tmp 8) rfl w1.heap.size (gcells 0 0 z36).toArray rfl rfl 50 _ HK.out infoSAG rfl (gcells_one _ _ _) ?_)
      | fail)
    go_ret
    exact HP.out

theorem law_FnExactFalls (g : Gr) (vs : List Value) (W : World) (hF : FGr (fun b => b < W.heap.size) W vs g) (hf : g.fits) :
    Calls Try.prog 5 #[.agg vs.toArray] W fun e w' => e = .returned (.bool true) ∧ Below W.heap.size W w' := law_FnExactFalls_of implFalls g vs W hF hf

end Go.Proofs.Ytliibknppfbfeaa.Pr
