/-
  impl.Falls asks what the reference's does; the law of Falls.
-/
import Derived.Test.YtgjmefcognoepaaPA6
import Derived.Test.YtgjmefcognoepaaPLF
namespace Go.Proofs.Ytgjmefcognoepaa.Pr
open Go Go.RowKit Go.Maps Go.WideMaps

theorem at_load_g {P : Program} {ops : Array Oper} {rest : List Oper} {d : Option Tmp} {p : String} {t0 : TypeId} {af : Array _} {gd : Nat × Bool} {a : Act} {w : World} {Q : Exit → Act → World → Prop} (ty : TypeId) (x : Tmp)
    (h : wpList P ops Q ({ dst := d, op := .load ty (.tmp x), type := t0, pos := p, after := af, guard := some gd } :: rest) a w) : wpList P ops Q ({ dst := d, op := .load ty (.tmp x), type := t0, pos := p, after := af, guard := some gd } :: rest) a w := h
theorem wpList_load_row_g {P : Program} {ops : Array Oper} {rest : List Oper} {o : Oper} {a : Act} {w : World} {Q : Exit → Act → World → Prop} (hw : Region.wanted o (yielded ops a.tmps) = true) (ty : TypeId) (x : Operand) (ho : o.op = .load ty x)
    (g : Nat) (hx : a.eval x = .pointer (some ⟨g, 0, none⟩)) (t : TypeId) (cs : Array Value) (fr : Nat × Nat) (d : TypeDesc) (hg : w.heap[g]? = some (.cells cs t fr))
    (hu : P.underlying ty = some d) (hd : (match d with | .struct _ | .array _ _ => true | _ => false) = true) (hi : (P.info? ty).map (·.size) = some cs.size)
    (h : wpList P ops Q rest (a.put o.dst (.agg cs)) w) : wpList P ops Q (o :: rest) a w :=
  wpList_step fun _ hK => by
    rw [if_pos hw]
    exact wp_load_row ty x ho g hx t cs fr d hg hu hd hi (hK _ _ h)

theorem falls_same {g : Gr} {G : List Int} (T : Tab G g.rs) (R : RightA g.rs) : FallsT g.f g.t G ↔ FallsR g := by
  have hs := thenT_same T R
  have hd := falls_diag T R
  have hc : compAns g g = (g, true) ↔ g.f = g.t ∧ compA g.rs g.rs = g.rs := by
    unfold compAns
    constructor
    · intro h
      split at h
      · rename_i hr
        injection h with h1 h2
        exact ⟨hr.2.2.symm, by have := congrArg Gr.rs h1; exact this⟩
      · injection h with h1 h2
        cases h2
    · rintro ⟨h1, h2⟩
      rw [if_pos ⟨R, R, h1.symm⟩, h2]
  unfold FallsT FallsR
  rw [hc, hd]
  constructor
  · rintro (h | h | h)
    · exact ⟨R, fun hh => absurd hh.1 h⟩
    · exact ⟨R, fun hh => absurd (hs.2 hh.2) h⟩
    · exact ⟨R, fun _ => h⟩
  · rintro ⟨_, h⟩
    by_cases h1 : g.f = g.t
    · by_cases h2 : thenT G G = G
      · exact .inr (.inr (h ⟨h1, hs.1 h2⟩))
      · exact .inr (.inl h2)
    · exact .inl h1

end Go.Proofs.Ytgjmefcognoepaa.Pr
