/-
  laws.FnExactExpVars answers true.
-/
import Derived.Test.YtacchpbfhoanoaaGreatPV9
import Derived.Test.YtacchpbfhoanoaaGreatPOp
namespace Go.Proofs.YtacchpbfhoanoaaGreat.Pr
open Go Go.RowKit Go.Maps Go.WideMaps

theorem row_mkd {S : Nat → Prop} {w w' : World} {base : Nat} {e : TypeId} {v : Value} {n : Nat} {xs : List Value} (h : w.ownsRow base e 1 v n xs) (m : Mkd S w w') (hS : ∀ g, v.ownBlock = some g → ¬ S g) : w'.ownsRow base e 1 v n xs := by
  refine ⟨h.1, ?_⟩
  rcases h.2 with h' | ⟨g, cap, cur, rfl, hg, hh, r⟩
  · exact .inl h'
  · exact .inr ⟨g, cap, cur, rfl, hg, (m.block g (lt_of_block hh) (hS g rfl)).trans hh, r⟩
theorem own_lt2 {w : World} {base : Nat} {e : TypeId} {size : Nat} {v : Value} {n : Nat} {xs : List Value} (h : w.ownsRow base e size v n xs) {g : Nat} (hg : v.ownBlock = some g) : base ≤ g ∧ g < w.heap.size := by
  rcases h.2 with ⟨rfl, _⟩ | ⟨g', cap, cur, rfl, hb, hh, _⟩
  · simp [Value.ownBlock] at hg
  · simp [Value.ownBlock] at hg; subst hg; exact ⟨hb, lt_of_block hh⟩
theorem own_txts {w : World} {base : Nat} {a : Option Addr} {c : Nat} {xs : List ByteArray} (h : w.ownsRow base 9 1 (.slice a xs.length c) xs.length (txtCells xs)) : TxtsIn (fun b => b < w.heap.size) w a xs := by
  intro i hi
  obtain ⟨g, c', hv, h1, h2⟩ := h.form (by omega)
  simp only [Value.slice.injEq, true_and] at hv
  obtain ⟨rfl, rfl⟩ := hv
  refine ⟨g, 0, rfl, h2, ?_⟩
  rw [Nat.zero_add, h.cellAt i (by omega)]
  simp [txtCells, hi]
theorem eqTxts {w : World} {b1 b2 : Nat} {a1 a2 : Option Addr} {c1 c2 : Nat} {xs : List ByteArray} (h1 : w.ownsRow b1 9 1 (.slice a1 xs.length c1) xs.length (txtCells xs)) (h2 : w.ownsRow b2 9 1 (.slice a2 xs.length c2) xs.length (txtCells xs)) (hn : xs.length ≤ 60) :
    Calls Tryz.prog 10 #[.slice a1 xs.length c1, .slice a2 xs.length c2] w fun e w' => e = .returned (.bool true) ∧ Below w.heap.size w w' :=
  eqStringS_any xs a1 a2 c1 c2 _ _ w (own_txts h1) (own_txts h2) (fun _ h => h) (fun _ h => h) (by omega)

end Go.Proofs.YtacchpbfhoanoaaGreat.Pr
