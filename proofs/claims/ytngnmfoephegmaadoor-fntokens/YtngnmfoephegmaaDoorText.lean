/-
  THE WALKS over constructorText, text, argTexts, impl.TermParts.
-/
import Derived.Test.YtngnmfoephegmaaDoorDraw
import Derived.Deep.RegionHeld3
import Derived.Test.YtngnmfoephegmaaDoorShelfJ
import Derived.Lib.Join
namespace Go.Proofs.YtngnmfoephegmaaDoor
open Go Go.RowKit Go.Maps Go.WideMaps

/-- What constructorText writes. -/
def conText (nm : List UInt8) (xs : List (List UInt8)) : List UInt8 := if xs = [] then nm else nm ++ 40 :: (Lib.join xs [44] ++ [41])

theorem join_more : ∀ (ts : List Tm), Lib.joinTail [44] (ts.map Tm.text) ++ [41] = moreText ts
  | [] => by rw [moreText]; rfl
  | t :: ts => by
    rw [moreText, ← join_more ts]
    simp [Lib.joinTail]
theorem conText_text (nm : List UInt8) (args : List Tm) : conText nm (args.map Tm.text) = (Tm.con nm args).text := by
  cases args with
  | nil => rw [Tm.text, argText]; simp [conText]
  | cons a as' =>
    rw [Tm.text, argText, ← join_more]
    simp only [conText, List.map_cons, Lib.join_cons]
    rw [if_neg (by simp)]
    simp

theorem join_len (ts : List Tm) (h : ts ≠ []) : (Lib.join (ts.map Tm.text) [44]).length + 1 = (argText ts).length - 1 := by
  cases ts with
  | nil => exact absurd rfl h
  | cons a as' =>
    have := congrArg List.length (join_more as')
    rw [List.length_append] at this
    rw [argText, List.map_cons, Lib.join_cons, List.length_cons, List.length_append, List.length_append]
    simp at this
    omega
theorem join_le (nm : List UInt8) (ts : List Tm) : (Lib.join (ts.map Tm.text) [44]).length ≤ (Tm.con nm ts).text.length := by
  cases ts with
  | nil => simp [Lib.join, List.intercalate]
  | cons a as' =>
    have := join_len (a :: as') (by simp)
    rw [Tm.text, List.length_append]
    omega

/-- What the loop of argTexts holds. -/
def TextsRel (w : World) (is : List Nat) (ts : List Tm) (rb : Nat) (vs : Value) (v5 v12 : Value) (wr : World) : Prop :=
  ∃ (k : Nat) (xs : List ByteArray), v12 = .int .i64 (k : Int) ∧ k ≤ is.length ∧ xs.length = k ∧ xs.map lst = (ts.take k).map Tm.text ∧ wr.ownsRow w.heap.size 9 1 v5 xs.length (strCells xs) ∧
    wr.ownsRow rb 3 1 vs is.length (intCells is) ∧ Below w.heap.size w wr

theorem owns_mono {w : World} {base base' : Nat} {e : TypeId} {size : Nat} {v : Value} {n : Nat} {xs : List Value} (hb : base' ≤ base) (h : w.ownsRow base e size v n xs) : w.ownsRow base' e size v n xs := by
  refine ⟨h.1, ?_⟩
  rcases h.2 with h' | ⟨g, cap, cur, hv, hg, r⟩
  · exact .inl h'
  · exact .inr ⟨g, cap, cur, hv, Nat.le_trans hb hg, r⟩

end Go.Proofs.YtngnmfoephegmaaDoor
