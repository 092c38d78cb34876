/-
  GRAPHS AS FUNCTIONS: which are right, what two make put together.
-/
import Derived.Test.YtgjmefcognoepaaPG1
namespace Go.Proofs.Ytgjmefcognoepaa.Pr
open Go Go.RowKit Go.Maps Go.WideMaps

def inA (n : Int) : Prop := 0 ≤ n ∧ n ≤ 5
def arcKey (x : Ar) : Int := 10 * x.a + x.b
structure RightA (l : List Ar) : Prop where
  pl : ∀ i (h : i < l.length), inA l[i].a ∧ inA l[i].b
  up : ∀ i (h : i + 1 < l.length), arcKey l[i] < arcKey l[i + 1]
theorem RightA.key {l : List Ar} (R : RightA l) : ∀ i (h : i < l.length), (i : Int) ≤ arcKey l[i]
  | 0, h => by have := R.pl 0 h; unfold inA at this; unfold arcKey; omega
  | i + 1, h => by have h1 := R.key i (by omega); have h2 := R.up i h; omega
theorem RightA.few {l : List Ar} (R : RightA l) : l.length ≤ 56 := by
  by_cases h : l.length = 0
  · omega
  · have h1 := R.key (l.length - 1) (by omega)
    have h2 := R.pl (l.length - 1) (by omega)
    unfold arcKey at h1
    unfold inA at h2
    omega

def hit (x y : Ar) (a b : Int) : Bool := (x.a == a && x.b == y.a) && y.b == b
def hitS (x y : Ar) (a b : Int) : Bool := hit x y a b && (x.s || y.s)
def meets (g h : List Ar) (a b : Int) : Bool := g.any fun x => h.any fun y => hit x y a b
def meetsS (g h : List Ar) (a b : Int) : Bool := g.any fun x => h.any fun y => hitS x y a b
/-- What is found when i arcs of g are through, and k of h for the next one. -/
def found (f : Ar → Ar → Bool) (g h : List Ar) (i k : Nat) : Bool := (g.take i).any (fun x => h.any (f x)) || (match g[i]? with | some x => (h.take k).any (f x) | none => false)
theorem found_zero (f : Ar → Ar → Bool) (g h : List Ar) : found f g h 0 0 = false := by
  unfold found
  cases g[0]? <;> simp
theorem found_step {f : Ar → Ar → Bool} {g h : List Ar} {i k : Nat} (hi : i < g.length) (hk : k < h.length) : found f g h i (k + 1) = (found f g h i k || f g[i] h[k]) := by
  unfold found
  rw [List.getElem?_eq_getElem hi]
  simp only
  rw [List.take_succ_eq_append_getElem hk, List.any_append, Bool.or_assoc]
  simp
theorem found_row {f : Ar → Ar → Bool} {g h : List Ar} {i : Nat} (hi : i < g.length) : found f g h i h.length = found f g h (i + 1) 0 := by
  unfold found
  rw [List.getElem?_eq_getElem hi, List.take_succ_eq_append_getElem hi, List.any_append, List.take_length]
  cases g[i + 1]? <;> simp
theorem found_all (f : Ar → Ar → Bool) (g h : List Ar) : found f g h g.length 0 = g.any fun x => h.any (f x) := by
  unfold found
  rw [List.take_length]
  cases g[g.length]? <;> simp

def pA (m : Nat) : Int := ((m / 6 : Nat) : Int)
def pB (m : Nat) : Int := ((m % 6 : Nat) : Int)
/-- The arc from m / 6 to m % 6 of two graphs put together. -/
def arcOf (g h : List Ar) (m : Nat) : Ar := ⟨(pA m), (pB m), meetsS g h (pA m) (pB m)⟩
def arcsTo (g h : List Ar) (m : Nat) : List Ar := ((List.range m).filter fun (m : Nat) => meets g h (pA m) (pB m)).map (arcOf g h)
def compA (g h : List Ar) : List Ar := arcsTo g h 36
theorem arcsTo_in {g h : List Ar} {m : Nat} (hm : meets g h (pA m) (pB m) = true) : arcsTo g h (m + 1) = arcsTo g h m ++ [arcOf g h m] := by
  unfold arcsTo
  rw [List.range_succ, List.filter_append, List.map_append]
  simp [hm]
theorem arcsTo_out {g h : List Ar} {m : Nat} (hm : meets g h (pA m) (pB m) = false) : arcsTo g h (m + 1) = arcsTo g h m := by
  unfold arcsTo
  rw [List.range_succ, List.filter_append, List.map_append]
  simp [hm]
theorem arcsTo_len (g h : List Ar) (m : Nat) : (arcsTo g h m).length ≤ m := by
  unfold arcsTo
  rw [List.length_map]
  exact Nat.le_trans (List.length_filter_le _ _) (by simp)

set_option maxHeartbeats 400000 in
theorem btw_any (n lo hi : Int) (w : World) : Calls Try.prog 23 #[.int .i64 n, .int .i64 lo, .int .i64 hi] w fun e w' => e = .returned (.bool (decide (lo ≤ n) && decide (n ≤ hi))) ∧ w' = w := by
  by_cases h1 : lo ≤ n
  · by_cases h2 : n ≤ hi
    · have h3 : decide (lo ≤ n) = true := decide_eq_true h1
      have h4 : decide (n ≤ hi) = true := decide_eq_true h2
      rw [h3, h4]
      go_enter Try.func23, Try.ntmps23
      go_wp2
      go_ret
      exact ⟨rfl, rfl⟩
    · have h3 : decide (lo ≤ n) = true := decide_eq_true h1
      have h4 : decide (n ≤ hi) = false := decide_eq_false h2
      rw [h3, h4]
      go_enter Try.func23, Try.ntmps23
      go_wp2
      go_ret
      exact ⟨rfl, rfl⟩
  · have h3 : decide (lo ≤ n) = false := decide_eq_false h1
    rw [h3]
    go_enter Try.func23, Try.ntmps23
    go_wp2
    go_ret
    exact ⟨rfl, rfl⟩

end Go.Proofs.Ytgjmefcognoepaa.Pr
