/-
  TERMS AS TREES, AND THE READER OF impl AS A PLAIN FUNCTION. Nothing of the program.
-/
import Derived.Test.YtngnmfoephegmaaDoorNum
import Derived.Lib.AtoiAll
namespace Go.Proofs.YtngnmfoephegmaaDoor
open Go

inductive Tm where
  | num (n : Int)
  | sym (b : List UInt8)
  | con (name : List UInt8) (args : List Tm)

def isDig (c : UInt8) : Bool := 48 ≤ c.toNat && c.toNat ≤ 57
def isBig (c : UInt8) : Bool := 65 ≤ c.toNat && c.toNat ≤ 90
def isSml (c : UInt8) : Bool := 97 ≤ c.toNat && c.toNat ≤ 122
def isNam (c : UInt8) : Bool := isBig c || isSml c || isDig c || c.toNat == 95
def isSyB (c : UInt8) : Bool := 32 ≤ c.toNat && c.toNat ≤ 126 && c.toNat != 34 && c.toNat != 92

/-- The digits that l begins with, a '-' ahead of them with them. -/
def numLen (l : List UInt8) : Nat :=
  match l with
  | [] => 0
  | c :: r => if c = 45 then 1 + (r.takeWhile isDig).length else (l.takeWhile isDig).length

/-- The number that a text is in its one form. -/
def numOf (l : List UInt8) : Option Int :=
  match Lib.atoiAll l with
  | .ok n => if -1000000 ≤ n ∧ n ≤ 1000000 ∧ Lib.itoa n = l then some n else none
  | _ => none

/-- readNumber. -/
def rdNum (l : List UInt8) : Option (Int × List UInt8) := (numOf (l.take (numLen l))).map fun n => (n, l.drop (numLen l))

theorem numOf_some {l : List UInt8} {n : Int} (h : numOf l = some n) : -1000000 ≤ n ∧ n ≤ 1000000 ∧ Lib.itoa n = l ∧ Lib.atoiAll l = .ok n := by
  unfold numOf at h
  split at h
  · rename_i v hv
    split at h
    · rename_i hc
      obtain rfl : v = n := by simpa using h
      exact ⟨hc.1, hc.2.1, hc.2.2, hv⟩
    · cases h
  · cases h
theorem numOf_ok {l : List UInt8} {v : Int} (h : Lib.atoiAll l = .ok v) : numOf l = if -1000000 ≤ v ∧ v ≤ 1000000 ∧ Lib.itoa v = l then some v else none := by
  unfold numOf
  rw [h]
theorem numOf_bad {l : List UInt8} (h : ∀ v, Lib.atoiAll l ≠ .ok v) : numOf l = none := by
  unfold numOf
  split
  · rename_i v hv
    exact absurd hv (h v)
  · rfl

/-- readSymbol, behind the first quote. -/
def rdSym (l : List UInt8) : Option (List UInt8 × List UInt8) :=
  match l.dropWhile isSyB with
  | [] => none
  | c :: r => if c = 34 ∧ (l.takeWhile isSyB).length ≤ 20 then some (l.takeWhile isSyB, r) else none

mutual
/-- readTerm. -/
def rdTerm : Nat → List UInt8 → Option (Tm × List UInt8)
  | 0, _ => none
  | _ + 1, [] => none
  | f + 1, c :: l =>
    if c = 34 then (rdSym l).map fun x => (.sym x.1, x.2)
    else if isBig c then rdCon f ((c :: l).takeWhile isNam) ((c :: l).dropWhile isNam)
    else (rdNum (c :: l)).map fun x => (.num x.1, x.2)
/-- readConstructor, behind the name. -/
def rdCon : Nat → List UInt8 → List UInt8 → Option (Tm × List UInt8)
  | f, name, l =>
    if 20 < name.length then none
    else match l with
      | [] => some (.con name [], [])
      | c :: r => if c = 40 then (match f with | 0 => none | f + 1 => (rdArgs f r).map fun x => (.con name x.1, x.2)) else some (.con name [], c :: r)
/-- readArgs. -/
def rdArgs : Nat → List UInt8 → Option (List Tm × List UInt8)
  | 0, _ => none
  | f + 1, l =>
    match rdTerm f l with
    | none => none
    | some (_, []) => none
    | some (t, c :: r) => if c = 41 then some ([t], r) else if c = 44 then (rdArgs f r).map fun x => (t :: x.1, x.2) else none
end

/-! ### Going along a text -/

theorem scan_stop (P : UInt8 → Bool) (l : List UInt8) (q p : Nat) (hqp : q ≤ p) (hp : p ≤ l.length) (hall : ∀ j (h : j < l.length), q ≤ j → j < p → P l[j] = true) (hstop : ∀ h : p < l.length, P l[p] = false) :
    (l.drop q).takeWhile P = (l.drop q).take (p - q) ∧ (l.drop q).dropWhile P = l.drop p := by
  obtain ⟨d, rfl⟩ : ∃ d, p = q + d := ⟨p - q, by omega⟩
  rw [show q + d - q = d from by omega]
  clear hqp
  induction d generalizing q with
  | zero =>
    rcases Nat.lt_or_ge q l.length with h | h
    · have := hstop (by omega)
      simp only [Nat.add_zero] at this ⊢
      rw [List.drop_eq_getElem_cons h]
      simp only [List.takeWhile_cons, List.dropWhile_cons, this, Bool.false_eq_true, if_false, List.take_zero, and_self]
    · rw [List.drop_eq_nil_of_le h]; simp [List.drop_eq_nil_of_le h]
  | succ d ih =>
    have h : q < l.length := by omega
    have h1 := hall q h (by omega) (by omega)
    rw [List.drop_eq_getElem_cons h]
    have := ih (q + 1) (by omega) (fun j hj a b => hall j hj (by omega) (by omega)) (fun h => by
      have := hstop (by omega)
      simpa [show q + (d + 1) = q + 1 + d from by omega] using this)
    simp only [List.takeWhile_cons, List.dropWhile_cons, h1, if_true, List.take_succ_cons]
    exact ⟨by rw [this.1], by rw [this.2, show q + 1 + d = q + (d + 1) from by omega]⟩

end Go.Proofs.YtngnmfoephegmaaDoor
