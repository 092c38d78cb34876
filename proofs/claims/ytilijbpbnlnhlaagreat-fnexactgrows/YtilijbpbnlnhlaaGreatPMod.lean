/-
  THE TEXT OF A RULE, as a function of its exps and literals; when it has one.
-/
import Derived.Test.YtilijbpbnlnhlaaGreatPTr
namespace Go.Proofs.YtilijbpbnlnhlaaGreat.Pr
open Go Go.RowKit Go.Maps Go.WideMaps

abbrev BA := ByteArray
def bEmpty : BA := ⟨#[]⟩
theorem ba_empty (a : BA) : a ++ (⟨#[]⟩ : BA) = a := ByteArray.append_empty
theorem empty_ba (a : BA) : (⟨#[]⟩ : BA) ++ a = a := ByteArray.empty_append

/-- Texts one behind the other, b: whether one has gone ahead; f: what comes between. -/
def listTxt (f : Bool → BA → BA) (out : List BA) (s : BA) (xs : List Int) : BA × Bool := xs.foldl (fun a x => (f a.2 a.1 ++ out.getD x.toNat ⟨#[]⟩, true)) (s, false)
theorem listTxt_snoc (f : Bool → BA → BA) (out : List BA) (s : BA) (xs : List Int) (x : Int) : listTxt f out s (xs ++ [x]) = (f (listTxt f out s xs).2 (listTxt f out s xs).1 ++ out.getD x.toNat ⟨#[]⟩, true) := by
  unfold listTxt
  rw [List.foldl_append]
  rfl
theorem listTxt_snd (f : Bool → BA → BA) (out : List BA) (s : BA) (xs : List Int) (k : Nat) (hk : k ≤ xs.length) : (listTxt f out s (xs.take k)).2 = decide (0 < k) := by
  cases k with
  | zero => rfl
  | succ k => rw [List.take_succ_eq_append_getElem (by omega), listTxt_snoc]; simp
def fCon (b : Bool) (a : BA) : BA := if b then a ++ ⟨#[44, 32]⟩ else a ++ ⟨#[40]⟩
def fLit (b : Bool) (a : BA) : BA := if b then a ++ ⟨#[44, 32]⟩ else a

/-- A sum, difference or product. -/
def isSum (k : Int) : Bool := decide (5 ≤ k) && decide (k ≤ 7)
def side (es : List It) (out : List BA) (x : Int) : BA := if ((es[x.toNat]?).map (fun e => isSum e.k)).getD false then ⟨#[40]⟩ ++ out.getD x.toNat ⟨#[]⟩ ++ ⟨#[41]⟩ else out.getD x.toNat ⟨#[]⟩
def signTxt (k : Int) : BA := if k = 5 then ⟨#[32, 43, 32]⟩ else if k = 6 then ⟨#[32, 45, 32]⟩ else ⟨#[32, 42, 32]⟩
def conTxt (out : List BA) (s : BA) (xs : List Int) : BA := if xs.isEmpty then s else (listTxt fCon out s xs).1 ++ ⟨#[41]⟩
/-- The text of an exp, those ahead of it being out. -/
def expTxt (es : List It) (out : List BA) (e : It) : BA :=
  if e.k = 2 then ⟨#[95]⟩ else if e.k = 4 then conTxt out e.s e.xs else if isSum e.k then side es out (e.xs.getD 0 0) ++ signTxt e.k ++ side es out (e.xs.getD 1 0) else e.s
/-- The texts of the first i exps. -/
def txts (es : List It) : Nat → List BA
  | 0 => []
  | i + 1 => txts es i ++ [expTxt es (txts es i) (es.getD i ⟨0, ⟨#[]⟩, []⟩)]
theorem txts_length (es : List It) : ∀ i, (txts es i).length = i
  | 0 => rfl
  | i + 1 => by rw [txts, List.length_append, txts_length es i]; rfl
/-- Its kind is one, with as many kids as it has. -/
def kindOk (e : It) : Bool := (decide (1 ≤ e.k) && decide (e.k ≤ 3) && e.xs.isEmpty) || decide (e.k = 4) || (isSum e.k && decide (e.xs.length = 2))
def inside (lo hi : Int) (x : Int) : Bool := decide (lo ≤ x) && decide (x < hi)
/-- All places that exps name. -/
def refs (es : List It) : List Int := es.flatMap It.xs
theorem refs_append (a b : List It) : refs (a ++ b) = refs a ++ refs b := List.flatMap_append
theorem refs_one (a : It) : refs [a] = a.xs := by simp [refs]
/-- How often each place below n is named. -/
def cnts (n : Nat) (r : List Int) : List Int := (List.range n).map fun (m : Nat) => ((r.count (m : Int) : Nat) : Int)
theorem cnts_length (n : Nat) (r : List Int) : (cnts n r).length = n := by simp [cnts]
theorem cnts_get (n : Nat) (r : List Int) (m : Nat) (h : m < (cnts n r).length) : (cnts n r)[m] = ((r.count (m : Int) : Nat) : Int) := by simp [cnts]
theorem cnts_bump (n : Nat) (r : List Int) (x : Int) (h0 : 0 ≤ x) (_hx : x < n) : (cnts n r).set x.toNat (((r.count x : Nat) : Int) + 1) = cnts n (r ++ [x]) := by
  apply List.ext_getElem
  · simp [cnts]
  · intro i h1 h2
    rw [List.getElem_set, cnts_get, cnts_get, List.count_append, List.count_singleton]
    by_cases h : x.toNat = i
    · have : (i : Int) = x := by omega
      rw [if_pos h, this]
      simp
    · have : ¬ x = (i : Int) := by omega
      rw [if_neg h]
      simp [this]
/-- The exps and literals have the form. -/
structure Good (es : List It) (ls : List It) : Prop where
  few : es.length ≤ 60
  kid : ∀ i (h : i < es.length), ∀ x ∈ es[i].xs, 0 ≤ x ∧ x < (i : Int)
  kind : ∀ e ∈ es, kindOk e = true
  arg : ∀ l ∈ ls, ∀ x ∈ l.xs, 0 ≤ x ∧ x < (es.length : Int)
  once : ∀ m, m < es.length → (refs es ++ refs ls).count (m : Int) = 1

/-- The text of a literal. -/
def litTxt (out : List BA) (l : It) : BA :=
  if l.k = 3 then out.getD (l.xs.getD 0 0).toNat ⟨#[]⟩ ++ ⟨#[32]⟩ ++ l.s ++ ⟨#[32]⟩ ++ out.getD (l.xs.getD 1 0).toNat ⟨#[]⟩
  else (listTxt fLit out (if l.k = 2 then ⟨#[33]⟩ ++ (l.s ++ ⟨#[40]⟩) else l.s ++ ⟨#[40]⟩) l.xs).1 ++ ⟨#[41]⟩
def litOk (l : It) : Bool := decide (l.k = 1) || decide (l.k = 2) || (decide (l.k = 3) && decide (l.xs.length = 2))
/-- The head and the first literals of the body. -/
def bodyTxt (out : List BA) (s : BA) : List It → BA × Bool := fun ls => ls.foldl (fun a l => (a.1 ++ (if a.2 then ⟨#[44, 32]⟩ else ⟨#[32, 58, 45, 32]⟩) ++ litTxt out l, true)) (s, false)
theorem bodyTxt_snoc (out : List BA) (s : BA) (ls : List It) (l : It) : bodyTxt out s (ls ++ [l]) = ((bodyTxt out s ls).1 ++ (if (bodyTxt out s ls).2 then ⟨#[44, 32]⟩ else ⟨#[32, 58, 45, 32]⟩) ++ litTxt out l, true) := by
  unfold bodyTxt
  rw [List.foldl_append]
  rfl
theorem bodyTxt_snd (out : List BA) (s : BA) (ls : List It) (k : Nat) (hk : k ≤ ls.length) : (bodyTxt out s (ls.take k)).2 = decide (0 < k) := by
  cases k with
  | zero => rfl
  | succ k => rw [List.take_succ_eq_append_getElem (by omega), bodyTxt_snoc]; simp
def ruleTxt (u : Ru) : BA := (bodyTxt (txts u.es u.es.length) (litTxt (txts u.es u.es.length) u.hd) u.bd).1 ++ ⟨#[46]⟩
structure RuleOk (u : Ru) : Prop where
  good : Good u.es (u.hd :: u.bd)
  head : u.hd.k = 1
  body : ∀ l ∈ u.bd, litOk l = true
  short : (ruleTxt u).size ≤ 3000

open Classical in
/-- What RuleText answers. -/
noncomputable def ruleAns (u : Ru) : BA := if RuleOk u then ruleTxt u else ⟨#[]⟩

end Go.Proofs.YtilijbpbnlnhlaaGreat.Pr
