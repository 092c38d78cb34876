/-
  THE TOKENS OF A SOURCE, as a function of its bytes (chapter 3).
-/
import Derived.Test.YtngnmfoephegmaaDoorSpecTK
namespace Go.Proofs.YtngnmfoephegmaaDoor
open Go Go.RowKit

structure Tk where
  kind : Int
  from_ : Nat
  end_ : Nat

inductive Res where
  | ok (l : List Tk)
  | bad (place : Nat) (code : Int)

def Res.pre (ts : List Tk) : Res → Res
  | .ok l => .ok (ts ++ l)
  | .bad a c => .bad a c

theorem Res.pre_nil (r : Res) : r.pre [] = r := by cases r <;> rfl
theorem Res.pre_pre (r : Res) (a b : List Tk) : (r.pre b).pre a = r.pre (a ++ b) := by
  cases r
  · simp [Res.pre]
  · rfl

inductive Stp where
  | tok (t : Tk)
  | bad (code : Int)

def isBlk (c : UInt8) : Bool := c.toNat == 32 || c.toNat == 9 || c.toNat == 10 || c.toNat == 13
/-- Another byte than b. -/
def notB (b : Nat) (c : UInt8) : Bool := c.toNat != b
/-- A comment begins there. -/
def isCom (l : List UInt8) (a : Nat) : Bool := (l[a]?.map UInt8.toNat == some 47) && (l[a + 1]?.map UInt8.toNat == some 47)
def isOne (c : UInt8) : Bool := [40, 41, 44, 46, 33, 61, 60, 43, 45, 42, 124, 95].contains c.toNat
def isTwo (c d : UInt8) : Bool := (c.toNat == 58 && d.toNat == 45) || (c.toNat == 33 && d.toNat == 61) || (c.toNat == 60 && d.toNat == 61)
/-- How many bytes the sign has that l begins with. -/
def sgn (l : List UInt8) : Nat :=
  match l with
  | [] => 0
  | [c] => if isOne c then 1 else 0
  | c :: d :: _ => if isTwo c d then 2 else if isOne c then 1 else 0

theorem sgn_le (l : List UInt8) : sgn l ≤ l.length := by
  unfold sgn
  split
  · exact Nat.le_refl _
  · split <;> simp
  · split
    · simp
    · split <;> simp

/-- The token that begins at a place that is no blank and no comment. -/
def tokAt (l : List UInt8) (a : Nat) : Stp :=
  match l[a]? with
  | none => .bad 0
  | some c =>
    if isBig c || isSml c then
      if stopAt isNam l (a + 1) - a ≤ 20 then .tok ⟨if isBig c then 2 else 1, a, stopAt isNam l (a + 1)⟩ else .bad 2
    else if isDig c then
      if iKind ((l.drop a).take (stopAt isDig l (a + 1) - a)) = 1 then .tok ⟨3, a, stopAt isDig l (a + 1)⟩ else .bad 4
    else if c.toNat = 34 then
      if stopAt (notB 34) l (a + 1) < l.length ∧ iKind ((l.drop a).take (stopAt (notB 34) l (a + 1) + 1 - a)) = 2 then .tok ⟨4, a, stopAt (notB 34) l (a + 1) + 1⟩ else .bad 3
    else if sgn (l.drop a) = 0 then .bad 2 else .tok ⟨5, a, a + sgn (l.drop a)⟩

theorem tokAt_in {l : List UInt8} {a : Nat} {t : Tk} (h : tokAt l a = .tok t) : a < t.end_ ∧ t.end_ ≤ l.length ∧ t.from_ = a ∧ 1 ≤ t.kind ∧ t.kind ≤ 5 := by
  unfold tokAt at h
  split at h
  · cases h
  · rename_i c hc
    have hlt : a < l.length := (List.getElem?_eq_some_iff.1 hc).1
    have hs := stopAt_le isNam l (a + 1) (by omega)
    have hd := stopAt_le isDig l (a + 1) (by omega)
    have hq := stopAt_le (notB 34) l (a + 1) (by omega)
    have hg := sgn_le (l.drop a)
    rw [List.length_drop] at hg
    split at h
    · split at h
      · cases h
        refine ⟨by show a < stopAt isNam l (a + 1); omega, hs.2, rfl, ?_, ?_⟩ <;> (show _ ≤ _; dsimp only; split <;> omega)
      · cases h
    · split at h
      · split at h
        · cases h
          exact ⟨by show a < stopAt isDig l (a + 1); omega, hd.2, rfl, by show (1 : Int) ≤ 3; omega, by show (3 : Int) ≤ 5; omega⟩
        · cases h
      · split at h
        · split at h
          · rename_i hx
            cases h
            exact ⟨by show a < stopAt (notB 34) l (a + 1) + 1; omega, by show stopAt (notB 34) l (a + 1) + 1 ≤ _; omega, rfl, by show (1 : Int) ≤ 4; omega, by show (4 : Int) ≤ 5; omega⟩
          · cases h
        · split at h
          · cases h
          · rename_i hx
            cases h
            exact ⟨by show a < a + sgn (l.drop a); omega, by show a + sgn (l.drop a) ≤ _; omega, rfl, by show (1 : Int) ≤ 5; omega, by show (5 : Int) ≤ 5; omega⟩

theorem tokAt_name {l : List UInt8} {a : Nat} (h : a < l.length) (hc : (isBig l[a] || isSml l[a]) = true) :
    tokAt l a = if stopAt isNam l (a + 1) - a ≤ 20 then .tok ⟨if isBig l[a] then 2 else 1, a, stopAt isNam l (a + 1)⟩ else .bad 2 := by
  unfold tokAt
  rw [List.getElem?_eq_getElem h]
  dsimp only
  rw [if_pos hc]
theorem tokAt_num {l : List UInt8} {a : Nat} (h : a < l.length) (h1 : (isBig l[a] || isSml l[a]) = false) (h2 : isDig l[a] = true) :
    tokAt l a = if iKind ((l.drop a).take (stopAt isDig l (a + 1) - a)) = 1 then .tok ⟨3, a, stopAt isDig l (a + 1)⟩ else .bad 4 := by
  unfold tokAt
  rw [List.getElem?_eq_getElem h]
  dsimp only
  rw [if_neg (by rw [h1]; decide), if_pos h2]
theorem tokAt_sym {l : List UInt8} {a : Nat} (h : a < l.length) (h1 : (isBig l[a] || isSml l[a]) = false) (h2 : isDig l[a] = false) (h3 : l[a].toNat = 34) :
    tokAt l a = if stopAt (notB 34) l (a + 1) < l.length ∧ iKind ((l.drop a).take (stopAt (notB 34) l (a + 1) + 1 - a)) = 2 then .tok ⟨4, a, stopAt (notB 34) l (a + 1) + 1⟩ else .bad 3 := by
  unfold tokAt
  rw [List.getElem?_eq_getElem h]
  dsimp only
  rw [if_neg (by rw [h1]; decide), if_neg (by rw [h2]; decide), if_pos h3]
theorem tokAt_sgn {l : List UInt8} {a : Nat} (h : a < l.length) (h1 : (isBig l[a] || isSml l[a]) = false) (h2 : isDig l[a] = false) (h3 : ¬ l[a].toNat = 34) :
    tokAt l a = if sgn (l.drop a) = 0 then .bad 2 else .tok ⟨5, a, a + sgn (l.drop a)⟩ := by
  unfold tokAt
  rw [List.getElem?_eq_getElem h]
  dsimp only
  rw [if_neg (by rw [h1]; decide), if_neg (by rw [h2]; decide), if_neg h3]

/-- All tokens from a place on, or the first fault. -/
def resF : Nat → List UInt8 → Nat → Res
  | 0, _, _ => .ok []
  | f + 1, l, a =>
    match l[a]? with
    | none => .ok []
    | some c =>
      if isBlk c then resF f l (a + 1)
      else if isCom l a then resF f l (stopAt (notB 10) l a)
      else match tokAt l a with
        | .bad k => .bad a k
        | .tok t => (resF f l t.end_).pre [t]

theorem com_lt {l : List UInt8} {a : Nat} (h : isCom l a = true) : a + 1 < l.length ∧ a < stopAt (notB 10) l a ∧ stopAt (notB 10) l a ≤ l.length := by
  unfold isCom at h
  rw [Bool.and_eq_true, beq_iff_eq, beq_iff_eq] at h
  obtain ⟨h1, h2⟩ := h
  have ha1 : a + 1 < l.length := by
    rcases Nat.lt_or_ge (a + 1) l.length with h | h
    · exact h
    · rw [List.getElem?_eq_none h] at h2; cases h2
  have hs := stopAt_le (notB 10) l a (by omega)
  refine ⟨ha1, ?_, hs.2⟩
  unfold stopAt
  rw [List.drop_eq_getElem_cons (by omega : a < l.length)]
  rw [List.getElem?_eq_getElem (by omega : a < l.length)] at h1
  have h1 : l[a].toNat = 47 := by simpa using h1
  have : notB 10 l[a] = true := by unfold notB; rw [h1]; rfl
  rw [List.takeWhile_cons, if_pos this, List.length_cons]
  omega

theorem resF_eq : ∀ (f g : Nat) (l : List UInt8) (a : Nat), l.length < f + a → l.length < g + a → resF f l a = resF g l a := by
  intro f
  induction f with
  | zero =>
    intro g l a h1 h2
    cases g with
    | zero => rfl
    | succ g => unfold resF; rw [List.getElem?_eq_none (by omega)]
  | succ f ih =>
    intro g l a h1 h2
    cases g with
    | zero => unfold resF; rw [List.getElem?_eq_none (by omega)]
    | succ g =>
      unfold resF
      split
      · rfl
      · split
        · exact ih g l (a + 1) (by omega) (by omega)
        · split
          · rename_i hc
            have := com_lt hc
            exact ih g l _ (by omega) (by omega)
          · split
            · rfl
            · rename_i t ht
              have := tokAt_in ht
              rw [ih g l t.end_ (by omega) (by omega)]

def res (l : List UInt8) (a : Nat) : Res := resF (l.length + 1) l a

theorem res_step (l : List UInt8) (a : Nat) : res l a = match l[a]? with
    | none => .ok []
    | some c =>
      if isBlk c then res l (a + 1)
      else if isCom l a then res l (stopAt (notB 10) l a)
      else match tokAt l a with
        | .bad k => .bad a k
        | .tok t => (res l t.end_).pre [t] := by
  unfold res
  rw [resF]
  split
  · rfl
  · split
    · exact resF_eq _ _ l _ (by omega) (by omega)
    · split
      · rename_i hc
        have := com_lt hc
        exact resF_eq _ _ l _ (by omega) (by omega)
      · split
        · rfl
        · rename_i t ht
          have := tokAt_in ht
          rw [resF_eq _ (l.length + 1) l t.end_ (by omega) (by omega)]

theorem res_end {l : List UInt8} {a : Nat} (h : l.length ≤ a) : res l a = .ok [] := by
  rw [res_step, List.getElem?_eq_none h]
theorem res_blk {l : List UInt8} {a : Nat} (h : a < l.length) (hb : isBlk l[a] = true) : res l a = res l (a + 1) := by
  rw [res_step, List.getElem?_eq_getElem h]
  dsimp only
  rw [if_pos hb]
theorem res_com {l : List UInt8} {a : Nat} (hc : isCom l a = true) : res l a = res l (stopAt (notB 10) l a) := by
  have hl := com_lt hc
  rw [res_step, List.getElem?_eq_getElem (by omega : a < l.length)]
  dsimp only
  have : isBlk l[a] = false := by
    unfold isCom at hc
    rw [List.getElem?_eq_getElem (by omega : a < l.length)] at hc
    simp at hc
    unfold isBlk
    rw [hc.1]
    rfl
  rw [if_neg (by rw [this]; decide), if_pos hc]
theorem res_bad {l : List UInt8} {a : Nat} {k : Int} (h : a < l.length) (hb : isBlk l[a] = false) (hc : isCom l a = false) (ht : tokAt l a = .bad k) : res l a = .bad a k := by
  rw [res_step, List.getElem?_eq_getElem h]
  dsimp only
  rw [if_neg (by rw [hb]; decide), if_neg (by rw [hc]; decide), ht]
theorem res_tok {l : List UInt8} {a : Nat} {t : Tk} (h : a < l.length) (hb : isBlk l[a] = false) (hc : isCom l a = false) (ht : tokAt l a = .tok t) : res l a = (res l t.end_).pre [t] := by
  rw [res_step, List.getElem?_eq_getElem h]
  dsimp only
  rw [if_neg (by rw [hb]; decide), if_neg (by rw [hc]; decide), ht]

/-- What the tokens of a source are. -/
def tokAns (l : List UInt8) : Res := if 3000 < l.length then .bad 0 1 else res l 0

theorem ans_bad {l : List UInt8} {p r : Nat} {ts : List Tk} {k : Int} (h0 : res l 0 = (res l p).pre ts) (hp : res l p = res l r) (hr : r < l.length) (hn : isBlk l[r] = false ∧ isCom l r = false) (ht : tokAt l r = .bad k) : res l 0 = .bad r k := by
  rw [h0, hp, res_bad hr hn.1 hn.2 ht]; rfl
theorem ans_tok {l : List UInt8} {p r : Nat} {ts : List Tk} {t : Tk} (h0 : res l 0 = (res l p).pre ts) (hp : res l p = res l r) (hr : r < l.length) (hn : isBlk l[r] = false ∧ isCom l r = false) (ht : tokAt l r = .tok t) : res l 0 = (res l t.end_).pre (ts ++ [t]) := by
  rw [h0, hp, res_tok hr hn.1 hn.2 ht, Res.pre_pre]
theorem ans_end {l : List UInt8} {p r : Nat} {ts : List Tk} (h0 : res l 0 = (res l p).pre ts) (hp : res l p = res l r) (hr : l.length ≤ r) : res l 0 = .ok ts := by
  rw [h0, hp, res_end hr]; simp [Res.pre]

/-- A byte 10 at the end of a comment is a blank. -/
theorem stop_nl {l : List UInt8} {a : Nat} (ha : a ≤ l.length) (h : stopAt (notB 10) l a < l.length) : l[stopAt (notB 10) l a].toNat = 10 := by
  have h1 := stopAt_drop (notB 10) l a
  rw [List.drop_eq_getElem_cons h] at h1
  have h2 : ∀ (m : List UInt8) (c : UInt8) (r : List UInt8), m.dropWhile (notB 10) = c :: r → notB 10 c = false := by
    intro m
    induction m with
    | nil => intro c r h; cases h
    | cons x m ih =>
      intro c r h
      rw [List.dropWhile_cons] at h
      split at h
      · exact ih c r h
      · rename_i hx
        cases h
        simpa using hx
  have h3 := h2 _ _ _ h1
  have h4 : ∀ c : UInt8, notB 10 c = false → c.toNat = 10 := fun c h => by simpa [notB] using h
  exact h4 _ h3

/-- The tokens rise and are within the text. -/
def Rise : Nat → Nat → List Tk → Prop
  | _, _, [] => True
  | n, lo, t :: ts => lo ≤ t.from_ ∧ t.from_ < t.end_ ∧ t.end_ ≤ n ∧ 1 ≤ t.kind ∧ t.kind ≤ 5 ∧ Rise n t.end_ ts

theorem Rise.mono {n lo lo' : Nat} {ts : List Tk} (h : Rise n lo ts) (hl : lo' ≤ lo) : Rise n lo' ts := by
  cases ts with
  | nil => trivial
  | cons t ts => exact ⟨Nat.le_trans hl h.1, h.2⟩

theorem res_rise : ∀ (k : Nat) (l : List UInt8) (a : Nat) (ts : List Tk), l.length - a < k → res l a = .ok ts → Rise l.length a ts := by
  intro k
  induction k with
  | zero => intro l a ts h; omega
  | succ k ih =>
    intro l a ts hk h
    rw [res_step] at h
    split at h
    · cases h; trivial
    · rename_i c hc
      have hlt : a < l.length := (List.getElem?_eq_some_iff.1 hc).1
      split at h
      · exact (ih l (a + 1) ts (by omega) h).mono (by omega)
      · split at h
        · rename_i hcm
          have := com_lt hcm
          exact (ih l _ ts (by omega) h).mono (by omega)
        · split at h
          · cases h
          · rename_i t ht
            obtain ⟨h1, h2, h3, h4, h5⟩ := tokAt_in ht
            cases hr : res l t.end_ with
            | bad p q => rw [hr] at h; cases h
            | ok us =>
              rw [hr] at h
              cases h
              exact ⟨by omega, by omega, h2, h4, h5, ih l _ us (by omega) hr⟩

end Go.Proofs.YtngnmfoephegmaaDoor
