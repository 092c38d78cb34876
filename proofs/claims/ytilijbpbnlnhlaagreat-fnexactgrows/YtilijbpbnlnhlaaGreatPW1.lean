/-
  WHAT IS BOUND, as lists of names: atoms, equations, passes over the equations until nothing is added. Nothing is walked.
-/
import Derived.Test.YtilijbpbnlnhlaaGreatPV8
namespace Go.Proofs.YtilijbpbnlnhlaaGreat.Pr
open Go Go.RowKit Go.Maps Go.WideMaps
variable {K : Bool}

theorem mem_foldl_pick (es : List It) (s : ByteArray) : ∀ (P acc : List Nat), (∃ a ∈ P.foldl (pick es) acc, txtAt es a = s) ↔ (∃ a ∈ acc, txtAt es a = s) ∨ ∃ m ∈ P, (expAt es m).k = 1 ∧ txtAt es m = s
  | [], acc => by simp
  | m :: P, acc => by
    rw [List.foldl_cons, mem_foldl_pick es s P]
    have hp : (∃ a ∈ pick es acc m, txtAt es a = s) ↔ (∃ a ∈ acc, txtAt es a = s) ∨ ((expAt es m).k = 1 ∧ txtAt es m = s) := by
      unfold pick
      split
      · rename_i hc
        constructor
        · rintro ⟨a, ha, e⟩
          rcases List.mem_append.1 ha with ha | ha
          · exact .inl ⟨a, ha, e⟩
          · simp only [List.mem_singleton] at ha
            subst ha
            exact .inr ⟨hc.1, e⟩
        · rintro (⟨a, ha, e⟩ | ⟨_, e⟩)
          · exact ⟨a, by simp [ha], e⟩
          · exact ⟨m, by simp, e⟩
      · rename_i hc
        constructor
        · exact fun h => .inl h
        · rintro (h | ⟨h1, h2⟩)
          · exact h
          · refine Classical.byContradiction fun hn => hc ⟨h1, fun a ha e => hn ⟨a, ha, e.trans h2⟩⟩
    rw [hp]
    clear hp
    constructor
    · rintro ((h | h) | ⟨x, hx, h⟩)
      · exact .inl h
      · exact .inr ⟨m, by simp, h⟩
      · exact .inr ⟨x, by simp [hx], h⟩
    · rintro (h | ⟨x, hx, h⟩)
      · exact .inl (.inl h)
      · rcases List.mem_cons.1 hx with rfl | hx
        · exact .inl (.inr h)
        · exact .inr ⟨x, hx, h⟩
theorem mem_firsts (es : List It) (P : List Nat) (s : ByteArray) : s ∈ (firsts es P).map (txtAt es) ↔ ∃ m ∈ P, (expAt es m).k = 1 ∧ txtAt es m = s := by
  rw [List.mem_map]
  have := mem_foldl_pick es s P []
  simpa [firsts] using this
theorem mem_varsIn {es : List It} (T : TreeOk es) {n : Nat} (hn : n < es.length) (s : ByteArray) : s ∈ varsIn es n ↔ ∃ m, In es allE n m ∧ (expAt es m).k = 1 ∧ txtAt es m = s := by
  unfold varsIn
  rw [mem_firsts]
  constructor
  · rintro ⟨m, hm, h⟩
    exact ⟨m, (mem_parts T hn).1 hm, h⟩
  · rintro ⟨m, hm, h⟩
    exact ⟨m, (mem_parts T hn).2 hm, h⟩

/-! ### Lists of names, each once -/
open Classical in
noncomputable def addN (out : List ByteArray) (s : ByteArray) : List ByteArray := if s ∈ out then out else out ++ [s]
theorem addN_in {out : List ByteArray} {s : ByteArray} (h : s ∈ out) : addN out s = out := if_pos h
theorem addN_out {out : List ByteArray} {s : ByteArray} (h : s ∉ out) : addN out s = out ++ [s] := if_neg h
theorem mem_addN {out : List ByteArray} {s x : ByteArray} : x ∈ addN out s ↔ x ∈ out ∨ x = s := by
  by_cases h : s ∈ out
  · rw [addN_in h]
    exact ⟨.inl, fun hh => hh.elim id (fun e => e ▸ h)⟩
  · rw [addN_out h]; simp
theorem addN_nodup {out : List ByteArray} {s : ByteArray} (h : out.Nodup) : (addN out s).Nodup := by
  by_cases hs : s ∈ out
  · rw [addN_in hs]; exact h
  · rw [addN_out hs]
    exact List.nodup_append.2 ⟨h, by simp, fun a ha b hb e => by simp at hb; subst hb; subst e; exact hs ha⟩
theorem addN_pre (out : List ByteArray) (s : ByteArray) : ∃ r, addN out s = out ++ r := by
  by_cases hs : s ∈ out
  · exact ⟨[], by rw [addN_in hs]; simp⟩
  · exact ⟨[s], addN_out hs⟩
noncomputable def addAll (out l : List ByteArray) : List ByteArray := l.foldl addN out
theorem addAll_snoc (out l : List ByteArray) (s : ByteArray) : addAll out (l ++ [s]) = addN (addAll out l) s := by simp [addAll]
theorem mem_addAll {x : ByteArray} : ∀ {l out : List ByteArray}, x ∈ addAll out l ↔ x ∈ out ∨ x ∈ l
  | [], out => by simp [addAll]
  | s :: l, out => by
    show x ∈ addAll (addN out s) l ↔ _
    rw [mem_addAll, mem_addN, List.mem_cons]
    constructor
    · rintro ((h | h) | h)
      · exact .inl h
      · exact .inr (.inl h)
      · exact .inr (.inr h)
    · rintro (h | h | h)
      · exact .inl (.inl h)
      · exact .inl (.inr h)
      · exact .inr h

/-- What is only ever put at the end of. -/
def Grow (f : List ByteArray → List ByteArray) : Prop := ∀ out, ∃ r, f out = out ++ r
theorem Grow.foldl {α : Type} {f : List ByteArray → α → List ByteArray} (h : ∀ a, Grow (fun o => f o a)) : ∀ l : List α, Grow (fun o => l.foldl f o)
  | [], out => ⟨[], by simp⟩
  | a :: l, out => by
    obtain ⟨r, hr⟩ := h a out
    obtain ⟨r', hr'⟩ := Grow.foldl h l (f out a)
    refine ⟨r ++ r', ?_⟩
    show l.foldl f (f out a) = _
    have hr2 : f out a = out ++ r := hr
    rw [show l.foldl f (f out a) = f out a ++ r' from hr', hr2, List.append_assoc]
theorem grow_addAll (l : List ByteArray) : Grow (fun o => addAll o l) := Grow.foldl (fun s o => addN_pre o s) l
/-- What keeps lists of names of the rule, each once. -/
def Tame (N : List ByteArray) (f : List ByteArray → List ByteArray) : Prop := ∀ out, out.Nodup → (∀ x ∈ out, x ∈ N) → (f out).Nodup ∧ ∀ x ∈ f out, x ∈ N
theorem Tame.foldl {N : List ByteArray} {α : Type} {f : List ByteArray → α → List ByteArray} : ∀ (l : List α), (∀ a ∈ l, Tame N (fun o => f o a)) → Tame N (fun o => l.foldl f o)
  | [], _ => fun out h1 h2 => ⟨h1, h2⟩
  | a :: l, h => fun out h1 h2 => by
    obtain ⟨h3, h4⟩ := h a (by simp) out h1 h2
    exact Tame.foldl l (fun b hb => h b (by simp [hb])) _ h3 h4
theorem tame_addN {N : List ByteArray} {s : ByteArray} (hs : s ∈ N) : Tame N (fun o => addN o s) := fun out h1 h2 => ⟨addN_nodup h1, fun x hx => by
  rcases mem_addN.1 hx with h | h
  · exact h2 x h
  · rw [h]; exact hs⟩
theorem tame_addAll {N l : List ByteArray} (h : ∀ x ∈ l, x ∈ N) : Tame N (fun o => addAll o l) := Tame.foldl l (fun s hs => tame_addN (h s hs))

/-- The names of a rule, with the places where they stand first. -/
def allNamed (es : List It) : List (ByteArray × Nat) := named es (List.range es.length)
def allNames (es : List It) : List ByteArray := (allNamed es).map Prod.fst
theorem mem_allNames (es : List It) (s : ByteArray) : s ∈ allNames es ↔ ∃ m, m < es.length ∧ (expAt es m).k = 1 ∧ txtAt es m = s := by
  unfold allNames allNamed
  rw [named_names, mem_firsts]
  simp
theorem allNames_len (es : List It) : (allNames es).length ≤ es.length := by
  unfold allNames allNamed
  rw [named_names, List.length_map]
  exact Nat.le_trans (firsts_len _ _) (by simp)
theorem varsIn_sub {es : List It} (T : TreeOk es) {n : Nat} (hn : n < es.length) : ∀ x ∈ varsIn es n, x ∈ allNames es := fun x hx => by
  obtain ⟨m, hm, h⟩ := (mem_varsIn T hn x).1 hx
  exact (mem_allNames es x).2 ⟨m, by have := hm.le T hn; omega, h⟩

/-! ### Within a sum -/
def isSumAt (es : List It) (m : Nat) : Bool := isSum (expAt es m).k
def noSumE : It → Bool := fun x => !isSum x.k
/-- A place that lies within a sum. -/
inductive Reck (es : List It) : Nat → Prop
  | sum {p x : Nat} : p < es.length → x ∈ kidsE es allE p → isSumAt es p = true → Reck es x
  | deep {p x : Nat} : p < es.length → x ∈ kidsE es allE p → Reck es p → Reck es x
theorem Reck.kid {es : List It} {p x : Nat} (hp : p < es.length) (hx : x ∈ kidsE es allE p) (h : isSumAt es p = true ∨ Reck es p) : Reck es x := h.elim (.sum hp hx) (.deep hp hx)
theorem Reck.inv {es : List It} {x : Nat} (h : Reck es x) : ∃ p, p < es.length ∧ x ∈ kidsE es allE p ∧ (isSumAt es p = true ∨ Reck es p) := by
  cases h with
  | sum hp hx h => exact ⟨_, hp, hx, .inl h⟩
  | deep hp hx h => exact ⟨_, hp, hx, .inr h⟩
theorem In.all {es : List It} {en : It → Bool} {n m : Nat} (h : In es en n m) : In es allE n m := by
  induction h with
  | self => exact .self
  | kid _ hx ih =>
    refine .kid ih ?_
    unfold kidsE at hx ⊢
    split at hx
    · simpa [allE] using hx
    · simp at hx
theorem reck_iff {es : List It} (T : TreeOk es) {n : Nat} (hn : n < es.length) (hroot : ∀ p, p < es.length → n ∉ kidsE es allE p) (m : Nat) : In es noSumE n m ↔ In es allE n m ∧ ¬ Reck es m := by
  constructor
  · intro h
    refine ⟨h.all, ?_⟩
    induction h with
    | self =>
      intro h
      obtain ⟨p, hp, hx, _⟩ := h.inv
      exact hroot _ hp hx
    | @kid q x hq hx ih =>
      intro hh
      obtain ⟨p, hp, hy, hor⟩ := hh.inv
      have hql : q < es.length := by have := hq.all.le T hn; omega
      have hx2 : x ∈ kidsE es allE q := by
        unfold kidsE at hx ⊢
        split at hx
        · simpa [allE] using hx
        · simp at hx
      have hpq : p = q := Classical.byContradiction fun hne => kidsE_apart T hp hql hne hy hx2
      subst hpq
      rcases hor with h | h
      · unfold kidsE noSumE at hx
        unfold isSumAt at h
        rw [h] at hx
        simp at hx
      · exact ih h
  · rintro ⟨h, hr⟩
    revert hr
    induction h with
    | self => exact fun _ => .self
    | @kid q x hq hx ih =>
      intro hr
      have hql : q < es.length := by have := hq.le T hn; omega
      have h1 : ¬ (isSumAt es q = true ∨ Reck es q) := fun h => hr (.kid hql hx h)
      refine .kid (ih (fun h => h1 (.inr h))) ?_
      unfold kidsE at hx ⊢
      have h2 : noSumE (expAt es q) = true := by
        unfold noSumE
        cases h3 : isSum (expAt es q).k with
        | false => rfl
        | true => exact absurd (.inl h3) h1
      rw [h2, if_pos rfl]
      simpa [allE] using hx
theorem Good.root {es ls : List It} (h : Good es ls) {l : It} (hl : l ∈ ls) {x : Int} (hx : x ∈ l.xs) : x.toNat < es.length ∧ ∀ p, p < es.length → x.toNat ∉ kidsE es allE p := by
  have hr := h.arg l hl x hx
  refine ⟨by omega, fun p hp hk => ?_⟩
  have ho := h.once x.toNat (by omega)
  rw [List.count_append, show ((x.toNat : Nat) : Int) = x from by omega] at ho
  have h1 : 0 < (refs ls).count x := List.count_pos_iff.2 (List.mem_flatMap.2 ⟨l, hl, hx⟩)
  have h2 : 0 < (refs es).count x := by
    refine List.count_pos_iff.2 (List.mem_flatMap.2 ⟨es[p], List.getElem_mem hp, ?_⟩)
    obtain ⟨y, hy, e⟩ := mem_kidsE hk
    rw [expAt_lt hp] at hy
    have := h.kid p hp y hy
    obtain rfl : y = x := by omega
    exact hy
  omega

/-! ### Atoms and equations -/
open Classical in
/-- The places of an atom's argument that bind. -/
noncomputable def atomPl (es : List It) (a : Nat) : List Nat := (List.range es.length).filter fun e => decide (In es allE a e ∧ (expAt es e).k = 1 ∧ ¬ Reck es e)
noncomputable def atomVars (es : List It) (a : Nat) : List ByteArray := (atomPl es a).map (txtAt es)
theorem mem_atomVars {es : List It} (T : TreeOk es) {a : Nat} (ha : a < es.length) (hroot : ∀ p, p < es.length → a ∉ kidsE es allE p) (s : ByteArray) : s ∈ atomVars es a ↔ ∃ m ∈ parts es noSumE a, (expAt es m).k = 1 ∧ txtAt es m = s := by
  classical
  unfold atomVars atomPl
  rw [List.mem_map]
  constructor
  · rintro ⟨m, hm, e⟩
    rw [List.mem_filter, decide_eq_true_eq] at hm
    exact ⟨m, (mem_parts T ha).2 ((reck_iff T ha hroot m).2 ⟨hm.2.1, hm.2.2.2⟩), hm.2.2.1, e⟩
  · rintro ⟨m, hm, hk, e⟩
    have h := (reck_iff T ha hroot m).1 ((mem_parts T ha).1 hm)
    refine ⟨m, ?_, e⟩
    rw [List.mem_filter, decide_eq_true_eq]
    exact ⟨by have := h.1.le T ha; simp; omega, h.1, hk, h.2⟩
noncomputable def atomLit (es : List It) (out : List ByteArray) (l : It) : List ByteArray := if l.k = 1 then l.xs.foldl (fun o x => addAll o (atomVars es x.toNat)) out else out
noncomputable def atomsB (es bd : List It) : List ByteArray := bd.foldl (atomLit es) []
/-- Side a binds the names of the other one: it has a value (K is false), or it is an ExVar that is in out (K is true). -/
def Can (K : Bool) (es : List It) (out : List ByteArray) (a : Nat) : Prop := match K with
  | false => (∀ m, In es allE a m → (expAt es m).k ≠ 2) ∧ ∀ v ∈ varsIn es a, v ∈ out
  | true => (expAt es a).k = 1 ∧ txtAt es a ∈ out
/-- Side a binds, and side b is a pattern. -/
def SideOk (K : Bool) (es : List It) (out : List ByteArray) (a b : Nat) : Prop := Can K es out a ∧ ∀ m, In es allE b m → isSumAt es m = false
theorem sideOk_false {es : List It} {out : List ByteArray} {a b : Nat} : SideOk false es out a b ↔ (∀ m, In es allE a m → (expAt es m).k ≠ 2) ∧ (∀ v ∈ varsIn es a, v ∈ out) ∧ ∀ m, In es allE b m → isSumAt es m = false :=
  ⟨fun h => ⟨h.1.1, h.1.2, h.2⟩, fun h => ⟨⟨h.1, h.2.1⟩, h.2.2⟩⟩
open Classical in
noncomputable def eqSide (K : Bool) (es : List It) (out : List ByteArray) (a b : Nat) : List ByteArray := if SideOk K es out a b then addAll out (varsIn es b) else out
def argAt (l : It) (k : Nat) : Nat := (l.xs.getD k 0).toNat
def isEq (l : It) : Prop := l.k = 3 ∧ l.s = ⟨#[61]⟩
open Classical in
noncomputable def eqLit (K : Bool) (es : List It) (out : List ByteArray) (l : It) : List ByteArray := if isEq l then eqSide K es (eqSide K es out (argAt l 0) (argAt l 1)) (argAt l 1) (argAt l 0) else out
noncomputable def passB (K : Bool) (es bd : List It) (out : List ByteArray) : List ByteArray := bd.foldl (eqLit K es) out
theorem grow_eqSide (es : List It) (a b : Nat) : Grow (fun o => eqSide K es o a b) := fun out => by
  show ∃ r, eqSide K es out a b = out ++ r
  unfold eqSide
  split
  · exact grow_addAll _ out
  · exact ⟨[], by simp⟩
theorem grow_eqLit (es : List It) (l : It) : Grow (fun o => eqLit K es o l) := fun out => by
  show ∃ r, eqLit K es out l = out ++ r
  unfold eqLit
  split
  · obtain ⟨r, hr⟩ := grow_eqSide (K := K) es (argAt l 0) (argAt l 1) out
    obtain ⟨r', hr'⟩ := grow_eqSide (K := K) es (argAt l 1) (argAt l 0) (eqSide K es out (argAt l 0) (argAt l 1))
    refine ⟨r ++ r', ?_⟩
    have h1 : eqSide K es out (argAt l 0) (argAt l 1) = out ++ r := hr
    have h2 : eqSide K es (eqSide K es out (argAt l 0) (argAt l 1)) (argAt l 1) (argAt l 0) = eqSide K es out (argAt l 0) (argAt l 1) ++ r' := hr'
    rw [h2, h1, List.append_assoc]
  · exact ⟨[], by simp⟩
theorem grow_pass (es bd : List It) : Grow (passB K es bd) := Grow.foldl (fun l => grow_eqLit es l) bd
theorem pass_fix {es bd : List It} {out : List ByteArray} (h : (passB K es bd out).length = out.length) : passB K es bd out = out := by
  obtain ⟨r, hr⟩ := grow_pass (K := K) es bd out
  rw [hr, List.length_append] at h
  have : r = [] := List.length_eq_zero_iff.1 (by omega)
  rw [hr, this]; simp
noncomputable def passN (K : Bool) (es bd : List It) : Nat → List ByteArray
  | 0 => atomsB es bd
  | k + 1 => passB K es bd (passN K es bd k)
/-- Nothing is added any more. -/
def Fix (K : Bool) (es bd : List It) (r : List ByteArray) : Prop := ∃ k, r = passN K es bd k ∧ passB K es bd r = r
theorem passN_stay {es bd : List It} {k : Nat} (h : passB K es bd (passN K es bd k) = passN K es bd k) : ∀ j, passN K es bd (k + j) = passN K es bd k
  | 0 => rfl
  | j + 1 => by
    show passB K es bd (passN K es bd (k + j)) = _
    rw [passN_stay h j, h]
theorem Fix.one {es bd : List It} {r r' : List ByteArray} (h : Fix K es bd r) (h' : Fix K es bd r') : r = r' := by
  obtain ⟨k, rfl, hk⟩ := h
  obtain ⟨k', rfl, hk'⟩ := h'
  rcases Nat.le_total k k' with hle | hle
  · obtain ⟨j, rfl⟩ := Nat.exists_eq_add_of_le hle
    exact (passN_stay hk j).symm
  · obtain ⟨j, rfl⟩ := Nat.exists_eq_add_of_le hle
    exact passN_stay hk' j

/-- The literals name places of the rule. -/
def ArgsIn (es bd : List It) : Prop := ∀ l ∈ bd, (∀ x ∈ l.xs, x.toNat < es.length) ∧ (l.k = 3 → argAt l 0 < es.length ∧ argAt l 1 < es.length)
theorem tame_eqSide {es : List It} (T : TreeOk es) {a b : Nat} (hb : b < es.length) : Tame (allNames es) (fun o => eqSide K es o a b) := fun out h1 h2 => by
  show (eqSide K es out a b).Nodup ∧ ∀ x ∈ eqSide K es out a b, x ∈ allNames es
  unfold eqSide
  split
  · exact tame_addAll (varsIn_sub T hb) out h1 h2
  · exact ⟨h1, h2⟩
theorem tame_eqLit {es : List It} (T : TreeOk es) {l : It} (h : l.k = 3 → argAt l 0 < es.length ∧ argAt l 1 < es.length) : Tame (allNames es) (fun o => eqLit K es o l) := fun out h1 h2 => by
  show (eqLit K es out l).Nodup ∧ ∀ x ∈ eqLit K es out l, x ∈ allNames es
  unfold eqLit
  split
  · rename_i hq
    have hab := h hq.1
    obtain ⟨h3, h4⟩ := tame_eqSide (K := K) T (a := argAt l 0) hab.2 out h1 h2
    exact tame_eqSide T (a := argAt l 1) hab.1 _ h3 h4
  · exact ⟨h1, h2⟩
theorem atomVars_sub {es : List It} {a : Nat} : ∀ x ∈ atomVars es a, x ∈ allNames es := fun x hx => by
  classical
  unfold atomVars atomPl at hx
  obtain ⟨m, hm, e⟩ := List.mem_map.1 hx
  rw [List.mem_filter, decide_eq_true_eq] at hm
  exact (mem_allNames es x).2 ⟨m, by simpa using hm.1, hm.2.2.1, e⟩
theorem tame_atomLit (es : List It) (l : It) : Tame (allNames es) (fun o => atomLit es o l) := fun out h1 h2 => by
  show (atomLit es out l).Nodup ∧ ∀ x ∈ atomLit es out l, x ∈ allNames es
  unfold atomLit
  split
  · exact Tame.foldl l.xs (fun x _ => tame_addAll atomVars_sub) out h1 h2
  · exact ⟨h1, h2⟩
theorem tame_atoms (es bd : List It) : (atomsB es bd).Nodup ∧ ∀ x ∈ atomsB es bd, x ∈ allNames es := Tame.foldl bd (fun l _ => tame_atomLit es l) [] List.nodup_nil (fun x h => by simp at h)
theorem tame_pass {es bd : List It} (T : TreeOk es) (hA : ArgsIn es bd) : Tame (allNames es) (passB K es bd) := Tame.foldl bd (fun l hl => tame_eqLit T (hA l hl).2)
theorem tame_passN {es bd : List It} (T : TreeOk es) (hA : ArgsIn es bd) : ∀ k, (passN K es bd k).Nodup ∧ ∀ x ∈ passN K es bd k, x ∈ allNames es
  | 0 => tame_atoms es bd
  | k + 1 => tame_pass T hA _ (tame_passN T hA k).1 (tame_passN T hA k).2

end Go.Proofs.YtilijbpbnlnhlaaGreat.Pr
