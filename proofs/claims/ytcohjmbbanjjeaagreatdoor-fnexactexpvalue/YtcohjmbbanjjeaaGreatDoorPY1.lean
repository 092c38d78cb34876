/-
  THE VALUE OF AN EXP, as a function: what a name has, what a part gives, place by place.
-/
import Derived.Test.YtcohjmbbanjjeaaGreatDoorPV3
import Derived.Test.YtcohjmbbanjjeaaGreatDoorPVA
import Derived.Test.YtcohjmbbanjjeaaGreatDoorQF
namespace Go.Proofs.YtcohjmbbanjjeaaGreatDoor.Pr
open Go Go.RowKit Go.Maps Go.WideMaps

abbrev bts (s : ByteArray) : List UInt8 := Go.Proofs.YtcohjmbbanjjeaaGreatDoor.lst s
/-- The value of a name: of two alike names the first one. -/
def lookV : List ByteArray → List ByteArray → ByteArray → Option ByteArray
  | n :: ns, v :: vs, s => if n = s then some v else lookV ns vs s
  | _, _, _ => none
theorem lookV_some : ∀ {names vals : List ByteArray} {s : ByteArray} {k : Nat}, names[k]? = some s → (∀ j, j < k → names[j]? ≠ some s) → lookV names vals s = vals[k]?
  | [], vals, s, k, h, _ => by simp at h
  | n :: ns, [], s, k, h, _ => by simp [lookV]
  | n :: ns, v :: vs, s, 0, h, _ => by simp at h; simp [lookV, h]
  | n :: ns, v :: vs, s, k + 1, h, h2 => by
    have hn : ¬ n = s := fun e => h2 0 (by omega) (by simp [e])
    rw [lookV, if_neg hn, lookV_some (k := k) (by simpa using h) (fun j hj => by have := h2 (j + 1) (by omega); simpa using this)]
    simp
theorem lookV_none : ∀ {names vals : List ByteArray} {s : ByteArray}, (∀ k, k < vals.length → names[k]? ≠ some s) → lookV names vals s = none
  | [], vals, s, _ => by simp [lookV]
  | n :: ns, [], s, _ => by simp [lookV]
  | n :: ns, v :: vs, s, h => by
    have hn : ¬ n = s := fun e => h 0 (by simp) (by simp [e])
    rw [lookV, if_neg hn]
    exact lookV_none fun k hk => by have := h (k + 1) (by simp; omega); simpa using this
theorem lookV_mem : ∀ {names vals : List ByteArray} {s v : ByteArray}, lookV names vals s = some v → v ∈ vals
  | [], vals, s, v, h => by simp [lookV] at h
  | n :: ns, [], s, v, h => by simp [lookV] at h
  | n :: ns, x :: vs, s, v, h => by
    rw [lookV] at h
    split at h
    · simp at h; simp [h]
    · exact List.mem_cons_of_mem _ (lookV_mem h)

def sumI (k : Int) (x y : Int) : Int := if k = 6 then x - y else if k = 7 then x * y else x + y
/-- A sum, difference or product of what two texts tell. -/
def sumV (k : Int) (a b : ByteArray) : ByteArray × Int :=
  match numOf (bts a), numOf (bts b) with
  | some x, some y => if inNum (sumI k x y) then (⟨(Lib.itoa (sumI k x y)).toArray⟩, 0) else (⟨#[]⟩, 2)
  | _, _ => (⟨#[]⟩, 1)
def nameV (names vals : List ByteArray) (s : ByteArray) : ByteArray × Int := match lookV names vals s with | none => (⟨#[]⟩, 1) | some v => (v, 0)
open Classical in
noncomputable def conV (s : ByteArray) (kids : List ByteArray) : ByteArray × Int := if makeOk (bts s) (kids.map bts) then (⟨(conText (bts s) (kids.map bts)).toArray⟩, 0) else (⟨#[]⟩, 2)
/-- What a part gives, of the values of its kids: a text and 0; nothing and 1 or 2. -/
noncomputable def partV (names vals : List ByteArray) (e : It) (kids : List ByteArray) : ByteArray × Int :=
  if e.k = 1 then nameV names vals e.s else if e.k = 2 then (⟨#[]⟩, 1) else if e.k = 3 then (e.s, 0) else if e.k = 4 then conV e.s kids else sumV e.k (kids.getD 0 ⟨#[]⟩) (kids.getD 1 ⟨#[]⟩)

def upd (out : Nat → ByteArray) (m : Nat) (v : ByteArray) : Nat → ByteArray := fun i => if i = m then v else out i
def kidsV (out : Nat → ByteArray) (e : It) : List ByteArray := e.xs.map fun x => out x.toNat
noncomputable def stepV (es : List It) (names vals : List ByteArray) (r : Except Int (Nat → ByteArray)) (m : Nat) : Except Int (Nat → ByteArray) :=
  match r with
  | .error c => .error c
  | .ok out => if (partV names vals (expAt es m) (kidsV out (expAt es m))).2 = 0 then .ok (upd out m (partV names vals (expAt es m) (kidsV out (expAt es m))).1) else .error (partV names vals (expAt es m) (kidsV out (expAt es m))).2
noncomputable def runV (es : List It) (names vals : List ByteArray) (P : List Nat) : Except Int (Nat → ByteArray) := P.foldl (stepV es names vals) (.ok fun _ => ⟨#[]⟩)
theorem runV_snoc (es : List It) (names vals : List ByteArray) (P : List Nat) (m : Nat) : runV es names vals (P ++ [m]) = stepV es names vals (runV es names vals P) m := by simp [runV]
theorem foldl_error (es : List It) (names vals : List ByteArray) (c : Int) : ∀ P : List Nat, P.foldl (stepV es names vals) (.error c) = .error c
  | [] => rfl
  | m :: P => by rw [List.foldl_cons]; exact foldl_error es names vals c P
theorem runV_stop {es : List It} {names vals : List ByteArray} {P Q : List Nat} {c : Int} (h : runV es names vals P = .error c) : runV es names vals (P ++ Q) = .error c := by
  unfold runV at h ⊢
  rw [List.foldl_append, h, foldl_error]

theorem partV_size {names vals : List ByteArray} {e : It} {kids : List ByteArray} (hv : ∀ v ∈ vals, v.size ≤ 1048576) (he : e.s.size ≤ 1048576) (h : (partV names vals e kids).2 = 0) : (partV names vals e kids).1.size ≤ 1048576 := by
  unfold partV at h ⊢
  by_cases h1 : e.k = 1
  · rw [if_pos h1] at h ⊢
    unfold nameV at h ⊢
    cases hl : lookV names vals e.s with
    | none => rw [hl] at h; cases h
    | some v => exact hv v (lookV_mem hl)
  rw [if_neg h1] at h ⊢
  by_cases h2 : e.k = 2
  · rw [if_pos h2] at h; cases h
  rw [if_neg h2] at h ⊢
  by_cases h3 : e.k = 3
  · rw [if_pos h3]; exact he
  rw [if_neg h3] at h ⊢
  by_cases h4 : e.k = 4
  · rw [if_pos h4] at h ⊢
    unfold conV at h ⊢
    by_cases hm : makeOk (bts e.s) (kids.map bts)
    · rw [if_pos hm]
      have := hm.2.2
      show (conText (bts e.s) (kids.map bts)).toArray.size ≤ _
      rw [List.size_toArray]
      omega
    · rw [if_neg hm] at h; cases h
  rw [if_neg h4] at h ⊢
  unfold sumV at h ⊢
  cases ha : numOf (bts (kids.getD 0 ⟨#[]⟩)) with
  | none => rw [ha] at h; cases h
  | some x =>
    cases hb : numOf (bts (kids.getD 1 ⟨#[]⟩)) with
    | none => rw [ha, hb] at h; cases h
    | some y =>
      rw [ha, hb] at h
      simp only at h ⊢
      by_cases hi : inNum (sumI e.k x y) = true
      · rw [if_pos hi]
        have h0 : -1000000 ≤ sumI e.k x y ∧ sumI e.k x y ≤ 1000000 := by simpa [inNum] using hi
        have := (rdNum_itoa (numOf_iff.2 ⟨h0.1, h0.2, rfl⟩)).2.1
        show (Lib.itoa (sumI e.k x y)).toArray.size ≤ _
        rw [List.size_toArray]
        omega
      · rw [if_neg hi] at h; cases h

def Small (out : Nat → ByteArray) : Prop := ∀ i, (out i).size ≤ 1048576
theorem small_start : Small fun _ => ⟨#[]⟩ := fun _ => by show (0 : Nat) ≤ _; omega
theorem Small.upd {out : Nat → ByteArray} (h : Small out) (m : Nat) {v : ByteArray} (hv : v.size ≤ 1048576) : Small (Pr.upd out m v) := fun i => by
  unfold Pr.upd
  split
  · exact hv
  · exact h i

theorem joinTail_len : ∀ xs : List (List UInt8), (∀ x ∈ xs, x.length ≤ 200) → (Lib.joinTail [44] xs).length ≤ 201 * xs.length
  | [], _ => by simp [Lib.joinTail]
  | x :: r, h => by
    have h1 := h x (by simp)
    have h2 := joinTail_len r fun y hy => h y (by simp [hy])
    simp [Lib.joinTail] at h2 ⊢
    omega
theorem join_len200 (xs : List (List UInt8)) (h : ∀ x ∈ xs, x.length ≤ 200) : (Lib.join xs [44]).length ≤ 201 * xs.length := by
  cases xs with
  | nil => simp [Lib.join, List.intercalate]
  | cons x r =>
    have h1 := h x (by simp)
    have h2 := joinTail_len r fun y hy => h y (by simp [hy])
    rw [Lib.join_cons, List.length_append, List.length_cons]
    omega

/-- The texts of the first N places. -/
def outCells (out : Nat → ByteArray) (N : Nat) : List Value := (List.range N).map fun i => .string (out i)
theorem outCells_len (out : Nat → ByteArray) (N : Nat) : (outCells out N).length = N := by simp [outCells]
theorem outCells_set (out : Nat → ByteArray) (N m : Nat) (v : ByteArray) : (outCells out N).set m (.string v) = outCells (upd out m v) N := by
  apply List.ext_getElem
  · simp [outCells]
  · intro i h1 h2
    rw [List.getElem_set]
    by_cases h : m = i
    · rw [if_pos h]; simp [outCells, upd, h]
    · rw [if_neg h]
      have : ¬ i = m := fun e => h e.symm
      simp [outCells, upd, this]

/-- What ExpValue answers of a rule that has the form, and a place of its exps. -/
noncomputable def finV (es : List It) (n : Nat) (names vals : List ByteArray) : ByteArray × Int :=
  match runV es names vals (parts es allE n) with
  | .error c => (⟨#[]⟩, c)
  | .ok out => if iKind (bts (out n)) = 0 then (⟨#[]⟩, 2) else (out n, 0)
theorem finV_error {es : List It} {n : Nat} {names vals : List ByteArray} {c : Int} (hr : runV es names vals (parts es allE n) = .error c) : finV es n names vals = (⟨#[]⟩, c) := by unfold finV; rw [hr]
theorem finV_over {es : List It} {n : Nat} {names vals : List ByteArray} {out : Nat → ByteArray} (hr : runV es names vals (parts es allE n) = .ok out) (hk : iKind (bts (out n)) = 0) : finV es n names vals = (⟨#[]⟩, 2) := by
  unfold finV
  rw [hr]
  exact if_pos hk
theorem finV_ok {es : List It} {n : Nat} {names vals : List ByteArray} {out : Nat → ByteArray} (hr : runV es names vals (parts es allE n) = .ok out) (hk : iKind (bts (out n)) ≠ 0) : finV es n names vals = (out n, 0) := by
  unfold finV
  rw [hr]
  exact if_neg hk
/-- A place that is reckoned, and one that ends it. -/
theorem runV_ok {es : List It} {names vals : List ByteArray} {P : List Nat} {m : Nat} {out : Nat → ByteArray} {v : ByteArray} (h : runV es names vals P = .ok out) (hp : partV names vals (expAt es m) (kidsV out (expAt es m)) = (v, 0)) : runV es names vals (P ++ [m]) = .ok (upd out m v) := by
  rw [runV_snoc, h]
  simp only [stepV]
  rw [hp]
  exact if_pos rfl
theorem runV_bad {es : List It} {names vals : List ByteArray} {P : List Nat} {m : Nat} {out : Nat → ByteArray} {c : Int} (h : runV es names vals P = .ok out) (hp : (partV names vals (expAt es m) (kidsV out (expAt es m))).2 = c) (hc : c ≠ 0) : runV es names vals (P ++ [m]) = .error c := by
  rw [runV_snoc, h]
  simp only [stepV]
  rw [hp]
  exact if_neg hc

open Classical in
/-- What ExpValue answers. -/
noncomputable def valAns (u : Ru) (n : Int) (names vals : List ByteArray) : ByteArray × Int := if RuleOk u ∧ 0 ≤ n ∧ n < (u.es.length : Int) then finV u.es n.toNat names vals else (⟨#[]⟩, 1)
theorem valAns_no {u : Ru} {n : Int} {names vals : List ByteArray} (h : ¬ (RuleOk u ∧ 0 ≤ n ∧ n < (u.es.length : Int))) : valAns u n names vals = (⟨#[]⟩, 1) := if_neg h
theorem valAns_ok {u : Ru} {n : Nat} {names vals : List ByteArray} (h : RuleOk u) (hn : n < u.es.length) : valAns u (n : Int) names vals = finV u.es n names vals := by
  unfold valAns
  rw [if_pos ⟨h, by omega, by omega⟩]
  rfl

/-- What both answer, and what they leave. -/
def ValPost (A : ByteArray × Int) (w : World) (e : Ending) (w' : World) : Prop := e = .returned (.tuple #[.string A.1, .int .i64 A.2]) ∧ Below w.heap.size w w'

end Go.Proofs.YtcohjmbbanjjeaaGreatDoor.Pr
