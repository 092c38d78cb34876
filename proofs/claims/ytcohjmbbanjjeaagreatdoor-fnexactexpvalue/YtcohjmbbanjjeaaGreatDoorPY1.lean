/-
  THE VALUE OF AN EXP, as a function: what a name has, what a part gives, place by place. THE WALKS over slices.Index at texts, impl.nameValue, conValue, sumValue, partValue.
-/
import Derived.Test.YtcohjmbbanjjeaaGreatDoorPV3
import Derived.Test.YtcohjmbbanjjeaaGreatDoorPVA
import Derived.Test.YtcohjmbbanjjeaaGreatDoorQF
namespace Go.Proofs.YtcohjmbbanjjeaaGreatDoor.Pr
open Go Go.RowKit Go.Maps Go.WideMaps

abbrev bts (s : ByteArray) : List UInt8 := Go.Proofs.YtcohjmbbanjjeaaGreatDoor.lst s
/-- The value of a name: of two alike names the first one. -/
def lookV : List ByteArray → List ByteArray → ByteArray → Option ByteArray
  | n :: ns, v :: vs, s => if n = s then some v else lookV ns vs s
  | _, _, _ => none
theorem lookV_some : ∀ {names vals : List ByteArray} {s : ByteArray} {k : Nat}, names[k]? = some s → (∀ j, j < k → names[j]? ≠ some s) → lookV names vals s = vals[k]?
  | [], vals, s, k, h, _ => by simp at h
  | n :: ns, [], s, k, h, _ => by simp [lookV]
  | n :: ns, v :: vs, s, 0, h, _ => by simp at h; simp [lookV, h]
  | n :: ns, v :: vs, s, k + 1, h, h2 => by
    have hn : ¬ n = s := fun e => h2 0 (by omega) (by simp [e])
    rw [lookV, if_neg hn, lookV_some (k := k) (by simpa using h) (fun j hj => by have := h2 (j + 1) (by omega); simpa using this)]
    simp
theorem lookV_none : ∀ {names vals : List ByteArray} {s : ByteArray}, (∀ k, k < vals.length → names[k]? ≠ some s) → lookV names vals s = none
  | [], vals, s, _ => by simp [lookV]
  | n :: ns, [], s, _ => by simp [lookV]
  | n :: ns, v :: vs, s, h => by
    have hn : ¬ n = s := fun e => h 0 (by simp) (by simp [e])
    rw [lookV, if_neg hn]
    exact lookV_none fun k hk => by have := h (k + 1) (by simp; omega); simpa using this
theorem lookV_mem : ∀ {names vals : List ByteArray} {s v : ByteArray}, lookV names vals s = some v → v ∈ vals
  | [], vals, s, v, h => by simp [lookV] at h
  | n :: ns, [], s, v, h => by simp [lookV] at h
  | n :: ns, x :: vs, s, v, h => by
    rw [lookV] at h
    split at h
    · simp at h; simp [h]
    · exact List.mem_cons_of_mem _ (lookV_mem h)

def sumI (k : Int) (x y : Int) : Int := if k = 6 then x - y else if k = 7 then x * y else x + y
/-- A sum, difference or product of what two texts tell. -/
def sumV (k : Int) (a b : ByteArray) : ByteArray × Int :=
  match numOf (bts a), numOf (bts b) with
  | some x, some y => if inNum (sumI k x y) then (⟨(Lib.itoa (sumI k x y)).toArray⟩, 0) else (⟨#[]⟩, 2)
  | _, _ => (⟨#[]⟩, 1)
def nameV (names vals : List ByteArray) (s : ByteArray) : ByteArray × Int := match lookV names vals s with | none => (⟨#[]⟩, 1) | some v => (v, 0)
open Classical in
noncomputable def conV (s : ByteArray) (kids : List ByteArray) : ByteArray × Int := if makeOk (bts s) (kids.map bts) then (⟨(conText (bts s) (kids.map bts)).toArray⟩, 0) else (⟨#[]⟩, 2)
/-- What a part gives, of the values of its kids: a text and 0; nothing and 1 or 2. -/
noncomputable def partV (names vals : List ByteArray) (e : It) (kids : List ByteArray) : ByteArray × Int :=
  if e.k = 1 then nameV names vals e.s else if e.k = 2 then (⟨#[]⟩, 1) else if e.k = 3 then (e.s, 0) else if e.k = 4 then conV e.s kids else sumV e.k (kids.getD 0 ⟨#[]⟩) (kids.getD 1 ⟨#[]⟩)

def upd (out : Nat → ByteArray) (m : Nat) (v : ByteArray) : Nat → ByteArray := fun i => if i = m then v else out i
def kidsV (out : Nat → ByteArray) (e : It) : List ByteArray := e.xs.map fun x => out x.toNat
noncomputable def stepV (es : List It) (names vals : List ByteArray) (r : Except Int (Nat → ByteArray)) (m : Nat) : Except Int (Nat → ByteArray) :=
  match r with
  | .error c => .error c
  | .ok out => if (partV names vals (expAt es m) (kidsV out (expAt es m))).2 = 0 then .ok (upd out m (partV names vals (expAt es m) (kidsV out (expAt es m))).1) else .error (partV names vals (expAt es m) (kidsV out (expAt es m))).2
noncomputable def runV (es : List It) (names vals : List ByteArray) (P : List Nat) : Except Int (Nat → ByteArray) := P.foldl (stepV es names vals) (.ok fun _ => ⟨#[]⟩)
theorem runV_snoc (es : List It) (names vals : List ByteArray) (P : List Nat) (m : Nat) : runV es names vals (P ++ [m]) = stepV es names vals (runV es names vals P) m := by simp [runV]
theorem foldl_error (es : List It) (names vals : List ByteArray) (c : Int) : ∀ P : List Nat, P.foldl (stepV es names vals) (.error c) = .error c
  | [] => rfl
  | m :: P => by rw [List.foldl_cons]; exact foldl_error es names vals c P
theorem runV_stop {es : List It} {names vals : List ByteArray} {P Q : List Nat} {c : Int} (h : runV es names vals P = .error c) : runV es names vals (P ++ Q) = .error c := by
  unfold runV at h ⊢
  rw [List.foldl_append, h, foldl_error]

theorem partV_size {names vals : List ByteArray} {e : It} {kids : List ByteArray} (hv : ∀ v ∈ vals, v.size ≤ 1048576) (he : e.s.size ≤ 1048576) (h : (partV names vals e kids).2 = 0) : (partV names vals e kids).1.size ≤ 1048576 := by
  unfold partV at h ⊢
  by_cases h1 : e.k = 1
  · rw [if_pos h1] at h ⊢
    unfold nameV at h ⊢
    cases hl : lookV names vals e.s with
    | none => rw [hl] at h; cases h
    | some v => exact hv v (lookV_mem hl)
  rw [if_neg h1] at h ⊢
  by_cases h2 : e.k = 2
  · rw [if_pos h2] at h; cases h
  rw [if_neg h2] at h ⊢
  by_cases h3 : e.k = 3
  · rw [if_pos h3]; exact he
  rw [if_neg h3] at h ⊢
  by_cases h4 : e.k = 4
  · rw [if_pos h4] at h ⊢
    unfold conV at h ⊢
    by_cases hm : makeOk (bts e.s) (kids.map bts)
    · rw [if_pos hm]
      have := hm.2.2
      show (conText (bts e.s) (kids.map bts)).toArray.size ≤ _
      rw [List.size_toArray]
      omega
    · rw [if_neg hm] at h; cases h
  rw [if_neg h4] at h ⊢
  unfold sumV at h ⊢
  cases ha : numOf (bts (kids.getD 0 ⟨#[]⟩)) with
  | none => rw [ha] at h; cases h
  | some x =>
    cases hb : numOf (bts (kids.getD 1 ⟨#[]⟩)) with
    | none => rw [ha, hb] at h; cases h
    | some y =>
      rw [ha, hb] at h
      simp only at h ⊢
      by_cases hi : inNum (sumI e.k x y) = true
      · rw [if_pos hi]
        have h0 : -1000000 ≤ sumI e.k x y ∧ sumI e.k x y ≤ 1000000 := by simpa [inNum] using hi
        have := (rdNum_itoa (numOf_iff.2 ⟨h0.1, h0.2, rfl⟩)).2.1
        show (Lib.itoa (sumI e.k x y)).toArray.size ≤ _
        rw [List.size_toArray]
        omega
      · rw [if_neg hi] at h; cases h

def Small (out : Nat → ByteArray) : Prop := ∀ i, (out i).size ≤ 1048576
theorem small_start : Small fun _ => ⟨#[]⟩ := fun _ => by show (0 : Nat) ≤ _; omega
theorem Small.upd {out : Nat → ByteArray} (h : Small out) (m : Nat) {v : ByteArray} (hv : v.size ≤ 1048576) : Small (Pr.upd out m v) := fun i => by
  unfold Pr.upd
  split
  · exact hv
  · exact h i

theorem joinTail_len : ∀ xs : List (List UInt8), (∀ x ∈ xs, x.length ≤ 200) → (Lib.joinTail [44] xs).length ≤ 201 * xs.length
  | [], _ => by simp [Lib.joinTail]
  | x :: r, h => by
    have h1 := h x (by simp)
    have h2 := joinTail_len r fun y hy => h y (by simp [hy])
    simp [Lib.joinTail] at h2 ⊢
    omega
theorem join_len200 (xs : List (List UInt8)) (h : ∀ x ∈ xs, x.length ≤ 200) : (Lib.join xs [44]).length ≤ 201 * xs.length := by
  cases xs with
  | nil => simp [Lib.join, List.intercalate]
  | cons x r =>
    have h1 := h x (by simp)
    have h2 := joinTail_len r fun y hy => h y (by simp [hy])
    rw [Lib.join_cons, List.length_append, List.length_cons]
    omega

/-- The texts of the first N places. -/
def outCells (out : Nat → ByteArray) (N : Nat) : List Value := (List.range N).map fun i => .string (out i)
theorem outCells_len (out : Nat → ByteArray) (N : Nat) : (outCells out N).length = N := by simp [outCells]
theorem outCells_set (out : Nat → ByteArray) (N m : Nat) (v : ByteArray) : (outCells out N).set m (.string v) = outCells (upd out m v) N := by
  apply List.ext_getElem
  · simp [outCells]
  · intro i h1 h2
    rw [List.getElem_set]
    by_cases h : m = i
    · rw [if_pos h]; simp [outCells, upd, h]
    · rw [if_neg h]
      have : ¬ i = m := fun e => h e.symm
      simp [outCells, upd, this]

/-- What ExpValue answers of a rule that has the form, and a place of its exps. -/
noncomputable def finV (es : List It) (n : Nat) (names vals : List ByteArray) : ByteArray × Int :=
  match runV es names vals (parts es allE n) with
  | .error c => (⟨#[]⟩, c)
  | .ok out => if iKind (bts (out n)) = 0 then (⟨#[]⟩, 2) else (out n, 0)
theorem finV_error {es : List It} {n : Nat} {names vals : List ByteArray} {c : Int} (hr : runV es names vals (parts es allE n) = .error c) : finV es n names vals = (⟨#[]⟩, c) := by unfold finV; rw [hr]
theorem finV_over {es : List It} {n : Nat} {names vals : List ByteArray} {out : Nat → ByteArray} (hr : runV es names vals (parts es allE n) = .ok out) (hk : iKind (bts (out n)) = 0) : finV es n names vals = (⟨#[]⟩, 2) := by
  unfold finV
  rw [hr]
  exact if_pos hk
theorem finV_ok {es : List It} {n : Nat} {names vals : List ByteArray} {out : Nat → ByteArray} (hr : runV es names vals (parts es allE n) = .ok out) (hk : iKind (bts (out n)) ≠ 0) : finV es n names vals = (out n, 0) := by
  unfold finV
  rw [hr]
  exact if_neg hk
/-- A place that is reckoned, and one that ends it. -/
theorem runV_ok {es : List It} {names vals : List ByteArray} {P : List Nat} {m : Nat} {out : Nat → ByteArray} {v : ByteArray} (h : runV es names vals P = .ok out) (hp : partV names vals (expAt es m) (kidsV out (expAt es m)) = (v, 0)) : runV es names vals (P ++ [m]) = .ok (upd out m v) := by
  rw [runV_snoc, h]
  simp only [stepV]
  rw [hp]
  exact if_pos rfl
theorem runV_bad {es : List It} {names vals : List ByteArray} {P : List Nat} {m : Nat} {out : Nat → ByteArray} {c : Int} (h : runV es names vals P = .ok out) (hp : (partV names vals (expAt es m) (kidsV out (expAt es m))).2 = c) (hc : c ≠ 0) : runV es names vals (P ++ [m]) = .error c := by
  rw [runV_snoc, h]
  simp only [stepV]
  rw [hp]
  exact if_neg hc

open Classical in
/-- What ExpValue answers. -/
noncomputable def valAns (u : Ru) (n : Int) (names vals : List ByteArray) : ByteArray × Int := if RuleOk u ∧ 0 ≤ n ∧ n < (u.es.length : Int) then finV u.es n.toNat names vals else (⟨#[]⟩, 1)
theorem valAns_no {u : Ru} {n : Int} {names vals : List ByteArray} (h : ¬ (RuleOk u ∧ 0 ≤ n ∧ n < (u.es.length : Int))) : valAns u n names vals = (⟨#[]⟩, 1) := if_neg h
theorem valAns_ok {u : Ru} {n : Nat} {names vals : List ByteArray} (h : RuleOk u) (hn : n < u.es.length) : valAns u (n : Int) names vals = finV u.es n names vals := by
  unfold valAns
  rw [if_pos ⟨h, by omega, by omega⟩]
  rfl

/-- What both answer, and what they leave. -/
def ValPost (A : ByteArray × Int) (w : World) (e : Ending) (w' : World) : Prop := e = .returned (.tuple #[.string A.1, .int .i64 A.2]) ∧ Below w.heap.size w w'

end Go.Proofs.YtcohjmbbanjjeaaGreatDoor.Pr

namespace Go.Proofs.YtcohjmbbanjjeaaGreatDoor.Pr
open Go Go.RowKit Go.Maps Go.WideMaps

def IxRel (w : World) (xs : List ByteArray) (s : ByteArray) (v : Value) (wr : World) : Prop := ∃ k : Nat, Below w.heap.size w wr ∧ v = .int .i64 (k : Int) ∧ k ≤ xs.length ∧ ∀ j, j < k → xs[j]? ≠ some s

/-- The first place of a text; or none. -/
def IxAns (xs : List ByteArray) (s : ByteArray) (r : Int) : Prop := (r = -1 ∧ ∀ j : Nat, xs[j]? ≠ some s) ∨ ∃ k : Nat, r = (k : Int) ∧ xs[k]? = some s ∧ ∀ j : Nat, j < k → xs[j]? ≠ some s

set_option maxRecDepth 100000 in
set_option maxHeartbeats 2000000 in
theorem ix_any (xs : List ByteArray) (s : ByteArray) (a : Option Addr) (cap : Nat) (S : Nat → Prop) (w : World) (h : TxtsIn S w a xs) (hS : ∀ b, S b → b < w.heap.size) (hn : xs.length ≤ 1048576) :
    Calls Tryz.prog 71 #[.slice a xs.length cap, .string s] w fun e w' => (∃ r : Int, e = .returned (.int .i64 r) ∧ IxAns xs s r) ∧ Below w.heap.size w w' := by
  have HX := Lib.hid h
  have HS := Lib.hid hS
  clear h hS
  go_enter Tryz.func71, Tryz.ntmps71
  go_wp2
  go_loopw [8] (fun v wr => IxRel w xs s v wr) (fun v _ => (xs.length - (intOf v).toNat))
  case atStart => exact ⟨0, Below.refl _ _, rfl, Nat.zero_le _, fun j h => by omega⟩
  case round =>
    obtain ⟨k, hb, rfl, hk, hno⟩ := hrel
    by_cases hlt : k < xs.length
    · obtain ⟨b, off, rfl, hSb, hx⟩ := HX.out.kept (Same.below HS.out hb) k hlt
      have hgk : xs[k]? = some xs[k] := by simp [hlt]
      have HNO := Lib.hid hno
      have HGK := Lib.hid hgk
      have HB := Lib.hid hb
      clear hno hgk hb hSb
      by_cases he : xs[k] = s
      · have HA := Lib.hid (show IxAns xs s (k : Int) from .inr ⟨k, rfl, by rw [HGK.out, he], HNO.out⟩)
        have hee : (s.toList == xs[k].toList) = true := by rw [he]; simp
        clear he HGK
        generalize xs[k] = x at *
        go_wp2
        go_ret
        exact ⟨⟨_, rfl, HA.out⟩, HB.out⟩
      · have hee : (s.toList == xs[k].toList) = false := txt_ne (fun e => he e.symm)
        have HRR := Lib.hid (⟨k + 1, HB.out, by go_num, by omega, fun j hj => by
          by_cases hjk : j < k
          · exact HNO.out j hjk
          · obtain rfl : j = k := by omega
            rw [HGK.out]; simpa using he⟩ : IxRel w xs s (.int .i64 ((k : Int) + 1)) wr)
        clear he HNO HGK
        generalize xs[k] = x at *
        go_wp2
        go_roundw
        case rel => exact HRR.out
        case measure => simp [intOf]; omega
    · obtain rfl : k = xs.length := by omega
      have HA := Lib.hid (show IxAns xs s (-1) from .inl ⟨rfl, fun j h => by
        have hj : j < xs.length := (List.getElem?_eq_some_iff.1 h).1
        exact hno j hj h⟩)
      clear hno
      go_wp2
      go_ret
      exact ⟨⟨_, rfl, HA.out⟩, hb⟩

set_option maxRecDepth 100000 in
set_option maxHeartbeats 2000000 in
theorem nameValue_any (s : ByteArray) (names vals : List ByteArray) (a1 a2 : Option Addr) (c1 c2 : Nat) (S : Nat → Prop) (w : World) (h1 : TxtsIn S w a1 names) (h2 : TxtsIn S w a2 vals) (hS : ∀ b, S b → b < w.heap.size) (hn : names.length ≤ 1048576) (hv : vals.length ≤ 1048576) :
    Calls Tryz.prog 53 #[.string s, .slice a1 names.length c1, .slice a2 vals.length c2] w (ValPost (nameV names vals s) w) := by
  have HI := Lib.hid (ix_any names s a1 c1 S w h1 hS hn)
  have H2 := Lib.hid h2
  have HS := Lib.hid hS
  clear h1 h2 hS
  go_enter Tryz.func53, Tryz.ntmps53
  go_wp2_with fail
  refine HI.out.mono ?_
  rintro e w1 ⟨⟨r, rfl, hr⟩, hb1⟩
  clear HI
  rcases hr with ⟨rfl, hno⟩ | ⟨k, rfl, hk, hmin⟩
  · have HP := Lib.hid (show ValPost (nameV names vals s) w (.returned (.tuple #[.string ⟨#[]⟩, .int .i64 1])) w1 from ⟨by unfold nameV; rw [lookV_none fun k _ => hno k], hb1⟩)
    clear hno hb1 H2 HS
    go_wp2
    go_ret2
    exact HP.out
  · have hkn : k < names.length := (List.getElem?_eq_some_iff.1 hk).1
    by_cases hkv : k < vals.length
    · obtain ⟨b, off, rfl, hSb, hx⟩ := H2.out.kept (Same.below HS.out hb1) k hkv
      have HP := Lib.hid (show ValPost (nameV names vals s) w (.returned (.tuple #[.string vals[k], .int .i64 0])) w1 from ⟨by unfold nameV; rw [lookV_some hk hmin, List.getElem?_eq_getElem hkv], hb1⟩)
      have hd0 : decide ((k : Int) < 0) = false := decide_eq_false (by omega)
      have hd1 : decide ((vals.length : Int) ≤ (k : Int)) = false := decide_eq_false (by omega)
      clear hk hmin hb1 H2 HS hSb
      generalize vals[k] = x at *
      go_wp2
      go_ret2
      exact HP.out
    · have HP := Lib.hid (show ValPost (nameV names vals s) w (.returned (.tuple #[.string ⟨#[]⟩, .int .i64 1])) w1 from ⟨by unfold nameV; rw [lookV_some hk hmin, List.getElem?_eq_none (by omega)], hb1⟩)
      have hd0 : decide ((k : Int) < 0) = false := decide_eq_false (by omega)
      have hd1 : decide ((vals.length : Int) ≤ (k : Int)) = true := decide_eq_true (by omega)
      clear hk hmin hb1 H2 HS
      go_wp2
      go_ret2
      exact HP.out

theorem conV_ok {s m : ByteArray} {kids : List ByteArray} (h : makeOk (bts s) (kids.map bts)) (hm : bts m = conText (bts s) (kids.map bts)) : conV s kids = (m, 0) := by
  unfold conV
  rw [if_pos h, ← hm]
  show ((⟨m.data.toList.toArray⟩ : ByteArray), (0 : Int)) = _
  rw [Array.toArray_toList]
theorem conV_no {s : ByteArray} {kids : List ByteArray} (h : ¬ makeOk (bts s) (kids.map bts)) : conV s kids = (⟨#[]⟩, 2) := if_neg h

set_option maxRecDepth 100000 in
set_option maxHeartbeats 2000000 in
theorem conValue_any (s : ByteArray) (kids : List ByteArray) (B : Nat) (v : Value) (w : World) (hE : Env w.heap.size w) (hown : w.ownsRow B 9 1 v kids.length (txtCells kids)) (hs : s.size ≤ 1048576) (hk : kids.length ≤ 60) (hx : ∀ x ∈ kids, x.size ≤ 1048576) :
    Calls Tryz.prog 54 #[.string s, v] w (ValPost (conV s kids) w) := by
  have HM := Lib.hid (implTermMake s kids B v w hE hown hs (by omega) hx (fun h => by
    have h1 := join_len200 (kids.map bts) fun y hy => by
      obtain ⟨x, hx, rfl⟩ := List.mem_map.1 hy
      exact kind_len (h x hx)
    rw [List.length_map] at h1
    have h2 : (Lib.join (kids.map Go.Proofs.YtcohjmbbanjjeaaGreatDoor.lst) [44]).length ≤ 201 * kids.length := h1
    omega))
  obtain ⟨av, cv, rfl⟩ := owns_shape hown
  clear hE hown hx hs
  go_enter Tryz.func54, Tryz.ntmps54
  go_wp2_with fail
  refine HM.out.mono ?_
  rintro e w1 ⟨⟨m, ok, rfl, hok, hm⟩, hb1⟩
  cases ok with
  | true =>
    have HP := Lib.hid (show ValPost (conV s kids) w (.returned (.tuple #[.string m, .int .i64 0])) w1 from ⟨by rw [conV_ok (hok.1 rfl) hm], hb1⟩)
    clear hok hm hb1 HM
    go_wp2
    go_ret2
    exact HP.out
  | false =>
    have HP := Lib.hid (show ValPost (conV s kids) w (.returned (.tuple #[.string ⟨#[]⟩, .int .i64 2])) w1 from ⟨by rw [conV_no fun h => by have := hok.2 h; cases this], hb1⟩)
    clear hok hm hb1 HM
    go_wp2
    go_ret2
    exact HP.out

theorem sumV_no {k : Int} {a b : ByteArray} (h : numOf (bts a) = none ∨ numOf (bts b) = none) : sumV k a b = (⟨#[]⟩, 1) := by
  unfold sumV
  rcases h with h | h
  · rw [h]
  · rw [h]; cases numOf (bts a) <;> rfl
theorem sumV_ok {k x y : Int} {a b : ByteArray} (h1 : numOf (bts a) = some x) (h2 : numOf (bts b) = some y) (h : inNum (sumI k x y) = true) : sumV k a b = (⟨(Lib.itoa (sumI k x y)).toArray⟩, 0) := by
  unfold sumV
  rw [h1, h2]
  exact if_pos h
theorem sumV_over {k x y : Int} {a b : ByteArray} (h1 : numOf (bts a) = some x) (h2 : numOf (bts b) = some y) (h : inNum (sumI k x y) = false) : sumV k a b = (⟨#[]⟩, 2) := by
  unfold sumV
  rw [h1, h2]
  exact if_neg (by rw [h]; simp)
theorem sumI_bound {k x y : Int} {l r : List UInt8} (h1 : numOf l = some x) (h2 : numOf r = some y) : -1000000000000 ≤ sumI k x y ∧ sumI k x y ≤ 1000000000000 := by
  obtain ⟨a1, a2, _⟩ := numOf_iff.1 h1
  obtain ⟨b1, b2, _⟩ := numOf_iff.1 h2
  have hm : -1000000000000 ≤ x * y ∧ x * y ≤ 1000000000000 := by
    have := Int.natAbs_mul x y
    have hx : x.natAbs ≤ 1000000 := by omega
    have hy : y.natAbs ≤ 1000000 := by omega
    have := Nat.mul_le_mul hx hy
    omega
  unfold sumI
  split
  · omega
  · split
    · exact hm
    · omega

theorem itoa_full {n : Int} (h : inNum n = true) : (⟨(Lib.itoa n).toArray⟩ : ByteArray).toList.isEmpty = false := by
  have h0 : -1000000 ≤ n ∧ n ≤ 1000000 := by simpa [inNum] using h
  obtain ⟨c, r, e, _⟩ := (rdNum_itoa (numOf_iff.2 ⟨h0.1, h0.2, rfl⟩)).2.2
  rw [ByteArray.toList_eq, e]
  rfl

set_option maxRecDepth 100000 in
set_option maxHeartbeats 2000000 in
theorem sumValue_any (k : Int) (a b : ByteArray) (w : World) (hE : Env w.heap.size w) (ha : a.size ≤ 1048576) (hb : b.size ≤ 1048576) :
    Calls Tryz.prog 55 #[.int .i64 k, .string a, .string b] w (ValPost (sumV k a b) w) := by
  have HA := Lib.hid (implTermNum a (by omega) w hE)
  go_enter Tryz.func55, Tryz.ntmps55
  go_wp2_with fail
  refine HA.out.mono ?_
  rintro e w1 ⟨rfl, hb1⟩
  have HB := Lib.hid (implTermNum b (by omega) w1 (hE.stays hb1).top)
  have HE := Lib.hid hE
  clear HA hE
  cases hx : numOf (bts a) with
  | none =>
    rw [numAns_none hx]
    have HN := Lib.hid (sumV_no (k := k) (a := a) (b := b) (.inl hx))
    clear hx
    go_wp2_with fail
    refine HB.out.mono ?_
    rintro e w2 ⟨rfl, hb2⟩
    obtain ⟨y, ok, hans⟩ : ∃ (n : Int) (ok : Bool), numAns (Go.Proofs.YtcohjmbbanjjeaaGreatDoor.lst b) = .returned (.tuple #[.int .i64 n, .bool ok]) := by
      unfold numAns
      split
      · exact ⟨_, _, rfl⟩
      · exact ⟨_, _, rfl⟩
    rw [hans]
    have HBB := Lib.hid (below_step hb1 hb2)
    clear hans HB hb1 hb2
    go_wp2
    go_ret2
    exact ⟨by rw [HN.out]; rfl, HBB.out⟩
  | some x =>
    rw [numAns_some hx]
    have HX := Lib.hid hx
    clear hx
    go_wp2_with fail
    refine HB.out.mono ?_
    rintro e w2 ⟨rfl, hb2⟩
    have HBB := Lib.hid (below_step hb1 hb2)
    clear HB hb1 hb2
    cases hy : numOf (bts b) with
    | none =>
      rw [numAns_none hy]
      have HN := Lib.hid (sumV_no (k := k) (a := a) (b := b) (.inr hy))
      clear hy
      go_wp2
      go_ret2
      exact ⟨by rw [HN.out]; rfl, HBB.out⟩
    | some y =>
      rw [numAns_some hy]
      have HY := Lib.hid hy
      clear hy
      have hp := (HE.out.stays HBB.out).pow
      have hbd := sumI_bound (k := k) HX.out HY.out
      obtain ⟨x1, x2, _⟩ := numOf_iff.1 HX.out
      obtain ⟨y1, y2, _⟩ := numOf_iff.1 HY.out
      have HT := Lib.hid (implNumTerm (sumI k x y) (by omega) (by omega) w2 hp)
      have HFIN := Lib.hid (And.intro (fun w3 (h3 : Below w2.heap.size w2 w3) (hi : inNum (sumI k x y) = true) => (⟨by rw [sumV_ok HX.out HY.out hi], below_step HBB.out h3⟩ : ValPost (sumV k a b) w (.returned (.tuple #[.string ⟨(Lib.itoa (sumI k x y)).toArray⟩, .int .i64 0])) w3)) (fun w3 (h3 : Below w2.heap.size w2 w3) (hi : inNum (sumI k x y) = false) => (⟨by rw [sumV_over HX.out HY.out hi], below_step HBB.out h3⟩ : ValPost (sumV k a b) w (.returned (.tuple #[.string ⟨#[]⟩, .int .i64 2])) w3)))
      have HBD := Lib.hid hbd
      have hmul : -1000000000000 ≤ x * y ∧ x * y ≤ 1000000000000 := sumI_bound (k := 7) HX.out HY.out
      clear hp hbd HX HY HE
      rcases (show k = 6 ∨ k = 7 ∨ (k ≠ 6 ∧ k ≠ 7) by omega) with rfl | rfl | ⟨h6, h7⟩
      · have hs : sumI 6 x y = x - y := rfl
        rw [hs] at HT HBD HFIN
        clear hs
        go_wp2_with fail
        refine HT.out.mono ?_
        rintro e w3 ⟨rfl, hb3⟩
        cases hi : inNum (x - y) with
        | true =>
          have HP := Lib.hid (HFIN.out.1 w3 hb3 hi)
          have hz : (⟨(numTerm (x - y)).toArray⟩ : ByteArray) = ⟨(Lib.itoa (x - y)).toArray⟩ := by unfold numTerm; rw [hi]; rfl
          have hne := itoa_full hi
          rw [hz]
          generalize (⟨(Lib.itoa (x - y)).toArray⟩ : ByteArray) = A at *
          clear HT HFIN HBD hb3 hi hz
          go_wp2
          go_ret2
          exact HP.out
        | false =>
          have HP := Lib.hid (HFIN.out.2 w3 hb3 hi)
          have hz : (⟨(numTerm (x - y)).toArray⟩ : ByteArray) = ⟨#[]⟩ := by unfold numTerm; rw [hi]; rfl
          rw [hz]
          clear HT HFIN HBD hb3 hi hz
          go_wp2
          go_ret2
          exact HP.out
      · have hs : sumI 7 x y = x * y := rfl
        rw [hs] at HT HBD HFIN
        clear hs
        go_wp2_with fail
        refine HT.out.mono ?_
        rintro e w3 ⟨rfl, hb3⟩
        cases hi : inNum (x * y) with
        | true =>
          have HP := Lib.hid (HFIN.out.1 w3 hb3 hi)
          have hz : (⟨(numTerm (x * y)).toArray⟩ : ByteArray) = ⟨(Lib.itoa (x * y)).toArray⟩ := by unfold numTerm; rw [hi]; rfl
          have hne := itoa_full hi
          rw [hz]
          generalize (⟨(Lib.itoa (x * y)).toArray⟩ : ByteArray) = A at *
          clear HT HFIN HBD hb3 hi hz
          go_wp2
          go_ret2
          exact HP.out
        | false =>
          have HP := Lib.hid (HFIN.out.2 w3 hb3 hi)
          have hz : (⟨(numTerm (x * y)).toArray⟩ : ByteArray) = ⟨#[]⟩ := by unfold numTerm; rw [hi]; rfl
          rw [hz]
          clear HT HFIN HBD hb3 hi hz
          go_wp2
          go_ret2
          exact HP.out
      · have e6 : (k == 6) = false := by simpa using h6
        have e7 : (k == 7) = false := by simpa using h7
        have hs : sumI k x y = x + y := by unfold sumI; rw [if_neg h6, if_neg h7]
        rw [hs] at HT HBD HFIN
        clear hs
        go_wp2_with fail
        refine HT.out.mono ?_
        rintro e w3 ⟨rfl, hb3⟩
        cases hi : inNum (x + y) with
        | true =>
          have HP := Lib.hid (HFIN.out.1 w3 hb3 hi)
          have hz : (⟨(numTerm (x + y)).toArray⟩ : ByteArray) = ⟨(Lib.itoa (x + y)).toArray⟩ := by unfold numTerm; rw [hi]; rfl
          have hne := itoa_full hi
          rw [hz]
          generalize (⟨(Lib.itoa (x + y)).toArray⟩ : ByteArray) = A at *
          clear HT HFIN HBD hb3 hi hz
          go_wp2
          go_ret2
          exact HP.out
        | false =>
          have HP := Lib.hid (HFIN.out.2 w3 hb3 hi)
          have hz : (⟨(numTerm (x + y)).toArray⟩ : ByteArray) = ⟨#[]⟩ := by unfold numTerm; rw [hi]; rfl
          rw [hz]
          clear HT HFIN HBD hb3 hi hz
          go_wp2
          go_ret2
          exact HP.out

end Go.Proofs.YtcohjmbbanjjeaaGreatDoor.Pr

namespace Go.Proofs.YtcohjmbbanjjeaaGreatDoor.Pr
open Go Go.RowKit Go.Maps Go.WideMaps

theorem kidsV_len (out : Nat → ByteArray) (x : It) : (kidsV out x).length = x.xs.length := by simp [kidsV]
theorem outCell {w : World} {base g N : Nat} {out : Nat → ByteArray} (h : w.ownsRow base 9 1 (.slice (some ⟨g, 0, none⟩) N N) N (outCells out N)) {i : Nat} (hi : i < N) : w.cell? ⟨g, i, none⟩ = some (.string (out i)) := by
  rw [h.cellAt i (by omega)]
  simp [outCells, hi]

def KidsRel (w0 : World) (kids : List ByteArray) (v v2 : Value) (wr : World) : Prop :=
  ∃ k : Nat, v2 = .int .i64 (k : Int) ∧ k ≤ kids.length ∧ wr.ownsRow w0.heap.size 9 1 v (kids.take k).length (txtCells (kids.take k)) ∧ Below w0.heap.size w0 wr

theorem partV_1 {names vals : List ByteArray} {x : It} {kids : List ByteArray} (h : x.k = 1) : partV names vals x kids = nameV names vals x.s := by unfold partV; rw [if_pos h]
theorem partV_2 {names vals : List ByteArray} {x : It} {kids : List ByteArray} (h : x.k = 2) : partV names vals x kids = (⟨#[]⟩, 1) := by unfold partV; rw [if_neg (by omega), if_pos h]
theorem partV_3 {names vals : List ByteArray} {x : It} {kids : List ByteArray} (h : x.k = 3) : partV names vals x kids = (x.s, 0) := by unfold partV; rw [if_neg (by omega), if_neg (by omega), if_pos h]
theorem partV_4 {names vals : List ByteArray} {x : It} {kids : List ByteArray} (h : x.k = 4) : partV names vals x kids = conV x.s kids := by unfold partV; rw [if_neg (by omega), if_neg (by omega), if_neg (by omega), if_pos h]
theorem partV_5 {names vals : List ByteArray} {x : It} {kids : List ByteArray} (h : 5 ≤ x.k) : partV names vals x kids = sumV x.k (kids.getD 0 ⟨#[]⟩) (kids.getD 1 ⟨#[]⟩) := by unfold partV; rw [if_neg (by omega), if_neg (by omega), if_neg (by omega), if_neg (by omega)]
theorem kind_cases {x : It} (h : kindOk x = true) : x.k = 1 ∨ x.k = 2 ∨ x.k = 3 ∨ x.k = 4 ∨ (5 ≤ x.k ∧ x.k ≤ 7 ∧ x.xs.length = 2) := by
  unfold kindOk isSum at h
  simp at h
  omega

set_option maxRecDepth 100000 in
set_option maxHeartbeats 2000000 in
theorem partValue_any (x : It) (out : Nat → ByteArray) (names vals : List ByteArray) (N g : Nat) (B : Nat) (ax a1 a2 : Option Addr) (cx c1 c2 : Nat) (S : Nat → Prop) (w : World) (hE : Env w.heap.size w) (hI : IntsIn S w ax x.xs) (h1 : TxtsIn S w a1 names) (h2 : TxtsIn S w a2 vals) (hS : ∀ b, S b → b < w.heap.size)
    (hown : w.ownsRow B 9 1 (.slice (some ⟨g, 0, none⟩) N N) N (outCells out N)) (hN : N ≤ 60) (hout : Small out) (hkind : kindOk x = true) (hkid : ∀ y ∈ x.xs, 0 ≤ y ∧ y < (N : Int)) (hxl : x.xs.length ≤ 60) (hxs : x.s.size ≤ 1048576) (hn : names.length ≤ 1048576) (hv : vals.length ≤ 1048576) :
    Calls Tryz.prog 40 #[.agg #[.int .i64 x.k, .string x.s, .slice ax x.xs.length cx], .slice (some ⟨g, 0, none⟩) N N, .slice a1 names.length c1, .slice a2 vals.length c2] w (ValPost (partV names vals x (kidsV out x)) w) := by
  have hb0 : Below w.heap.size w (w.alloc (.cells #[.int .i64 x.k, .string x.s, .slice ax x.xs.length cx] 67)) := (Below.refl _ _).alloc (Nat.le_refl _) _
  have k0 := heap_alloc_new w (.cells #[.int .i64 x.k, .string x.s, .slice ax x.xs.length cx] 67)
  obtain ⟨w0, hw0⟩ : ∃ w0, w.alloc (.cells #[.int .i64 x.k, .string x.s, .slice ax x.xs.length cx] 67) = w0 := ⟨_, rfl⟩
  rw [hw0] at hb0 k0
  have q0 := cell_of_row _ w.heap.size 0 _ _ _ k0
  have q1 := cell_of_row _ w.heap.size 1 _ _ _ k0
  have q2 := cell_of_row _ w.heap.size 2 _ _ _ k0
  simp only [List.getElem?_toArray, List.getElem?_cons_zero, List.getElem?_cons_succ] at q0 q1 q2
  have HE := Lib.hid hE
  have HI := Lib.hid hI
  have H1 := Lib.hid h1
  have H2 := Lib.hid h2
  have HS := Lib.hid hS
  have HO := Lib.hid hown
  have HSM := Lib.hid hout
  have HKD := Lib.hid hkind
  have HKID := Lib.hid hkid
  have HB0 := Lib.hid hb0
  have HK0 := Lib.hid k0
  have HKL := Lib.hid (kidsV_len out x)
  have HKV := Lib.hid (fun (i : Nat) (h : i < x.xs.length) => (by simp [kidsV, h] : (kidsV out x)[i]? = some (out (x.xs[i]).toNat)))
  have HSMK := Lib.hid (fun y (hy : y ∈ kidsV out x) => (by obtain ⟨z, _, rfl⟩ := List.mem_map.1 hy; exact hout _ : y.size ≤ 1048576))
  clear hE hI h1 h2 hS hown hout hkind hkid hb0 k0
  go_enter Tryz.func40, Tryz.ntmps40
  go_wp2
  go_loopw [10, 16] (fun v9 v14 wr => KidsRel w0 (kidsV out x) v9 v14 wr) (fun _ v14 _ => (x.xs.length - (intOf v14).toNat))
  case atStart => exact ⟨0, rfl, Nat.zero_le _, World.ownsRow_nil _ _ _ _, Below.refl _ _⟩
  case round =>
    obtain ⟨k, rfl, hk, hown, hb⟩ := hrel
    obtain ⟨av, cv, rfl⟩ := owns_shape hown
    have hkl := HKL.out
    have K1 := (hb.block _ (lt_of_block HK0.out)).trans HK0.out
    clear q0 q1 q2
    have q0 := cell_of_row _ w.heap.size 0 _ _ _ K1
    have q1 := cell_of_row _ w.heap.size 1 _ _ _ K1
    have q2 := cell_of_row _ w.heap.size 2 _ _ _ K1
    simp only [List.getElem?_toArray, List.getElem?_cons_zero, List.getElem?_cons_succ] at q0 q1 q2
    by_cases hlt : k < x.xs.length
    · have hd : decide ((k : Int) < (x.xs.length : Int)) = true := decide_eq_true (by omega)
      obtain ⟨b, off, rfl, hSb, hx⟩ := HI.out.kept (Same.below HS.out (below_step HB0.out hb)) k hlt
      have hy := HKID.out x.xs[k] (List.getElem_mem hlt)
      obtain ⟨y, hyy⟩ := Int.eq_ofNat_of_zero_le hy.1
      have hyN : y < N := by omega
      have c0 := outCell (row_kept HO.out (below_step HB0.out hb)) hyN
      rw [hyy] at hx
      have htk : (kidsV out x).take (k + 1) = (kidsV out x).take k ++ [out y] := by
        have h1 := HKV.out k hlt
        rw [hyy] at h1
        rw [List.take_add_one, h1]
        rfl
      have htl : ((kidsV out x).take k).length ≤ 60 := by rw [List.length_take]; omega
      obtain ⟨g', cap, w4, hrun, ho4, hb4, hk4, hat⟩ := push_txt hown (out y) (by omega) hb hb.size
      have HR := Lib.hid (show KidsRel w0 (kidsV out x) (.slice (some ⟨g', 0, none⟩) (((kidsV out x).take k).length + 1) cap) (.int .i64 ((k : Int) + 1)) w4 from ⟨k + 1, by go_num, by omega, by rw [htk]; exact ho4, hb4⟩)
      have HRUN := Lib.hid hrun
      generalize ((kidsV out x).take k).length = tl at *
      generalize out y = oy at *
      clear hrun ho4 hb4 hk4 hat hown hb K1 hSb hyy hy htk hkl
      go_wp2_with (first
        | (at_builtin
           refine wpList_append_run rfl (.tmp 20) (.tmp 25) _ rfl rfl rfl HRUN.out ?_))
      go_roundw
      case rel => exact HR.out
      case measure => (simp [intOf] <;> omega)
    · obtain rfl : k = x.xs.length := by omega
      have hd : decide ((x.xs.length : Int) < (x.xs.length : Int)) = false := by simp
      have ht : (kidsV out x).take x.xs.length = kidsV out x := List.take_of_length_le (by omega)
      rw [ht] at hown ⊢
      have hbb := below_step HB0.out hb
      have HBB := Lib.hid hbb
      have HOW := Lib.hid hown
      have HER := Lib.hid (HE.out.stays hbb).top
      have hkw := HSMK.out
      clear K1 hown hb ht
      rcases kind_cases HKD.out with h | h | h | h | ⟨h5, h7, h2⟩
      · have HP := Lib.hid (partV_1 (names := names) (vals := vals) (kids := kidsV out x) h)
        have HN := Lib.hid (nameValue_any x.s names vals a1 a2 c1 c2 S wr (H1.out.kept (Same.below HS.out hbb)) (H2.out.kept (Same.below HS.out hbb)) (fun b h => Nat.lt_of_lt_of_le (HS.out b h) hbb.size) hn hv)
        rw [h] at q0
        clear hbb hkw h hkl
        go_wp2_with fail
        refine HN.out.mono ?_
        rintro e w3 ⟨rfl, hb3⟩
        have HB3 := Lib.hid (below_step HBB.out hb3)
        clear hb3
        go_wp2
        go_ret2
        exact ⟨by rw [HP.out]; rfl, HB3.out⟩
      · have HP := Lib.hid (partV_2 (names := names) (vals := vals) (kids := kidsV out x) h)
        rw [h] at q0
        clear hbb hkw h hkl
        go_wp2
        go_ret2
        exact ⟨by rw [HP.out]; rfl, HBB.out⟩
      · have HP := Lib.hid (partV_3 (names := names) (vals := vals) (kids := kidsV out x) h)
        rw [h] at q0
        clear hbb hkw h hkl
        go_wp2
        go_ret2
        exact ⟨by rw [HP.out]; rfl, HBB.out⟩
      · have HP := Lib.hid (partV_4 (names := names) (vals := vals) (kids := kidsV out x) h)
        have HN := Lib.hid (conValue_any x.s (kidsV out x) w0.heap.size _ wr HER.out HOW.out hxs (by omega) hkw)
        rw [h] at q0
        clear hbb hkw h hkl
        go_wp2_with fail
        refine HN.out.mono ?_
        rintro e w3 ⟨rfl, hb3⟩
        have HB3 := Lib.hid (below_step HBB.out hb3)
        clear hb3
        go_wp2
        go_ret2
        exact ⟨by rw [HP.out]; rfl, HB3.out⟩
      · have HP := Lib.hid (partV_5 (names := names) (vals := vals) (kids := kidsV out x) h5)
        obtain ⟨ka, kb, hkk⟩ : ∃ ka kb, kidsV out x = [ka, kb] := by
          rw [h2] at hkl
          match hm : kidsV out x, hkl with
          | [p, q], _ => exact ⟨p, q, rfl⟩
        have HP0 : partV names vals x (kidsV out x) = sumV x.k ka kb := by rw [HP.out, hkk]; rfl
        rw [hkk] at HOW hkw hkl ⊢
        rw [show ([ka, kb] : List ByteArray).length = 2 from rfl]
        have ha := hkw ka (by simp)
        have hb := hkw kb (by simp)
        obtain ⟨g2, cp, hgv, hbg, hgl⟩ := HOW.out.form (by simp)
        simp only [Value.slice.injEq, true_and] at hgv
        obtain ⟨rfl, rfl⟩ := hgv
        have y0 : wr.cell? ⟨g2, 0, none⟩ = some (.string ka) := HOW.out.cellAt 0 (by simp)
        have y1 : wr.cell? ⟨g2, 1, none⟩ = some (.string kb) := HOW.out.cellAt 1 (by simp)
        have HN := Lib.hid (fun (W : World) (hW : Below wr.heap.size wr W) => (show Calls Tryz.prog 55 #[.int .i64 x.k, .string ka, .string kb] W (fun e w' => e = .returned (.tuple #[.string (sumV x.k ka kb).1, .int .i64 (sumV x.k ka kb).2]) ∧ Below wr.heap.size wr w') from (sumValue_any x.k ka kb W (HER.out.stays hW).top ha hb).mono (fun e w' h => ⟨h.1, below_step hW h.2⟩)))
        have hg2 : g2 < wr.heap.size := hgl
        have hgw : w.heap.size < wr.heap.size := cell_lt q0
        have e1 : (x.k == 1) = false := beq_eq_false_iff_ne.2 (by omega)
        have e2 : (x.k == 2) = false := beq_eq_false_iff_ne.2 (by omega)
        have e3 : (x.k == 3) = false := beq_eq_false_iff_ne.2 (by omega)
        have e4 : (x.k == 4) = false := beq_eq_false_iff_ne.2 (by omega)
        have HPP := Lib.hid (fun (w3 : World) (h3 : Below wr.heap.size wr w3) => (⟨by rw [HP0], below_step HBB.out h3⟩ : ValPost (partV names vals x (kidsV out x)) w (.returned (.tuple #[.string (sumV x.k ka kb).1, .int .i64 (sumV x.k ka kb).2])) w3))
        clear hbb hkw h5 h7 ha hb hkk HP HOW hkl h2 HP0
        generalize x.k = xk at *
        have hB0 : Below wr.heap.size wr wr := Below.refl _ _
        go_wp2
        go_region_held3 (fun w' => w'.cell? ⟨w.heap.size, 0, none⟩ = some (.int .i64 xk) ∧ w'.cell? ⟨g2, 0, none⟩ = some (.string ka) ∧ w'.cell? ⟨g2, 1, none⟩ = some (.string kb) ∧ Below wr.heap.size wr w')
          (refine ⟨?_, ?_, ?_, ?_⟩ <;> (first | assumption | (simp [*]; done) | (apply Below.drew; assumption)))
          (first
            | (go_at_call 55
               refine (HN.out _ (by first | assumption | (apply Below.drew; assumption))).mono ?_
               rintro e7 w7 ⟨rfl, hb7⟩
               have z0 := (hb7.cell (p := ⟨w.heap.size, 0, none⟩) hgw).trans q0
               have z1 := (hb7.cell (p := ⟨g2, 0, none⟩) hg2).trans y0
               have z2 := (hb7.cell (p := ⟨g2, 1, none⟩) hg2).trans y1)
            | fail)
        clear HN z0 z1 z2
        go_wp2
        go_ret2
        exact HPP.out _ (by first | assumption | (apply Below.drew; assumption))

end Go.Proofs.YtcohjmbbanjjeaaGreatDoor.Pr
