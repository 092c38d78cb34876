/-
  THE WALK over constructorText.
  THE WALKS over impl.TermMake and spec.TermMake.
-/
import Derived.Test.YtcohjmbbanjjeaaGreatDoorQE
import Derived.Deep.RegionHeld3
import Derived.Test.YtcohjmbbanjjeaaGreatDoorShelfQ
import Derived.Lib.Join
namespace Go.Proofs.YtcohjmbbanjjeaaGreatDoor
open Go Go.RowKit Go.Maps Go.WideMaps

mutual
def Tm.size : Tm → Nat
  | .num _ => 1
  | .sym _ => 1
  | .con _ args => 1 + sizes args
def sizes : List Tm → Nat
  | [] => 0
  | a :: r => a.size + sizes r
end
def Tm.kids : Tm → List Tm
  | .con _ args => args
  | _ => []
theorem size_kids (t : Tm) : t.size = 1 + sizes t.kids := by
  cases t with
  | num n =>
    rw [Tm.size]
    show 1 = 1 + sizes []
    rw [sizes]
  | sym b =>
    rw [Tm.size]
    show 1 = 1 + sizes []
    rw [sizes]
  | con name args => rw [Tm.size]; rfl
theorem sizes_append : ∀ (l r : List Tm), sizes (l ++ r) = sizes l + sizes r
  | [], r => by rw [List.nil_append, sizes]; omega
  | a :: l, r => by rw [List.cons_append, sizes, sizes, sizes_append l r]; omega
theorem sizes_take {l : List Tm} {k : Nat} (h : k < l.length) : sizes (l.take (k + 1)) = sizes (l.take k) + l[k].size := by
  rw [List.take_succ_eq_append_getElem h, sizes_append, sizes, sizes]; omega
theorem sizes_take_le (l : List Tm) (k : Nat) : sizes (l.take k) ≤ sizes l := by
  have := sizes_append (l.take k) (l.drop k)
  rw [List.take_append_drop] at this
  omega
theorem size_le {t : Tm} (h : Wf t) : t.size ≤ t.text.length := by
  induction h with
  | num n h0 h1 =>
    rw [Tm.size, Tm.text]
    have := itoa_ne_nil n
    cases hx : Lib.itoa n with
    | nil => exact absurd hx this
    | cons _ _ => simp
  | sym b h hl => rw [Tm.size, Tm.text]; simp
  | con name args h ha ih =>
    obtain ⟨c, r, rfl, _⟩ := bigName_cons h
    have key : ∀ (as' : List Tm), (∀ a ∈ as', a.size ≤ a.text.length) → sizes as' ≤ (moreText as').length := by
      intro as'
      induction as' with
      | nil => intro _; rw [sizes]; exact Nat.zero_le _
      | cons b bs ihb =>
        intro hx
        have h1 := hx b (by simp)
        have h2 := ihb (fun a ha => hx a (by simp [ha]))
        rw [sizes, moreText, List.length_cons, List.length_append]
        omega
    rw [Tm.size, Tm.text, List.length_append, List.length_cons]
    cases args with
    | nil => rw [sizes]; omega
    | cons a as' =>
      have h1 := ih a (by simp)
      have h2 := key as' (fun x hx => ih x (by simp [hx]))
      rw [sizes, argText, List.length_cons, List.length_append]
      omega
theorem kids_wf {t : Tm} (h : Wf t) : ∀ a ∈ t.kids, Wf a := by
  cases h with
  | num n h0 h1 => intro a ha; cases ha
  | sym b h hl => intro a ha; cases ha
  | con name args h ha => exact ha
theorem kids_len {t a : Tm} (h : a ∈ t.kids) : a.text.length < t.text.length := by
  cases t with
  | num n => cases h
  | sym b => cases h
  | con name args => exact sub_len h
theorem kids_count {t : Tm} (h : Wf t) : t.kids.length ≤ t.text.length := by
  have h1 := size_le h
  rw [size_kids] at h1
  have : ∀ l : List Tm, l.length ≤ sizes l := fun l => by
    induction l with
    | nil => exact Nat.zero_le _
    | cons a r ih => rw [sizes, size_kids, List.length_cons]; omega
  have := this t.kids
  omega

/-- What constructorText writes. -/
def conText (nm : List UInt8) (xs : List (List UInt8)) : List UInt8 := if xs = [] then nm else nm ++ 40 :: (Lib.join xs [44] ++ [41])

theorem join_more : ∀ (ts : List Tm), Lib.joinTail [44] (ts.map Tm.text) ++ [41] = moreText ts
  | [] => by rw [moreText]; rfl
  | t :: ts => by
    rw [moreText, ← join_more ts]
    simp [Lib.joinTail]
theorem conText_text (nm : List UInt8) (args : List Tm) : conText nm (args.map Tm.text) = (Tm.con nm args).text := by
  cases args with
  | nil => rw [Tm.text, argText]; simp [conText]
  | cons a as' =>
    rw [Tm.text, argText, ← join_more]
    simp only [conText, List.map_cons, Lib.join_cons]
    rw [if_neg (by simp)]
    simp

set_option maxRecDepth 100000 in
set_option maxHeartbeats 1000000 in
theorem constructorText_any (nm : ByteArray) (xs : List ByteArray) (base : Nat) (v : Value) (w : World) (hown : w.ownsRow base 9 1 v xs.length (strCells xs)) (hn : nm.size ≤ 2000000) (hx : xs.length ≤ 2000000) (hj : (Lib.join (xs.map lst) [44]).length ≤ 5000000) :
    Calls Tryz.prog 83 #[.string nm, v] w fun e w' => (∃ s : ByteArray, e = .returned (.string s) ∧ lst s = conText (lst nm) (xs.map lst)) ∧ Below w.heap.size w w' := by
  cases xs with
  | nil =>
    obtain ⟨av, cv, rfl⟩ := owns_shape hown
    clear hown
    go_enter Tryz.func83, Tryz.ntmps83
    go_wp2
    go_ret
    exact ⟨⟨nm, rfl, rfl⟩, Below.refl _ _⟩
  | cons x r =>
    obtain ⟨g, cap, hgv, hbg, hg⟩ := hown.form (by simp)
    have hcap : (x :: r).length ≤ cap := by
      rcases hown.2 with ⟨_, h0⟩ | ⟨g', cap', cur, hv', _, _, h1, _⟩
      · simp at h0
      · rw [hgv] at hv'
        simp only [Value.slice.injEq] at hv'
        omega
    subst hgv
    have hne : (((x :: r).length : Int) == 0) = false := beq_eq_false_iff_ne.2 (by simp; omega)
    have hcells : ∀ (j : Nat) y, (x :: r)[j]? = some y → w.cell? ⟨g, 0 + j, none⟩ = some (.string y) := fun j y hy => by
      have hlt := (List.getElem?_eq_some_iff.1 hy).1
      rw [Nat.zero_add, hown.cellAt j (by omega)]
      simp only [strCells, List.getElem?_map, hy, Option.map_some]
    generalize hxs : x :: r = xs at *
    have HC := Lib.hid (Tryz.strings_Join g 0 cap xs ⟨#[44]⟩ w hcells hg (by omega) (by omega) (by
      show (Lib.join (xs.map lst) [44]).length ≤ _
      omega))
    have HX := Lib.hid (show xs ≠ [] by rw [← hxs]; simp)
    clear hcells hown hxs
    go_enter Tryz.func83, Tryz.ntmps83
    go_wp2_with fail
    refine HC.out.mono ?_
    rintro e w1 ⟨rfl, hb1⟩
    obtain ⟨y, hy⟩ : ∃ y : ByteArray, y = ⟨(Lib.join (xs.map (·.data.toList)) [44]).toArray⟩ := ⟨_, rfl⟩
    have hly : lst y = Lib.join (xs.map lst) [44] := by rw [hy]; rfl
    have hys : y.size ≤ 5000000 := by have := lst_len y; rw [hly] at this; omega
    have HLY := Lib.hid hly
    rw [show (⟨(Lib.join (xs.map (·.data.toList)) (⟨#[44]⟩ : ByteArray).data.toList).toArray⟩ : ByteArray) = y from hy.symm]
    clear hly HC hy
    go_wp2
    go_ret
    refine ⟨⟨_, rfl, ?_⟩, hb1⟩
    have hz : ∀ a b : ByteArray, lst (a ++ b) = lst a ++ lst b := fun a b => by simp [lst]
    rw [hz, hz, hz, HLY.out, conText, if_neg (by simpa using HX.out)]
    simp [lst]

theorem join_len (ts : List Tm) (h : ts ≠ []) : (Lib.join (ts.map Tm.text) [44]).length + 1 = (argText ts).length - 1 := by
  cases ts with
  | nil => exact absurd rfl h
  | cons a as' =>
    have := congrArg List.length (join_more as')
    rw [List.length_append] at this
    rw [argText, List.map_cons, Lib.join_cons, List.length_cons, List.length_append, List.length_append]
    simp at this
    omega
theorem join_le (nm : List UInt8) (ts : List Tm) : (Lib.join (ts.map Tm.text) [44]).length ≤ (Tm.con nm ts).text.length := by
  cases ts with
  | nil => simp [Lib.join, List.intercalate]
  | cons a as' =>
    have := join_len (a :: as') (by simp)
    rw [Tm.text, List.length_append]
    omega

theorem strs_inj : ∀ {xs ys : List ByteArray}, xs.map lst = ys.map lst → xs = ys
  | [], [], _ => rfl
  | [], y :: ys, h => by simp at h
  | x :: xs, [], h => by simp at h
  | x :: xs, y :: ys, h => by
    simp only [List.map_cons, List.cons.injEq] at h
    rw [lst_inj h.1, strs_inj h.2]

/-- A row outlives a call that leaves old memory alone. -/
theorem row_kept {w w' : World} {base : Nat} {e : TypeId} {size : Nat} {v : Value} {n : Nat} {xs : List Value} (h : w.ownsRow base e size v n xs) (hb : Below w.heap.size w w') : w'.ownsRow base e size v n xs := by
  have hg : w.grownBy w' none := ⟨hb.os, hb.tape, hb.output, hb.size, fun k hk _ => hb.block k hk⟩
  exact h.kept hg (by cases hv : v.ownBlock <;> simp)


end Go.Proofs.YtcohjmbbanjjeaaGreatDoor

namespace Go.Proofs.YtcohjmbbanjjeaaGreatDoor
open Go Go.RowKit Go.Maps Go.WideMaps

/-- TermMake. -/
def makeOk (nm : List UInt8) (xs : List (List UInt8)) : Prop := bigName nm = true ∧ (∀ x ∈ xs, iKind x ≠ 0) ∧ (conText nm xs).length ≤ 200

/-- What both answer. -/
def MakeAns (nm : ByteArray) (xs : List ByteArray) (e : Ending) : Prop :=
  ∃ (s : ByteArray) (ok : Bool), e = .returned (.tuple #[.string s, .bool ok]) ∧ (ok = true ↔ makeOk (lst nm) (xs.map lst)) ∧ lst s = if ok then conText (lst nm) (xs.map lst) else []

theorem make_bad {nm : ByteArray} {xs : List ByteArray} (h : ¬ makeOk (lst nm) (xs.map lst)) : MakeAns nm xs (.returned (.tuple #[.string ⟨#[]⟩, .bool false])) :=
  ⟨⟨#[]⟩, false, rfl, ⟨fun h => (by cases h), fun k => absurd k h⟩, rfl⟩
theorem make_good {nm s : ByteArray} {xs : List ByteArray} (h : makeOk (lst nm) (xs.map lst)) (hs : lst s = conText (lst nm) (xs.map lst)) : MakeAns nm xs (.returned (.tuple #[.string s, .bool true])) :=
  ⟨s, true, rfl, ⟨fun _ => h, fun _ => rfl⟩, hs⟩

def KindsGone (w : World) (xs : List ByteArray) (v : Value) (wr : World) : Prop :=
  ∃ k : Nat, v = .int .i64 (k : Int) ∧ k ≤ xs.length ∧ (∀ j (h : j < xs.length), j < k → iKind (lst xs[j]) ≠ 0) ∧ Below w.heap.size w wr

set_option maxRecDepth 100000 in
set_option maxHeartbeats 1000000 in
theorem implTermMake (nm : ByteArray) (xs : List ByteArray) (B : Nat) (v : Value) (w : World) (hE : Env w.heap.size w) (hown : w.ownsRow B 9 1 v xs.length (strCells xs)) (hn : nm.size ≤ 1048576) (hx : xs.length ≤ 1048576) (hxs : ∀ x ∈ xs, x.size ≤ 1048576) (hj : (∀ x ∈ xs, iKind (lst x) ≠ 0) → (Lib.join (xs.map lst) [44]).length ≤ 5000000) :
    Calls Tryz.prog 72 #[.string nm, v] w fun e w' => MakeAns nm xs e ∧ Below w.heap.size w w' := by
  obtain ⟨av, cv, rfl⟩ := owns_shape hown
  have HO := Lib.hid hown
  have HE := Lib.hid hE
  have HXS := Lib.hid hxs
  have HJ := Lib.hid hj
  clear hown hE hxs hj
  cases hbn : bigName (lst nm)
  · have HB := Lib.hid (make_bad (nm := nm) (xs := xs) (fun h => by have := h.1; rw [hbn] at this; cases this))
    go_enter Tryz.func72, Tryz.ntmps72
    go_wp2_with fail
    refine (isBigName_any nm (by omega) _).mono ?_
    rintro e w' ⟨rfl, rfl⟩
    rw [hbn]
    go_wp2
    go_ret2
    exact ⟨HB.out, Below.refl _ _⟩
  · go_enter Tryz.func72, Tryz.ntmps72
    go_wp2_with fail
    refine (isBigName_any nm (by omega) _).mono ?_
    rintro e w' ⟨rfl, rfl⟩
    rw [hbn]
    go_wp2
    go_loopw [14] (fun v wr => KindsGone w xs v wr) (fun v _ => (xs.length - (intOf v).toNat))
    case atStart => exact ⟨0, rfl, Nat.zero_le _, fun j h a => by omega, Below.refl _ _⟩
    case round =>
      obtain ⟨k, rfl, hk, hall, hb⟩ := hrel
      have HALL := Lib.hid hall
      clear hall
      by_cases hlt : k < xs.length
      · have hown := row_kept HO.out hb
        obtain ⟨g, cap, hgv, hbg, hgl⟩ := hown.form (by omega)
        simp only [Value.slice.injEq, true_and] at hgv
        obtain ⟨rfl, rfl⟩ := hgv
        have hx : wr.cell? ⟨g, k, none⟩ = some (.string xs[k]) := by
          rw [hown.cellAt k (by omega)]
          simp [strCells, hlt]
        have hxsz := HXS.out xs[k] (List.getElem_mem hlt)
        have Z0 := Lib.hid (fun (h : iKind (lst xs[k]) = 0) => make_bad (nm := nm) (xs := xs) (fun hm => hm.2.1 _ (List.mem_map.2 ⟨_, List.getElem_mem hlt, rfl⟩) h))
        have Z1 : ∀ w3 : World, iKind (lst xs[k]) ≠ 0 → Below wr.heap.size wr w3 → KindsGone w xs (.int .i64 ((k : Int) + 1)) w3 := fun w3 hz hb3 =>
          ⟨k + 1, by go_num, by omega, fun j h a => by
            by_cases hj : j < k
            · exact HALL.out j h hj
            · obtain rfl : j = k := by omega
              exact hz, hb.trans (hb3.mono hb.size)⟩
        have HZ1 := Lib.hid Z1
        have HEr := Lib.hid (HE.out.stays hb).top
        clear Z1 hown
        generalize xs[k] = x at *
        go_wp2_with fail
        refine (implTermKind x (by omega) _ HEr.out).mono ?_
        rintro e w3 ⟨rfl, hb3⟩
        by_cases hz : iKind (lst x) = 0
        · have HF := Lib.hid (Z0.out hz)
          have hbb := hb.trans (hb3.mono hb.size)
          rw [hz]
          clear hz Z0 HZ1 hb3 hb
          go_wp2
          go_ret2
          exact ⟨HF.out, hbb⟩
        · have HR := Lib.hid (HZ1.out w3 hz hb3)
          have hzb : (iKind (lst x) == 0) = false := beq_eq_false_iff_ne.2 hz
          clear hz Z0 HZ1 hb3 hb
          generalize iKind (lst x) = y at *
          go_wp2
          go_roundw
          case rel => exact HR.out
          case measure => simp [intOf]; omega
      · have hlt2 : decide ((k : Int) < (xs.length : Int)) = false := decide_eq_false (by omega)
        have hall2 : ∀ x ∈ xs.map lst, iKind x ≠ 0 := fun x hx => by
          obtain ⟨y, hy, rfl⟩ := List.mem_map.1 hx
          obtain ⟨j, hj, rfl⟩ := List.getElem_of_mem hy
          exact HALL.out j hj (by omega)
        have HA2 := Lib.hid hall2
        have HC := Lib.hid (constructorText_any nm xs B _ wr (row_kept HO.out hb) (by omega) (by omega) (HJ.out fun x hx => hall2 _ (List.mem_map.2 ⟨x, hx, rfl⟩)))
        clear hall2
        go_wp2_with fail
        refine HC.out.mono ?_
        rintro e w3 ⟨⟨s, rfl, hs⟩, hb3⟩
        have hls := lst_len s
        have hbb := hb.trans (hb3.mono hb.size)
        by_cases h200 : s.size ≤ 200
        · have HG := Lib.hid (make_good (nm := nm) (xs := xs) ⟨hbn, HA2.out, by rw [← hs]; omega⟩ hs)
          have hgt : decide ((200 : Int) < (s.size : Int)) = false := decide_eq_false (by omega)
          have hgt' : decide (200 < s.size) = false := decide_eq_false (by omega)
          clear hs hb3 HC hb
          go_wp2
          go_ret2
          exact ⟨HG.out, hbb⟩
        · have HF := Lib.hid (make_bad (nm := nm) (xs := xs) (fun hm => by have := hm.2.2; rw [← hs] at this; omega))
          have hgt : decide ((200 : Int) < (s.size : Int)) = true := decide_eq_true (by omega)
          have hgt' : decide (200 < s.size) = true := decide_eq_true (by omega)
          clear hs hb3 HC hb
          go_wp2
          go_ret2
          exact ⟨HF.out, hbb⟩

theorem terms_of : ∀ {xs : List (List UInt8)}, (∀ x ∈ xs, iKind x ≠ 0) → ∃ ts : List Tm, xs = ts.map Tm.text ∧ (∀ t ∈ ts, Wf t)
  | [], _ => ⟨[], rfl, fun t h => by cases h⟩
  | x :: xs, h => by
    obtain ⟨ts, h1, h2⟩ := terms_of (xs := xs) (fun y hy => h y (by simp [hy]))
    cases hr : rdAll x with
    | none => exact absurd (by unfold iKind; rw [hr]) (h x (by simp))
    | some t =>
      obtain ⟨hw, hx, _⟩ := rdAll_sound hr
      refine ⟨t :: ts, by rw [List.map_cons, hx, h1], fun u hu => ?_⟩
      rcases List.mem_cons.1 hu with rfl | hu
      · exact hw
      · exact h2 u hu
theorem kind_len {x : List UInt8} (h : iKind x ≠ 0) : x.length ≤ 200 := by
  cases hr : rdAll x with
  | none => exact absurd (by unfold iKind; rw [hr]) h
  | some t => exact (rdAll_sound hr).2.2
theorem make_count {nm : List UInt8} {xs : List (List UInt8)} (h : makeOk nm xs) : xs.length ≤ 200 := by
  obtain ⟨ts, rfl, hw⟩ := terms_of h.2.1
  have h1 := h.2.2
  rw [conText_text] at h1
  have := kids_count (Wf.con nm ts h.1 hw)
  rw [List.length_map]
  exact Nat.le_trans this h1
theorem con_kind {nm : List UInt8} {xs : List (List UInt8)} (hb : bigName nm = true) (ha : ∀ x ∈ xs, iKind x ≠ 0) : iKind (conText nm xs) = if (conText nm xs).length ≤ 200 then 3 else 0 := by
  obtain ⟨ts, rfl, hw⟩ := terms_of ha
  rw [conText_text]
  split
  · unfold iKind
    rw [rdAll_text (Wf.con nm ts hb hw) (by assumption)]
    rfl
  · unfold iKind rdAll
    rw [if_pos (by omega)]

theorem tail_snoc (sep : List UInt8) (r : List (List UInt8)) (x : List UInt8) : Lib.joinTail sep (r ++ [x]) = Lib.joinTail sep r ++ (sep ++ x) := by
  simp [Lib.joinTail]
theorem join_snoc (sep x : List UInt8) : ∀ (xs : List (List UInt8)), xs ≠ [] → Lib.join (xs ++ [x]) sep = Lib.join xs sep ++ (sep ++ x)
  | [], h => absurd rfl h
  | a :: r, _ => by rw [List.cons_append, Lib.join_cons, Lib.join_cons, tail_snoc, List.append_assoc]

/-- What the loop has written. -/
def partText (nm : List UInt8) (xs : List (List UInt8)) (k : Nat) : List UInt8 := nm ++ (if k = 0 then [] else 40 :: Lib.join (xs.take k) [44])
theorem partText_step {nm : List UInt8} {xs : List (List UInt8)} {k : Nat} (h : k < xs.length) : partText nm xs (k + 1) = partText nm xs k ++ (if k = 0 then [40] else [44]) ++ xs[k] := by
  unfold partText
  rw [if_neg (by omega), List.take_succ_eq_append_getElem h]
  by_cases hk : k = 0
  · subst hk
    simp [Lib.join_one]
  · rw [if_neg hk, if_neg hk, join_snoc _ _ _ (by
      intro e
      have := congrArg List.length e
      rw [List.length_take, List.length_nil] at this
      omega)]
    simp
theorem partText_all {nm : List UInt8} {xs : List (List UInt8)} : conText nm xs = partText nm xs xs.length ++ (if xs.length = 0 then [] else [41]) := by
  unfold partText conText
  cases xs with
  | nil => simp
  | cons a r => simp

def MakeRel (w : World) (nm : ByteArray) (xs : List ByteArray) (v6 v7 : Value) (wr : World) : Prop :=
  ∃ (k : Nat) (s : ByteArray), v7 = .int .i64 (k : Int) ∧ v6 = .string s ∧ k ≤ xs.length ∧ lst s = partText (lst nm) (xs.map lst) k ∧ s.size ≤ nm.size + 201 * k ∧ (∀ j (h : j < xs.length), j < k → iKind (lst xs[j]) ≠ 0) ∧ Below w.heap.size w wr

set_option maxRecDepth 100000 in
set_option maxHeartbeats 2000000 in
theorem specTermMake (nm : ByteArray) (xs : List ByteArray) (B : Nat) (v : Value) (w : World) (hown : w.ownsRow B 9 1 v xs.length (strCells xs)) (hn : nm.size ≤ 1048576) (hx : xs.length ≤ 1048576) (hxs : ∀ x ∈ xs, x.size ≤ 1048576) :
    Calls Tryz.prog 32 #[.string nm, v] w fun e w' => MakeAns nm xs e ∧ Below w.heap.size w w' := by
  obtain ⟨av, cv, rfl⟩ := owns_shape hown
  have HO := Lib.hid hown
  have HXS := Lib.hid hxs
  clear hown hxs
  cases hbn : bigName (lst nm)
  · have HB := Lib.hid (make_bad (nm := nm) (xs := xs) (fun h => by have := h.1; rw [hbn] at this; cases this))
    go_enter Tryz.func32, Tryz.ntmps32
    go_wp2_with fail
    refine (l01Name_any nm (by omega) _).mono ?_
    rintro e w' ⟨rfl, rfl⟩
    rw [hbn]
    go_wp2
    go_ret2
    exact ⟨HB.out, Below.refl _ _⟩
  · by_cases hx2 : xs.length ≤ 200
    · have hgt : decide ((200 : Int) < (xs.length : Int)) = false := decide_eq_false (by omega)
      have hgt' : decide (200 < xs.length) = false := decide_eq_false (by omega)
      go_enter Tryz.func32, Tryz.ntmps32
      go_wp2_with fail
      refine (l01Name_any nm (by omega) _).mono ?_
      rintro e w' ⟨rfl, rfl⟩
      rw [hbn]
      go_wp2
      go_loopw [6, 7] (fun v6 v7 wr => MakeRel w nm xs v6 v7 wr) (fun _ v7 _ => (xs.length - (intOf v7).toNat))
      case atStart => exact ⟨0, nm, rfl, rfl, Nat.zero_le _, by simp [partText], by omega, fun j h a => by omega, Below.refl _ _⟩
      case round =>
        obtain ⟨k, s, rfl, rfl, hk, hs, hsz, hall, hb⟩ := hrel
        have HALL := Lib.hid hall
        have HS := Lib.hid hs
        clear hall hs
        by_cases hlt : k < xs.length
        · have hown := row_kept HO.out hb
          obtain ⟨g, cap, hgv, hbg, hgl⟩ := hown.form (by omega)
          simp only [Value.slice.injEq, true_and] at hgv
          obtain ⟨rfl, rfl⟩ := hgv
          have hxc : wr.cell? ⟨g, k, none⟩ = some (.string xs[k]) := by
            rw [hown.cellAt k (by omega)]
            simp [strCells, hlt]
          have hxsz := HXS.out xs[k] (List.getElem_mem hlt)
          have hlx := lst_len xs[k]
          have Z0 := Lib.hid (fun (h : iKind (lst xs[k]) = 0) => make_bad (nm := nm) (xs := xs) (fun hm => hm.2.1 _ (List.mem_map.2 ⟨_, List.getElem_mem hlt, rfl⟩) h))
          have Z1 : ∀ (w3 : World) (c : ByteArray), lst c = (if k = 0 then [40] else [44]) → c.size = 1 → iKind (lst xs[k]) ≠ 0 → Below wr.heap.size wr w3 → MakeRel w nm xs (.string (s ++ c ++ xs[k])) (.int .i64 ((k : Int) + 1)) w3 := fun w3 c hc hc1 hz hb3 =>
            ⟨k + 1, _, by go_num, rfl, by omega, by
              have hzz : ∀ a b : ByteArray, lst (a ++ b) = lst a ++ lst b := fun a b => by simp [lst]
              rw [partText_step (by rw [List.length_map]; exact hlt), hzz, hzz, HS.out, hc, List.getElem_map], by
              have := kind_len hz
              rw [ByteArray.size_append, ByteArray.size_append, hc1]
              omega, fun j h a => by
              by_cases hj : j < k
              · exact HALL.out j h hj
              · obtain rfl : j = k := by omega
                exact hz, hb.trans (hb3.mono hb.size)⟩
          have HZ1 := Lib.hid Z1
          have hcell3 : ∀ w3 : World, Below wr.heap.size wr w3 → w3.cell? ⟨g, k, none⟩ = some (.string xs[k]) := fun w3 h => (h.cell hgl).trans hxc
          have HC3 := Lib.hid hcell3
          clear Z1 hown hcell3
          generalize xs[k] = x at *
          go_wp2_with fail
          refine (specTermKind x (by omega) _).mono ?_
          rintro e w3 ⟨rfl, hb3⟩
          have hxc3 := HC3.out w3 hb3
          by_cases hz : iKind (lst x) = 0
          · have HF := Lib.hid (Z0.out hz)
            have hbb := hb.trans (hb3.mono hb.size)
            rw [hz]
            clear hz Z0 HZ1 hb3 hb
            go_wp2
            go_ret2
            exact ⟨HF.out, hbb⟩
          · have hzb : (iKind (lst x) == 0) = false := beq_eq_false_iff_ne.2 hz
            by_cases h0 : k = 0
            · have HR := Lib.hid (HZ1.out w3 ⟨#[40]⟩ (by rw [if_pos h0]; rfl) rfl hz hb3)
              subst h0
              clear hz Z0 HZ1 hb3 hb
              generalize iKind (lst x) = y at *
              go_wp2
              go_roundw
              case rel => exact HR.out
              case measure => simp [intOf]; omega
            · have HR := Lib.hid (HZ1.out w3 ⟨#[44]⟩ (by rw [if_neg h0]; rfl) rfl hz hb3)
              have hk0 : ((k : Int) == 0) = false := beq_eq_false_iff_ne.2 (by omega)
              clear hz Z0 HZ1 hb3 hb
              generalize iKind (lst x) = y at *
              go_wp2
              go_roundw
              case rel => exact HR.out
              case measure => simp [intOf]; omega
        · obtain rfl : k = xs.length := by omega
          have hall2 : ∀ x ∈ xs.map lst, iKind x ≠ 0 := fun x hx => by
            obtain ⟨y, hy, rfl⟩ := List.mem_map.1 hx
            obtain ⟨j, hj, rfl⟩ := List.getElem_of_mem hy
            exact HALL.out j hj hj
          have HA2 := Lib.hid hall2
          have Z : ∀ (c : ByteArray), lst c = (if xs.length = 0 then [] else [41]) → lst (s ++ c) = conText (lst nm) (xs.map lst) := fun c hc => by
            have hzz : ∀ a b : ByteArray, lst (a ++ b) = lst a ++ lst b := fun a b => by simp [lst]
            rw [hzz, partText_all, HS.out, hc, List.length_map]
          have FIN : ∀ (c : ByteArray), lst c = conText (lst nm) (xs.map lst) → (iKind (lst c) = 3 ∧ MakeAns nm xs (.returned (.tuple #[.string c, .bool true]))) ∨ (iKind (lst c) = 0 ∧ MakeAns nm xs (.returned (.tuple #[.string ⟨#[]⟩, .bool false]))) := fun c hc => by
            have h1 := con_kind hbn HA2.out
            by_cases hl : (conText (lst nm) (xs.map lst)).length ≤ 200
            · left
              rw [if_pos hl] at h1
              exact ⟨by rw [hc, h1], make_good ⟨hbn, HA2.out, hl⟩ hc⟩
            · right
              rw [if_neg hl] at h1
              exact ⟨by rw [hc, h1], make_bad (fun h => hl h.2.2)⟩
          have HFIN := Lib.hid FIN
          have HZ := Lib.hid Z
          clear hall2 Z FIN
          by_cases h0 : xs.length = 0
          · have hs0 : lst s = conText (lst nm) (xs.map lst) := by
              have := HZ.out ⟨#[]⟩ (by rw [if_pos h0]; rfl)
              have hzz : ∀ a b : ByteArray, lst (a ++ b) = lst a ++ lst b := fun a b => by simp [lst]
              rw [hzz] at this
              rw [← this]
              exact (List.append_nil _).symm
            have HF := Lib.hid (HFIN.out s hs0)
            have hg0 : decide ((0 : Int) < (xs.length : Int)) = false := decide_eq_false (by omega)
            have hg0' : decide (0 < xs.length) = false := decide_eq_false (by omega)
            clear hs0
            go_wp2_with fail
            refine (specTermKind s (by omega) _).mono ?_
            rintro e w3 ⟨rfl, hb3⟩
            have hbb := hb.trans (hb3.mono hb.size)
            rcases HF.out with ⟨hk3, hans⟩ | ⟨hk3, hans⟩
            · rw [hk3]
              have HANS := Lib.hid hans
              clear hans hk3 hb hb3
              go_wp2
              go_ret2
              exact ⟨HANS.out, hbb⟩
            · rw [hk3]
              have HANS := Lib.hid hans
              clear hans hk3 hb hb3
              go_wp2
              go_ret2
              exact ⟨HANS.out, hbb⟩
          · have HF := Lib.hid (HFIN.out (s ++ ⟨#[41]⟩) (HZ.out ⟨#[41]⟩ (by rw [if_neg h0]; rfl)))
            have hg0 : decide ((0 : Int) < (xs.length : Int)) = true := decide_eq_true (by omega)
            have hg0' : decide (0 < xs.length) = true := decide_eq_true (by omega)
            have hcs : (s ++ ⟨#[41]⟩ : ByteArray).size ≤ 140737488351232 := by
              rw [ByteArray.size_append]
              show s.size + 1 ≤ _
              omega
            have HCS := Lib.hid hcs
            clear hcs
            go_wp2_with fail
            generalize hcc : (s ++ ⟨#[41]⟩ : ByteArray) = c at *
            refine (specTermKind c HCS.out _).mono ?_
            rintro e w3 ⟨rfl, hb3⟩
            have hbb := hb.trans (hb3.mono hb.size)
            clear hcc
            rcases HF.out with ⟨hk3, hans⟩ | ⟨hk3, hans⟩
            · rw [hk3]
              have HANS := Lib.hid hans
              clear hans hk3 hb hb3
              go_wp2
              go_ret2
              exact ⟨HANS.out, hbb⟩
            · rw [hk3]
              have HANS := Lib.hid hans
              clear hans hk3 hb hb3
              go_wp2
              go_ret2
              exact ⟨HANS.out, hbb⟩
    · have HB := Lib.hid (make_bad (nm := nm) (xs := xs) (fun h => by have := make_count h; rw [List.length_map] at this; omega))
      have hgt : decide ((200 : Int) < (xs.length : Int)) = true := decide_eq_true (by omega)
      have hgt' : decide (200 < xs.length) = true := decide_eq_true (by omega)
      go_enter Tryz.func32, Tryz.ntmps32
      go_wp2_with fail
      refine (l01Name_any nm (by omega) _).mono ?_
      rintro e w' ⟨rfl, rfl⟩
      rw [hbn]
      go_wp2
      go_ret2
      exact ⟨HB.out, Below.refl _ _⟩

end Go.Proofs.YtcohjmbbanjjeaaGreatDoor
