/-
  THE WALKS over impl.TermMake and spec.TermMake.
-/
import Derived.Test.YtkhliflgflhheaaDoorParts
namespace Go.Proofs.YtkhliflgflhheaaDoor
open Go Go.RowKit Go.Maps Go.WideMaps

/-- TermMake. -/
def makeOk (nm : List UInt8) (xs : List (List UInt8)) : Prop := bigName nm = true ∧ (∀ x ∈ xs, iKind x ≠ 0) ∧ (conText nm xs).length ≤ 200

/-- What both answer. -/
def MakeAns (nm : ByteArray) (xs : List ByteArray) (e : Ending) : Prop :=
  ∃ (s : ByteArray) (ok : Bool), e = .returned (.tuple #[.string s, .bool ok]) ∧ (ok = true ↔ makeOk (lst nm) (xs.map lst)) ∧ lst s = if ok then conText (lst nm) (xs.map lst) else []

theorem make_bad {nm : ByteArray} {xs : List ByteArray} (h : ¬ makeOk (lst nm) (xs.map lst)) : MakeAns nm xs (.returned (.tuple #[.string ⟨#[]⟩, .bool false])) :=
  ⟨⟨#[]⟩, false, rfl, ⟨fun h => (by cases h), fun k => absurd k h⟩, rfl⟩
theorem make_good {nm s : ByteArray} {xs : List ByteArray} (h : makeOk (lst nm) (xs.map lst)) (hs : lst s = conText (lst nm) (xs.map lst)) : MakeAns nm xs (.returned (.tuple #[.string s, .bool true])) :=
  ⟨s, true, rfl, ⟨fun _ => h, fun _ => rfl⟩, hs⟩

def KindsGone (w : World) (xs : List ByteArray) (v : Value) (wr : World) : Prop :=
  ∃ k : Nat, v = .int .i64 (k : Int) ∧ k ≤ xs.length ∧ (∀ j (h : j < xs.length), j < k → iKind (lst xs[j]) ≠ 0) ∧ Below w.heap.size w wr

set_option maxRecDepth 100000 in
set_option maxHeartbeats 1000000 in
theorem implTermMake (nm : ByteArray) (xs : List ByteArray) (B : Nat) (v : Value) (w : World) (hE : Env w.heap.size w) (hown : w.ownsRow B 9 1 v xs.length (strCells xs)) (hn : nm.size ≤ 1048576) (hx : xs.length ≤ 1048576) (hxs : ∀ x ∈ xs, x.size ≤ 1048576) (hj : (Lib.join (xs.map lst) [44]).length ≤ 5000000) :
    Calls Tryd.prog 14 #[.string nm, v] w fun e w' => MakeAns nm xs e ∧ Below w.heap.size w w' := by
  obtain ⟨av, cv, rfl⟩ := owns_shape hown
  have HO := Lib.hid hown
  have HE := Lib.hid hE
  have HXS := Lib.hid hxs
  have HJ := Lib.hid hj
  clear hown hE hxs hj
  cases hbn : bigName (lst nm)
  · have HB := Lib.hid (make_bad (nm := nm) (xs := xs) (fun h => by have := h.1; rw [hbn] at this; cases this))
    go_enter Tryd.func14, Tryd.ntmps14
    go_wp2_with fail
    refine (isBigName_any nm (by omega) _).mono ?_
    rintro e w' ⟨rfl, rfl⟩
    rw [hbn]
    go_wp2
    go_ret2
    exact ⟨HB.out, Below.refl _ _⟩
  · go_enter Tryd.func14, Tryd.ntmps14
    go_wp2_with fail
    refine (isBigName_any nm (by omega) _).mono ?_
    rintro e w' ⟨rfl, rfl⟩
    rw [hbn]
    go_wp2
    go_loopw [14] (fun v wr => KindsGone w xs v wr) (fun v _ => (xs.length - (intOf v).toNat))
    case atStart => exact ⟨0, rfl, Nat.zero_le _, fun j h a => by omega, Below.refl _ _⟩
    case round =>
      obtain ⟨k, rfl, hk, hall, hb⟩ := hrel
      have HALL := Lib.hid hall
      clear hall
      by_cases hlt : k < xs.length
      · have hown := row_kept HO.out hb
        obtain ⟨g, cap, hgv, hbg, hgl⟩ := hown.form (by omega)
        simp only [Value.slice.injEq, true_and] at hgv
        obtain ⟨rfl, rfl⟩ := hgv
        have hx : wr.cell? ⟨g, k, none⟩ = some (.string xs[k]) := by
          rw [hown.cellAt k (by omega)]
          simp [strCells, hlt]
        have hxsz := HXS.out xs[k] (List.getElem_mem hlt)
        have Z0 := Lib.hid (fun (h : iKind (lst xs[k]) = 0) => make_bad (nm := nm) (xs := xs) (fun hm => hm.2.1 _ (List.mem_map.2 ⟨_, List.getElem_mem hlt, rfl⟩) h))
        have Z1 : ∀ w3 : World, iKind (lst xs[k]) ≠ 0 → Below wr.heap.size wr w3 → KindsGone w xs (.int .i64 ((k : Int) + 1)) w3 := fun w3 hz hb3 =>
          ⟨k + 1, by go_num, by omega, fun j h a => by
            by_cases hj : j < k
            · exact HALL.out j h hj
            · obtain rfl : j = k := by omega
              exact hz, hb.trans (hb3.mono hb.size)⟩
        have HZ1 := Lib.hid Z1
        have HEr := Lib.hid (HE.out.stays hb).top
        clear Z1 hown
        generalize xs[k] = x at *
        go_wp2_with fail
        refine (implTermKind x (by omega) _ HEr.out).mono ?_
        rintro e w3 ⟨rfl, hb3⟩
        by_cases hz : iKind (lst x) = 0
        · have HF := Lib.hid (Z0.out hz)
          have hbb := hb.trans (hb3.mono hb.size)
          rw [hz]
          clear hz Z0 HZ1 hb3 hb
          go_wp2
          go_ret2
          exact ⟨HF.out, hbb⟩
        · have HR := Lib.hid (HZ1.out w3 hz hb3)
          have hzb : (iKind (lst x) == 0) = false := beq_eq_false_iff_ne.2 hz
          clear hz Z0 HZ1 hb3 hb
          generalize iKind (lst x) = y at *
          go_wp2
          go_roundw
          case rel => exact HR.out
          case measure => simp [intOf]; omega
      · have hlt2 : decide ((k : Int) < (xs.length : Int)) = false := decide_eq_false (by omega)
        have hall2 : ∀ x ∈ xs.map lst, iKind x ≠ 0 := fun x hx => by
          obtain ⟨y, hy, rfl⟩ := List.mem_map.1 hx
          obtain ⟨j, hj, rfl⟩ := List.getElem_of_mem hy
          exact HALL.out j hj (by omega)
        have HA2 := Lib.hid hall2
        have HC := Lib.hid (constructorText_any nm xs B _ wr (row_kept HO.out hb) (by omega) (by omega) HJ.out)
        clear hall2
        go_wp2_with fail
        refine HC.out.mono ?_
        rintro e w3 ⟨⟨s, rfl, hs⟩, hb3⟩
        have hls := lst_len s
        have hbb := hb.trans (hb3.mono hb.size)
        by_cases h200 : s.size ≤ 200
        · have HG := Lib.hid (make_good (nm := nm) (xs := xs) ⟨hbn, HA2.out, by rw [← hs]; omega⟩ hs)
          have hgt : decide ((200 : Int) < (s.size : Int)) = false := decide_eq_false (by omega)
          have hgt' : decide (200 < s.size) = false := decide_eq_false (by omega)
          clear hs hb3 HC hb
          go_wp2
          go_ret2
          exact ⟨HG.out, hbb⟩
        · have HF := Lib.hid (make_bad (nm := nm) (xs := xs) (fun hm => by have := hm.2.2; rw [← hs] at this; omega))
          have hgt : decide ((200 : Int) < (s.size : Int)) = true := decide_eq_true (by omega)
          have hgt' : decide (200 < s.size) = true := decide_eq_true (by omega)
          clear hs hb3 HC hb
          go_wp2
          go_ret2
          exact ⟨HF.out, hbb⟩

theorem terms_of : ∀ {xs : List (List UInt8)}, (∀ x ∈ xs, iKind x ≠ 0) → ∃ ts : List Tm, xs = ts.map Tm.text ∧ (∀ t ∈ ts, Wf t)
  | [], _ => ⟨[], rfl, fun t h => by cases h⟩
  | x :: xs, h => by
    obtain ⟨ts, h1, h2⟩ := terms_of (xs := xs) (fun y hy => h y (by simp [hy]))
    cases hr : rdAll x with
    | none => exact absurd (by unfold iKind; rw [hr]) (h x (by simp))
    | some t =>
      obtain ⟨hw, hx, _⟩ := rdAll_sound hr
      refine ⟨t :: ts, by rw [List.map_cons, hx, h1], fun u hu => ?_⟩
      rcases List.mem_cons.1 hu with rfl | hu
      · exact hw
      · exact h2 u hu
theorem kind_len {x : List UInt8} (h : iKind x ≠ 0) : x.length ≤ 200 := by
  cases hr : rdAll x with
  | none => exact absurd (by unfold iKind; rw [hr]) h
  | some t => exact (rdAll_sound hr).2.2
theorem make_count {nm : List UInt8} {xs : List (List UInt8)} (h : makeOk nm xs) : xs.length ≤ 200 := by
  obtain ⟨ts, rfl, hw⟩ := terms_of h.2.1
  have h1 := h.2.2
  rw [conText_text] at h1
  have := kids_count (Wf.con nm ts h.1 hw)
  rw [List.length_map]
  exact Nat.le_trans this h1
theorem con_kind {nm : List UInt8} {xs : List (List UInt8)} (hb : bigName nm = true) (ha : ∀ x ∈ xs, iKind x ≠ 0) : iKind (conText nm xs) = if (conText nm xs).length ≤ 200 then 3 else 0 := by
  obtain ⟨ts, rfl, hw⟩ := terms_of ha
  rw [conText_text]
  split
  · unfold iKind
    rw [rdAll_text (Wf.con nm ts hb hw) (by assumption)]
    rfl
  · unfold iKind rdAll
    rw [if_pos (by omega)]

theorem tail_snoc (sep : List UInt8) (r : List (List UInt8)) (x : List UInt8) : Lib.joinTail sep (r ++ [x]) = Lib.joinTail sep r ++ (sep ++ x) := by
  simp [Lib.joinTail]
theorem join_snoc (sep x : List UInt8) : ∀ (xs : List (List UInt8)), xs ≠ [] → Lib.join (xs ++ [x]) sep = Lib.join xs sep ++ (sep ++ x)
  | [], h => absurd rfl h
  | a :: r, _ => by rw [List.cons_append, Lib.join_cons, Lib.join_cons, tail_snoc, List.append_assoc]

/-- What the loop has written. -/
def partText (nm : List UInt8) (xs : List (List UInt8)) (k : Nat) : List UInt8 := nm ++ (if k = 0 then [] else 40 :: Lib.join (xs.take k) [44])
theorem partText_step {nm : List UInt8} {xs : List (List UInt8)} {k : Nat} (h : k < xs.length) : partText nm xs (k + 1) = partText nm xs k ++ (if k = 0 then [40] else [44]) ++ xs[k] := by
  unfold partText
  rw [if_neg (by omega), List.take_succ_eq_append_getElem h]
  by_cases hk : k = 0
  · subst hk
    simp [Lib.join_one]
  · rw [if_neg hk, if_neg hk, join_snoc _ _ _ (by
      intro e
      have := congrArg List.length e
      rw [List.length_take, List.length_nil] at this
      omega)]
    simp
theorem partText_all {nm : List UInt8} {xs : List (List UInt8)} : conText nm xs = partText nm xs xs.length ++ (if xs.length = 0 then [] else [41]) := by
  unfold partText conText
  cases xs with
  | nil => simp
  | cons a r => simp

def MakeRel (w : World) (nm : ByteArray) (xs : List ByteArray) (v6 v7 : Value) (wr : World) : Prop :=
  ∃ (k : Nat) (s : ByteArray), v7 = .int .i64 (k : Int) ∧ v6 = .string s ∧ k ≤ xs.length ∧ lst s = partText (lst nm) (xs.map lst) k ∧ s.size ≤ nm.size + 201 * k ∧ (∀ j (h : j < xs.length), j < k → iKind (lst xs[j]) ≠ 0) ∧ Below w.heap.size w wr

end Go.Proofs.YtkhliflgflhheaaDoor
