/-
  THE WALKS over slices.Index at texts, impl.nameValue, conValue, sumValue.
-/
import Derived.Test.YtcohjmbbanjjeaaGreatDoorPY1
namespace Go.Proofs.YtcohjmbbanjjeaaGreatDoor.Pr
open Go Go.RowKit Go.Maps Go.WideMaps

def IxRel (w : World) (xs : List ByteArray) (s : ByteArray) (v : Value) (wr : World) : Prop := ∃ k : Nat, Below w.heap.size w wr ∧ v = .int .i64 (k : Int) ∧ k ≤ xs.length ∧ ∀ j, j < k → xs[j]? ≠ some s

/-- The first place of a text; or none. -/
def IxAns (xs : List ByteArray) (s : ByteArray) (r : Int) : Prop := (r = -1 ∧ ∀ j : Nat, xs[j]? ≠ some s) ∨ ∃ k : Nat, r = (k : Int) ∧ xs[k]? = some s ∧ ∀ j : Nat, j < k → xs[j]? ≠ some s

set_option maxRecDepth 100000 in
set_option maxHeartbeats 2000000 in
theorem ix_any (xs : List ByteArray) (s : ByteArray) (a : Option Addr) (cap : Nat) (S : Nat → Prop) (w : World) (h : TxtsIn S w a xs) (hS : ∀ b, S b → b < w.heap.size) (hn : xs.length ≤ 1048576) :
    Calls Tryz.prog 71 #[.slice a xs.length cap, .string s] w fun e w' => (∃ r : Int, e = .returned (.int .i64 r) ∧ IxAns xs s r) ∧ Below w.heap.size w w' := by
  have HX := Lib.hid h
  have HS := Lib.hid hS
  clear h hS
  go_enter Tryz.func71, Tryz.ntmps71
  go_wp2
  go_loopw [8] (fun v wr => IxRel w xs s v wr) (fun v _ => (xs.length - (intOf v).toNat))
  case atStart => exact ⟨0, Below.refl _ _, rfl, Nat.zero_le _, fun j h => by omega⟩
  case round =>
    obtain ⟨k, hb, rfl, hk, hno⟩ := hrel
    by_cases hlt : k < xs.length
    · obtain ⟨b, off, rfl, hSb, hx⟩ := HX.out.kept (Same.below HS.out hb) k hlt
      have hgk : xs[k]? = some xs[k] := by simp [hlt]
      have HNO := Lib.hid hno
      have HGK := Lib.hid hgk
      have HB := Lib.hid hb
      clear hno hgk hb hSb
      by_cases he : xs[k] = s
      · have HA := Lib.hid (show IxAns xs s (k : Int) from .inr ⟨k, rfl, by rw [HGK.out, he], HNO.out⟩)
        have hee : (s.toList == xs[k].toList) = true := by rw [he]; simp
        clear he HGK
        generalize xs[k] = x at *
        go_wp2
        go_ret
        exact ⟨⟨_, rfl, HA.out⟩, HB.out⟩
      · have hee : (s.toList == xs[k].toList) = false := txt_ne (fun e => he e.symm)
        have HRR := Lib.hid (⟨k + 1, HB.out, by go_num, by omega, fun j hj => by
          by_cases hjk : j < k
          · exact HNO.out j hjk
          · obtain rfl : j = k := by omega
            rw [HGK.out]; simpa using he⟩ : IxRel w xs s (.int .i64 ((k : Int) + 1)) wr)
        clear he HNO HGK
        generalize xs[k] = x at *
        go_wp2
        go_roundw
        case rel => exact HRR.out
        case measure => simp [intOf]; omega
    · obtain rfl : k = xs.length := by omega
      have HA := Lib.hid (show IxAns xs s (-1) from .inl ⟨rfl, fun j h => by
        have hj : j < xs.length := (List.getElem?_eq_some_iff.1 h).1
        exact hno j hj h⟩)
      clear hno
      go_wp2
      go_ret
      exact ⟨⟨_, rfl, HA.out⟩, hb⟩

set_option maxRecDepth 100000 in
set_option maxHeartbeats 2000000 in
theorem nameValue_any (s : ByteArray) (names vals : List ByteArray) (a1 a2 : Option Addr) (c1 c2 : Nat) (S : Nat → Prop) (w : World) (h1 : TxtsIn S w a1 names) (h2 : TxtsIn S w a2 vals) (hS : ∀ b, S b → b < w.heap.size) (hn : names.length ≤ 1048576) (hv : vals.length ≤ 1048576) :
    Calls Tryz.prog 53 #[.string s, .slice a1 names.length c1, .slice a2 vals.length c2] w (ValPost (nameV names vals s) w) := by
  have HI := Lib.hid (ix_any names s a1 c1 S w h1 hS hn)
  have H2 := Lib.hid h2
  have HS := Lib.hid hS
  clear h1 h2 hS
  go_enter Tryz.func53, Tryz.ntmps53
  go_wp2_with fail
  refine HI.out.mono ?_
  rintro e w1 ⟨⟨r, rfl, hr⟩, hb1⟩
  clear HI
  rcases hr with ⟨rfl, hno⟩ | ⟨k, rfl, hk, hmin⟩
  · have HP := Lib.hid (show ValPost (nameV names vals s) w (.returned (.tuple #[.string ⟨#[]⟩, .int .i64 1])) w1 from ⟨by unfold nameV; rw [lookV_none fun k _ => hno k], hb1⟩)
    clear hno hb1 H2 HS
    go_wp2
    go_ret2
    exact HP.out
  · have hkn : k < names.length := (List.getElem?_eq_some_iff.1 hk).1
    by_cases hkv : k < vals.length
    · obtain ⟨b, off, rfl, hSb, hx⟩ := H2.out.kept (Same.below HS.out hb1) k hkv
      have HP := Lib.hid (show ValPost (nameV names vals s) w (.returned (.tuple #[.string vals[k], .int .i64 0])) w1 from ⟨by unfold nameV; rw [lookV_some hk hmin, List.getElem?_eq_getElem hkv], hb1⟩)
      have hd0 : decide ((k : Int) < 0) = false := decide_eq_false (by omega)
      have hd1 : decide ((vals.length : Int) ≤ (k : Int)) = false := decide_eq_false (by omega)
      clear hk hmin hb1 H2 HS hSb
      generalize vals[k] = x at *
      go_wp2
      go_ret2
      exact HP.out
    · have HP := Lib.hid (show ValPost (nameV names vals s) w (.returned (.tuple #[.string ⟨#[]⟩, .int .i64 1])) w1 from ⟨by unfold nameV; rw [lookV_some hk hmin, List.getElem?_eq_none (by omega)], hb1⟩)
      have hd0 : decide ((k : Int) < 0) = false := decide_eq_false (by omega)
      have hd1 : decide ((vals.length : Int) ≤ (k : Int)) = true := decide_eq_true (by omega)
      clear hk hmin hb1 H2 HS
      go_wp2
      go_ret2
      exact HP.out

theorem conV_ok {s m : ByteArray} {kids : List ByteArray} (h : makeOk (bts s) (kids.map bts)) (hm : bts m = conText (bts s) (kids.map bts)) : conV s kids = (m, 0) := by
  unfold conV
  rw [if_pos h, ← hm]
  show ((⟨m.data.toList.toArray⟩ : ByteArray), (0 : Int)) = _
  rw [Array.toArray_toList]
theorem conV_no {s : ByteArray} {kids : List ByteArray} (h : ¬ makeOk (bts s) (kids.map bts)) : conV s kids = (⟨#[]⟩, 2) := if_neg h

set_option maxRecDepth 100000 in
set_option maxHeartbeats 2000000 in
theorem conValue_any (s : ByteArray) (kids : List ByteArray) (B : Nat) (v : Value) (w : World) (hE : Env w.heap.size w) (hown : w.ownsRow B 9 1 v kids.length (txtCells kids)) (hs : s.size ≤ 1048576) (hk : kids.length ≤ 60) (hx : ∀ x ∈ kids, x.size ≤ 1048576) :
    Calls Tryz.prog 54 #[.string s, v] w (ValPost (conV s kids) w) := by
  have HM := Lib.hid (implTermMake s kids B v w hE hown hs (by omega) hx (fun h => by
    have h1 := join_len200 (kids.map bts) fun y hy => by
      obtain ⟨x, hx, rfl⟩ := List.mem_map.1 hy
      exact kind_len (h x hx)
    rw [List.length_map] at h1
    have h2 : (Lib.join (kids.map Go.Proofs.YtcohjmbbanjjeaaGreatDoor.lst) [44]).length ≤ 201 * kids.length := h1
    omega))
  obtain ⟨av, cv, rfl⟩ := owns_shape hown
  clear hE hown hx hs
  go_enter Tryz.func54, Tryz.ntmps54
  go_wp2_with fail
  refine HM.out.mono ?_
  rintro e w1 ⟨⟨m, ok, rfl, hok, hm⟩, hb1⟩
  cases ok with
  | true =>
    have HP := Lib.hid (show ValPost (conV s kids) w (.returned (.tuple #[.string m, .int .i64 0])) w1 from ⟨by rw [conV_ok (hok.1 rfl) hm], hb1⟩)
    clear hok hm hb1 HM
    go_wp2
    go_ret2
    exact HP.out
  | false =>
    have HP := Lib.hid (show ValPost (conV s kids) w (.returned (.tuple #[.string ⟨#[]⟩, .int .i64 2])) w1 from ⟨by rw [conV_no fun h => by have := hok.2 h; cases this], hb1⟩)
    clear hok hm hb1 HM
    go_wp2
    go_ret2
    exact HP.out

theorem sumV_no {k : Int} {a b : ByteArray} (h : numOf (bts a) = none ∨ numOf (bts b) = none) : sumV k a b = (⟨#[]⟩, 1) := by
  unfold sumV
  rcases h with h | h
  · rw [h]
  · rw [h]; cases numOf (bts a) <;> rfl
theorem sumV_ok {k x y : Int} {a b : ByteArray} (h1 : numOf (bts a) = some x) (h2 : numOf (bts b) = some y) (h : inNum (sumI k x y) = true) : sumV k a b = (⟨(Lib.itoa (sumI k x y)).toArray⟩, 0) := by
  unfold sumV
  rw [h1, h2]
  exact if_pos h
theorem sumV_over {k x y : Int} {a b : ByteArray} (h1 : numOf (bts a) = some x) (h2 : numOf (bts b) = some y) (h : inNum (sumI k x y) = false) : sumV k a b = (⟨#[]⟩, 2) := by
  unfold sumV
  rw [h1, h2]
  exact if_neg (by rw [h]; simp)
theorem sumI_bound {k x y : Int} {l r : List UInt8} (h1 : numOf l = some x) (h2 : numOf r = some y) : -1000000000000 ≤ sumI k x y ∧ sumI k x y ≤ 1000000000000 := by
  obtain ⟨a1, a2, _⟩ := numOf_iff.1 h1
  obtain ⟨b1, b2, _⟩ := numOf_iff.1 h2
  have hm : -1000000000000 ≤ x * y ∧ x * y ≤ 1000000000000 := by
    have := Int.natAbs_mul x y
    have hx : x.natAbs ≤ 1000000 := by omega
    have hy : y.natAbs ≤ 1000000 := by omega
    have := Nat.mul_le_mul hx hy
    omega
  unfold sumI
  split
  · omega
  · split
    · exact hm
    · omega

theorem itoa_full {n : Int} (h : inNum n = true) : (⟨(Lib.itoa n).toArray⟩ : ByteArray).toList.isEmpty = false := by
  have h0 : -1000000 ≤ n ∧ n ≤ 1000000 := by simpa [inNum] using h
  obtain ⟨c, r, e, _⟩ := (rdNum_itoa (numOf_iff.2 ⟨h0.1, h0.2, rfl⟩)).2.2
  rw [ByteArray.toList_eq, e]
  rfl

set_option maxRecDepth 100000 in
set_option maxHeartbeats 2000000 in
theorem sumValue_any (k : Int) (a b : ByteArray) (w : World) (hE : Env w.heap.size w) (ha : a.size ≤ 1048576) (hb : b.size ≤ 1048576) :
    Calls Tryz.prog 55 #[.int .i64 k, .string a, .string b] w (ValPost (sumV k a b) w) := by
  have HA := Lib.hid (implTermNum a (by omega) w hE)
  go_enter Tryz.func55, Tryz.ntmps55
  go_wp2_with fail
  refine HA.out.mono ?_
  rintro e w1 ⟨rfl, hb1⟩
  have HB := Lib.hid (implTermNum b (by omega) w1 (hE.stays hb1).top)
  have HE := Lib.hid hE
  clear HA hE
  cases hx : numOf (bts a) with
  | none =>
    rw [numAns_none hx]
    have HN := Lib.hid (sumV_no (k := k) (a := a) (b := b) (.inl hx))
    clear hx
    go_wp2_with fail
    refine HB.out.mono ?_
    rintro e w2 ⟨rfl, hb2⟩
    obtain ⟨y, ok, hans⟩ : ∃ (n : Int) (ok : Bool), numAns (Go.Proofs.YtcohjmbbanjjeaaGreatDoor.lst b) = .returned (.tuple #[.int .i64 n, .bool ok]) := by
      unfold numAns
      split
      · exact ⟨_, _, rfl⟩
      · exact ⟨_, _, rfl⟩
    rw [hans]
    have HBB := Lib.hid (below_step hb1 hb2)
    clear hans HB hb1 hb2
    go_wp2
    go_ret2
    exact ⟨by rw [HN.out]; rfl, HBB.out⟩
  | some x =>
    rw [numAns_some hx]
    have HX := Lib.hid hx
    clear hx
    go_wp2_with fail
    refine HB.out.mono ?_
    rintro e w2 ⟨rfl, hb2⟩
    have HBB := Lib.hid (below_step hb1 hb2)
    clear HB hb1 hb2
    cases hy : numOf (bts b) with
    | none =>
      rw [numAns_none hy]
      have HN := Lib.hid (sumV_no (k := k) (a := a) (b := b) (.inr hy))
      clear hy
      go_wp2
      go_ret2
      exact ⟨by rw [HN.out]; rfl, HBB.out⟩
    | some y =>
      rw [numAns_some hy]
      have HY := Lib.hid hy
      clear hy
      have hp := (HE.out.stays HBB.out).pow
      have hbd := sumI_bound (k := k) HX.out HY.out
      obtain ⟨x1, x2, _⟩ := numOf_iff.1 HX.out
      obtain ⟨y1, y2, _⟩ := numOf_iff.1 HY.out
      have HT := Lib.hid (implNumTerm (sumI k x y) (by omega) (by omega) w2 hp)
      have HFIN := Lib.hid (And.intro (fun w3 (h3 : Below w2.heap.size w2 w3) (hi : inNum (sumI k x y) = true) => (⟨by rw [sumV_ok HX.out HY.out hi], below_step HBB.out h3⟩ : ValPost (sumV k a b) w (.returned (.tuple #[.string ⟨(Lib.itoa (sumI k x y)).toArray⟩, .int .i64 0])) w3)) (fun w3 (h3 : Below w2.heap.size w2 w3) (hi : inNum (sumI k x y) = false) => (⟨by rw [sumV_over HX.out HY.out hi], below_step HBB.out h3⟩ : ValPost (sumV k a b) w (.returned (.tuple #[.string ⟨#[]⟩, .int .i64 2])) w3)))
      have HBD := Lib.hid hbd
      have hmul : -1000000000000 ≤ x * y ∧ x * y ≤ 1000000000000 := sumI_bound (k := 7) HX.out HY.out
      clear hp hbd HX HY HE
      rcases (show k = 6 ∨ k = 7 ∨ (k ≠ 6 ∧ k ≠ 7) by omega) with rfl | rfl | ⟨h6, h7⟩
      · have hs : sumI 6 x y = x - y := rfl
        rw [hs] at HT HBD HFIN
        clear hs
        go_wp2_with fail
        refine HT.out.mono ?_
        rintro e w3 ⟨rfl, hb3⟩
        cases hi : inNum (x - y) with
        | true =>
          have HP := Lib.hid (HFIN.out.1 w3 hb3 hi)
          have hz : (⟨(numTerm (x - y)).toArray⟩ : ByteArray) = ⟨(Lib.itoa (x - y)).toArray⟩ := by unfold numTerm; rw [hi]; rfl
          have hne := itoa_full hi
          rw [hz]
          generalize (⟨(Lib.itoa (x - y)).toArray⟩ : ByteArray) = A at *
          clear HT HFIN HBD hb3 hi hz
          go_wp2
          go_ret2
          exact HP.out
        | false =>
          have HP := Lib.hid (HFIN.out.2 w3 hb3 hi)
          have hz : (⟨(numTerm (x - y)).toArray⟩ : ByteArray) = ⟨#[]⟩ := by unfold numTerm; rw [hi]; rfl
          rw [hz]
          clear HT HFIN HBD hb3 hi hz
          go_wp2
          go_ret2
          exact HP.out
      · have hs : sumI 7 x y = x * y := rfl
        rw [hs] at HT HBD HFIN
        clear hs
        go_wp2_with fail
        refine HT.out.mono ?_
        rintro e w3 ⟨rfl, hb3⟩
        cases hi : inNum (x * y) with
        | true =>
          have HP := Lib.hid (HFIN.out.1 w3 hb3 hi)
          have hz : (⟨(numTerm (x * y)).toArray⟩ : ByteArray) = ⟨(Lib.itoa (x * y)).toArray⟩ := by unfold numTerm; rw [hi]; rfl
          have hne := itoa_full hi
          rw [hz]
          generalize (⟨(Lib.itoa (x * y)).toArray⟩ : ByteArray) = A at *
          clear HT HFIN HBD hb3 hi hz
          go_wp2
          go_ret2
          exact HP.out
        | false =>
          have HP := Lib.hid (HFIN.out.2 w3 hb3 hi)
          have hz : (⟨(numTerm (x * y)).toArray⟩ : ByteArray) = ⟨#[]⟩ := by unfold numTerm; rw [hi]; rfl
          rw [hz]
          clear HT HFIN HBD hb3 hi hz
          go_wp2
          go_ret2
          exact HP.out
      · have e6 : (k == 6) = false := by simpa using h6
        have e7 : (k == 7) = false := by simpa using h7
        have hs : sumI k x y = x + y := by unfold sumI; rw [if_neg h6, if_neg h7]
        rw [hs] at HT HBD HFIN
        clear hs
        go_wp2_with fail
        refine HT.out.mono ?_
        rintro e w3 ⟨rfl, hb3⟩
        cases hi : inNum (x + y) with
        | true =>
          have HP := Lib.hid (HFIN.out.1 w3 hb3 hi)
          have hz : (⟨(numTerm (x + y)).toArray⟩ : ByteArray) = ⟨(Lib.itoa (x + y)).toArray⟩ := by unfold numTerm; rw [hi]; rfl
          have hne := itoa_full hi
          rw [hz]
          generalize (⟨(Lib.itoa (x + y)).toArray⟩ : ByteArray) = A at *
          clear HT HFIN HBD hb3 hi hz
          go_wp2
          go_ret2
          exact HP.out
        | false =>
          have HP := Lib.hid (HFIN.out.2 w3 hb3 hi)
          have hz : (⟨(numTerm (x + y)).toArray⟩ : ByteArray) = ⟨#[]⟩ := by unfold numTerm; rw [hi]; rfl
          rw [hz]
          clear HT HFIN HBD hb3 hi hz
          go_wp2
          go_ret2
          exact HP.out

end Go.Proofs.YtcohjmbbanjjeaaGreatDoor.Pr
