/-
  THE WALKS over nameKind, signEnd.
-/
import Derived.Test.YtngnmfoephegmaaDoorSkips
namespace Go.Proofs.YtngnmfoephegmaaDoor
open Go Go.RowKit

set_option maxHeartbeats 400000 in
theorem nameKind_any (c : UInt8) (w : World) : Calls Tryd.prog 18 #[.int .u8 (c.toNat : Int)] w fun e w' => e = .returned (.int .i64 (if isBig c then 2 else 1)) ∧ w = w' := by
  have hc := c.toNat_lt
  cases hb : isBig c
  · rw [isBig_inB] at hb
    go_enter Tryd.func18, Tryd.ntmps18
    go_wp2_with (go_at_call 15; refine (isBigLetter_any c _).mono ?_; rintro e w' ⟨rfl, rfl⟩)
    go_ret
    exact ⟨rfl, rfl⟩
  · rw [isBig_inB] at hb
    go_enter Tryd.func18, Tryd.ntmps18
    go_wp2_with (go_at_call 15; refine (isBigLetter_any c _).mono ?_; rintro e w' ⟨rfl, rfl⟩)
    go_ret
    exact ⟨rfl, rfl⟩

/-- The signs of two bytes. -/
def twos : List (List UInt8) := [[58, 45], [33, 61], [60, 61]]

theorem two_pre (l : List UInt8) (c d : UInt8) (r : List UInt8) (hl : l = c :: d :: r) : isTwo c d = (twos[0].isPrefixOf l || twos[1].isPrefixOf l || twos[2].isPrefixOf l) := by
  subst hl
  have e : ∀ (k : UInt8) (c : UInt8), (k == c) = (c.toNat == k.toNat) := fun k c => by
    rw [Bool.eq_iff_iff]; simp only [beq_iff_eq]
    exact ⟨fun h => by rw [← h], fun h => UInt8.toNat_inj.1 h.symm⟩
  unfold isTwo twos
  simp [List.isPrefixOf, e]

theorem one_index (c : UInt8) : decide (0 ≤ Lib.indexByte [40, 41, 44, 46, 33, 61, 60, 43, 45, 42, 124, 95] c) = isOne c := by
  have : ∀ n : Nat, n < 256 → decide (0 ≤ Lib.indexByte [40, 41, 44, 46, 33, 61, 60, 43, 45, 42, 124, 95] (UInt8.ofNat n)) = isOne (UInt8.ofNat n) := by decide +kernel
  have h := this c.toNat c.toNat_lt
  rwa [UInt8.ofNat_toNat] at h

theorem sgn_two {l : List UInt8} {k : Nat} (hk : k < twos.length) (h : twos[k].isPrefixOf l = true) : sgn l = 2 := by
  match l, h with
  | [], h =>
    exfalso
    have : k = 0 ∨ k = 1 ∨ k = 2 := by simp [twos] at hk; omega
    rcases this with rfl | rfl | rfl <;> simp [twos, List.isPrefixOf] at h
  | [c], h =>
    exfalso
    have : twos[k].length ≤ 1 := by have := List.IsPrefix.length_le (List.isPrefixOf_iff_prefix.1 h); simpa using this
    revert this; revert h; revert hk; unfold twos
    intro hk h this
    have : k = 0 ∨ k = 1 ∨ k = 2 := by simp at hk; omega
    rcases this with rfl | rfl | rfl <;> simp at *
  | c :: d :: r, h =>
    have h2 : isTwo c d = true := by
      rw [two_pre _ c d r rfl]
      have : k = 0 ∨ k = 1 ∨ k = 2 := by simp [twos] at hk; omega
      rcases this with rfl | rfl | rfl <;> simp [h]
    show (if isTwo c d = true then 2 else if isOne c = true then 1 else 0) = 2
    rw [if_pos h2]

theorem sgn_rest {l : List UInt8} {c : UInt8} {r : List UInt8} (hl : l = c :: r) (h : ∀ k (hk : k < twos.length), twos[k].isPrefixOf l = false) : sgn l = if isOne c then 1 else 0 := by
  subst hl
  cases r with
  | nil => rfl
  | cons d r =>
    have h2 : isTwo c d = false := by
      rw [two_pre _ c d r rfl, h 0 (by decide), h 1 (by decide), h 2 (by decide)]; rfl
    show (if isTwo c d = true then 2 else if isOne c = true then 1 else 0) = _
    rw [if_neg (by rw [h2]; decide)]

/-- A sign of two bytes as a text. -/
def twoB (k : Nat) : ByteArray := ⟨(twos.getD k []).toArray⟩

def SgnRel (s : ByteArray) (p : Nat) (w : World) (v : Value) (wr : World) : Prop :=
  ∃ k : Nat, w = wr ∧ v = .int .i64 (k : Int) ∧ k ≤ 3 ∧ ∀ j (h : j < twos.length), j < k → twos[j].isPrefixOf ((lst s).drop p) = false

theorem lst_tail (s : ByteArray) (p : Nat) : lst (s.extract p s.size) = (lst s).drop p := by
  have hl := lst_len s
  rw [lst_extract, ← hl, List.take_of_length_le (by rw [List.length_drop]; omega)]

theorem hasTwo_any (s : ByteArray) (p k : Nat) (hk : k < twos.length) (w : World) : Calls Tryd.prog 40 #[.string (s.extract p s.size), .string (twoB k)] w fun e w' => e = .returned (.bool (twos[k].isPrefixOf ((lst s).drop p))) ∧ w = w' := by
  have h := hasPre_any (s.extract p s.size) (twoB k) w
  have e : lst (twoB k) = twos[k] := by
    unfold twoB lst
    simp [List.getD_eq_getElem?_getD, List.getElem?_eq_getElem hk]
  rwa [e, lst_tail] at h

theorem idx_any (c : UInt8) (w : World) : Calls Tryd.prog 45 #[.string ⟨#[40, 41, 44, 46, 33, 61, 60, 43, 45, 42, 124, 95]⟩, .int .u8 (c.toNat : Int)] w
    fun e w' => ∃ i : Int, e = .returned (.int .i64 i) ∧ decide (0 ≤ i) = isOne c ∧ w = w' := by
  refine (Tryd.strings_IndexByte ⟨#[40, 41, 44, 46, 33, 61, 60, 43, 45, 42, 124, 95]⟩ (c.toNat : Int) w).mono ?_
  rintro e w' ⟨he, hw⟩
  refine ⟨_, he, ?_, hw.symm⟩
  rw [Int.toNat_natCast]
  have : c.toNat.toUInt8 = c := by simp
  rw [this]
  exact one_index c

set_option maxRecDepth 100000 in
set_option maxHeartbeats 1000000 in
theorem signEnd_any (s : ByteArray) (hs : s.size ≤ 1048576) (p : Nat) (hp : p < s.size) (w : World) :
    Calls Tryd.prog 26 #[.string s, .int .i64 (p : Int)] w fun e w' => e = .returned (.int .i64 ((p + sgn ((lst s).drop p) : Nat) : Int)) ∧ Below w.heap.size w w' := by
  have hl := Lib.hid (lst_len s)
  go_enter Tryd.func26, Tryd.ntmps26
  go_wp2
  have hcell : ∀ k, k < 3 → (w.alloc (.cells #[.string ⟨#[58, 45]⟩, .string ⟨#[33, 61]⟩, .string ⟨#[60, 61]⟩] 9)).cell? ⟨w.heap.size, k, none⟩ = some (.string (twoB k)) := by
    intro k hk
    rw [cell_of_row _ _ _ _ _ _ (heap_alloc_new w _)]
    have : k = 0 ∨ k = 1 ∨ k = 2 := by omega
    rcases this with rfl | rfl | rfl <;> rfl
  have hB : Below w.heap.size w (w.alloc (.cells #[.string ⟨#[58, 45]⟩, .string ⟨#[33, 61]⟩, .string ⟨#[60, 61]⟩] 9)) := (Below.refl _ _).alloc (Nat.le_refl _) _
  generalize w.alloc (.cells #[.string ⟨#[58, 45]⟩, .string ⟨#[33, 61]⟩, .string ⟨#[60, 61]⟩] 9) = W at *
  have HCELL := Lib.hid hcell
  clear hcell
  go_loopw [9] (fun v wr => SgnRel s p W v wr) (fun v _ => (3 - (intOf v).toNat))
  case atStart => exact ⟨0, rfl, rfl, by omega, fun j h a => by omega⟩
  case round =>
    obtain ⟨k, rfl, rfl, hk3, hno⟩ := hrel
    have HNO := Lib.hid hno
    clear hno
    by_cases hlt : k < 3
    · have hk : k < twos.length := hlt
      have c1 := HCELL.out k hlt
      have HP := Lib.hid (fun V => hasTwo_any s p k hk V)
      have HZ : Hid ((twoB k).size = 2) := Lib.hid (by
        have : k = 0 ∨ k = 1 ∨ k = 2 := by omega
        rcases this with rfl | rfl | rfl <;> rfl)
      have hzl : (twoB k).size ≤ 2 := by have := HZ.out; omega
      cases hpre : twos[k].isPrefixOf ((lst s).drop p) with
      | true =>
        have HS := Lib.hid (sgn_two hk hpre)
        rw [hpre] at HP
        clear hpre HNO
        generalize twoB k = tw at *
        go_wp2_with (go_at_call 40; refine (HP.out _).mono ?_; rintro e w' ⟨rfl, rfl⟩)
        go_ret
        rw [HS.out, HZ.out]
        exact ⟨by go_num, hB⟩
      | false =>
        have HN : Hid (∀ j (h : j < twos.length), j < k + 1 → twos[j].isPrefixOf ((lst s).drop p) = false) := Lib.hid (fun j h a => by
          by_cases hj : j < k
          · exact HNO.out j h hj
          · obtain rfl : j = k := by omega
            exact hpre)
        rw [hpre] at HP
        clear hpre HNO
        generalize twoB k = tw at *
        go_wp2_with (go_at_call 40; refine (HP.out _).mono ?_; rintro e w' ⟨rfl, rfl⟩)
        go_roundw
        case rel => exact ⟨k + 1, rfl, by go_num, by omega, HN.out⟩
        case measure => simp [intOf]; omega
    · obtain rfl : k = 3 := by omega
      have HS := Lib.hid (sgn_rest (l := (lst s).drop p) (List.drop_eq_getElem_cons (by rw [hl.out]; exact hp)) (fun j h => HNO.out j h h))
      have hone : (lst s)[p]'(by rw [hl.out]; exact hp) = s[p] := rfl
      rw [hone] at HS
      clear hone HNO
      have HI := Lib.hid (fun V => idx_any s[p] V)
      generalize isOne s[p] = o at *
      cases o with
      | true =>
        go_wp2_with (go_at_call 45; refine (HI.out _).mono ?_; rintro e w' ⟨i, rfl, hi, rfl⟩)
        go_ret
        rw [HS.out]
        exact ⟨by go_num, hB⟩
      | false =>
        go_wp2_with (go_at_call 45; refine (HI.out _).mono ?_; rintro e w' ⟨i, rfl, hi, rfl⟩)
        go_ret
        rw [HS.out]
        exact ⟨by go_num, hB⟩

end Go.Proofs.YtngnmfoephegmaaDoor
