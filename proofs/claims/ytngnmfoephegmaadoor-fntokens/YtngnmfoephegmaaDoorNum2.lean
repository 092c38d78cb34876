/-
  PLAIN MATHEMATICS: a number is got from its numeral.
-/
import Derived.Test.YtngnmfoephegmaaDoorTm
namespace Go.Proofs.YtngnmfoephegmaaDoor
open Go

/-- The number that digits spell, behind acc. -/
def valFrom (acc : Nat) : List UInt8 → Nat
  | [] => acc
  | c :: r => valFrom (acc * 10 + (c.toNat - 48)) r

theorem valFrom_ge : ∀ (l : List UInt8) (acc : Nat), acc ≤ valFrom acc l
  | [], acc => Nat.le_refl _
  | c :: r, acc => Nat.le_trans (by omega) (valFrom_ge r (acc * 10 + (c.toNat - 48)))
theorem valFrom_snoc (l : List UInt8) (c : UInt8) : ∀ acc, valFrom acc (l ++ [c]) = valFrom acc l * 10 + (c.toNat - 48) := by
  induction l with
  | nil => intro acc; rfl
  | cons x r ih => intro acc; exact ih _
theorem parse_val : ∀ (l : List UInt8) (acc : Nat), (∀ c ∈ l, isDig c = true) → valFrom acc l < 1000000000000000000 → Lib.parseUint10 acc l = .ok (valFrom acc l)
  | [], acc, _, _ => rfl
  | c :: r, acc, hd, hv => by
    have hc := hd c (by simp)
    simp only [isDig, Bool.and_eq_true, decide_eq_true_eq] at hc
    have h1 := valFrom_ge r (acc * 10 + (c.toNat - 48))
    have hv' : valFrom (acc * 10 + (c.toNat - 48)) r < 1000000000000000000 := hv
    rw [Lib.parseUint10, if_pos hc, if_neg (by omega), if_neg (by omega)]
    exact parse_val r _ (fun x hx => hd x (by simp [hx])) hv'

theorem digit_toNat (k : Nat) (h : k < 10) : (UInt8.ofNat (48 + k)).toNat = 48 + k := by simp; omega
theorem dig_val (u : Nat) : valFrom 0 (dig u) = u := by
  induction u using Nat.strongRecOn with
  | ind u ih =>
    by_cases h : u = 0
    · subst h; rw [dig_zero]; rfl
    · rw [dig_pos (by omega), valFrom_snoc, ih (u / 10) (by omega), digit_toNat _ (by omega)]
      omega
theorem dig_isDig (u : Nat) : ∀ c ∈ dig u, isDig c = true := by
  induction u using Nat.strongRecOn with
  | ind u ih =>
    by_cases h : u = 0
    · subst h; rw [dig_zero]; simp
    · rw [dig_pos (by omega)]
      intro c hc
      rcases List.mem_append.1 hc with hc | hc
      · exact ih (u / 10) (by omega) c hc
      · obtain rfl : c = UInt8.ofNat (48 + u % 10) := by simpa using hc
        simp only [isDig, digit_toNat _ (Nat.mod_lt u (by omega : 0 < 10)), Bool.and_eq_true, decide_eq_true_eq]
        omega
theorem dig_ne_nil {u : Nat} (h : 1 ≤ u) : dig u ≠ [] := by rw [dig_pos h]; simp

theorem parseMag_digits {l : List UInt8} (h0 : l ≠ []) (hd : ∀ c ∈ l, isDig c = true) (hv : valFrom 0 l < 1000000000000000000) : Lib.parseMag l = .ok (valFrom 0 l) := by
  unfold Lib.parseMag
  rw [if_neg h0]
  exact parse_val l 0 hd hv

theorem atoiAll_itoa (n : Int) (h0 : -1000000 ≤ n) (h1 : n ≤ 1000000) : Lib.atoiAll (Lib.itoa n) = .ok n := by
  rcases (show n < 0 ∨ n = 0 ∨ 0 < n from by omega) with h | rfl | h
  · rw [itoa_dig_neg h]
    have hp := parseMag_digits (dig_ne_nil (u := n.natAbs) (by omega)) (dig_isDig _) (by rw [dig_val]; omega)
    rw [dig_val] at hp
    have e : (45 : UInt8).toNat = 45 := rfl
    simp only [Lib.atoiAll, e, hp, or_true, if_true, not_true, false_and, if_false, true_and]
    rw [if_neg (by omega)]
    congr 1
    omega
  · rw [itoa_zero]; rfl
  · rw [itoa_dig_pos h]
    have hp := parseMag_digits (dig_ne_nil (u := n.natAbs) (by omega)) (dig_isDig _) (by rw [dig_val]; omega)
    rw [dig_val] at hp
    cases hd : dig n.natAbs with
    | nil => exact absurd hd (dig_ne_nil (by omega))
    | cons c r =>
      have hc := dig_isDig n.natAbs c (by rw [hd]; simp)
      simp only [isDig, Bool.and_eq_true, decide_eq_true_eq] at hc
      rw [hd] at hp
      have n45 : ¬ c.toNat = 45 := by omega
      have n43 : ¬ (c.toNat = 43 ∨ c.toNat = 45) := by omega
      have hx : (if c.toNat = 43 ∨ c.toNat = 45 then r else c :: r) = c :: r := if_neg n43
      simp only [Lib.atoiAll]
      rw [hx, hp]
      simp only [n45, not_false_eq_true, true_and, false_and, if_false]
      rw [if_neg (by omega)]
      congr 1
      omega

/-- The number that a text is: by the numeral. -/
theorem numOf_iff {l : List UInt8} {n : Int} : numOf l = some n ↔ -1000000 ≤ n ∧ n ≤ 1000000 ∧ Lib.itoa n = l := by
  constructor
  · intro h
    have := numOf_some h
    exact ⟨this.1, this.2.1, this.2.2.1⟩
  · rintro ⟨h0, h1, rfl⟩
    rw [numOf_ok (atoiAll_itoa n h0 h1), if_pos ⟨h0, h1, rfl⟩]

/-- A text of digits, 1 to 7 of them: their number. -/
theorem itoa_shape {n : Int} (h0 : -1000000 ≤ n) (h1 : n ≤ 1000000) :
    ∃ ds : List UInt8, ds ≠ [] ∧ ds.length ≤ 7 ∧ (∀ c ∈ ds, isDig c = true) ∧ ((0 ≤ n ∧ Lib.itoa n = ds ∧ n = (valFrom 0 ds : Int)) ∨ (n < 0 ∧ Lib.itoa n = 45 :: ds ∧ n = -(valFrom 0 ds : Int))) := by
  rcases (show n < 0 ∨ n = 0 ∨ 0 < n from by omega) with h | rfl | h
  · exact ⟨dig n.natAbs, dig_ne_nil (by omega), dig_len 7 _ (by omega), dig_isDig _, .inr ⟨h, itoa_dig_neg h, by rw [dig_val]; omega⟩⟩
  · exact ⟨[48], by simp, by simp, by intro c hc; obtain rfl : c = 48 := by simpa using hc
                                      rfl, .inl ⟨by omega, itoa_zero, rfl⟩⟩
  · exact ⟨dig n.natAbs, dig_ne_nil (by omega), dig_len 7 _ (by omega), dig_isDig _, .inl ⟨by omega, itoa_dig_pos h, by rw [dig_val]; omega⟩⟩

end Go.Proofs.YtngnmfoephegmaaDoor
