/-
  PLAIN MATHEMATICS OF DECIMAL DIGITS: nothing of the program. 'dig u': the digits of u, none for 0.
-/
import Derived.Lib.ItoaNum
namespace Go.Proofs.YtngnmfoephegmaaDoor
open Go

def dig (u : Nat) : List UInt8 := if _h : u = 0 then [] else dig (u / 10) ++ [UInt8.ofNat (48 + u % 10)]
termination_by u
decreasing_by omega

theorem dig_zero : dig 0 = [] := by rw [dig, dif_pos rfl]
theorem dig_pos {u : Nat} (h : 1 ≤ u) : dig u = dig (u / 10) ++ [UInt8.ofNat (48 + u % 10)] := by
  rw [dig, dif_neg (by omega)]

theorem dig_dec (u : Nat) (h : 1 ≤ u) : Lib.decDigits u = dig u := by
  induction u using Nat.strongRecOn with
  | ind u ih =>
    rw [Lib.decDigits, dig_pos h]
    by_cases hs : u < 10
    · rw [dif_pos hs, Nat.div_eq_of_lt hs, dig_zero, Nat.mod_eq_of_lt hs]; rfl
    · rw [dif_neg hs, ih (u / 10) (by omega) (by omega)]

theorem dig_len : ∀ (k u : Nat), u < 10 ^ k → (dig u).length ≤ k
  | 0, u, h => by
    have : u = 0 := by simpa using h
    subst this; rw [dig_zero]; simp
  | k + 1, u, h => by
    by_cases h0 : u = 0
    · subst h0; rw [dig_zero]; simp
    · rw [dig_pos (by omega)]
      have := dig_len k (u / 10) (by rw [Nat.pow_succ] at h; omega)
      simp; omega

theorem itoa_dig_pos {n : Int} (h : 0 < n) : Lib.itoa n = dig n.natAbs := by
  unfold Lib.itoa
  rw [if_neg (by omega), show n.toNat = n.natAbs from by omega, dig_dec _ (by omega)]
theorem itoa_dig_neg {n : Int} (h : n < 0) : Lib.itoa n = 45 :: dig n.natAbs := by
  unfold Lib.itoa
  rw [if_pos h, dig_dec _ (by omega)]
theorem itoa_zero : Lib.itoa 0 = [48] := by
  unfold Lib.itoa
  rw [if_neg (by omega), Lib.decDigits]; rfl

/-- A round of the loop: the last digit of u goes ahead of what is there. -/
theorem dig_round {u : Nat} {ds : List UInt8} {N : Nat} (h : 1 ≤ u) (hd : dig u ++ ds = dig N) :
    dig (u / 10) ++ (UInt8.ofNat (48 + u % 10) :: ds) = dig N := by
  rw [← hd, dig_pos h]; simp

end Go.Proofs.YtngnmfoephegmaaDoor
