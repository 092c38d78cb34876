/-
  THE WALKS over the predicates on bytes, of impl and of spec.
-/
import Derived.Test.YtngnmfoephegmaaDoorEnv
namespace Go.Proofs.YtngnmfoephegmaaDoor
open Go Go.RowKit

/-- In lo .. hi. -/
def inB (lo hi : Nat) (c : UInt8) : Bool := lo ≤ c.toNat && c.toNat ≤ hi
theorem inB_lo {lo hi : Nat} {c : UInt8} (h : c.toNat < lo) : inB lo hi c = false := by simp [inB]; omega
theorem inB_hi {lo hi : Nat} {c : UInt8} (h : hi < c.toNat) : inB lo hi c = false := by simp [inB]; omega
theorem inB_in {lo hi : Nat} {c : UInt8} (h : lo ≤ c.toNat) (h' : c.toNat ≤ hi) : inB lo hi c = true := by simp [inB]; omega
theorem isDig_inB : isDig = inB 48 57 := rfl
theorem isBig_inB : isBig = inB 65 90 := rfl
theorem isSml_inB : isSml = inB 97 122 := rfl

set_option maxHeartbeats 400000 in
theorem isDigit_any (c : UInt8) (w : World) : Calls Tryd.prog 17 #[.int .u8 (c.toNat : Int)] w fun e w' => e = .returned (.bool (inB 48 57 c)) ∧ w = w' := by
  have hc := c.toNat_lt
  by_cases h1 : 48 ≤ c.toNat
  · by_cases h2 : c.toNat ≤ 57
    · rw [inB_in h1 h2]
      generalize c.toNat = n at *
      have h3 : decide ((n : Int) ≤ 57) = true := by simp; omega
      go_enter Tryd.func17, Tryd.ntmps17
      go_wp2
      go_ret
      exact ⟨rfl, rfl⟩
    · rw [inB_hi (by omega)]
      generalize c.toNat = n at *
      have h3 : decide ((n : Int) ≤ 57) = false := by simp; omega
      go_enter Tryd.func17, Tryd.ntmps17
      go_wp2
      go_ret
      exact ⟨rfl, rfl⟩
  · rw [inB_lo (by omega)]
    generalize c.toNat = n at *
    have h3 : decide ((48 : Int) ≤ (n : Int)) = false := by simp; omega
    go_enter Tryd.func17, Tryd.ntmps17
    go_wp2
    go_ret
    exact ⟨rfl, rfl⟩

set_option maxHeartbeats 400000 in
theorem isBigLetter_any (c : UInt8) (w : World) : Calls Tryd.prog 15 #[.int .u8 (c.toNat : Int)] w fun e w' => e = .returned (.bool (inB 65 90 c)) ∧ w = w' := by
  have hc := c.toNat_lt
  by_cases h1 : 65 ≤ c.toNat
  · by_cases h2 : c.toNat ≤ 90
    · rw [inB_in h1 h2]
      generalize c.toNat = n at *
      have h3 : decide ((n : Int) ≤ 90) = true := by simp; omega
      go_enter Tryd.func15, Tryd.ntmps15
      go_wp2
      go_ret
      exact ⟨rfl, rfl⟩
    · rw [inB_hi (by omega)]
      generalize c.toNat = n at *
      have h3 : decide ((n : Int) ≤ 90) = false := by simp; omega
      go_enter Tryd.func15, Tryd.ntmps15
      go_wp2
      go_ret
      exact ⟨rfl, rfl⟩
  · rw [inB_lo (by omega)]
    generalize c.toNat = n at *
    have h3 : decide ((65 : Int) ≤ (n : Int)) = false := by simp; omega
    go_enter Tryd.func15, Tryd.ntmps15
    go_wp2
    go_ret
    exact ⟨rfl, rfl⟩

set_option maxHeartbeats 400000 in
theorem isSmallLetter_any (c : UInt8) (w : World) : Calls Tryd.prog 16 #[.int .u8 (c.toNat : Int)] w fun e w' => e = .returned (.bool (inB 97 122 c)) ∧ w = w' := by
  have hc := c.toNat_lt
  by_cases h1 : 97 ≤ c.toNat
  · by_cases h2 : c.toNat ≤ 122
    · rw [inB_in h1 h2]
      generalize c.toNat = n at *
      have h3 : decide ((n : Int) ≤ 122) = true := by simp; omega
      go_enter Tryd.func16, Tryd.ntmps16
      go_wp2
      go_ret
      exact ⟨rfl, rfl⟩
    · rw [inB_hi (by omega)]
      generalize c.toNat = n at *
      have h3 : decide ((n : Int) ≤ 122) = false := by simp; omega
      go_enter Tryd.func16, Tryd.ntmps16
      go_wp2
      go_ret
      exact ⟨rfl, rfl⟩
  · rw [inB_lo (by omega)]
    generalize c.toNat = n at *
    have h3 : decide ((97 : Int) ≤ (n : Int)) = false := by simp; omega
    go_enter Tryd.func16, Tryd.ntmps16
    go_wp2
    go_ret
    exact ⟨rfl, rfl⟩

set_option maxHeartbeats 400000 in
theorem l01Digit_any (c : UInt8) (w : World) : Calls Tryd.prog 31 #[.int .u8 (c.toNat : Int)] w fun e w' => e = .returned (.bool (inB 48 57 c)) ∧ w = w' := by
  have hc := c.toNat_lt
  by_cases h1 : 48 ≤ c.toNat
  · by_cases h2 : c.toNat ≤ 57
    · rw [inB_in h1 h2]
      generalize c.toNat = n at *
      have h3 : decide ((n : Int) ≤ 57) = true := by simp; omega
      go_enter Tryd.func31, Tryd.ntmps31
      go_wp2
      go_ret
      exact ⟨rfl, rfl⟩
    · rw [inB_hi (by omega)]
      generalize c.toNat = n at *
      have h3 : decide ((n : Int) ≤ 57) = false := by simp; omega
      go_enter Tryd.func31, Tryd.ntmps31
      go_wp2
      go_ret
      exact ⟨rfl, rfl⟩
  · rw [inB_lo (by omega)]
    generalize c.toNat = n at *
    have h3 : decide ((48 : Int) ≤ (n : Int)) = false := by simp; omega
    go_enter Tryd.func31, Tryd.ntmps31
    go_wp2
    go_ret
    exact ⟨rfl, rfl⟩

set_option maxHeartbeats 400000 in
theorem l01Big_any (c : UInt8) (w : World) : Calls Tryd.prog 29 #[.int .u8 (c.toNat : Int)] w fun e w' => e = .returned (.bool (inB 65 90 c)) ∧ w = w' := by
  have hc := c.toNat_lt
  by_cases h1 : 65 ≤ c.toNat
  · by_cases h2 : c.toNat ≤ 90
    · rw [inB_in h1 h2]
      generalize c.toNat = n at *
      have h3 : decide ((n : Int) ≤ 90) = true := by simp; omega
      go_enter Tryd.func29, Tryd.ntmps29
      go_wp2
      go_ret
      exact ⟨rfl, rfl⟩
    · rw [inB_hi (by omega)]
      generalize c.toNat = n at *
      have h3 : decide ((n : Int) ≤ 90) = false := by simp; omega
      go_enter Tryd.func29, Tryd.ntmps29
      go_wp2
      go_ret
      exact ⟨rfl, rfl⟩
  · rw [inB_lo (by omega)]
    generalize c.toNat = n at *
    have h3 : decide ((65 : Int) ≤ (n : Int)) = false := by simp; omega
    go_enter Tryd.func29, Tryd.ntmps29
    go_wp2
    go_ret
    exact ⟨rfl, rfl⟩

set_option maxHeartbeats 400000 in
theorem l01Small_any (c : UInt8) (w : World) : Calls Tryd.prog 28 #[.int .u8 (c.toNat : Int)] w fun e w' => e = .returned (.bool (inB 97 122 c)) ∧ w = w' := by
  have hc := c.toNat_lt
  by_cases h1 : 97 ≤ c.toNat
  · by_cases h2 : c.toNat ≤ 122
    · rw [inB_in h1 h2]
      generalize c.toNat = n at *
      have h3 : decide ((n : Int) ≤ 122) = true := by simp; omega
      go_enter Tryd.func28, Tryd.ntmps28
      go_wp2
      go_ret
      exact ⟨rfl, rfl⟩
    · rw [inB_hi (by omega)]
      generalize c.toNat = n at *
      have h3 : decide ((n : Int) ≤ 122) = false := by simp; omega
      go_enter Tryd.func28, Tryd.ntmps28
      go_wp2
      go_ret
      exact ⟨rfl, rfl⟩
  · rw [inB_lo (by omega)]
    generalize c.toNat = n at *
    have h3 : decide ((97 : Int) ≤ (n : Int)) = false := by simp; omega
    go_enter Tryd.func28, Tryd.ntmps28
    go_wp2
    go_ret
    exact ⟨rfl, rfl⟩

set_option maxHeartbeats 400000 in
theorem isNameByte_any (c : UInt8) (w : World) : Calls Tryd.prog 41 #[.int .u8 (c.toNat : Int)] w fun e w' => e = .returned (.bool (isNam c)) ∧ w = w' := by
  have hN : isNam c = (inB 65 90 c || inB 97 122 c || inB 48 57 c || c.toNat == 95) := rfl
  rw [hN]
  clear hN
  have hc := c.toNat_lt
  by_cases h1 : inB 65 90 c = true
  · rw [show (inB 65 90 c || inB 97 122 c || inB 48 57 c || c.toNat == 95) = true from by simp [h1]]
    go_enter Tryd.func41, Tryd.ntmps41
    go_wp2_with fail
    refine (isBigLetter_any c _).mono ?_
    rintro e w' ⟨rfl, rfl⟩
    go_wp2
    go_ret
    exact ⟨rfl, rfl⟩
  have h1 : inB 65 90 c = false := by simpa using h1
  by_cases h2 : inB 97 122 c = true
  · rw [show (inB 65 90 c || inB 97 122 c || inB 48 57 c || c.toNat == 95) = true from by simp [h2]]
    go_enter Tryd.func41, Tryd.ntmps41
    go_wp2_with fail
    refine (isBigLetter_any c _).mono ?_
    rintro e w' ⟨rfl, rfl⟩
    go_wp2_with fail
    refine (isSmallLetter_any c _).mono ?_
    rintro e w' ⟨rfl, rfl⟩
    go_wp2
    go_ret
    exact ⟨rfl, rfl⟩
  have h2 : inB 97 122 c = false := by simpa using h2
  by_cases h3 : inB 48 57 c = true
  · rw [show (inB 65 90 c || inB 97 122 c || inB 48 57 c || c.toNat == 95) = true from by simp [h3]]
    go_enter Tryd.func41, Tryd.ntmps41
    go_wp2_with fail
    refine (isBigLetter_any c _).mono ?_
    rintro e w' ⟨rfl, rfl⟩
    go_wp2_with fail
    refine (isSmallLetter_any c _).mono ?_
    rintro e w' ⟨rfl, rfl⟩
    go_wp2_with fail
    refine (isDigit_any c _).mono ?_
    rintro e w' ⟨rfl, rfl⟩
    go_wp2
    go_ret
    exact ⟨rfl, rfl⟩
  have h3 : inB 48 57 c = false := by simpa using h3
  have hE : ((c.toNat : Int) == 95) = (c.toNat == 95) := by
    rw [Bool.eq_iff_iff]; simp; omega
  rw [show (inB 65 90 c || inB 97 122 c || inB 48 57 c || c.toNat == 95) = ((c.toNat : Int) == 95) from by simp [h1, h2, h3, hE]]
  have HE := Lib.hid hE
  clear hE
  · go_enter Tryd.func41, Tryd.ntmps41
    go_wp2_with fail
    refine (isBigLetter_any c _).mono ?_
    rintro e w' ⟨rfl, rfl⟩
    go_wp2_with fail
    refine (isSmallLetter_any c _).mono ?_
    rintro e w' ⟨rfl, rfl⟩
    go_wp2_with fail
    refine (isDigit_any c _).mono ?_
    rintro e w' ⟨rfl, rfl⟩
    go_wp2
    go_ret
    exact ⟨rfl, rfl⟩

set_option maxHeartbeats 400000 in
theorem l01Letter_any (c : UInt8) (w : World) : Calls Tryd.prog 30 #[.int .u8 (c.toNat : Int)] w fun e w' => e = .returned (.bool (isNam c)) ∧ w = w' := by
  have hN : isNam c = (inB 65 90 c || inB 97 122 c || inB 48 57 c || c.toNat == 95) := rfl
  rw [hN]
  clear hN
  have hc := c.toNat_lt
  by_cases h1 : inB 97 122 c = true
  · rw [show (inB 65 90 c || inB 97 122 c || inB 48 57 c || c.toNat == 95) = true from by simp [h1]]
    go_enter Tryd.func30, Tryd.ntmps30
    go_wp2_with fail
    refine (l01Small_any c _).mono ?_
    rintro e w' ⟨rfl, rfl⟩
    go_wp2
    go_ret
    exact ⟨rfl, rfl⟩
  have h1 : inB 97 122 c = false := by simpa using h1
  by_cases h2 : inB 65 90 c = true
  · rw [show (inB 65 90 c || inB 97 122 c || inB 48 57 c || c.toNat == 95) = true from by simp [h2]]
    go_enter Tryd.func30, Tryd.ntmps30
    go_wp2_with fail
    refine (l01Small_any c _).mono ?_
    rintro e w' ⟨rfl, rfl⟩
    go_wp2_with fail
    refine (l01Big_any c _).mono ?_
    rintro e w' ⟨rfl, rfl⟩
    go_wp2
    go_ret
    exact ⟨rfl, rfl⟩
  have h2 : inB 65 90 c = false := by simpa using h2
  by_cases h3 : inB 48 57 c = true
  · rw [show (inB 65 90 c || inB 97 122 c || inB 48 57 c || c.toNat == 95) = true from by simp [h3]]
    go_enter Tryd.func30, Tryd.ntmps30
    go_wp2_with fail
    refine (l01Small_any c _).mono ?_
    rintro e w' ⟨rfl, rfl⟩
    go_wp2_with fail
    refine (l01Big_any c _).mono ?_
    rintro e w' ⟨rfl, rfl⟩
    go_wp2_with fail
    refine (l01Digit_any c _).mono ?_
    rintro e w' ⟨rfl, rfl⟩
    go_wp2
    go_ret
    exact ⟨rfl, rfl⟩
  have h3 : inB 48 57 c = false := by simpa using h3
  have hE : ((c.toNat : Int) == 95) = (c.toNat == 95) := by
    rw [Bool.eq_iff_iff]; simp; omega
  rw [show (inB 65 90 c || inB 97 122 c || inB 48 57 c || c.toNat == 95) = ((c.toNat : Int) == 95) from by simp [h1, h2, h3, hE]]
  have HE := Lib.hid hE
  clear hE
  · go_enter Tryd.func30, Tryd.ntmps30
    go_wp2_with fail
    refine (l01Small_any c _).mono ?_
    rintro e w' ⟨rfl, rfl⟩
    go_wp2_with fail
    refine (l01Big_any c _).mono ?_
    rintro e w' ⟨rfl, rfl⟩
    go_wp2_with fail
    refine (l01Digit_any c _).mono ?_
    rintro e w' ⟨rfl, rfl⟩
    go_wp2
    go_ret
    exact ⟨rfl, rfl⟩

set_option maxHeartbeats 400000 in
theorem isSymbolByte_any (c : UInt8) (w : World) : Calls Tryd.prog 58 #[.int .u8 (c.toNat : Int)] w fun e w' => e = .returned (.bool (isSyB c)) ∧ w = w' := by
  have hN : isSyB c = (decide (32 ≤ c.toNat) && decide (c.toNat ≤ 126) && c.toNat != 34 && c.toNat != 92) := rfl
  rw [hN]
  have hc := c.toNat_lt
  clear hN
  generalize c.toNat = n at *
  by_cases h1 : 32 ≤ n
  · have d1 : decide ((32 : Int) ≤ (n : Int)) = true := by simp; omega
    by_cases h2 : n ≤ 126
    · have d2 : decide ((n : Int) ≤ 126) = true := by simp; omega
      by_cases h3 : n = 34
      · subst h3
        go_enter Tryd.func58, Tryd.ntmps58
        go_wp2
        go_ret
        exact ⟨rfl, rfl⟩
      · have d3 : ((n : Int) != 34) = true := by rw [bne_iff_ne]; omega
        by_cases h4 : n = 92
        · subst h4
          go_enter Tryd.func58, Tryd.ntmps58
          go_wp2
          go_ret
          exact ⟨rfl, rfl⟩
        · have d4 : ((n : Int) != 92) = true := by rw [bne_iff_ne]; omega
          rw [show (decide (32 ≤ n) && decide (n ≤ 126) && n != 34 && n != 92) = true from by simp [h1, h2, h3, h4]]
          go_enter Tryd.func58, Tryd.ntmps58
          go_wp2
          go_ret
          exact ⟨rfl, rfl⟩
    · have d2 : decide ((n : Int) ≤ 126) = false := by simp; omega
      rw [show (decide (32 ≤ n) && decide (n ≤ 126) && n != 34 && n != 92) = false from by simp [h2]]
      go_enter Tryd.func58, Tryd.ntmps58
      go_wp2
      go_ret
      exact ⟨rfl, rfl⟩
  · have d1 : decide ((32 : Int) ≤ (n : Int)) = false := by simp; omega
    rw [show (decide (32 ≤ n) && decide (n ≤ 126) && n != 34 && n != 92) = false from by simp [h1]]
    go_enter Tryd.func58, Tryd.ntmps58
    go_wp2
    go_ret
    exact ⟨rfl, rfl⟩

end Go.Proofs.YtngnmfoephegmaaDoor
