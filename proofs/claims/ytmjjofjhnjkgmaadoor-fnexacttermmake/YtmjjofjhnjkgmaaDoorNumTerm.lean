/-
  THE WALKS: impl.isNumber, impl.NumTerm, spec.l01Between, spec.NumTerm; laws.FnExactNumTerm answers true.
-/
import Derived.Test.YtmjjofjhnjkgmaaDoorNumLaw
namespace Go.Proofs.YtmjjofjhnjkgmaaDoor
open Go Go.RowKit

/-- Within -MaxNum .. MaxNum. -/
def inNum (n : Int) : Bool := decide (-1000000 ≤ n) && decide (n ≤ 1000000)

theorem inNum_true {n : Int} (h : -1000000 ≤ n) (h' : n ≤ 1000000) : inNum n = true := by simp [inNum, h, h']
theorem inNum_lo {n : Int} (h : n < -1000000) : inNum n = false := by simp [inNum]; omega
theorem inNum_hi {n : Int} (h : 1000000 < n) : inNum n = false := by simp [inNum]; omega

/-- NumTerm: the text. -/
def numTerm (n : Int) : List UInt8 := if inNum n then Lib.itoa n else []

set_option maxHeartbeats 400000 in
theorem isNumber_any (n : Int) (w : World) : Calls Tryd.prog 59 #[.int .i64 n] w fun e w' => e = .returned (.bool (inNum n)) ∧ w = w' := by
  by_cases h1 : -1000000 ≤ n
  · by_cases h2 : n ≤ 1000000
    · rw [inNum_true h1 h2]
      go_enter Tryd.func59, Tryd.ntmps59
      go_wp2
      go_ret
      exact ⟨rfl, rfl⟩
    · rw [inNum_hi (by omega)]
      have h3 : decide (n ≤ 1000000) = false := by simpa using h2
      go_enter Tryd.func59, Tryd.ntmps59
      go_wp2
      go_ret
      exact ⟨rfl, rfl⟩
  · rw [inNum_lo (by omega)]
    have h3 : decide (-1000000 ≤ n) = false := by simpa using h1
    go_enter Tryd.func59, Tryd.ntmps59
    go_wp2
    go_ret
    exact ⟨rfl, rfl⟩

set_option maxHeartbeats 400000 in
theorem between_num (n : Int) (w : World) : Calls Tryd.prog 48 #[.int .i64 n, .int .i64 (-1000000), .int .i64 1000000] w fun e w' => e = .returned (.bool (inNum n)) ∧ w = w' := by
  by_cases h1 : -1000000 ≤ n
  · by_cases h2 : n ≤ 1000000
    · rw [inNum_true h1 h2]
      go_enter Tryd.func48, Tryd.ntmps48
      go_wp2
      go_ret
      exact ⟨rfl, rfl⟩
    · rw [inNum_hi (by omega)]
      have h3 : decide (n ≤ 1000000) = false := by simpa using h2
      go_enter Tryd.func48, Tryd.ntmps48
      go_wp2
      go_ret
      exact ⟨rfl, rfl⟩
  · rw [inNum_lo (by omega)]
    have h3 : decide (-1000000 ≤ n) = false := by simpa using h1
    go_enter Tryd.func48, Tryd.ntmps48
    go_wp2
    go_ret
    exact ⟨rfl, rfl⟩

set_option maxHeartbeats 400000 in
theorem implNumTerm (n : Int) (h0 : -9223372036854775808 ≤ n) (h1 : n ≤ 9223372036854775807) (w : World) (hp : Pow w) :
    Calls Tryd.prog 27 #[.int .i64 n] w fun e w' => e = .returned (.string ⟨(numTerm n).toArray⟩) ∧ Below w.heap.size w w' := by
  have H0 := Lib.hid h0
  have H1 := Lib.hid h1
  clear h0 h1
  have hnt : numTerm n = if inNum n then Lib.itoa n else [] := rfl
  cases hb : inNum n
  · rw [hnt, hb]
    clear hnt
    go_enter Tryd.func27, Tryd.ntmps27
    go_wp2_with fail
    refine (isNumber_any n _).mono ?_
    rintro e w' ⟨rfl, rfl⟩
    go_wp2
    go_ret
    exact ⟨rfl, Below.refl _ _⟩
  · rw [hnt, hb]
    clear hnt
    go_enter Tryd.func27, Tryd.ntmps27
    go_wp2_with fail
    refine (isNumber_any n _).mono ?_
    rintro e w' ⟨rfl, rfl⟩
    go_wp2_with fail
    refine (implNumText n H0.out H1.out _ hp).mono ?_
    rintro e w2 ⟨rfl, hb2⟩
    go_wp2
    go_ret
    exact ⟨rfl, hb2⟩

set_option maxHeartbeats 400000 in
theorem specNumTerm (n : Int) (h0 : -9223372036854775808 ≤ n) (h1 : n ≤ 9223372036854775807) (w : World) :
    Calls Tryd.prog 38 #[.int .i64 n] w fun e w' => e = .returned (.string ⟨(numTerm n).toArray⟩) ∧ Below w.heap.size w w' := by
  have H0 := Lib.hid h0
  have H1 := Lib.hid h1
  clear h0 h1
  have hnt : numTerm n = if inNum n then Lib.itoa n else [] := rfl
  cases hb : inNum n
  · rw [hnt, hb]
    clear hnt
    go_enter Tryd.func38, Tryd.ntmps38
    go_wp2_with fail
    refine (between_num n _).mono ?_
    rintro e w' ⟨rfl, rfl⟩
    go_wp2
    go_ret
    exact ⟨rfl, Below.refl _ _⟩
  · rw [hnt, hb]
    clear hnt
    go_enter Tryd.func38, Tryd.ntmps38
    go_wp2_with fail
    refine (between_num n _).mono ?_
    rintro e w' ⟨rfl, rfl⟩
    go_wp2_with fail
    refine (specNumText n H0.out H1.out _).mono ?_
    rintro e w2 ⟨rfl, hb2⟩
    go_wp2
    go_ret
    exact ⟨rfl, hb2⟩

set_option maxHeartbeats 400000 in
theorem law_FnExactNumTerm (n : Int) (h0 : -9223372036854775808 ≤ n) (h1 : n ≤ 9223372036854775807) (w : World) (hp : Pow w) :
    Calls Tryd.prog 12 #[.int .i64 n] w fun e w' => e = .returned (.bool true) ∧ Below w.heap.size w w' := by
  have H0 := Lib.hid h0
  have H1 := Lib.hid h1
  clear h0 h1
  go_enter Tryd.func12, Tryd.ntmps12
  go_wp2_with fail
  refine (specNumTerm n H0.out H1.out _).mono ?_
  rintro e w1 ⟨rfl, hb1⟩
  have hp1 := hp.stays hb1 (Nat.le_refl _)
  go_wp2_with fail
  refine (implNumTerm n H0.out H1.out _ hp1).mono ?_
  rintro e w2 ⟨rfl, hb2⟩
  have hb := hb1.trans (hb2.mono hb1.size)
  clear hb1 hb2
  go_wp2
  go_ret
  exact ⟨rfl, hb⟩

end Go.Proofs.YtmjjofjhnjkgmaaDoor
