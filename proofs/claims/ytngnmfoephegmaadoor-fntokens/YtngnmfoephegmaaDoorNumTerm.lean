/-
  THE WALKS: impl.isNumber, impl.NumTerm, spec.l01Between, spec.NumTerm; laws.FnExactNumTerm answers true.
-/
import Derived.Test.YtngnmfoephegmaaDoorNumLaw
namespace Go.Proofs.YtngnmfoephegmaaDoor
open Go Go.RowKit

/-- Within -MaxNum .. MaxNum. -/
def inNum (n : Int) : Bool := decide (-1000000 ≤ n) && decide (n ≤ 1000000)

theorem inNum_true {n : Int} (h : -1000000 ≤ n) (h' : n ≤ 1000000) : inNum n = true := by simp [inNum, h, h']
theorem inNum_lo {n : Int} (h : n < -1000000) : inNum n = false := by simp [inNum]; omega
theorem inNum_hi {n : Int} (h : 1000000 < n) : inNum n = false := by simp [inNum]; omega

/-- NumTerm: the text. -/
def numTerm (n : Int) : List UInt8 := if inNum n then Lib.itoa n else []

set_option maxHeartbeats 400000 in
theorem isNumber_any (n : Int) (w : World) : Calls Tryd.prog 64 #[.int .i64 n] w fun e w' => e = .returned (.bool (inNum n)) ∧ w = w' := by
  by_cases h1 : -1000000 ≤ n
  · by_cases h2 : n ≤ 1000000
    · rw [inNum_true h1 h2]
      go_enter Tryd.func64, Tryd.ntmps64
      go_wp2
      go_ret
      exact ⟨rfl, rfl⟩
    · rw [inNum_hi (by omega)]
      have h3 : decide (n ≤ 1000000) = false := by simpa using h2
      go_enter Tryd.func64, Tryd.ntmps64
      go_wp2
      go_ret
      exact ⟨rfl, rfl⟩
  · rw [inNum_lo (by omega)]
    have h3 : decide (-1000000 ≤ n) = false := by simpa using h1
    go_enter Tryd.func64, Tryd.ntmps64
    go_wp2
    go_ret
    exact ⟨rfl, rfl⟩

set_option maxHeartbeats 400000 in
theorem between_num (n : Int) (w : World) : Calls Tryd.prog 46 #[.int .i64 n, .int .i64 (-1000000), .int .i64 1000000] w fun e w' => e = .returned (.bool (inNum n)) ∧ w = w' := by
  by_cases h1 : -1000000 ≤ n
  · by_cases h2 : n ≤ 1000000
    · rw [inNum_true h1 h2]
      go_enter Tryd.func46, Tryd.ntmps46
      go_wp2
      go_ret
      exact ⟨rfl, rfl⟩
    · rw [inNum_hi (by omega)]
      have h3 : decide (n ≤ 1000000) = false := by simpa using h2
      go_enter Tryd.func46, Tryd.ntmps46
      go_wp2
      go_ret
      exact ⟨rfl, rfl⟩
  · rw [inNum_lo (by omega)]
    have h3 : decide (-1000000 ≤ n) = false := by simpa using h1
    go_enter Tryd.func46, Tryd.ntmps46
    go_wp2
    go_ret
    exact ⟨rfl, rfl⟩

end Go.Proofs.YtngnmfoephegmaaDoor
