/-
  A PIECE OF A SOURCE as a complex number: newSpan and its readers.
-/
import Derived.Test.YtngnmfoephegmaaDoorReadSym
import Derived.WalkLawsBesides
namespace Go.Proofs.YtngnmfoephegmaaDoor
open Go Go.RowKit

theorem f2i_all : ∀ q : Nat, q < 64 → ∀ r : Nat, r < 64 → floatToIntVal .f64 (floatOfInt .f64 ((64 * q + r : Nat) : Int)) .i64 = some ((64 * q + r : Nat) : Int) := by decide +kernel
theorem f2i (n : Nat) (h : n < 4096) : floatToIntVal .f64 (floatOfInt .f64 (n : Int)) .i64 = some (n : Int) := by
  have := f2i_all (n / 64) (by omega) (n % 64) (by omega)
  rwa [show 64 * (n / 64) + n % 64 = n from by omega] at this

/-- A number as a float. -/
def fl (n : Nat) : Nat := floatOfInt .f64 (n : Int)
/-- A place and a length. -/
def spanV (a n : Nat) : Value := .complex .f64 (fl a) (fl n)

theorem fl_int (n : Nat) (h : n < 4096) (P : Program) (w : World) (src dst : TypeId) (hs : (P.underlying src).isSome = true) (hd : P.underlying dst = some (.int .i64)) :
    (convert src dst (.float .f64 (fl n))).run P w = .ok (.int .i64 (n : Int)) w := run_convert_float_int w src dst .f64 .i64 (fl n) (n : Int) hs hd (f2i n h)

theorem under_f64 : Tryd.prog.underlying 55 = some (.float .f64) := by kernel_rfl
theorem under_f64s : (Tryd.prog.underlying 55).isSome = true := by kernel_rfl
theorem under_int : Tryd.prog.underlying 3 = some (.int .i64) := by kernel_rfl
theorem under_ints : (Tryd.prog.underlying 3).isSome = true := by kernel_rfl

set_option maxHeartbeats 400000 in
theorem newSpan_any (a e : Nat) (h : a ≤ e) (h2 : e < 4096) (w : World) :
    Calls Tryd.prog 19 #[.int .i64 (a : Int), .int .i64 (e : Int)] w fun x w' => x = .returned (spanV a (e - a)) ∧ w = w' := by
  have c1 : ∀ W : World, (convert 3 55 (.int .i64 (a : Int))).run Tryd.prog W = .ok (.float .f64 (fl a)) W := fun W => run_convert_int_float W _ _ .i64 .f64 _ under_ints under_f64
  have c2 : ∀ W : World, (convert 3 55 (.int .i64 ((e : Int) - (a : Int)))).run Tryd.prog W = .ok (.float .f64 (fl (e - a))) W := fun W => by
    have := run_convert_int_float (P := Tryd.prog) W 3 55 .i64 .f64 (((e - a : Nat) : Int)) under_ints under_f64
    rw [show ((e - a : Nat) : Int) = (e : Int) - (a : Int) from by omega] at this
    rw [this]
    unfold fl
    rw [show ((e - a : Nat) : Int) = (e : Int) - (a : Int) from by omega]
  go_enter Tryd.func19, Tryd.ntmps19
  go_wp2
  go_ret
  exact ⟨rfl, rfl⟩

set_option maxHeartbeats 400000 in
theorem spanAt_any (a n : Nat) (h : a < 4096) (w : World) :
    Calls Tryd.prog 44 #[spanV a n] w fun x w' => x = .returned (.int .i64 (a : Int)) ∧ w = w' := by
  have c1 : ∀ W : World, (convert 55 3 (.float .f64 (fl a))).run Tryd.prog W = .ok (.int .i64 (a : Int)) W := fun W => fl_int a h _ W _ _ under_f64s under_int
  unfold spanV
  go_enter Tryd.func44, Tryd.ntmps44
  go_wp2
  go_ret
  exact ⟨rfl, rfl⟩

set_option maxHeartbeats 400000 in
theorem spanLen_any (a n : Nat) (h : n < 4096) (w : World) :
    Calls Tryd.prog 21 #[spanV a n] w fun x w' => x = .returned (.int .i64 (n : Int)) ∧ w = w' := by
  have c1 : ∀ W : World, (convert 55 3 (.float .f64 (fl n))).run Tryd.prog W = .ok (.int .i64 (n : Int)) W := fun W => fl_int n h _ W _ _ under_f64s under_int
  unfold spanV
  go_enter Tryd.func21, Tryd.ntmps21
  go_wp2
  go_ret
  exact ⟨rfl, rfl⟩

set_option maxHeartbeats 400000 in
theorem spanEnd_any (a n : Nat) (h1 : a < 4096) (h : n < 4096) (w : World) :
    Calls Tryd.prog 27 #[spanV a n] w fun x w' => x = .returned (.int .i64 ((a + n : Nat) : Int)) ∧ w = w' := by
  have hA := fun W => spanAt_any a n h1 W
  have hL := fun W => spanLen_any a n h W
  generalize spanV a n = v at *
  have HA := Lib.hid hA
  have HL := Lib.hid hL
  clear hA hL
  go_enter Tryd.func27, Tryd.ntmps27
  go_wp2_with (first
    | (go_at_call 44; refine (HA.out _).mono ?_; rintro e w' ⟨rfl, rfl⟩)
    | (go_at_call 21; refine (HL.out _).mono ?_; rintro e w' ⟨rfl, rfl⟩))
  go_ret
  exact ⟨by go_num, rfl⟩

set_option maxHeartbeats 400000 in
theorem spanIn_any (s : ByteArray) (a n : Nat) (h1 : a < 4096) (h : n < 4096) (hs : a + n ≤ s.size) (hl : s.size ≤ 140737488351232) (w : World) :
    Calls Tryd.prog 24 #[spanV a n, .string s] w fun x w' => x = .returned (.string (s.extract a (a + n))) ∧ w = w' := by
  have hA := fun W => spanAt_any a n h1 W
  have hL := fun W => spanEnd_any a n h1 h W
  generalize spanV a n = v at *
  have HA := Lib.hid hA
  have HL := Lib.hid hL
  clear hA hL
  go_enter Tryd.func24, Tryd.ntmps24
  go_wp2_with (first
    | (go_at_call 44; refine (HA.out _).mono ?_; rintro e w' ⟨rfl, rfl⟩)
    | (go_at_call 27; refine (HL.out _).mono ?_; rintro e w' ⟨rfl, rfl⟩))
  go_ret
  exact ⟨rfl, rfl⟩

end Go.Proofs.YtngnmfoephegmaaDoor
