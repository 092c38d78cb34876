/-
  WHAT ALL FIVE LISTED VARIABLES GIVE.
-/
import Derived.Test.YtngnmfoephegmaaDoorEnv
namespace Go.Proofs.YtngnmfoephegmaaDoor
open Go Go.RowKit

abbrev laid5 : List (String × DataW Unit) := [("math/bits.deBruijn32tab", Rows.laid_math_bits_deBruijn32tab), ("math/bits.deBruijn64tab", Rows.laid_math_bits_deBruijn64tab), ("internal/strconv.uint64pow10", Rows.laid_internal_strconv_uint64pow10), ("strconv.ErrRange", Rows.laid_strconv_ErrRange), ("strconv.ErrSyntax", Rows.laid_strconv_ErrSyntax)]

theorem gSynType : (Tryd.prog.globals[(Tryd.prog.globalNamed "strconv.ErrSyntax").getD 0]?).map (·.type) = some 79 := by kernel_rfl
theorem gRngType : (Tryd.prog.globals[(Tryd.prog.globalNamed "strconv.ErrRange").getD 0]?).map (·.type) = some 79 := by kernel_rfl
theorem cellsE : Tryd.prog.cellsOf 105 = 1 := by kernel_rfl
theorem star : "*" ++ "errors.errorString" = "*errors.errorString" := by decide
theorem rowE (u : TypeId) (h : Tryd.prog.typeName? 3 u = some "*errors.errorString") : u = 103 :=
  typeName_ptr_named (nm := "errors.errorString") (by rw [star]; kernel_rfl) (by kernel_rfl) (by decide) u (by rw [star]; exact h)

theorem var_lt {W : World} {n : String} {g : Nat} {cs : Array Value} (hg : Tryd.prog.globalNamed n = some g) (h : W.var? Tryd.prog n = some cs) : g < W.heap.size := by
  unfold World.var? at h
  rw [hg] at h
  simp only [Option.bind_some] at h
  rcases Nat.lt_or_ge g W.heap.size with h' | h'
  · exact h'
  · rw [Array.getElem?_eq_none h'] at h; simp at h

theorem of_laid5 {W : World} (h : laidMetH Tryd.prog laid5 W) : Env W.heap.size W := by
  rw [MakeChecks.laidMetH_plain _ _ _ (by kernel_rfl)] at h
  have h2 := h.tail.tail
  have h3 := h2.tail
  have h4 := h3.tail
  have hp : Pow W := by
    rw [laidPow] at h2
    exact Lib.tabIs_of_head gPow gPowType Tryd.underlying112 Tryd.underlying93 cells96 cells107 h2
  obtain ⟨a0, s0, hv0, -, -, -⟩ := laid_sentinel h3 gRng gRngType Tryd.underlying79 rowE Tryd.underlying103 Tryd.underlying105 rfl rfl Tryd.underlying9 cellsE cellsS
  obtain ⟨a1, s1, hv1, -, -, -⟩ := laid_sentinel h4 gSyn gSynType Tryd.underlying79 rowE Tryd.underlying103 Tryd.underlying105 rfl rfl Tryd.underlying9 cellsE cellsS
  exact ⟨Nat.le_refl _, var_lt gPow hp, var_lt gSyn hv1, var_lt gRng hv0, hp, ⟨_, _, hv1⟩, ⟨_, _, hv0⟩⟩

theorem door_met5 (os : Os) (args : Array Value) : laidMetH Tryd.prog laid5 ((World.doorLaid Tryd.prog 400 os).forCall (fun _ _ => 0) ⟨#[], args, []⟩).memory :=
  laidMetH_of_parts3 (fuel := 8) (laidMet_of_run' 8 (by kernel_rfl) (by kernel_rfl)) (by kernel_rfl) (by kernel_rfl)

end Go.Proofs.YtngnmfoephegmaaDoor
