/-
  What is proved: laws.FnExactClosed answers true at every list of graphs and leaves it as it was: impl.Closed answers as the reference, writes into no argument, and its answer owns its memory.
  Conditions: none.
-/
import Derived.Test.YtgjmefcognoepaaPQL
import Derived.Test.YtgjmefcognoepaaPOh
import Derived.Test.YtgjmefcognoepaaRows
import Derived.ProofKit
import Derived.HandedShaped
import Derived.SizedLaws
import Derived.ChangeOld
import Derived.Carry
import Derived.ChangeSlices
import Derived.SliceStrings
namespace Go.Proofs.Ytgjmefcognoepaa
open Go Go.ChangeShapes Go.WideShapes Go.ChangeAt Go.WideMaps Go.WideElems Go.RowKit

theorem closed_own : ownKnob Try.prog.godebug = none := by kernel_rfl

set_option maxRecDepth 100000 in
set_option maxHeartbeats 2000000 in
theorem fnExactClosed_lifted (os : Os) (started : os.Started) (H : Type) (enc : TypeId × Value → H) :
    ReturnsInHanded {} Try.checked os 3 .any (Rows.fnExactClosedSpec.pre6 enc Try.prog Try.f3 Rows.fnExactClosedRow.domain false) (Rows.fnExactClosedSpec.post enc Try.prog Try.f3 false true false false) := by
  refine returnsInHanded_of_change (C := Try.checked) closed_own started (by kernel_rfl) Try.func3
    (ChangeSpec.witness6 (enc := enc) (C := Try.checked) false ⟨#[], #[.slice none 0 0], []⟩ 16 (by kernel_rfl) (by kernel_rfl) (by kernel_rfl) (by kernel_rfl)) ?_
  intro W base args ds gs before hval0 hW _ _
  have hval : ∀ (j : Nat) t v, Try.f3.params[j]? = some t → args[j]? = some v → Value.okWide Try.prog W .any base t v := hval0
  have hW' := hW
  obtain ⟨p, q, hA0, hV, rfl, hfz, hnd⟩ := hW
  have hA : DataW.TrodAll enc Try.prog W 0 (fun _ => true) true Try.f3.params.toList args.toList ds p := hA0
  rw [Try.params3] at hA hval
  obtain ⟨v0, d0, rfl, rfl, h0⟩ := trodAll_one hA
  obtain ⟨rfl, rfl⟩ := trodVars_none hV
  obtain ⟨a0, len0, cap0, rfl⟩ := okWide_slice Try.underlying22 (hval 0 22 v0 rfl rfl)
  have k0 := h0
  have lt0 : ∀ x ∈ p, x.block < W.heap.size := by obtain ⟨m, hm⟩ := k0; exact DataW.trod_lt m _ _ _ hm
  obtain ⟨l, rfl, hu, hlen, hfit⟩ : ∃ l : List Pr.Gr, len0 = l.length ∧ Pr.RowIn Pr.FGr 3 (fun b => b < W.heap.size) W a0 l ∧ l.length ≤ 9223372036854775807 ∧ ∀ x ∈ l, x.fits := by
    obtain ⟨fuel, hf⟩ := h0
    obtain ⟨a, cap, l, e1, e2, e3, e4⟩ := Pr.open_GraphS hf
    simp [Value.cells] at e1
    obtain ⟨rfl, rfl, rfl⟩ := e1
    exact ⟨l, rfl, e2, e3, e4⟩
  clear hA0 hval0
  simp only [List.append_nil] at hW'
  refine (Pr.law_FnExactClosed a0 cap0 l W hu hlen hfit).mono fun e W' ⟨he, hnx⟩ => ?_
  subst he
  refine ⟨_, rfl, _, _, _, [], p, [], hW', ?_, ?_, rfl, hnx.frame _, fun h => by cases h⟩
  · exact trodAll_mk1 (shut_bool Try.underlying4 _)
  · exact trodAll_mk1 (Below.trod (by kernel_rfl) (by kernel_rfl) (of_decide_eq_true (by kernel_rfl)) k0 hnx lt0)

theorem fnExactClosed_row : Rows.FnExactClosedSaid :=
  OpenClaim.holds_of_wide 3 Try.f3 rfl rfl rfl rfl rfl rfl rfl ⟨rfl, rfl, rfl, rfl, rfl⟩ rfl rfl rfl rfl rfl (by kernel_rfl) Try.func3 (by kernel_rfl)
    (of_decide_eq_true (by kernel_rfl)) (by unfold Func.isWrapper; first | (rw [if_pos (by decide +kernel)]; kernel_rfl) | (rw [if_neg (by decide +kernel)]; exact ⟨rfl, rfl⟩))
    (fun os started H enc _ => fnExactClosed_lifted os started H enc)
#print axioms fnExactClosed_row

end Go.Proofs.Ytgjmefcognoepaa
