/-
  What is proved: laws.FnExactTupleOk answers true at every tuple and leaves it as it was: impl.TupleOk answers as the reference (at most MaxArity texts, each a term), and writes into no argument.
  Conditions: none of ours; the five listed variables of the library read as their initialisers lay them, and the card ties that to the program's text.
-/
import Derived.Test.YtkhliflgflhheaaDoorTupLaw
import Derived.Test.YtkhliflgflhheaaDoorTie
import Derived.Test.YtkhliflgflhheaaDoorCards
import Derived.SevenTiedAt
import Derived.SizedLaws
import Derived.ChangeOld
import Derived.Carry
import Derived.ChangeSlices
import Derived.SliceStrings
namespace Go.Proofs.YtkhliflgflhheaaDoor
open Go Go.ChangeShapes Go.WideShapes Go.ChangeAt Go.WideMaps Go.WideElems Go.RowKit

set_option maxRecDepth 100000 in
set_option maxHeartbeats 1000000 in
theorem open_tuple {H : Type} {enc : TypeId × Value → H} {W : World} {cs0 : Array Value} {d0 : DataW H} {p : List MemPlace} (hcs0 : cs0.size = Tryd.prog.cellsOf 33) (h0 : DataW.Trod enc Tryd.prog W 0 (fun _ => true) true 33 (.agg cs0) d0 p) :
    ∃ (a : Option Addr) (cap : Nat) (xs : List ByteArray), cs0 = #[.slice a xs.length cap] ∧ StrsAt W a xs ∧ xs.length ≤ 9223372036854775807 ∧ ∀ x ∈ xs, x.size ≤ 9223372036854775807 := by
  obtain ⟨fuel, hf⟩ := h0
  obtain ⟨y0, n, _, _, hf0⟩ := trod_struct1 Tryd.underlying33 hf
  have hone : cs0.size = 1 := hcs0.trans (by kernel_rfl)
  obtain ⟨c0, rfl⟩ : ∃ c0, cs0 = #[c0] := by
    obtain ⟨l⟩ := cs0
    match l, hone with
    | [c0], _ => exact ⟨c0, rfl⟩
  have hc1 : Tryd.prog.cellsOf 26 = 1 := by kernel_rfl
  have hf1 : DataW.trod enc Tryd.prog W 0 (fun _ => true) true n 26 [c0] = some y0 := by
    simpa [Value.cells, hc1] using hf0
  rcases Go.ChangeShapes.open_strings Tryd.underlying26 Tryd.underlying9 (by kernel_rfl) hf1 with ⟨hcs, _⟩ | ⟨x, l, c, ss, hcs, _, hl, hm, hz, _, hcell, hwz⟩
  · obtain rfl : c0 = .slice none 0 0 := by simpa using hcs
    exact ⟨none, 0, [], rfl, fun i hi => by simp at hi, by simp, fun x hx => by simp at hx⟩
  · obtain rfl : c0 = .slice (some x) l c := by simpa using hcs
    obtain ⟨xs, rfl, h2, h3, h4⟩ := strs_of hl hm (by simpa using hz) hcell hwz
    exact ⟨_, _, xs, rfl, h2, h3, h4⟩

set_option maxRecDepth 100000 in
set_option maxHeartbeats 2000000 in
theorem fnExactTupleOk_lifted (os : Os) (started : os.Started) (H : Type) (enc : TypeId × Value → H) :
    ReturnsInHanded {} Tryd.checked os 4 .any (fun w args => (Rows.fnExactTupleOkSpec.pre enc Tryd.prog Tryd.f4 [] false w args ∧ laidMetH Tryd.prog laid5 w) ∧ sizedMet enc Tryd.prog Tryd.f4 (OpenSpec.ofChange Rows.fnExactTupleOkSpec) false w args)
      (Rows.fnExactTupleOkSpec.post enc Tryd.prog Tryd.f4 false true false false) := by
  refine returnsInHanded_of_change_and (C := Tryd.checked) (X := fun w _ => laidMetH Tryd.prog laid5 w) (fun _ _ _ hh h => h.of_heap hh) own started (by kernel_rfl) Tryd.func4
    (ChangeSpec.witness_shaped (enc := enc) (C := Tryd.checked) (os := os) (X := fun w _ => laidMetH Tryd.prog laid5 w) false (World.doorLaid Tryd.prog 400 os) #[.agg #[.slice none 0 0]] 8 rfl (World.shaped_of_RefB (by kernel_rfl) (by kernel_rfl)) (by kernel_rfl) (by kernel_rfl) (by kernel_rfl) (door_met5 os _)) ?_
  intro W base args ds gs before hval0 hW _ _ hL _
  have hval : ∀ (j : Nat) t v, Tryd.f4.params[j]? = some t → args[j]? = some v → Value.okWide Tryd.prog W .any base t v := hval0
  have hW' := hW
  obtain ⟨p, q, hA0, hV, rfl, hfz, hnd⟩ := hW
  have hA : DataW.TrodAll enc Tryd.prog W 0 (fun _ => true) true Tryd.f4.params.toList args.toList ds p := hA0
  rw [Tryd.params4] at hA hval
  obtain ⟨v0, d0, rfl, rfl, h0⟩ := trodAll_one hA
  obtain ⟨rfl, rfl⟩ := trodVars_none hV
  obtain ⟨cs0, rfl, hcs0⟩ := okWide_struct Tryd.underlying33 (hval 0 33 v0 rfl rfl)
  have k0 := h0
  have lt0 : ∀ x ∈ p, x.block < W.heap.size := by obtain ⟨m, hm⟩ := k0; exact DataW.trod_lt m _ _ _ hm
  obtain ⟨a0, cap0, z0, rfl, w0, m0, q0⟩ : ∃ (a : Option Addr) (cap : Nat) (xs : List ByteArray), cs0 = #[.slice a xs.length cap] ∧ StrsAt W a xs ∧ xs.length ≤ 9223372036854775807 ∧ ∀ x ∈ xs, x.size ≤ 9223372036854775807 := by
    exact open_tuple hcs0 h0
  clear hA0 hval0
  simp only [List.append_nil] at hW'
  refine (law_FnExactTupleOk a0 cap0 z0 W w0 m0 q0 (of_laid5 hL)).mono fun e W' ⟨he, hnx⟩ => ?_
  subst he
  refine ⟨_, rfl, _, _, _, [], p, [], hW', ?_, ?_, rfl, hnx.frame _, fun h => by cases h⟩
  · exact trodAll_mk1 (shut_bool Tryd.underlying4 _)
  · exact trodAll_mk1 (Below.trod (by kernel_rfl) (by kernel_rfl) (of_decide_eq_true (by kernel_rfl)) k0 hnx lt0)

theorem fnExactTupleOk_row : Rows.FnExactTupleOkSaid :=
  OpenClaim.holds_of_wide 4 Tryd.f4 rfl rfl rfl rfl rfl rfl rfl ⟨rfl, rfl, rfl, rfl, rfl⟩ rfl rfl rfl rfl rfl (by kernel_rfl) Tryd.func4 (by kernel_rfl)
    (of_decide_eq_true (by kernel_rfl)) (by unfold Func.isWrapper; first | (rw [if_pos (by decide +kernel)]; kernel_rfl) | (rw [if_neg (by decide +kernel)]; exact ⟨rfl, rfl⟩))
    (fun os started H enc _ => fnExactTupleOk_lifted os started H enc)

/-- THE TIED CARD of laws.FnExactTupleOk. -/
theorem fnExactTupleOk_card : Rows.FnExactTupleOkCardSaid :=
  Claim7.holds_tied_plain_at .later [] [.data, .data, .data, .sentinel, .sentinel] true Rows.fnExactTupleOkCard.stood.harness true
    fnExactTupleOk_row (fun _ h => by cases h) (by kernel_rfl) (fun _ h => by cases h) fnExactTupleOk_row_tie rfl ⟨rfl, rfl⟩ (by kernel_rfl) rfl
    (fun f fn hf hfn => by
      obtain rfl : f = 4 := Option.some.inj ((show Tryd.prog.funcNamed Rows.fnExactTupleOkRow.func = some 4 by kernel_rfl).symm.trans hf) |>.symm
      obtain rfl : fn = Tryd.f4 := (Option.some.inj (Tryd.func4.symm.trans hfn)).symm
      exact ⟨by kernel_rfl, fun j t ht => by
        rw [Tryd.params4] at ht
        have hm : t ∈ [33] := by simpa using Array.mem_of_getElem? ht
        have hall : ([33].all fun u => !Tryd.prog.wantsStandIn u) = true := by kernel_rfl
        exact (show Tryd.prog.wantsStandIn t = false by simpa using List.all_eq_true.1 hall t hm)⟩)
    (by kernel_rfl)
#print axioms fnExactTupleOk_card

end Go.Proofs.YtkhliflgflhheaaDoor
