/-
  DERIVED. GIVEN WITH THE SEED: THE CARDS: each row of YtkhliflgflhheaaDoorRows.lean that lists a variable, with what it lists TIED to the program's text (the seventh form; the later family's looks); each row that meets fmt, with fmt's text TOLD by the authors' own Lean function (tested against real Go, not proved from fmt's source: count such statements apart). THE CARD IS WHAT COUNTS. Prove the row's statement (the work); the ties are given (YtkhliflgflhheaaDoorTie.lean); close each card by the builder's one call (the guide's Derived/Test/ToyasCard.lean, 'card_holds'). Laid BY PROGRAM, IN A SANDBOX (cutbox-door.mjs). By AI agents, Wed Nov 11 2026. No macro, syntax, notation, axiom, sorry.
-/
import Derived.Test.YtkhliflgflhheaaDoorRows
import GoSem.ClaimSeven
namespace Go.Proofs.YtkhliflgflhheaaDoor
namespace Rows

/-- THE TIED CARD OF 'laws.FnTerms'. -/
def fnTermsCard : Claim7 := { stood := { row := fnTermsRow, standIns := [], harness := (true, "8b752086698bdc0f1b2539ef79473baa9cb0bfdc226ee97a717ef742adb5b7f8"), looks := true }, kinds := [], alts := [], laidByText := true, laidKinds := [.data, .data, .data, .sentinel, .sentinel], laidTests := true, laidLooks := .later }
def FnTermsCardSaid : Prop := Claim7.holds Tryd.pinned (.plain (OpenSpec.ofChange fnTermsSpec)) fnTermsCard

/-- THE TIED CARD OF 'laws.FnExactTupleOk'. -/
def fnExactTupleOkCard : Claim7 := { stood := { row := fnExactTupleOkRow, standIns := [], harness := (true, "8b752086698bdc0f1b2539ef79473baa9cb0bfdc226ee97a717ef742adb5b7f8"), looks := true }, kinds := [], alts := [], laidByText := true, laidKinds := [.data, .data, .data, .sentinel, .sentinel], laidTests := true, laidLooks := .later }
def FnExactTupleOkCardSaid : Prop := Claim7.holds Tryd.pinned (.plain (OpenSpec.ofChange fnExactTupleOkSpec)) fnExactTupleOkCard

/-- THE TIED CARD OF 'laws.FnExactTupleCmp'. -/
def fnExactTupleCmpCard : Claim7 := { stood := { row := fnExactTupleCmpRow, standIns := [], harness := (true, "8b752086698bdc0f1b2539ef79473baa9cb0bfdc226ee97a717ef742adb5b7f8"), looks := true }, kinds := [], alts := [], laidByText := true, laidKinds := [.data, .data, .data, .sentinel, .sentinel], laidTests := true, laidLooks := .later }
def FnExactTupleCmpCardSaid : Prop := Claim7.holds Tryd.pinned (.plain (OpenSpec.ofChange fnExactTupleCmpSpec)) fnExactTupleCmpCard

/-- THE TIED CARD OF 'laws.FnExactRelOk'. -/
def fnExactRelOkCard : Claim7 := { stood := { row := fnExactRelOkRow, standIns := [], harness := (true, "8b752086698bdc0f1b2539ef79473baa9cb0bfdc226ee97a717ef742adb5b7f8"), looks := true }, kinds := [], alts := [], laidByText := true, laidKinds := [.data, .data, .data, .sentinel, .sentinel], laidTests := true, laidLooks := .later }
def FnExactRelOkCardSaid : Prop := Claim7.holds Tryd.pinned (.plain (OpenSpec.ofChange fnExactRelOkSpec)) fnExactRelOkCard

/-- THE TIED CARD OF 'laws.FnExactRelHas'. -/
def fnExactRelHasCard : Claim7 := { stood := { row := fnExactRelHasRow, standIns := [], harness := (true, "8b752086698bdc0f1b2539ef79473baa9cb0bfdc226ee97a717ef742adb5b7f8"), looks := true }, kinds := [], alts := [], laidByText := true, laidKinds := [.data, .data, .data, .sentinel, .sentinel], laidTests := true, laidLooks := .later }
def FnExactRelHasCardSaid : Prop := Claim7.holds Tryd.pinned (.plain (OpenSpec.ofChange fnExactRelHasSpec)) fnExactRelHasCard

/-- THE SECOND FORM's CARD OF 'laws.FnTerms'. -/
def fnTermsUptoCard : Claim7 := { stood := { row := fnTermsUptoRow, standIns := [], harness := (true, "8b752086698bdc0f1b2539ef79473baa9cb0bfdc226ee97a717ef742adb5b7f8"), looks := true }, kinds := [], alts := [], laidByText := true, laidKinds := [.data, .data, .data, .sentinel, .sentinel], laidTests := true, laidLooks := .later }
def FnTermsUptoCardSaid : Prop := Claim7.holds Tryd.pinned (.plain (OpenSpec.upto fnTermsSpec)) fnTermsUptoCard

/-- THE SECOND FORM's CARD OF 'laws.FnExactTupleOk'. -/
def fnExactTupleOkUptoCard : Claim7 := { stood := { row := fnExactTupleOkUptoRow, standIns := [], harness := (true, "8b752086698bdc0f1b2539ef79473baa9cb0bfdc226ee97a717ef742adb5b7f8"), looks := true }, kinds := [], alts := [], laidByText := true, laidKinds := [.data, .data, .data, .sentinel, .sentinel], laidTests := true, laidLooks := .later }
def FnExactTupleOkUptoCardSaid : Prop := Claim7.holds Tryd.pinned (.plain (OpenSpec.upto fnExactTupleOkSpec)) fnExactTupleOkUptoCard

/-- THE SECOND FORM's CARD OF 'laws.FnExactTupleCmp'. -/
def fnExactTupleCmpUptoCard : Claim7 := { stood := { row := fnExactTupleCmpUptoRow, standIns := [], harness := (true, "8b752086698bdc0f1b2539ef79473baa9cb0bfdc226ee97a717ef742adb5b7f8"), looks := true }, kinds := [], alts := [], laidByText := true, laidKinds := [.data, .data, .data, .sentinel, .sentinel], laidTests := true, laidLooks := .later }
def FnExactTupleCmpUptoCardSaid : Prop := Claim7.holds Tryd.pinned (.plain (OpenSpec.upto fnExactTupleCmpSpec)) fnExactTupleCmpUptoCard

/-- THE SECOND FORM's CARD OF 'laws.FnExactRelOk'. -/
def fnExactRelOkUptoCard : Claim7 := { stood := { row := fnExactRelOkUptoRow, standIns := [], harness := (true, "8b752086698bdc0f1b2539ef79473baa9cb0bfdc226ee97a717ef742adb5b7f8"), looks := true }, kinds := [], alts := [], laidByText := true, laidKinds := [.data, .data, .data, .sentinel, .sentinel], laidTests := true, laidLooks := .later }
def FnExactRelOkUptoCardSaid : Prop := Claim7.holds Tryd.pinned (.plain (OpenSpec.upto fnExactRelOkSpec)) fnExactRelOkUptoCard

/-- THE SECOND FORM's CARD OF 'laws.FnExactRelHas'. -/
def fnExactRelHasUptoCard : Claim7 := { stood := { row := fnExactRelHasUptoRow, standIns := [], harness := (true, "8b752086698bdc0f1b2539ef79473baa9cb0bfdc226ee97a717ef742adb5b7f8"), looks := true }, kinds := [], alts := [], laidByText := true, laidKinds := [.data, .data, .data, .sentinel, .sentinel], laidTests := true, laidLooks := .later }
def FnExactRelHasUptoCardSaid : Prop := Claim7.holds Tryd.pinned (.plain (OpenSpec.upto fnExactRelHasSpec)) fnExactRelHasUptoCard
end Rows
end Go.Proofs.YtkhliflgflhheaaDoor
