/-
  DERIVED. GIVEN WITH THE SEED: THE CARDS: each row of YtiaaibblihebjaaDoorRows.lean that lists a variable, with what it lists TIED to the program's text (the seventh form; the later family's looks); each row that meets fmt, with fmt's text TOLD by the authors' own Lean function (tested against real Go, not proved from fmt's source: count such statements apart). THE CARD IS WHAT COUNTS. Prove the row's statement (the work); the ties are given (YtiaaibblihebjaaDoorTie.lean); close each card by the builder's one call (the guide's Derived/Test/ToyasCard.lean, 'card_holds'). Laid BY PROGRAM, IN A SANDBOX (cutbox-door.mjs). By AI agents, Wed Nov 11 2026. No macro, syntax, notation, axiom, sorry.
-/
import Derived.Test.YtiaaibblihebjaaDoorRows
import GoSem.ClaimSeven
namespace Go.Proofs.YtiaaibblihebjaaDoor
namespace Rows

/-- THE TIED CARD OF 'handfastlaw11.EventTerms'. -/
def eventTermsCard : Claim7 := { stood := { row := eventTermsRow, standIns := [], harness := (true, "1dda4bb5d3714ae15e98d3f78b0b1313a70085d3a569f740b2d28d24b8c529b8"), looks := true }, kinds := [], alts := [], laidByText := true, laidKinds := [.data, .data, .data], laidTests := true, laidLooks := .later }
def EventTermsCardSaid : Prop := Claim7.holds Tryd.pinned (.plain (OpenSpec.ofChange eventTermsSpec)) eventTermsCard

/-- THE TIED CARD OF 'handfastlaw11.EventFields'. -/
def eventFieldsCard : Claim7 := { stood := { row := eventFieldsRow, standIns := [], harness := (true, "1dda4bb5d3714ae15e98d3f78b0b1313a70085d3a569f740b2d28d24b8c529b8"), looks := true }, kinds := [], alts := [], laidByText := true, laidKinds := [.data, .data, .data], laidTests := true, laidLooks := .later }
def EventFieldsCardSaid : Prop := Claim7.holds Tryd.pinned (.plain (OpenSpec.ofChange eventFieldsSpec)) eventFieldsCard

/-- THE SECOND FORM's CARD OF 'handfastlaw11.EventTerms'. -/
def eventTermsUptoCard : Claim7 := { stood := { row := eventTermsUptoRow, standIns := [], harness := (true, "1dda4bb5d3714ae15e98d3f78b0b1313a70085d3a569f740b2d28d24b8c529b8"), looks := true }, kinds := [], alts := [], laidByText := true, laidKinds := [.data, .data, .data], laidTests := true, laidLooks := .later }
def EventTermsUptoCardSaid : Prop := Claim7.holds Tryd.pinned (.plain (OpenSpec.upto eventTermsSpec)) eventTermsUptoCard

/-- THE SECOND FORM's CARD OF 'handfastlaw11.EventFields'. -/
def eventFieldsUptoCard : Claim7 := { stood := { row := eventFieldsUptoRow, standIns := [], harness := (true, "1dda4bb5d3714ae15e98d3f78b0b1313a70085d3a569f740b2d28d24b8c529b8"), looks := true }, kinds := [], alts := [], laidByText := true, laidKinds := [.data, .data, .data], laidTests := true, laidLooks := .later }
def EventFieldsUptoCardSaid : Prop := Claim7.holds Tryd.pinned (.plain (OpenSpec.upto eventFieldsSpec)) eventFieldsUptoCard
end Rows
end Go.Proofs.YtiaaibblihebjaaDoor
