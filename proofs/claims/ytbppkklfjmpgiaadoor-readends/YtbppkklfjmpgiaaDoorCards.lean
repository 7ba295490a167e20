/-
  DERIVED. GIVEN WITH THE SEED: THE CARDS: each row of YtbppkklfjmpgiaaDoorRows.lean that lists a variable, with what it lists TIED to the program's text (the seventh form; the later family's looks); each row that meets fmt, with fmt's text TOLD by the authors' own Lean function (tested against real Go, not proved from fmt's source: count such statements apart). THE CARD IS WHAT COUNTS. Prove the row's statement (the work); the ties are given (YtbppkklfjmpgiaaDoorTie.lean); close each card by the builder's one call (the guide's Derived/Test/ToyasCard.lean, 'card_holds'). Laid BY PROGRAM, IN A SANDBOX (cutbox-door.mjs). By AI agents, Wed Nov 11 2026. No macro, syntax, notation, axiom, sorry.
-/
import Derived.Test.YtbppkklfjmpgiaaDoorRows
import GoSem.ClaimSeven
namespace Go.Proofs.YtbppkklfjmpgiaaDoor
namespace Rows

/-- THE TIED CARD OF 'handfastlaw07.ReadEnds'. -/
def readEndsCard : Claim7 := { stood := { row := readEndsRow, standIns := [], harness := (true, "ed5d244ba5dd9148c6d1c1e6c1a02c4f4fd444545854721fd75e44f270ce48ff"), looks := true }, kinds := [], alts := [], laidByText := true, laidKinds := [.data, .data, .data], laidTests := true, laidLooks := .later }
def ReadEndsCardSaid : Prop := Claim7.holds Tryd.pinned (.plain (OpenSpec.ofChange readEndsSpec)) readEndsCard

/-- THE SECOND FORM's CARD OF 'handfastlaw07.ReadEnds'. -/
def readEndsUptoCard : Claim7 := { stood := { row := readEndsUptoRow, standIns := [], harness := (true, "ed5d244ba5dd9148c6d1c1e6c1a02c4f4fd444545854721fd75e44f270ce48ff"), looks := true }, kinds := [], alts := [], laidByText := true, laidKinds := [.data, .data, .data], laidTests := true, laidLooks := .later }
def ReadEndsUptoCardSaid : Prop := Claim7.holds Tryd.pinned (.plain (OpenSpec.upto readEndsSpec)) readEndsUptoCard
end Rows
end Go.Proofs.YtbppkklfjmpgiaaDoor
