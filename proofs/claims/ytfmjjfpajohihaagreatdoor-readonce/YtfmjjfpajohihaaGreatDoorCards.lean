/-
  DERIVED. GIVEN WITH THE SEED: THE CARDS: each row of YtfmjjfpajohihaaGreatDoorRows.lean that lists a variable, with what it lists TIED to the program's text (the seventh form; the later family's looks); each row that meets fmt, with fmt's text TOLD by the authors' own Lean function (tested against real Go, not proved from fmt's source: count such statements apart). THE CARD IS WHAT COUNTS. Prove the row's statement (the work); the ties are given (YtfmjjfpajohihaaGreatDoorTie.lean); close each card by the builder's one call (the guide's Derived/Test/ToyasCard.lean, 'card_holds'). Laid BY PROGRAM, IN A SANDBOX (cutbox-door.mjs). By AI agents, Wed Nov 11 2026. No macro, syntax, notation, axiom, sorry.
-/
import Derived.Test.YtfmjjfpajohihaaGreatDoorRows
import GoSem.ClaimSeven
namespace Go.Proofs.YtfmjjfpajohihaaGreatDoor
namespace Rows

/-- THE TIED CARD OF 'handfastlaw07.ReadOnce'. -/
def readOnceCard : Claim7 := { stood := { row := readOnceRow, standIns := [], harness := (true, "f505b9fd634cc2558bba8564970fc1fd8311814c0323336b0b7b8526a017a245"), looks := true }, kinds := [], alts := [], laidByText := true, laidKinds := [.data, .data, .data], laidTests := true, laidLooks := .later }
def ReadOnceCardSaid : Prop := Claim7.holds Tryz.pinned (.plain (OpenSpec.ofChange readOnceSpec)) readOnceCard

/-- THE TIED CARD OF 'handfastlaw07.ReadBack'. -/
def readBackCard : Claim7 := { stood := { row := readBackRow, standIns := [], harness := (true, "f505b9fd634cc2558bba8564970fc1fd8311814c0323336b0b7b8526a017a245"), looks := true }, kinds := [], alts := [], laidByText := true, laidKinds := [.data, .data, .data], laidTests := true, laidLooks := .later }
def ReadBackCardSaid : Prop := Claim7.holds Tryz.pinned (.plain (OpenSpec.ofChange readBackSpec)) readBackCard

/-- THE SECOND FORM's CARD OF 'handfastlaw07.ReadOnce'. -/
def readOnceUptoCard : Claim7 := { stood := { row := readOnceUptoRow, standIns := [], harness := (true, "f505b9fd634cc2558bba8564970fc1fd8311814c0323336b0b7b8526a017a245"), looks := true }, kinds := [], alts := [], laidByText := true, laidKinds := [.data, .data, .data], laidTests := true, laidLooks := .later }
def ReadOnceUptoCardSaid : Prop := Claim7.holds Tryz.pinned (.plain (OpenSpec.upto readOnceSpec)) readOnceUptoCard

/-- THE SECOND FORM's CARD OF 'handfastlaw07.ReadBack'. -/
def readBackUptoCard : Claim7 := { stood := { row := readBackUptoRow, standIns := [], harness := (true, "f505b9fd634cc2558bba8564970fc1fd8311814c0323336b0b7b8526a017a245"), looks := true }, kinds := [], alts := [], laidByText := true, laidKinds := [.data, .data, .data], laidTests := true, laidLooks := .later }
def ReadBackUptoCardSaid : Prop := Claim7.holds Tryz.pinned (.plain (OpenSpec.upto readBackSpec)) readBackUptoCard
end Rows
end Go.Proofs.YtfmjjfpajohihaaGreatDoor
