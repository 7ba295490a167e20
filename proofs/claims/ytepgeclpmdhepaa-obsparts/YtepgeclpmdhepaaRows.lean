/-
  No cell of these rows narrows 'for every input' (looked for: loops, veiled, ifaces, maps, wideKeys, modest, calm, conditions, laid).
  DERIVED. THE GIVEN ROWS OF THIS SEAT. 6 by the template 'for every input the law returns true; each argument reads behind the call as it read before'; 0 by the template 'total and deterministic' (their statements: YtepgeclpmdhepaaTotals.lean).
  GIVEN WITH THE SEED: the statements are not yours to turn. If you find one false, say at which input.
  Laid BY PROGRAM, IN A SANDBOX (cutbox-rows.mjs): the forced cells as the released guide's own fill.sh prints them over the translation 85e95975144b023d… (all of the seat's roots in one cut). By AI agents, Wed Nov 11 2026. No macro, syntax, notation, axiom, sorry.
-/
import Derived.Test.YtepgeclpmdhepaaChecked
import GoSem.Claim
import GoSem.ClaimJoined
import GoSem.ClaimMapViews
import Derived.JoinedTies
import Derived.KernelRfl
namespace Go.Proofs.Ytepgeclpmdhepaa
/- THE CELL 'sum', in the pinned program and in every row, IS THE sha256 OF THE DUMP (.gsa) THAT YtepgeclpmdhepaaProg.lean LOADS. Nothing in Lean hashes anything: it is a label: what it is worth is what the hold of that sum in a sandbox is worth. -/
noncomputable def Try.pinned : Pinned := { name := "ytepgeclpmdhepaa", sum := "85e95975144b023dca53764ba21df1db066cfdc1cae2038ee6962d2fddf2e440", checked := Try.checked }
namespace Rows
def none {H : Type} : Left H := { results := [], args := [] }

/-- 'handfastlaw04.ObsSame': WHATEVER THE INPUT: true; the input reads as it did. -/
def obsSameSpec : ChangeSpec := { name := "obsSame", fn := fun _ => fun
  | [d1, d2] => { results := [.lit (.bool true)], args := [d1, d2] }
  | _ => none }
def obsSameRow : OpenClaim := { program := "ytepgeclpmdhepaa", sum := "85e95975144b023dca53764ba21df1db066cfdc1cae2038ee6962d2fddf2e440", func := "handfast/handfastlaw04.ObsSame", spec := "obsSame", recurses := true, apart := false }
def ObsSameSaid : Prop := obsSameRow.holds Try.pinned (OpenSpec.ofChange obsSameSpec)

/-- ITS FALSE NEIGHBOUR: 'it returns false'. Refute it at one input. -/
def obsSameWrong : ChangeSpec := { name := "obsSame", fn := fun _ => fun
  | [d1, d2] => { results := [.lit (.bool false)], args := [d1, d2] }
  | _ => none }
def ObsSameWrongFalsely : Prop := obsSameRow.holds Try.pinned (OpenSpec.ofChange obsSameWrong)

/-- 'handfastlaw04.ObsNames': WHATEVER THE INPUT: true; the input reads as it did. -/
def obsNamesSpec : ChangeSpec := { name := "obsNames", fn := fun _ => fun
  | [d] => { results := [.lit (.bool true)], args := [d] }
  | _ => none }
def obsNamesRow : OpenClaim := { program := "ytepgeclpmdhepaa", sum := "85e95975144b023dca53764ba21df1db066cfdc1cae2038ee6962d2fddf2e440", func := "handfast/handfastlaw04.ObsNames", spec := "obsNames", recurses := true, apart := false }
def ObsNamesSaid : Prop := obsNamesRow.holds Try.pinned (OpenSpec.ofChange obsNamesSpec)

/-- ITS FALSE NEIGHBOUR: 'it returns false'. Refute it at one input. -/
def obsNamesWrong : ChangeSpec := { name := "obsNames", fn := fun _ => fun
  | [d] => { results := [.lit (.bool false)], args := [d] }
  | _ => none }
def ObsNamesWrongFalsely : Prop := obsNamesRow.holds Try.pinned (OpenSpec.ofChange obsNamesWrong)

/-- 'handfastlaw04.ObsTells': WHATEVER THE INPUT: true; the input reads as it did. -/
def obsTellsSpec : ChangeSpec := { name := "obsTells", fn := fun _ => fun
  | [d1, d2, d3, d4, d5, d6, d7, d8] => { results := [.lit (.bool true)], args := [d1, d2, d3, d4, d5, d6, d7, d8] }
  | _ => none }
def obsTellsRow : OpenClaim := { program := "ytepgeclpmdhepaa", sum := "85e95975144b023dca53764ba21df1db066cfdc1cae2038ee6962d2fddf2e440", func := "handfast/handfastlaw04.ObsTells", spec := "obsTells", recurses := true, apart := false }
def ObsTellsSaid : Prop := obsTellsRow.holds Try.pinned (OpenSpec.ofChange obsTellsSpec)

/-- ITS FALSE NEIGHBOUR: 'it returns false'. Refute it at one input. -/
def obsTellsWrong : ChangeSpec := { name := "obsTells", fn := fun _ => fun
  | [d1, d2, d3, d4, d5, d6, d7, d8] => { results := [.lit (.bool false)], args := [d1, d2, d3, d4, d5, d6, d7, d8] }
  | _ => none }
def ObsTellsWrongFalsely : Prop := obsTellsRow.holds Try.pinned (OpenSpec.ofChange obsTellsWrong)

/-- 'handfastlaw04.ObsParts': WHATEVER THE INPUT: true; the input reads as it did. -/
def obsPartsSpec : ChangeSpec := { name := "obsParts", fn := fun _ => fun
  | [d] => { results := [.lit (.bool true)], args := [d] }
  | _ => none }
def obsPartsRow : OpenClaim := { program := "ytepgeclpmdhepaa", sum := "85e95975144b023dca53764ba21df1db066cfdc1cae2038ee6962d2fddf2e440", func := "handfast/handfastlaw04.ObsParts", spec := "obsParts", recurses := true, apart := false }
def ObsPartsSaid : Prop := obsPartsRow.holds Try.pinned (OpenSpec.ofChange obsPartsSpec)

/-- ITS FALSE NEIGHBOUR: 'it returns false'. Refute it at one input. -/
def obsPartsWrong : ChangeSpec := { name := "obsParts", fn := fun _ => fun
  | [d] => { results := [.lit (.bool false)], args := [d] }
  | _ => none }
def ObsPartsWrongFalsely : Prop := obsPartsRow.holds Try.pinned (OpenSpec.ofChange obsPartsWrong)

/-- 'handfastlaw04.ObsOdd': WHATEVER THE INPUT: true; the input reads as it did. -/
def obsOddSpec : ChangeSpec := { name := "obsOdd", fn := fun _ => fun
  | [d1, d2, d3] => { results := [.lit (.bool true)], args := [d1, d2, d3] }
  | _ => none }
def obsOddRow : OpenClaim := { program := "ytepgeclpmdhepaa", sum := "85e95975144b023dca53764ba21df1db066cfdc1cae2038ee6962d2fddf2e440", func := "handfast/handfastlaw04.ObsOdd", spec := "obsOdd", recurses := true, apart := false }
def ObsOddSaid : Prop := obsOddRow.holds Try.pinned (OpenSpec.ofChange obsOddSpec)

/-- ITS FALSE NEIGHBOUR: 'it returns false'. Refute it at one input. -/
def obsOddWrong : ChangeSpec := { name := "obsOdd", fn := fun _ => fun
  | [d1, d2, d3] => { results := [.lit (.bool false)], args := [d1, d2, d3] }
  | _ => none }
def ObsOddWrongFalsely : Prop := obsOddRow.holds Try.pinned (OpenSpec.ofChange obsOddWrong)

/-- 'handfastlaw04.ObsLimits': WHATEVER THE INPUT: true; the input reads as it did. -/
def obsLimitsSpec : ChangeSpec := { name := "obsLimits", fn := fun _ => fun
  | [d1, d2] => { results := [.lit (.bool true)], args := [d1, d2] }
  | _ => none }
def obsLimitsRow : OpenClaim := { program := "ytepgeclpmdhepaa", sum := "85e95975144b023dca53764ba21df1db066cfdc1cae2038ee6962d2fddf2e440", func := "handfast/handfastlaw04.ObsLimits", spec := "obsLimits", recurses := true, apart := false }
def ObsLimitsSaid : Prop := obsLimitsRow.holds Try.pinned (OpenSpec.ofChange obsLimitsSpec)

/-- ITS FALSE NEIGHBOUR: 'it returns false'. Refute it at one input. -/
def obsLimitsWrong : ChangeSpec := { name := "obsLimits", fn := fun _ => fun
  | [d1, d2] => { results := [.lit (.bool false)], args := [d1, d2] }
  | _ => none }
def ObsLimitsWrongFalsely : Prop := obsLimitsRow.holds Try.pinned (OpenSpec.ofChange obsLimitsWrong)

/- THE SECOND FORM. 'bulk': how many values and letters a reading holds, each counted each time it is reached (what is shared counts as often as it is met; a slice's spare places count too). A statement '..UptoSaid' is the law's where the arguments, and the package variables that the reading takes, are together of bulk at most 1048576: NARROWER than '..Said'. Prove '..Said' where nothing that the law and all that it calls make is longer than what came in: it says more and counts as full. Else prove '..UptoSaid'. A law counts once. -/
mutual
def uptoBulk {H : Type} : DataW H → Nat
  | .lit (.string bytes) => bytes.length + 1
  | .lit _ => 1
  | .nil => 1
  | .ptr d => uptoBulk d + 1
  | .slice elems spare => uptoBulkAll elems + uptoBulkAll spare + 1
  | .agg parts => uptoBulkAll parts + 1
  | .iface _ d => uptoBulk d + 1
  | .map entries => uptoBulkEntries entries + 1
  | .held _ => 1
def uptoBulkAll {H : Type} : List (DataW H) → Nat
  | [] => 0
  | d :: r => uptoBulk d + uptoBulkAll r
def uptoBulkEntries {H : Type} : List (Lit × DataW H) → Nat
  | [] => 0
  | x :: r => uptoBulkEntry x + uptoBulkEntries r
def uptoBulkEntry {H : Type} : Lit × DataW H → Nat
  | (.string bytes, d) => bytes.length + uptoBulk d + 1
  | (_, d) => uptoBulk d + 1
 end
def uptoSmall : (H : Type) → List (DataW H) → Bool := fun _ ds => decide (uptoBulkAll ds ≤ 1048576)
def OpenSpec.upto (s : _root_.Go.ChangeSpec) : _root_.Go.OpenSpec := { _root_.Go.OpenSpec.ofChange s with cond := some uptoSmall }

/-- 'handfastlaw04.ObsSame', WHERE WHAT IT READS IS OF BULK AT MOST 1048576: true; the input reads as it did. -/
def obsSameUptoRow : OpenClaim := { program := "ytepgeclpmdhepaa", sum := "85e95975144b023dca53764ba21df1db066cfdc1cae2038ee6962d2fddf2e440", func := "handfast/handfastlaw04.ObsSame", spec := "obsSame", recurses := true, apart := false, narrowed := true }
def ObsSameUptoSaid : Prop := obsSameUptoRow.holds Try.pinned (OpenSpec.upto obsSameSpec)

/-- 'handfastlaw04.ObsNames', WHERE WHAT IT READS IS OF BULK AT MOST 1048576: true; the input reads as it did. -/
def obsNamesUptoRow : OpenClaim := { program := "ytepgeclpmdhepaa", sum := "85e95975144b023dca53764ba21df1db066cfdc1cae2038ee6962d2fddf2e440", func := "handfast/handfastlaw04.ObsNames", spec := "obsNames", recurses := true, apart := false, narrowed := true }
def ObsNamesUptoSaid : Prop := obsNamesUptoRow.holds Try.pinned (OpenSpec.upto obsNamesSpec)

/-- 'handfastlaw04.ObsTells', WHERE WHAT IT READS IS OF BULK AT MOST 1048576: true; the input reads as it did. -/
def obsTellsUptoRow : OpenClaim := { program := "ytepgeclpmdhepaa", sum := "85e95975144b023dca53764ba21df1db066cfdc1cae2038ee6962d2fddf2e440", func := "handfast/handfastlaw04.ObsTells", spec := "obsTells", recurses := true, apart := false, narrowed := true }
def ObsTellsUptoSaid : Prop := obsTellsUptoRow.holds Try.pinned (OpenSpec.upto obsTellsSpec)

/-- 'handfastlaw04.ObsParts', WHERE WHAT IT READS IS OF BULK AT MOST 1048576: true; the input reads as it did. -/
def obsPartsUptoRow : OpenClaim := { program := "ytepgeclpmdhepaa", sum := "85e95975144b023dca53764ba21df1db066cfdc1cae2038ee6962d2fddf2e440", func := "handfast/handfastlaw04.ObsParts", spec := "obsParts", recurses := true, apart := false, narrowed := true }
def ObsPartsUptoSaid : Prop := obsPartsUptoRow.holds Try.pinned (OpenSpec.upto obsPartsSpec)

/-- 'handfastlaw04.ObsOdd', WHERE WHAT IT READS IS OF BULK AT MOST 1048576: true; the input reads as it did. -/
def obsOddUptoRow : OpenClaim := { program := "ytepgeclpmdhepaa", sum := "85e95975144b023dca53764ba21df1db066cfdc1cae2038ee6962d2fddf2e440", func := "handfast/handfastlaw04.ObsOdd", spec := "obsOdd", recurses := true, apart := false, narrowed := true }
def ObsOddUptoSaid : Prop := obsOddUptoRow.holds Try.pinned (OpenSpec.upto obsOddSpec)

/-- 'handfastlaw04.ObsLimits', WHERE WHAT IT READS IS OF BULK AT MOST 1048576: true; the input reads as it did. -/
def obsLimitsUptoRow : OpenClaim := { program := "ytepgeclpmdhepaa", sum := "85e95975144b023dca53764ba21df1db066cfdc1cae2038ee6962d2fddf2e440", func := "handfast/handfastlaw04.ObsLimits", spec := "obsLimits", recurses := true, apart := false, narrowed := true }
def ObsLimitsUptoSaid : Prop := obsLimitsUptoRow.holds Try.pinned (OpenSpec.upto obsLimitsSpec)

end Rows
end Go.Proofs.Ytepgeclpmdhepaa
