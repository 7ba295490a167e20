/-
  No cell of these rows narrows 'for every input' (looked for: loops, veiled, ifaces, maps, wideKeys, modest, calm, conditions, laid).
  DERIVED. THE GIVEN ROWS OF THIS SEAT. 3 by the template 'for every input the law returns true; each argument reads behind the call as it read before'; 0 by the template 'total and deterministic' (their statements: YtngjlkdpplmpaabTotals.lean).
  GIVEN WITH THE SEED: the statements are not yours to turn. If you find one false, say at which input.
  Laid BY PROGRAM, IN A SANDBOX (cutbox-rows.mjs): the forced cells as the released guide's own fill.sh prints them over the translation 9ab610e6e4efd03a… (all of the seat's roots in one cut). By AI agents, Wed Nov 11 2026. No macro, syntax, notation, axiom, sorry.
-/
import Derived.Test.YtngjlkdpplmpaabChecked
import GoSem.Claim
import GoSem.ClaimJoined
import GoSem.ClaimMapViews
import Derived.JoinedTies
import Derived.KernelRfl
namespace Go.Proofs.Ytngjlkdpplmpaab
/- THE CELL 'sum', in the pinned program and in every row, IS THE sha256 OF THE DUMP (.gsa) THAT YtngjlkdpplmpaabProg.lean LOADS. Nothing in Lean hashes anything: it is a label: what it is worth is what the hold of that sum in a sandbox is worth. -/
noncomputable def Try.pinned : Pinned := { name := "ytngjlkdpplmpaab", sum := "9ab610e6e4efd03a13ccf5a71fd1d6ef082d1fd0af3c4513c1605babed89fc78", checked := Try.checked }
namespace Rows
def none {H : Type} : Left H := { results := [], args := [] }

/-- 'handfastlaw10.CashOver': WHATEVER THE INPUT: true; the input reads as it did. -/
def cashOverSpec : ChangeSpec := { name := "cashOver", fn := fun _ => fun
  | [d1, d2, d3] => { results := [.lit (.bool true)], args := [d1, d2, d3] }
  | _ => none }
def cashOverRow : OpenClaim := { program := "ytngjlkdpplmpaab", sum := "9ab610e6e4efd03a13ccf5a71fd1d6ef082d1fd0af3c4513c1605babed89fc78", func := "handfast/handfastlaw10.CashOver", spec := "cashOver", unfollowed := true, recurses := true, plainKeys := false, apart := false }
def CashOverSaid : Prop := cashOverRow.holds Try.pinned (OpenSpec.ofChange cashOverSpec)

/-- ITS FALSE NEIGHBOUR: 'it returns false'. Refute it at one input. -/
def cashOverWrong : ChangeSpec := { name := "cashOver", fn := fun _ => fun
  | [d1, d2, d3] => { results := [.lit (.bool false)], args := [d1, d2, d3] }
  | _ => none }
def CashOverWrongFalsely : Prop := cashOverRow.holds Try.pinned (OpenSpec.ofChange cashOverWrong)

/-- 'handfastlaw10.CashScales': WHATEVER THE INPUT: true; the input reads as it did. -/
def cashScalesSpec : ChangeSpec := { name := "cashScales", fn := fun _ => fun
  | [d1, d2, d3, d4, d5] => { results := [.lit (.bool true)], args := [d1, d2, d3, d4, d5] }
  | _ => none }
def cashScalesRow : OpenClaim := { program := "ytngjlkdpplmpaab", sum := "9ab610e6e4efd03a13ccf5a71fd1d6ef082d1fd0af3c4513c1605babed89fc78", func := "handfast/handfastlaw10.CashScales", spec := "cashScales", unfollowed := true, recurses := true, plainKeys := false, apart := false }
def CashScalesSaid : Prop := cashScalesRow.holds Try.pinned (OpenSpec.ofChange cashScalesSpec)

/-- ITS FALSE NEIGHBOUR: 'it returns false'. Refute it at one input. -/
def cashScalesWrong : ChangeSpec := { name := "cashScales", fn := fun _ => fun
  | [d1, d2, d3, d4, d5] => { results := [.lit (.bool false)], args := [d1, d2, d3, d4, d5] }
  | _ => none }
def CashScalesWrongFalsely : Prop := cashScalesRow.holds Try.pinned (OpenSpec.ofChange cashScalesWrong)

/-- 'handfastlaw10.CashNested': WHATEVER THE INPUT: true; the input reads as it did. -/
def cashNestedSpec : ChangeSpec := { name := "cashNested", fn := fun _ => fun
  | [d1, d2, d3] => { results := [.lit (.bool true)], args := [d1, d2, d3] }
  | _ => none }
def cashNestedRow : OpenClaim := { program := "ytngjlkdpplmpaab", sum := "9ab610e6e4efd03a13ccf5a71fd1d6ef082d1fd0af3c4513c1605babed89fc78", func := "handfast/handfastlaw10.CashNested", spec := "cashNested", unfollowed := true, recurses := true, plainKeys := false, apart := false }
def CashNestedSaid : Prop := cashNestedRow.holds Try.pinned (OpenSpec.ofChange cashNestedSpec)

/-- ITS FALSE NEIGHBOUR: 'it returns false'. Refute it at one input. -/
def cashNestedWrong : ChangeSpec := { name := "cashNested", fn := fun _ => fun
  | [d1, d2, d3] => { results := [.lit (.bool false)], args := [d1, d2, d3] }
  | _ => none }
def CashNestedWrongFalsely : Prop := cashNestedRow.holds Try.pinned (OpenSpec.ofChange cashNestedWrong)

/- THE SECOND FORM. 'bulk': how many values and letters a reading holds, each counted each time it is reached (what is shared counts as often as it is met; a slice's spare places count too). A statement '..UptoSaid' is the law's where the arguments, and the package variables that the reading takes, are together of bulk at most 1048576: NARROWER than '..Said'. Prove '..Said' where nothing that the law and all that it calls make is longer than what came in: it says more and counts as full. Else prove '..UptoSaid'. A law counts once. -/
mutual
def uptoBulk {H : Type} : DataW H → Nat
  | .lit (.string bytes) => bytes.length + 1
  | .lit _ => 1
  | .nil => 1
  | .ptr d => uptoBulk d + 1
  | .slice elems spare => uptoBulkAll elems + uptoBulkAll spare + 1
  | .agg parts => uptoBulkAll parts + 1
  | .iface _ d => uptoBulk d + 1
  | .map entries => uptoBulkEntries entries + 1
  | .held _ => 1
def uptoBulkAll {H : Type} : List (DataW H) → Nat
  | [] => 0
  | d :: r => uptoBulk d + uptoBulkAll r
def uptoBulkEntries {H : Type} : List (Lit × DataW H) → Nat
  | [] => 0
  | x :: r => uptoBulkEntry x + uptoBulkEntries r
def uptoBulkEntry {H : Type} : Lit × DataW H → Nat
  | (.string bytes, d) => bytes.length + uptoBulk d + 1
  | (_, d) => uptoBulk d + 1
 end
def uptoSmall : (H : Type) → List (DataW H) → Bool := fun _ ds => decide (uptoBulkAll ds ≤ 1048576)
def OpenSpec.upto (s : _root_.Go.ChangeSpec) : _root_.Go.OpenSpec := { _root_.Go.OpenSpec.ofChange s with cond := some uptoSmall }

/-- 'handfastlaw10.CashOver', WHERE WHAT IT READS IS OF BULK AT MOST 1048576: true; the input reads as it did. -/
def cashOverUptoRow : OpenClaim := { program := "ytngjlkdpplmpaab", sum := "9ab610e6e4efd03a13ccf5a71fd1d6ef082d1fd0af3c4513c1605babed89fc78", func := "handfast/handfastlaw10.CashOver", spec := "cashOver", unfollowed := true, recurses := true, plainKeys := false, apart := false, narrowed := true }
def CashOverUptoSaid : Prop := cashOverUptoRow.holds Try.pinned (OpenSpec.upto cashOverSpec)

/-- 'handfastlaw10.CashScales', WHERE WHAT IT READS IS OF BULK AT MOST 1048576: true; the input reads as it did. -/
def cashScalesUptoRow : OpenClaim := { program := "ytngjlkdpplmpaab", sum := "9ab610e6e4efd03a13ccf5a71fd1d6ef082d1fd0af3c4513c1605babed89fc78", func := "handfast/handfastlaw10.CashScales", spec := "cashScales", unfollowed := true, recurses := true, plainKeys := false, apart := false, narrowed := true }
def CashScalesUptoSaid : Prop := cashScalesUptoRow.holds Try.pinned (OpenSpec.upto cashScalesSpec)

/-- 'handfastlaw10.CashNested', WHERE WHAT IT READS IS OF BULK AT MOST 1048576: true; the input reads as it did. -/
def cashNestedUptoRow : OpenClaim := { program := "ytngjlkdpplmpaab", sum := "9ab610e6e4efd03a13ccf5a71fd1d6ef082d1fd0af3c4513c1605babed89fc78", func := "handfast/handfastlaw10.CashNested", spec := "cashNested", unfollowed := true, recurses := true, plainKeys := false, apart := false, narrowed := true }
def CashNestedUptoSaid : Prop := cashNestedUptoRow.holds Try.pinned (OpenSpec.upto cashNestedSpec)

end Rows
end Go.Proofs.Ytngjlkdpplmpaab
