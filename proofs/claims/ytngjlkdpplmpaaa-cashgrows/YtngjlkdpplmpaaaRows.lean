/-
  No cell of these rows narrows 'for every input' (looked for: loops, veiled, ifaces, maps, wideKeys, modest, calm, conditions, laid).
  DERIVED. THE GIVEN ROWS OF THIS SEAT. 6 by the template 'for every input the law returns true; each argument reads behind the call as it read before'; 0 by the template 'total and deterministic' (their statements: YtngjlkdpplmpaaaTotals.lean).
  GIVEN WITH THE SEED: the statements are not yours to turn. If you find one false, say at which input.
  Laid BY PROGRAM, IN A SANDBOX (cutbox-rows.mjs): the forced cells as the released guide's own fill.sh prints them over the translation d43d3df1f362c119… (all of the seat's roots in one cut). By AI agents, Wed Nov 11 2026. No macro, syntax, notation, axiom, sorry.
-/
import Derived.Test.YtngjlkdpplmpaaaChecked
import GoSem.Claim
import GoSem.ClaimJoined
import GoSem.ClaimMapViews
import Derived.JoinedTies
import Derived.KernelRfl
namespace Go.Proofs.Ytngjlkdpplmpaaa
/- THE CELL 'sum', in the pinned program and in every row, IS THE sha256 OF THE DUMP (.gsa) THAT YtngjlkdpplmpaaaProg.lean LOADS. Nothing in Lean hashes anything: it is a label: what it is worth is what the hold of that sum in a sandbox is worth. -/
noncomputable def Try.pinned : Pinned := { name := "ytngjlkdpplmpaaa", sum := "d43d3df1f362c119d878d857e943b28b2934fbd373475f658a1784cd8a1651cf", checked := Try.checked }
namespace Rows
def none {H : Type} : Left H := { results := [], args := [] }

/-- 'handfastlaw10.CashChoices': WHATEVER THE INPUT: true; the input reads as it did. -/
def cashChoicesSpec : ChangeSpec := { name := "cashChoices", fn := fun _ => fun
  | [d1, d2, d3, d4, d5] => { results := [.lit (.bool true)], args := [d1, d2, d3, d4, d5] }
  | _ => none }
def cashChoicesRow : OpenClaim := { program := "ytngjlkdpplmpaaa", sum := "d43d3df1f362c119d878d857e943b28b2934fbd373475f658a1784cd8a1651cf", func := "handfast/handfastlaw10.CashChoices", spec := "cashChoices", unfollowed := true, recurses := true, plainKeys := false, apart := false }
def CashChoicesSaid : Prop := cashChoicesRow.holds Try.pinned (OpenSpec.ofChange cashChoicesSpec)

/-- ITS FALSE NEIGHBOUR: 'it returns false'. Refute it at one input. -/
def cashChoicesWrong : ChangeSpec := { name := "cashChoices", fn := fun _ => fun
  | [d1, d2, d3, d4, d5] => { results := [.lit (.bool false)], args := [d1, d2, d3, d4, d5] }
  | _ => none }
def CashChoicesWrongFalsely : Prop := cashChoicesRow.holds Try.pinned (OpenSpec.ofChange cashChoicesWrong)

/-- 'handfastlaw10.CashTests': WHATEVER THE INPUT: true; the input reads as it did. -/
def cashTestsSpec : ChangeSpec := { name := "cashTests", fn := fun _ => fun
  | [d1, d2, d3] => { results := [.lit (.bool true)], args := [d1, d2, d3] }
  | _ => none }
def cashTestsRow : OpenClaim := { program := "ytngjlkdpplmpaaa", sum := "d43d3df1f362c119d878d857e943b28b2934fbd373475f658a1784cd8a1651cf", func := "handfast/handfastlaw10.CashTests", spec := "cashTests", unfollowed := true, recurses := true, plainKeys := false, apart := false }
def CashTestsSaid : Prop := cashTestsRow.holds Try.pinned (OpenSpec.ofChange cashTestsSpec)

/-- ITS FALSE NEIGHBOUR: 'it returns false'. Refute it at one input. -/
def cashTestsWrong : ChangeSpec := { name := "cashTests", fn := fun _ => fun
  | [d1, d2, d3] => { results := [.lit (.bool false)], args := [d1, d2, d3] }
  | _ => none }
def CashTestsWrongFalsely : Prop := cashTestsRow.holds Try.pinned (OpenSpec.ofChange cashTestsWrong)

/-- 'handfastlaw10.CashMany': WHATEVER THE INPUT: true; the input reads as it did. -/
def cashManySpec : ChangeSpec := { name := "cashMany", fn := fun _ => fun
  | [d1, d2, d3] => { results := [.lit (.bool true)], args := [d1, d2, d3] }
  | _ => none }
def cashManyRow : OpenClaim := { program := "ytngjlkdpplmpaaa", sum := "d43d3df1f362c119d878d857e943b28b2934fbd373475f658a1784cd8a1651cf", func := "handfast/handfastlaw10.CashMany", spec := "cashMany", unfollowed := true, recurses := true, plainKeys := false, apart := false }
def CashManySaid : Prop := cashManyRow.holds Try.pinned (OpenSpec.ofChange cashManySpec)

/-- ITS FALSE NEIGHBOUR: 'it returns false'. Refute it at one input. -/
def cashManyWrong : ChangeSpec := { name := "cashMany", fn := fun _ => fun
  | [d1, d2, d3] => { results := [.lit (.bool false)], args := [d1, d2, d3] }
  | _ => none }
def CashManyWrongFalsely : Prop := cashManyRow.holds Try.pinned (OpenSpec.ofChange cashManyWrong)

/-- 'handfastlaw10.CashTells': WHATEVER THE INPUT: true; the input reads as it did. -/
def cashTellsSpec : ChangeSpec := { name := "cashTells", fn := fun _ => fun
  | [d1, d2, d3, d4, d5, d6, d7, d8, d9] => { results := [.lit (.bool true)], args := [d1, d2, d3, d4, d5, d6, d7, d8, d9] }
  | _ => none }
def cashTellsRow : OpenClaim := { program := "ytngjlkdpplmpaaa", sum := "d43d3df1f362c119d878d857e943b28b2934fbd373475f658a1784cd8a1651cf", func := "handfast/handfastlaw10.CashTells", spec := "cashTells", unfollowed := true, recurses := true, plainKeys := false, apart := false }
def CashTellsSaid : Prop := cashTellsRow.holds Try.pinned (OpenSpec.ofChange cashTellsSpec)

/-- ITS FALSE NEIGHBOUR: 'it returns false'. Refute it at one input. -/
def cashTellsWrong : ChangeSpec := { name := "cashTells", fn := fun _ => fun
  | [d1, d2, d3, d4, d5, d6, d7, d8, d9] => { results := [.lit (.bool false)], args := [d1, d2, d3, d4, d5, d6, d7, d8, d9] }
  | _ => none }
def CashTellsWrongFalsely : Prop := cashTellsRow.holds Try.pinned (OpenSpec.ofChange cashTellsWrong)

/-- 'handfastlaw10.CashLaws': WHATEVER THE INPUT: true; the input reads as it did. -/
def cashLawsSpec : ChangeSpec := { name := "cashLaws", fn := fun _ => fun
  | [d1, d2, d3, d4, d5, d6] => { results := [.lit (.bool true)], args := [d1, d2, d3, d4, d5, d6] }
  | _ => none }
def cashLawsRow : OpenClaim := { program := "ytngjlkdpplmpaaa", sum := "d43d3df1f362c119d878d857e943b28b2934fbd373475f658a1784cd8a1651cf", func := "handfast/handfastlaw10.CashLaws", spec := "cashLaws", unfollowed := true, recurses := true, plainKeys := false, apart := false }
def CashLawsSaid : Prop := cashLawsRow.holds Try.pinned (OpenSpec.ofChange cashLawsSpec)

/-- ITS FALSE NEIGHBOUR: 'it returns false'. Refute it at one input. -/
def cashLawsWrong : ChangeSpec := { name := "cashLaws", fn := fun _ => fun
  | [d1, d2, d3, d4, d5, d6] => { results := [.lit (.bool false)], args := [d1, d2, d3, d4, d5, d6] }
  | _ => none }
def CashLawsWrongFalsely : Prop := cashLawsRow.holds Try.pinned (OpenSpec.ofChange cashLawsWrong)

/-- 'handfastlaw10.CashGrows': WHATEVER THE INPUT: true; the input reads as it did. -/
def cashGrowsSpec : ChangeSpec := { name := "cashGrows", fn := fun _ => fun
  | [d1, d2, d3, d4, d5] => { results := [.lit (.bool true)], args := [d1, d2, d3, d4, d5] }
  | _ => none }
def cashGrowsRow : OpenClaim := { program := "ytngjlkdpplmpaaa", sum := "d43d3df1f362c119d878d857e943b28b2934fbd373475f658a1784cd8a1651cf", func := "handfast/handfastlaw10.CashGrows", spec := "cashGrows", inPlace := ["maps.clone"], unfollowed := true, recurses := true, plainKeys := false, apart := false }
def CashGrowsSaid : Prop := cashGrowsRow.holds Try.pinned (OpenSpec.ofChange cashGrowsSpec)

/-- ITS FALSE NEIGHBOUR: 'it returns false'. Refute it at one input. -/
def cashGrowsWrong : ChangeSpec := { name := "cashGrows", fn := fun _ => fun
  | [d1, d2, d3, d4, d5] => { results := [.lit (.bool false)], args := [d1, d2, d3, d4, d5] }
  | _ => none }
def CashGrowsWrongFalsely : Prop := cashGrowsRow.holds Try.pinned (OpenSpec.ofChange cashGrowsWrong)

/- THE SECOND FORM. 'bulk': how many values and letters a reading holds, each counted each time it is reached (what is shared counts as often as it is met; a slice's spare places count too). A statement '..UptoSaid' is the law's where the arguments, and the package variables that the reading takes, are together of bulk at most 1048576: NARROWER than '..Said'. Prove '..Said' where nothing that the law and all that it calls make is longer than what came in: it says more and counts as full. Else prove '..UptoSaid'. A law counts once. -/
mutual
def uptoBulk {H : Type} : DataW H → Nat
  | .lit (.string bytes) => bytes.length + 1
  | .lit _ => 1
  | .nil => 1
  | .ptr d => uptoBulk d + 1
  | .slice elems spare => uptoBulkAll elems + uptoBulkAll spare + 1
  | .agg parts => uptoBulkAll parts + 1
  | .iface _ d => uptoBulk d + 1
  | .map entries => uptoBulkEntries entries + 1
  | .held _ => 1
def uptoBulkAll {H : Type} : List (DataW H) → Nat
  | [] => 0
  | d :: r => uptoBulk d + uptoBulkAll r
def uptoBulkEntries {H : Type} : List (Lit × DataW H) → Nat
  | [] => 0
  | x :: r => uptoBulkEntry x + uptoBulkEntries r
def uptoBulkEntry {H : Type} : Lit × DataW H → Nat
  | (.string bytes, d) => bytes.length + uptoBulk d + 1
  | (_, d) => uptoBulk d + 1
 end
def uptoSmall : (H : Type) → List (DataW H) → Bool := fun _ ds => decide (uptoBulkAll ds ≤ 1048576)
def OpenSpec.upto (s : _root_.Go.ChangeSpec) : _root_.Go.OpenSpec := { _root_.Go.OpenSpec.ofChange s with cond := some uptoSmall }

/-- 'handfastlaw10.CashChoices', WHERE WHAT IT READS IS OF BULK AT MOST 1048576: true; the input reads as it did. -/
def cashChoicesUptoRow : OpenClaim := { program := "ytngjlkdpplmpaaa", sum := "d43d3df1f362c119d878d857e943b28b2934fbd373475f658a1784cd8a1651cf", func := "handfast/handfastlaw10.CashChoices", spec := "cashChoices", unfollowed := true, recurses := true, plainKeys := false, apart := false, narrowed := true }
def CashChoicesUptoSaid : Prop := cashChoicesUptoRow.holds Try.pinned (OpenSpec.upto cashChoicesSpec)

/-- 'handfastlaw10.CashTests', WHERE WHAT IT READS IS OF BULK AT MOST 1048576: true; the input reads as it did. -/
def cashTestsUptoRow : OpenClaim := { program := "ytngjlkdpplmpaaa", sum := "d43d3df1f362c119d878d857e943b28b2934fbd373475f658a1784cd8a1651cf", func := "handfast/handfastlaw10.CashTests", spec := "cashTests", unfollowed := true, recurses := true, plainKeys := false, apart := false, narrowed := true }
def CashTestsUptoSaid : Prop := cashTestsUptoRow.holds Try.pinned (OpenSpec.upto cashTestsSpec)

/-- 'handfastlaw10.CashMany', WHERE WHAT IT READS IS OF BULK AT MOST 1048576: true; the input reads as it did. -/
def cashManyUptoRow : OpenClaim := { program := "ytngjlkdpplmpaaa", sum := "d43d3df1f362c119d878d857e943b28b2934fbd373475f658a1784cd8a1651cf", func := "handfast/handfastlaw10.CashMany", spec := "cashMany", unfollowed := true, recurses := true, plainKeys := false, apart := false, narrowed := true }
def CashManyUptoSaid : Prop := cashManyUptoRow.holds Try.pinned (OpenSpec.upto cashManySpec)

/-- 'handfastlaw10.CashTells', WHERE WHAT IT READS IS OF BULK AT MOST 1048576: true; the input reads as it did. -/
def cashTellsUptoRow : OpenClaim := { program := "ytngjlkdpplmpaaa", sum := "d43d3df1f362c119d878d857e943b28b2934fbd373475f658a1784cd8a1651cf", func := "handfast/handfastlaw10.CashTells", spec := "cashTells", unfollowed := true, recurses := true, plainKeys := false, apart := false, narrowed := true }
def CashTellsUptoSaid : Prop := cashTellsUptoRow.holds Try.pinned (OpenSpec.upto cashTellsSpec)

/-- 'handfastlaw10.CashLaws', WHERE WHAT IT READS IS OF BULK AT MOST 1048576: true; the input reads as it did. -/
def cashLawsUptoRow : OpenClaim := { program := "ytngjlkdpplmpaaa", sum := "d43d3df1f362c119d878d857e943b28b2934fbd373475f658a1784cd8a1651cf", func := "handfast/handfastlaw10.CashLaws", spec := "cashLaws", unfollowed := true, recurses := true, plainKeys := false, apart := false, narrowed := true }
def CashLawsUptoSaid : Prop := cashLawsUptoRow.holds Try.pinned (OpenSpec.upto cashLawsSpec)

/-- 'handfastlaw10.CashGrows', WHERE WHAT IT READS IS OF BULK AT MOST 1048576: true; the input reads as it did. -/
def cashGrowsUptoRow : OpenClaim := { program := "ytngjlkdpplmpaaa", sum := "d43d3df1f362c119d878d857e943b28b2934fbd373475f658a1784cd8a1651cf", func := "handfast/handfastlaw10.CashGrows", spec := "cashGrows", inPlace := ["maps.clone"], unfollowed := true, recurses := true, plainKeys := false, apart := false, narrowed := true }
def CashGrowsUptoSaid : Prop := cashGrowsUptoRow.holds Try.pinned (OpenSpec.upto cashGrowsSpec)

end Rows
end Go.Proofs.Ytngjlkdpplmpaaa
