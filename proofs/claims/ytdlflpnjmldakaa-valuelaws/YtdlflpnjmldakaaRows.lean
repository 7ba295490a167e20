/-
  No cell of these rows narrows 'for every input' (looked for: loops, veiled, ifaces, maps, wideKeys, modest, calm, conditions, laid).
  DERIVED. THE GIVEN ROWS OF THIS SEAT. 5 by the template 'for every input the law returns true; each argument reads behind the call as it read before'; 0 by the template 'total and deterministic' (their statements: YtdlflpnjmldakaaTotals.lean).
  GIVEN WITH THE SEED: the statements are not yours to turn. If you find one false, say at which input.
  Laid BY PROGRAM, IN A SANDBOX (cutbox-rows.mjs): the forced cells as the released guide's own fill.sh prints them over the translation 960b2ee158404845… (all of the seat's roots in one cut). By AI agents, Wed Nov 11 2026. No macro, syntax, notation, axiom, sorry.
-/
import Derived.Test.YtdlflpnjmldakaaChecked
import GoSem.Claim
import GoSem.ClaimJoined
import GoSem.ClaimMapViews
import Derived.JoinedTies
import Derived.KernelRfl
namespace Go.Proofs.Ytdlflpnjmldakaa
/- THE CELL 'sum', in the pinned program and in every row, IS THE sha256 OF THE DUMP (.gsa) THAT YtdlflpnjmldakaaProg.lean LOADS. Nothing in Lean hashes anything: it is a label: what it is worth is what the hold of that sum in a sandbox is worth. -/
noncomputable def Try.pinned : Pinned := { name := "ytdlflpnjmldakaa", sum := "960b2ee158404845e41f40c9b18343dae8d77f884095b128a80718fcc10013d9", checked := Try.checked }
namespace Rows
def none {H : Type} : Left H := { results := [], args := [] }

/-- 'handfastlaw09.ValueSums': WHATEVER THE INPUT: true; the input reads as it did. -/
def valueSumsSpec : ChangeSpec := { name := "valueSums", fn := fun _ => fun
  | [d1, d2, d3, d4] => { results := [.lit (.bool true)], args := [d1, d2, d3, d4] }
  | _ => none }
def valueSumsRow : OpenClaim := { program := "ytdlflpnjmldakaa", sum := "960b2ee158404845e41f40c9b18343dae8d77f884095b128a80718fcc10013d9", func := "handfast/handfastlaw09.ValueSums", spec := "valueSums", unfollowed := true, recurses := true, plainKeys := false, apart := false }
def ValueSumsSaid : Prop := valueSumsRow.holds Try.pinned (OpenSpec.ofChange valueSumsSpec)

/-- ITS FALSE NEIGHBOUR: 'it returns false'. Refute it at one input. -/
def valueSumsWrong : ChangeSpec := { name := "valueSums", fn := fun _ => fun
  | [d1, d2, d3, d4] => { results := [.lit (.bool false)], args := [d1, d2, d3, d4] }
  | _ => none }
def ValueSumsWrongFalsely : Prop := valueSumsRow.holds Try.pinned (OpenSpec.ofChange valueSumsWrong)

/-- 'handfastlaw09.ValueOver': WHATEVER THE INPUT: true; the input reads as it did. -/
def valueOverSpec : ChangeSpec := { name := "valueOver", fn := fun _ => fun
  | [d1, d2] => { results := [.lit (.bool true)], args := [d1, d2] }
  | _ => none }
def valueOverRow : OpenClaim := { program := "ytdlflpnjmldakaa", sum := "960b2ee158404845e41f40c9b18343dae8d77f884095b128a80718fcc10013d9", func := "handfast/handfastlaw09.ValueOver", spec := "valueOver", unfollowed := true, recurses := true, plainKeys := false, apart := false }
def ValueOverSaid : Prop := valueOverRow.holds Try.pinned (OpenSpec.ofChange valueOverSpec)

/-- ITS FALSE NEIGHBOUR: 'it returns false'. Refute it at one input. -/
def valueOverWrong : ChangeSpec := { name := "valueOver", fn := fun _ => fun
  | [d1, d2] => { results := [.lit (.bool false)], args := [d1, d2] }
  | _ => none }
def ValueOverWrongFalsely : Prop := valueOverRow.holds Try.pinned (OpenSpec.ofChange valueOverWrong)

/-- 'handfastlaw09.ValueTells': WHATEVER THE INPUT: true; the input reads as it did. -/
def valueTellsSpec : ChangeSpec := { name := "valueTells", fn := fun _ => fun
  | [d1, d2, d3, d4, d5, d6, d7, d8] => { results := [.lit (.bool true)], args := [d1, d2, d3, d4, d5, d6, d7, d8] }
  | _ => none }
def valueTellsRow : OpenClaim := { program := "ytdlflpnjmldakaa", sum := "960b2ee158404845e41f40c9b18343dae8d77f884095b128a80718fcc10013d9", func := "handfast/handfastlaw09.ValueTells", spec := "valueTells", unfollowed := true, recurses := true, plainKeys := false, apart := false }
def ValueTellsSaid : Prop := valueTellsRow.holds Try.pinned (OpenSpec.ofChange valueTellsSpec)

/-- ITS FALSE NEIGHBOUR: 'it returns false'. Refute it at one input. -/
def valueTellsWrong : ChangeSpec := { name := "valueTells", fn := fun _ => fun
  | [d1, d2, d3, d4, d5, d6, d7, d8] => { results := [.lit (.bool false)], args := [d1, d2, d3, d4, d5, d6, d7, d8] }
  | _ => none }
def ValueTellsWrongFalsely : Prop := valueTellsRow.holds Try.pinned (OpenSpec.ofChange valueTellsWrong)

/-- 'handfastlaw09.ValueLaws': WHATEVER THE INPUT: true; the input reads as it did. -/
def valueLawsSpec : ChangeSpec := { name := "valueLaws", fn := fun _ => fun
  | [d1, d2, d3, d4] => { results := [.lit (.bool true)], args := [d1, d2, d3, d4] }
  | _ => none }
def valueLawsRow : OpenClaim := { program := "ytdlflpnjmldakaa", sum := "960b2ee158404845e41f40c9b18343dae8d77f884095b128a80718fcc10013d9", func := "handfast/handfastlaw09.ValueLaws", spec := "valueLaws", inPlace := ["maps.clone"], unfollowed := true, recurses := true, plainKeys := false, apart := false }
def ValueLawsSaid : Prop := valueLawsRow.holds Try.pinned (OpenSpec.ofChange valueLawsSpec)

/-- ITS FALSE NEIGHBOUR: 'it returns false'. Refute it at one input. -/
def valueLawsWrong : ChangeSpec := { name := "valueLaws", fn := fun _ => fun
  | [d1, d2, d3, d4] => { results := [.lit (.bool false)], args := [d1, d2, d3, d4] }
  | _ => none }
def ValueLawsWrongFalsely : Prop := valueLawsRow.holds Try.pinned (OpenSpec.ofChange valueLawsWrong)

/-- 'handfastlaw09.ValueNeeds': WHATEVER THE INPUT: true; the input reads as it did. -/
def valueNeedsSpec : ChangeSpec := { name := "valueNeeds", fn := fun _ => fun
  | [d1, d2, d3, d4] => { results := [.lit (.bool true)], args := [d1, d2, d3, d4] }
  | _ => none }
def valueNeedsRow : OpenClaim := { program := "ytdlflpnjmldakaa", sum := "960b2ee158404845e41f40c9b18343dae8d77f884095b128a80718fcc10013d9", func := "handfast/handfastlaw09.ValueNeeds", spec := "valueNeeds", unfollowed := true, recurses := true, plainKeys := false, apart := false }
def ValueNeedsSaid : Prop := valueNeedsRow.holds Try.pinned (OpenSpec.ofChange valueNeedsSpec)

/-- ITS FALSE NEIGHBOUR: 'it returns false'. Refute it at one input. -/
def valueNeedsWrong : ChangeSpec := { name := "valueNeeds", fn := fun _ => fun
  | [d1, d2, d3, d4] => { results := [.lit (.bool false)], args := [d1, d2, d3, d4] }
  | _ => none }
def ValueNeedsWrongFalsely : Prop := valueNeedsRow.holds Try.pinned (OpenSpec.ofChange valueNeedsWrong)

/- THE SECOND FORM. 'bulk': how many values and letters a reading holds, each counted each time it is reached (what is shared counts as often as it is met; a slice's spare places count too). A statement '..UptoSaid' is the law's where the arguments, and the package variables that the reading takes, are together of bulk at most 1048576: NARROWER than '..Said'. Prove '..Said' where nothing that the law and all that it calls make is longer than what came in: it says more and counts as full. Else prove '..UptoSaid'. A law counts once. -/
mutual
def uptoBulk {H : Type} : DataW H → Nat
  | .lit (.string bytes) => bytes.length + 1
  | .lit _ => 1
  | .nil => 1
  | .ptr d => uptoBulk d + 1
  | .slice elems spare => uptoBulkAll elems + uptoBulkAll spare + 1
  | .agg parts => uptoBulkAll parts + 1
  | .iface _ d => uptoBulk d + 1
  | .map entries => uptoBulkEntries entries + 1
  | .held _ => 1
def uptoBulkAll {H : Type} : List (DataW H) → Nat
  | [] => 0
  | d :: r => uptoBulk d + uptoBulkAll r
def uptoBulkEntries {H : Type} : List (Lit × DataW H) → Nat
  | [] => 0
  | x :: r => uptoBulkEntry x + uptoBulkEntries r
def uptoBulkEntry {H : Type} : Lit × DataW H → Nat
  | (.string bytes, d) => bytes.length + uptoBulk d + 1
  | (_, d) => uptoBulk d + 1
 end
def uptoSmall : (H : Type) → List (DataW H) → Bool := fun _ ds => decide (uptoBulkAll ds ≤ 1048576)
def OpenSpec.upto (s : _root_.Go.ChangeSpec) : _root_.Go.OpenSpec := { _root_.Go.OpenSpec.ofChange s with cond := some uptoSmall }

/-- 'handfastlaw09.ValueSums', WHERE WHAT IT READS IS OF BULK AT MOST 1048576: true; the input reads as it did. -/
def valueSumsUptoRow : OpenClaim := { program := "ytdlflpnjmldakaa", sum := "960b2ee158404845e41f40c9b18343dae8d77f884095b128a80718fcc10013d9", func := "handfast/handfastlaw09.ValueSums", spec := "valueSums", unfollowed := true, recurses := true, plainKeys := false, apart := false, narrowed := true }
def ValueSumsUptoSaid : Prop := valueSumsUptoRow.holds Try.pinned (OpenSpec.upto valueSumsSpec)

/-- 'handfastlaw09.ValueOver', WHERE WHAT IT READS IS OF BULK AT MOST 1048576: true; the input reads as it did. -/
def valueOverUptoRow : OpenClaim := { program := "ytdlflpnjmldakaa", sum := "960b2ee158404845e41f40c9b18343dae8d77f884095b128a80718fcc10013d9", func := "handfast/handfastlaw09.ValueOver", spec := "valueOver", unfollowed := true, recurses := true, plainKeys := false, apart := false, narrowed := true }
def ValueOverUptoSaid : Prop := valueOverUptoRow.holds Try.pinned (OpenSpec.upto valueOverSpec)

/-- 'handfastlaw09.ValueTells', WHERE WHAT IT READS IS OF BULK AT MOST 1048576: true; the input reads as it did. -/
def valueTellsUptoRow : OpenClaim := { program := "ytdlflpnjmldakaa", sum := "960b2ee158404845e41f40c9b18343dae8d77f884095b128a80718fcc10013d9", func := "handfast/handfastlaw09.ValueTells", spec := "valueTells", unfollowed := true, recurses := true, plainKeys := false, apart := false, narrowed := true }
def ValueTellsUptoSaid : Prop := valueTellsUptoRow.holds Try.pinned (OpenSpec.upto valueTellsSpec)

/-- 'handfastlaw09.ValueLaws', WHERE WHAT IT READS IS OF BULK AT MOST 1048576: true; the input reads as it did. -/
def valueLawsUptoRow : OpenClaim := { program := "ytdlflpnjmldakaa", sum := "960b2ee158404845e41f40c9b18343dae8d77f884095b128a80718fcc10013d9", func := "handfast/handfastlaw09.ValueLaws", spec := "valueLaws", inPlace := ["maps.clone"], unfollowed := true, recurses := true, plainKeys := false, apart := false, narrowed := true }
def ValueLawsUptoSaid : Prop := valueLawsUptoRow.holds Try.pinned (OpenSpec.upto valueLawsSpec)

/-- 'handfastlaw09.ValueNeeds', WHERE WHAT IT READS IS OF BULK AT MOST 1048576: true; the input reads as it did. -/
def valueNeedsUptoRow : OpenClaim := { program := "ytdlflpnjmldakaa", sum := "960b2ee158404845e41f40c9b18343dae8d77f884095b128a80718fcc10013d9", func := "handfast/handfastlaw09.ValueNeeds", spec := "valueNeeds", unfollowed := true, recurses := true, plainKeys := false, apart := false, narrowed := true }
def ValueNeedsUptoSaid : Prop := valueNeedsUptoRow.holds Try.pinned (OpenSpec.upto valueNeedsSpec)

end Rows
end Go.Proofs.Ytdlflpnjmldakaa
