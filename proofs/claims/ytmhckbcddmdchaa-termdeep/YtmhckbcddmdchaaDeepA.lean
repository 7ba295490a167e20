/- What the statement TermDeep asks for: contracts that may not be, however deep. -/
import Derived.Test.YtmhckbcddmdchaaRightP
namespace Go.Proofs.Ytmhckbcddmdchaa
open Go.RowKit
set_option linter.unusedVariables false

/-- What may not be. -/
def badC (i : Nat) : C :=
  if i = 0 then .odd .nilIface else if i = 1 then .one ⟨#[85]⟩ else if i = 2 then .when (-1) .zero else if i = 3 then .scale (.odd .nilIface) .zero
  else if i = 4 then .iff (.fix ⟨#[]⟩) .zero .zero else if i = 5 then .or ⟨#[49]⟩ .zero .zero else .give (.odd .nilIface)
theorem bad7 (i : Nat) (h : i < 7) : i = 0 ∨ i = 1 ∨ i = 2 ∨ i = 3 ∨ i = 4 ∨ i = 5 ∨ i = 6 := by omega
theorem badC_ok (i : Nat) (h : i < 7) : (badC i).Ok := by
  have hs : ∀ s : ByteArray, s.size ≤ 10 → s.size ≤ 2147483648 := fun s h => by omega
  rcases bad7 i h with rfl | rfl | rfl | rfl | rfl | rfl | rfl
  · exact .inl rfl
  · exact hs _ (by decide)
  · exact ⟨by decide, trivial⟩
  · exact ⟨.inl rfl, trivial⟩
  · exact ⟨hs _ (by decide), trivial, trivial⟩
  · exact ⟨hs _ (by decide), trivial, trivial⟩
  · exact .inl rfl
theorem badC_form (i : Nat) (h : i < 7) : formC (badC i) = false := by
  rcases bad7 i h with rfl | rfl | rfl | rfl | rfl | rfl | rfl <;> decide +kernel
theorem badC_weight (i : Nat) (h : i < 7) : (badC i).weight ≤ 5 := by
  rcases bad7 i h with rfl | rfl | rfl | rfl | rfl | rfl | rfl <;> decide
def badL : Array Value := #[.nilIface, .iface 58 (.agg #[.string ⟨#[85]⟩]), .iface 60 (.agg #[.int .i64 (-1), .iface 56 (.agg #[])]), .iface 62 (.agg #[.nilIface, .iface 56 (.agg #[])]), .iface 66 (.agg #[.iface 64 (.agg #[.string ⟨#[]⟩]), .iface 56 (.agg #[]), .iface 56 (.agg #[])]), .iface 68 (.agg #[.string ⟨#[49]⟩, .iface 56 (.agg #[]), .iface 56 (.agg #[])]), .iface 70 (.agg #[.nilIface])]
theorem badL_get (i : Nat) (h : i < 7) : badL[i]? = some (badC i).val := by
  rcases bad7 i h with rfl | rfl | rfl | rfl | rfl | rfl | rfl <;> rfl
def orQ : C := .or ⟨#[113]⟩ .zero .zero
def twQ : C := .and orQ orQ
/-- So many around a contract, the one of the plan beside it at times. -/
def tD (x c : C) : Nat → C
  | 0 => c
  | i + 1 => if i % 3 = 0 then .give (tD x c i) else if i % 3 = 1 then .and x (tD x c i) else .when i (tD x c i)
def longQ : Nat → C
  | 0 => orQ
  | i + 1 => .give (longQ i)
theorem tD_ok (x c : C) (hx : x.Ok) (hc : c.Ok) : ∀ i, i ≤ 10 → (tD x c i).Ok
  | 0, _ => hc
  | i + 1, h => by
    have h1 := tD_ok x c hx hc i (by omega)
    unfold tD
    split
    · exact h1
    · split
      · exact ⟨hx, h1⟩
      · exact ⟨by omega, h1⟩
theorem tD_form (x c : C) (hc : formC c = false) : ∀ i, formC (tD x c i) = false
  | 0 => hc
  | i + 1 => by
    have h1 := tD_form x c hc i
    unfold tD
    split
    · exact h1
    · split
      · simp [formC, h1]
      · simp [formC, h1]
theorem tD_weight (x c : C) (hx : x.weight ≤ 630) (hc : c.weight ≤ 10) : ∀ i, i ≤ 10 → (tD x c i).weight ≤ 10 + 640 * i
  | 0, _ => by show c.weight ≤ _; omega
  | i + 1, h => by
    have h1 := tD_weight x c hx hc i (by omega)
    unfold tD
    split
    · simp only [C.weight]; omega
    · split
      · simp only [C.weight]; omega
      · simp only [C.weight]; omega
theorem uD_chk (i : Nat) (h : i < 5) : chkC (tD .zero twQ i) = 4 := by
  have : i = 0 ∨ i = 1 ∨ i = 2 ∨ i = 3 ∨ i = 4 := by omega
  rcases this with rfl | rfl | rfl | rfl | rfl <;> decide +kernel
theorem orQ_ok : orQ.Ok := ⟨by show (⟨#[113]⟩ : ByteArray).size ≤ _; decide, trivial, trivial⟩
theorem longQ_ok : ∀ i, (longQ i).Ok
  | 0 => orQ_ok
  | i + 1 => longQ_ok i
theorem longQ_weight : ∀ i, (longQ i).weight = i + 3
  | 0 => rfl
  | i + 1 => by show (longQ i).weight + 1 = _; rw [longQ_weight i]
theorem long_chk : chkC (.and twQ (longQ 12)) = 5 := by decide +kernel

end Go.Proofs.Ytmhckbcddmdchaa
