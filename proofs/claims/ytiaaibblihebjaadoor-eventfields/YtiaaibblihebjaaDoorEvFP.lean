/- The events of EventFields: one of each kind, one that may not be, another one. -/
import Derived.Test.YtiaaibblihebjaaDoorEvP
namespace Go.Proofs.YtiaaibblihebjaaDoor.Ev
open Go.RowKit
set_option linter.unusedVariables false

def e0 : ByteArray := ⟨#[]⟩
def goodE : Nat → Ev
  | 0 => ⟨1, e0, e0, e0, e0, 0, 0, none'⟩
  | 1 => ⟨2, ⟨#[116]⟩, e0, e0, e0, 0, 0, .zero⟩
  | 2 => ⟨3, e0, ⟨#[110]⟩, e0, e0, 1, -5, none'⟩
  | 3 => ⟨4, ⟨#[116]⟩, e0, ⟨#[108]⟩, e0, 0, 1, none'⟩
  | 4 => ⟨5, e0, e0, e0, e0, 4, 0, none'⟩
  | _ => ⟨6, e0, e0, e0, ⟨#[117, 115, 100]⟩, 2, 7, none'⟩
def letP : Nat → Nat
  | 0 => 73
  | 1 => 84
  | 2 => 78
  | 3 => 68
  | 4 => 86
  | 5 => 76
  | _ => 67
def badP : Nat → Ev → Int → Ev
  | 0, e, _ => { e with i := ⟨#[49]⟩ }
  | 1, e, _ => { e with t := .one e0 }
  | 2, e, _ => { e with n := ⟨#[65]⟩ }
  | 3, e, _ => { e with d := 10001 }
  | 4, e, y => { e with v := y }
  | 5, e, _ => { e with l := ⟨#[32]⟩ }
  | _, e, _ => { e with u := ⟨#[117, 115, 100, 33]⟩ }
def otherP : Nat → Ev → Int → Ev
  | 0, e, _ => { e with i := ⟨#[120]⟩ }
  | 1, e, _ => { e with t := .one ⟨#[101, 117, 114]⟩ }
  | 2, e, _ => { e with n := ⟨#[120]⟩ }
  | 3, e, _ => { e with d := 9 }
  | 4, e, y => { e with v := y }
  | 5, e, _ => { e with l := ⟨#[120]⟩ }
  | _, e, _ => { e with u := ⟨#[120]⟩ }
/-- Whether a kind has that field. -/
def isP (q p : Nat) : Bool := (flds (q + 1)).toList.any (fun b => b.toNat == letP p)
def badV (q : Nat) (x : Int) : Int := if q = 3 then 2 + x else 1000000000001
def othV (q : Nat) : Int := if isP q 4 = true then 0 else 3
def wantP (q p : Nat) : Int := if p = 1 ∧ isP q p = true then 2 else 1

theorem good_chk : ∀ q : Nat, q < 6 → chkE (goodE q) = 0 := by decide +kernel
theorem good_same : ∀ q : Nat, q < 6 → sameE (goodE q) (goodE q) = true := by decide +kernel
theorem bad_chk0 : ∀ q : Nat, q < 6 → ∀ p : Nat, p < 7 → p ≠ 4 → chkE (badP p (goodE q) 0) = wantP q p := by decide +kernel
theorem bad_chk4 : ∀ q : Nat, q < 6 → q ≠ 3 → chkE (badP 4 (goodE q) 1000000000001) = wantP q 4 := by decide +kernel
theorem oth_chk : ∀ q : Nat, q < 6 → ∀ p : Nat, p < 7 → (chkE (otherP p (goodE q) (othV q)) == 0) = isP q p := by decide +kernel
theorem oth_same : ∀ q : Nat, q < 6 → ∀ p : Nat, p < 7 → sameE (goodE q) (otherP p (goodE q) (othV q)) = false := by decide +kernel
theorem pick_no (x : Int) (h : 0 ≤ x) : chkE ⟨4, ⟨#[116]⟩, e0, ⟨#[108]⟩, e0, 0, 2 + x, none'⟩ = 1 := by
  have h1 : pickB (2 + x) = false := by
    unfold pickB
    have a : ((2 + x : Int) == 0) = false := by rw [beq_eq_false_iff_ne]; omega
    have b : ((2 + x : Int) == 1) = false := by rw [beq_eq_false_iff_ne]; omega
    rw [a, b]; rfl
  unfold chkE formE
  simp only [h1]
  simp
theorem bad_chk (q p : Nat) (x : Int) (hq : q < 6) (hp : p < 7) (hx : 0 ≤ x) : chkE (badP p (goodE q) (badV q x)) = wantP q p := by
  by_cases h : p = 4
  · subst h
    by_cases h3 : q = 3
    · subst h3
      exact pick_no x hx
    · unfold badV
      rw [if_neg h3]
      exact bad_chk4 q hq h3
  · rw [← bad_chk0 q hq p hp h]
    rcases (by omega : p = 0 ∨ p = 1 ∨ p = 2 ∨ p = 3 ∨ p = 5 ∨ p = 6) with rfl | rfl | rfl | rfl | rfl | rfl <;> rfl
theorem good_ok (q : Nat) (hq : q < 6) : (goodE q).Ok := by
  have hz : C.zero.Ok := trivial
  rcases (by omega : q = 0 ∨ q = 1 ∨ q = 2 ∨ q = 3 ∨ q = 4 ∨ q = 5) with rfl | rfl | rfl | rfl | rfl | rfl
  all_goals
    constructor <;> first | exact none_ok | exact hz | (show (1 : Nat) ≤ 1000000; omega) | (show _ ≤ maxLen; decide) | (unfold goodE; simp only; omega)
theorem lit_sizes : e0.size ≤ maxLen ∧ (⟨#[49]⟩ : ByteArray).size ≤ maxLen ∧ (⟨#[65]⟩ : ByteArray).size ≤ maxLen ∧ (⟨#[32]⟩ : ByteArray).size ≤ maxLen ∧ (⟨#[117, 115, 100, 33]⟩ : ByteArray).size ≤ maxLen ∧ (⟨#[120]⟩ : ByteArray).size ≤ maxLen := by decide
theorem one_e0 : (C.one e0).Ok := by show e0.size ≤ _; decide
theorem one_eur : (C.one ⟨#[101, 117, 114]⟩).Ok := by show (⟨#[101, 117, 114]⟩ : ByteArray).size ≤ _; decide
theorem bad_ok (p : Nat) (e : Ev) (y : Int) (h : e.Ok) (h1 : -9223372036854775808 ≤ y) (h2 : y ≤ 9223372036854775807) : (badP p e y).Ok := by
  obtain ⟨a1, a2, a3, a4, a5, a6, a7, a8, a9, a10, a11, a12⟩ := h
  obtain ⟨b1, b2, b3, b4, b5, b6⟩ := lit_sizes
  unfold badP
  split <;> constructor <;> first | assumption | exact one_e0 | exact b1 | exact b2 | exact b3 | exact b4 | exact b5 | (show (1 : Nat) ≤ 1000000; omega) | (simp only; omega)
theorem oth_ok (p : Nat) (e : Ev) (y : Int) (h : e.Ok) (h1 : -9223372036854775808 ≤ y) (h2 : y ≤ 9223372036854775807) : (otherP p e y).Ok := by
  obtain ⟨a1, a2, a3, a4, a5, a6, a7, a8, a9, a10, a11, a12⟩ := h
  obtain ⟨b1, b2, b3, b4, b5, b6⟩ := lit_sizes
  unfold otherP
  split <;> constructor <;> first | assumption | exact one_eur | exact b6 | (show (1 : Nat) ≤ 1000000; omega) | (simp only; omega)

end Go.Proofs.YtiaaibblihebjaaDoor.Ev
