/- The number that a plan makes, whole. -/
import Derived.Test.YtkioolbjmcpjpaaGreatDoorMakerBin
import Derived.Test.YtkioolbjmcpjpaaGreatDoorWhole
namespace Go.Proofs.YtkioolbjmcpjpaaGreatDoor
open Go.RowKit
set_option linter.unusedVariables false

theorem kOf_lt (p : Pl) (d i : Nat) (left : Int) : kOf p d i left < 9 := by
  unfold kOf
  split <;> omega
theorem kOf_zero (p : Pl) (i : Nat) (left : Int) : kOf p 0 i left ≤ 2 := by
  unfold kOf
  rw [if_pos (.inl rfl)]
  omega
/-- How far a number goes. -/
def reach : Nat → Nat
  | 0 => 2
  | d + 1 => 2 * reach d + 1
theorem reach_pos : ∀ d, 2 ≤ reach d
  | 0 => Nat.le_refl _
  | d + 1 => by have := reach_pos d; simp only [reach]; omega
theorem numO_reach (p : Pl) : ∀ d i left, (numO p d i left).2.1 ≤ i + reach d ∧ left - reach d ≤ (numO p d i left).2.2 ∧ (numO p d i left).2.2 ≤ left := by
  intro d
  induction d with
  | zero =>
    intro i left
    unfold numO
    split <;> simp [reach] <;> omega
  | succ d ih =>
    intro i left
    have hr := reach_pos d
    have h1 := ih (i + 1) (left - 1)
    have h2 := ih (numO p d (i + 1) (left - 1)).2.1 (numO p d (i + 1) (left - 1)).2.2
    unfold numO
    simp only [reach]
    split
    · simp only; omega
    · split
      · simp only; omega
      · split
        · simp only; omega
        · simp only; omega

theorem mobs_any (w0 : World) (M : Nat) (p : Pl) (label : Int) : ∀ d, d ≤ 10 → Less w0 M p label d (900000 - reach d) := by
  intro d
  induction d with
  | zero =>
    intro _ w i left h hi hl1 hl2
    have hk := kOf_zero p i left
    simp only [reach] at hi hl1
    exact mobs_leaf w0 w M p 0 i left label h (by omega) (by omega) (by omega) hl2 (by omega) _ rfl
  | succ d ih =>
    intro hd w i left h hi hl1 hl2
    have hr := reach_pos d
    have hr2 : reach d ≤ 10000 := by
      have : d = 0 ∨ d = 1 ∨ d = 2 ∨ d = 3 ∨ d = 4 ∨ d = 5 ∨ d = 6 ∨ d = 7 ∨ d = 8 ∨ d = 9 := by omega
      rcases this with rfl | rfl | rfl | rfl | rfl | rfl | rfl | rfl | rfl | rfl <;> decide
    have ih' := ih (by omega)
    simp only [reach] at hi hl1
    have hk := kOf_lt p (d + 1) i left
    have hn := numO_reach p d (i + 1) (left - 1)
    have hn2 := numO_reach p d (numO p d (i + 1) (left - 1)).2.1 (numO p d (i + 1) (left - 1)).2.2
    by_cases h4 : kOf p (d + 1) i left ≤ 4
    · have := mobs_leaf w0 w M p (d + 1) i left label h (by omega) (by omega) (by omega) hl2 h4 _ rfl
      have e : numO p (d + 1) i left = if kOf p (d + 1) i left ≤ 1 then (O.const (tabN (nth p (i + 1) % 10).toNat), i + 2, left - 1) else (O.fix (wordOf p (i + 1)), i + 2, left - 1) := by
        rw [numO]
        split
        · rfl
        · first | rw [if_pos h4] | rfl
      rw [e]
      exact this
    · by_cases h5 : kOf p (d + 1) i left = 5
      · have e : numO p (d + 1) i left = (.neg (numO p d (i + 1) (left - 1)).1, (numO p d (i + 1) (left - 1)).2) := by
          rw [numO, if_neg (by omega), if_neg h4, if_pos h5]
        exact mobs_neg w0 w M p d i left label (900000 - reach d) ih' h (by omega) (by omega) (by omega) (by omega) hl2 h5 _ e
      · obtain ⟨j, hj⟩ : ∃ j, kOf p (d + 1) i left = j + 6 := ⟨kOf p (d + 1) i left - 6, by omega⟩
        have hj3 : j < 3 := by omega
        refine mobs_bin w0 w M p d i left label (900000 - reach d) 0 ih' h (by omega) (by omega) (by omega) (by omega) hl2 j hj3 hj (numO p d (i + 1) (left - 1)).1 (numO p d (numO p d (i + 1) (left - 1)).2.1 (numO p d (i + 1) (left - 1)).2.2).1 (numO p d (i + 1) (left - 1)).2.1 (numO p d (numO p d (i + 1) (left - 1)).2.1 (numO p d (i + 1) (left - 1)).2.2).2.1 (numO p d (i + 1) (left - 1)).2.2 (numO p d (numO p d (i + 1) (left - 1)).2.1 (numO p d (i + 1) (left - 1)).2.2).2.2 rfl rfl (by omega) (by omega) (by omega) _ ?_
        rw [numO, if_neg (by omega), if_neg h4, if_neg h5, hj]
        have : j = 0 ∨ j = 1 ∨ j = 2 := by omega
        rcases this with rfl | rfl | rfl <;> exact ⟨rfl, rfl⟩

end Go.Proofs.YtkioolbjmcpjpaaGreatDoor
