/- Numbers of 64 bits and their eight bytes: each way back to the other. -/
import Derived.Test.YtfdhpblnjllfiaaRefSum
namespace Go.Proofs.Ytfdhpblnjllfiaa
open Go.RowKit
set_option linter.unusedVariables false

/-- The byte at place i of a number, the least first. -/
def byteAt (n : BitVec 64) (i : Nat) : BitVec 8 := (n >>> (8 * i)).setWidth 8
theorem hi_bit (f : Nat → BitVec 8) : ∀ k j i, (hi f k j).getLsbD i = (decide (i < 64) && decide (i < 8 * k) && (f (j + i / 8)).getLsbD (i % 8))
  | 0, j, i => by simp [hi]
  | k + 1, j, i => by
    show ((hi f k (j + 1)) <<< 8 ||| wide (f j)).getLsbD i = _
    rw [BitVec.getLsbD_or, BitVec.getLsbD_shiftLeft, hi_bit f k (j + 1) (i - 8), wide, BitVec.getLsbD_setWidth]
    by_cases h : i < 8
    · have e1 : i / 8 = 0 := by omega
      have e2 : i % 8 = i := by omega
      simp [h, e1, e2, show i < 64 by omega, show i < 8 * (k + 1) by omega]
    · have e1 : j + 1 + (i - 8) / 8 = j + i / 8 := by omega
      have e2 : (i - 8) % 8 = i % 8 := by omega
      have e3 : (f j).getLsbD i = false := BitVec.getLsbD_of_ge _ _ (by omega)
      rw [e1, e2, e3]
      by_cases h64 : i < 64
      · have h2 : (i - 8 < 8 * k) ↔ (i < 8 * (k + 1)) := by omega
        simp [h, h64, show i - 8 < 64 by omega, h2]
      · simp [h64]
theorem hi_back (n : BitVec 64) : hi (byteAt n) 8 0 = n := by
  apply BitVec.eq_of_getLsbD_eq
  intro i hi
  rw [hi_bit]
  unfold byteAt
  rw [BitVec.getLsbD_setWidth, BitVec.getLsbD_ushiftRight]
  have e1 : 8 * (0 + i / 8) + i % 8 = i := by omega
  rw [e1]
  simp [hi]
  omega
theorem byteAt_hi (f : Nat → BitVec 8) (i : Nat) (h : i < 8) : byteAt (hi f 8 0) i = f i := by
  apply BitVec.eq_of_getLsbD_eq
  intro t ht
  unfold byteAt
  rw [BitVec.getLsbD_setWidth, BitVec.getLsbD_ushiftRight, hi_bit]
  have e1 : 0 + (8 * i + t) / 8 = i := by omega
  have e2 : (8 * i + t) % 8 = t := by omega
  rw [e1, e2]
  simp [ht]
  omega
theorem mul_add_or (x : BitVec 64) (b : BitVec 8) : x * 256#64 + wide b = x <<< 8 ||| wide b := by
  have e : x * 256#64 = x <<< 8 := by
    apply BitVec.eq_of_toNat_eq
    rw [BitVec.toNat_mul, BitVec.toNat_shiftLeft, Nat.shiftLeft_eq]
    rfl
  rw [e, BitVec.add_eq_or_of_and_eq_zero]
  apply BitVec.eq_of_getLsbD_eq
  intro i hi
  rw [BitVec.getLsbD_and, BitVec.getLsbD_shiftLeft, wide, BitVec.getLsbD_setWidth]
  by_cases h : i < 8
  · simp [h]
  · rw [BitVec.getLsbD_of_ge b i (by omega)]; simp
end Go.Proofs.Ytfdhpblnjllfiaa
