/- Eight bytes as a number, the least first: what the program and the reference make of them. -/
import Derived.Test.YtfdhpblnjllfiaaTake
namespace Go.Proofs.Ytfdhpblnjllfiaa
open Go.RowKit
set_option linter.unusedVariables false

/-- A byte as the number that a value bears. -/
def ub (x : BitVec 8) : Int := (x.toNat : Nat)
/-- A byte in a word. -/
def wide (x : BitVec 8) : BitVec 64 := x.setWidth 64
theorem ub_bd (x : BitVec 8) : 0 ≤ ub x ∧ ub x ≤ 255 := by have := x.isLt; unfold ub; omega
theorem ub_wide (x : BitVec 8) : ub x = un (wide x) := by
  unfold ub un wide
  rw [BitVec.toNat_setWidth]
  have := x.isLt
  omega

/-- Bytes in memory, one by one. -/
def HasBytes (w : World) (a : Option Addr) (len : Nat) (f : Nat → BitVec 8) : Prop :=
  ∀ i, i < len → ∃ b off, a = some ⟨b, off, none⟩ ∧ w.cell? ⟨b, off + i, none⟩ = some (.int .u8 (ub (f i)))

/-- n bytes from j on as a number, the least first. -/
def hi (f : Nat → BitVec 8) : Nat → Nat → BitVec 64
  | 0, _ => 0#64
  | n + 1, j => (hi f n (j + 1)) <<< 8 ||| wide (f j)

theorem hi_last (f : Nat → BitVec 8) : ∀ n j, hi f (n + 1) j = hi f n j ||| (wide (f (j + n))) <<< (8 * n)
  | 0, j => by simp [hi]
  | n + 1, j => by
    rw [show hi f (n + 1 + 1) j = (hi f (n + 1) (j + 1)) <<< 8 ||| wide (f j) from rfl, hi_last f n (j + 1)]
    rw [show hi f (n + 1) j = (hi f n (j + 1)) <<< 8 ||| wide (f j) from rfl]
    rw [BitVec.shiftLeft_or_distrib, ← BitVec.shiftLeft_add, show 8 * n + 8 = 8 * (n + 1) by omega, show j + 1 + n = j + (n + 1) by omega]
    rw [BitVec.or_assoc, BitVec.or_assoc, BitVec.or_comm (wide (f j))]

theorem conv_u8 (x : BitVec 8) : IntKind.u64.wrap (ub x) = un (wide x) := by
  rw [ub_wide, IntKind.wrap_u64]; have := un_lt (wide x); have := un_nonneg (wide x); omega

set_option maxHeartbeats 1000000 in
set_option maxRecDepth 100000 in
theorem number_any (ao : Option Addr) (len cap : Nat) (f : Nat → BitVec 8) (w : World) (hr : HasBytes w ao len f) (hl : len ≤ 8) :
    Calls Try.prog 23 #[.slice ao len cap] w fun e w' => e = .returned (.int .u64 (un (hi f len 0))) ∧ w' = w := by
  have HR : Hid (HasBytes w ao len f) := hr
  clear hr
  go_enter Try.func23, Try.ntmps23
  go_wp2_with fail
  go_loop [3, 8] (fun s3 s8 => ∃ (k : Nat), k ≤ len ∧ s8 = .int .i64 k ∧ s3 = .int .u64 (un (hi f k 0))) (fun _ s8 => len - (intOf s8).toNat)
  case atStart => exact ⟨0, by omega, rfl, rfl⟩
  case round =>
    obtain ⟨k, hk, rfl, rfl⟩ := hrel
    by_cases hlt : k < len
    · have hlt' : (k : Int) < (len : Int) := by omega
      obtain ⟨b, off, rfl, hc⟩ := HR.out k hlt
      have hcv := conv_u8 (f k)
      have hub := ub_bd (f k)
      have h8 : 8 * k ≤ 64 := by omega
      go_wp2_with fail
      go_round
      case rel => exact ⟨k + 1, by omega, by go_num, by rw [un_shl, un_or, hi_last, Nat.zero_add]⟩
      case measure => simp [intOf]; omega
    · have hlt' : ¬ (k : Int) < (len : Int) := by omega
      have hkl : k = len := by omega
      go_wp2_with fail
      go_ret
      exact ⟨rfl, rfl⟩

theorem hi_step (f : Nat → BitVec 8) (n : Nat) (h : n < 8) : hi f (n + 1) (8 - (n + 1)) = (hi f n (8 - n)) <<< 8 ||| wide (f (7 - n)) := by
  show (hi f n (8 - (n + 1) + 1)) <<< 8 ||| wide (f (8 - (n + 1))) = _
  rw [show 8 - (n + 1) + 1 = 8 - n by omega, show 8 - (n + 1) = 7 - n by omega]

set_option maxHeartbeats 1000000 in
set_option maxRecDepth 100000 in
theorem refNumber_any (ao : Option Addr) (len cap : Nat) (f : Nat → BitVec 8) (w : World) (hr : HasBytes w ao len f) (hl : len = 8) :
    Calls Try.prog 27 #[.slice ao len cap] w fun e w' => e = .returned (.int .u64 (un (hi f 8 0))) ∧ w' = w := by
  subst hl
  have HR : Hid (HasBytes w ao 8 f) := hr
  clear hr
  go_enter Try.func27, Try.ntmps27
  go_wp2_with fail
  go_loop [3, 4] (fun s3 s4 => ∃ (k : Nat), k ≤ 8 ∧ s4 = .int .i64 (7 - k) ∧ s3 = .int .u64 (un (hi f k (8 - k)))) (fun _ s4 => (1 + intOf s4).toNat)
  case atStart => exact ⟨0, by omega, rfl, rfl⟩
  case round =>
    obtain ⟨k, hk, rfl, rfl⟩ := hrel
    by_cases hlt : k < 8
    · obtain ⟨j, hj⟩ : ∃ j, j = 7 - k := ⟨_, rfl⟩
      have hjk : (7 : Int) - (k : Int) = (j : Int) := by omega
      obtain ⟨b, off, rfl, hc⟩ := HR.out j (by omega)
      have HJ : Hid (j = 7 - k) := hj
      have HC : Hid (bits .or .u64 (IntKind.u64.wrap (un (hi f k (8 - k)) * 2 ^ 8)) (un (wide (f j))) = un (hi f (k + 1) (8 - (k + 1)))) := by
        unfold Hid
        rw [un_shl, un_or, hi_step f k hlt, hj]
      have hcv := conv_u8 (f j)
      have hub := ub_bd (f j)
      have hj0 : (0 : Int) ≤ (j : Int) := by omega
      have hj8 : (j : Int) < 8 := by omega
      have hkj : (k : Int) = 7 - (j : Int) := by omega
      clear hj
      generalize hi f k (8 - k) = X at *
      rw [hjk]
      clear hjk hkj
      go_wp2_with fail
      go_round
      case rel => exact ⟨k + 1, by omega, by have := HJ.out; go_num, by rw [← HC.out]; rfl⟩
      case measure => have := HJ.out; simp [intOf]; omega
    · have hlt' : (7 : Int) - (k : Int) < 0 := by omega
      have hkl : k = 8 := by omega
      subst hkl
      go_wp2_with fail
      go_ret
      exact ⟨rfl, rfl⟩

end Go.Proofs.Ytfdhpblnjllfiaa
