/- Numbers of 64 bits as the program adds and turns them: what each operation answers. -/
import Derived.Test.YtfdhpblnjllfiaaRows
import Derived.WalkKit
import Derived.WalkSpells
import Derived.WalkLawsBesides
import Derived.Deep.QuietTactic
import Derived.BigQuiet
namespace Go.Proofs.Ytfdhpblnjllfiaa
open Go.RowKit
set_option linter.unusedVariables false

theorem calls_same {P : Program} {f : Nat} {args : Array Value} {w : World} {e0 : Ending} {Q : Ending → World → Prop} (h : Calls P f args w fun e w' => e = e0 ∧ w' = w) (k : Q e0 w) : Calls P f args w Q :=
  h.mono (by rintro e w' ⟨rfl, rfl⟩; exact k)
theorem ret_bool {a b : Bool} (h : a = b) : Ending.returned (.bool a) = .returned (.bool b) := by rw [h]
theorem ret_int {k : IntKind} {a b : Int} (h : a = b) : Ending.returned (.int k a) = .returned (.int k b) := by rw [h]

/-- A word of 64 bits as the number that a value bears. -/
def un (x : BitVec 64) : Int := (x.toNat : Nat)

theorem un_nonneg (x : BitVec 64) : 0 ≤ un x := by unfold un; omega
theorem un_lt (x : BitVec 64) : un x < 18446744073709551616 := by have := x.isLt; unfold un; omega
theorem un_inj {x y : BitVec 64} : un x = un y ↔ x = y := by
  unfold un
  constructor
  · intro h; apply BitVec.eq_of_toNat_eq; omega
  · rintro rfl; rfl
theorem un_of (n : Int) (h : 0 ≤ n) (h2 : n < 18446744073709551616) : un (BitVec.ofInt 64 n) = n := by
  unfold un
  rw [BitVec.toNat_ofInt]
  omega
theorem un_add (x y : BitVec 64) : IntKind.u64.wrap (un x + un y) = un (x + y) := by
  rw [IntKind.wrap_u64]; unfold un; rw [BitVec.toNat_add]; omega
theorem un_wrap (x : BitVec 64) : IntKind.u64.wrap (x.toNat : Int) = un x := by
  rw [IntKind.wrap_u64]; have := x.isLt; unfold un; omega
theorem un_mod (n : Nat) : IntKind.u64.wrap (n : Int) = un (BitVec.ofNat 64 n) := by
  rw [IntKind.wrap_u64]; unfold un; rw [BitVec.toNat_ofNat]; omega
theorem un_back (x : BitVec 64) : BitVec.ofInt 64 (un x) = x := by
  apply BitVec.eq_of_toNat_eq; unfold un; rw [BitVec.toNat_ofInt]; have := x.isLt; omega
theorem un_xor (x y : BitVec 64) : bits .xor .u64 (un x) (un y) = un (x ^^^ y) := by
  show IntKind.u64.wrap ((BitVec.ofInt 64 (un x) ^^^ BitVec.ofInt 64 (un y)).toNat : Int) = _
  rw [un_back, un_back, un_wrap]
theorem un_or (x y : BitVec 64) : bits .or .u64 (un x) (un y) = un (x ||| y) := by
  show IntKind.u64.wrap ((BitVec.ofInt 64 (un x) ||| BitVec.ofInt 64 (un y)).toNat : Int) = _
  rw [un_back, un_back, un_wrap]
theorem un_shl (x : BitVec 64) (k : Nat) : IntKind.u64.wrap (un x * 2 ^ k) = un (x <<< k) := by
  have h : un x * 2 ^ k = ((x.toNat * 2 ^ k : Nat) : Int) := by unfold un; rw [Int.natCast_mul, Int.natCast_pow]; rfl
  rw [h, un_mod]
  congr 1
  apply BitVec.eq_of_toNat_eq
  rw [BitVec.toNat_ofNat, BitVec.toNat_shiftLeft, Nat.shiftLeft_eq]
theorem un_shr (x : BitVec 64) (k : Nat) : un x / 2 ^ k = un (x >>> k) := by
  have h : (2 : Int) ^ k = ((2 ^ k : Nat) : Int) := by rw [Int.natCast_pow]; rfl
  unfold un
  rw [h, ← Int.natCast_ediv, BitVec.toNat_ushiftRight, Nat.shiftRight_eq_div_pow]

/-- Turned left. -/
def rot (x : BitVec 64) (k : Nat) : BitVec 64 := (x <<< k) ||| (x >>> (64 - k))
theorem rot_un (x : BitVec 64) (k : Nat) : bits .or .u64 (IntKind.u64.wrap (un x * 2 ^ k)) (un x / 2 ^ (64 - k)) = un (rot x k) := by
  rw [un_shl, un_shr, un_or]; rfl
theorem mask63 : ∀ k : Nat, k < 64 → bits .and .u64 (k : Int) 63 = (k : Int) := by decide

set_option maxHeartbeats 400000 in
set_option maxRecDepth 100000 in
theorem rot_any (x : BitVec 64) (k : Nat) (w : World) (hk : k < 64) :
    Calls Try.prog 32 #[.int .u64 (un x), .int .i64 k] w fun e w' => e = .returned (.int .u64 (un (rot x k))) ∧ w' = w := by
  have hm := mask63 k hk
  go_enter Try.func32, Try.ntmps32
  go_wp2
  go_ret
  exact ⟨ret_int (rot_un x k), rfl⟩
set_option maxHeartbeats 400000 in
set_option maxRecDepth 100000 in
theorem left_any (x : BitVec 64) (k : Nat) (w : World) (hk : k < 64) :
    Calls Try.prog 31 #[.int .u64 (un x), .int .u64 k] w fun e w' => e = .returned (.int .u64 (un (rot x k))) ∧ w' = w := by
  go_enter Try.func31, Try.ntmps31
  go_wp2
  go_ret
  exact ⟨ret_int (rot_un x k), rfl⟩
end Go.Proofs.Ytfdhpblnjllfiaa
