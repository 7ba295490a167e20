/- Eight bytes as a number. -/
import Derived.Test.YtkioolbjmcpjpaaDoorPkE
namespace Go.Proofs.YtkioolbjmcpjpaaDoor.Ev
open Go.RowKit
set_option linter.unusedVariables false

def SlOk (a : Option Addr) (l c : Nat) : Prop := (a = none → l = 0 ∧ c = 0) ∧ l ≤ c ∧ c ≤ 9223372036854775807
theorem or_u64 (a b : Nat) (ha : a < 18446744073709551616) (hb : b < 18446744073709551616) : bits .or .u64 (a : Int) (b : Int) = ((a ||| b : Nat) : Int) := by
  show IntKind.u64.wrap ((BitVec.ofInt 64 (a : Int) ||| BitVec.ofInt 64 (b : Int)).toNat : Int) = _
  rw [BitVec.ofInt_natCast, BitVec.ofInt_natCast, BitVec.toNat_or, BitVec.toNat_ofNat, BitVec.toNat_ofNat, Nat.mod_eq_of_lt (by omega), Nat.mod_eq_of_lt (by omega), wrap64]
  have : a ||| b < 2 ^ 64 := Nat.or_lt_two_pow (by omega) (by omega)
  unfold nat64
  omega
theorem or_byte (n : Nat) (x : UInt8) (hn : n < 72057594037927936) : bits .or .u64 ((n * 256 : Nat) : Int) (x.toNat : Int) = ((n * 256 + x.toNat : Nat) : Int) := by
  have hx := x.toNat_lt
  rw [or_u64 _ _ (by omega) (by omega)]
  congr 1
  have := Nat.shiftLeft_add_eq_or_of_lt (i := 8) (b := x.toNat) (by omega) n
  rw [Nat.shiftLeft_eq] at this
  exact this.symm
theorem numL_take (l : List UInt8) (k : Nat) (x : UInt8) (h : l[k]? = some x) : numL (l.take (k + 1)) = numL (l.take k) * 256 + x.toNat := by
  rw [List.take_add_one, h]
  exact numL_snoc _ _
theorem numL_small (l : List UInt8) (k : Nat) (h : k ≤ 8) : numL (l.take k) < 256 ^ k := by
  refine Nat.lt_of_lt_of_le (numL_lt _) (Nat.pow_le_pow_right (by omega) ?_)
  rw [List.length_take]
  omega

set_option maxHeartbeats 2000000 in
set_option maxRecDepth 100000 in
theorem numB_any (v : Value) (l : List UInt8) (w : World) (h : BIn w v l) (hl : l.length ≤ 8) : Calls Tryd.prog 9 #[v] w fun e w' => e = .returned (.int .u64 (numL l)) ∧ w' = w := by
  obtain ⟨ao, c, rfl, h⟩ := h
  have HA := hidIn h
  clear h
  have HL : Hid (numL (l.take l.length) = numL l) := by unfold Hid; rw [List.take_length]
  go_enter Tryd.func9, Tryd.ntmps9
  go_wp2_with fail
  go_loop [3, 8] (fun s3 s8 => ∃ k : Nat, k ≤ l.length ∧ s8 = .int .i64 k ∧ s3 = .int .u64 (numL (l.take k))) (fun _ s8 => l.length - (intOf s8).toNat)
  case atStart => exact ⟨0, by omega, rfl, rfl⟩
  case round =>
    obtain ⟨k, hk, rfl, rfl⟩ := hrel
    by_cases hlt : k < l.length
    · have hlt' : (k : Int) < (l.length : Int) := by omega
      obtain ⟨x, hx⟩ := lt_of_get hlt
      obtain ⟨b, off, rfl, hc⟩ := HA.out k x hx
      have HS := hidIn (numL_take l k x hx)
      have hn : numL (l.take k) < 72057594037927936 := by
        have h1 := numL_small l k (by omega)
        have h2 : 256 ^ k ≤ 256 ^ 7 := Nat.pow_le_pow_right (by omega) (by omega)
        omega
      generalize numL (l.take k) = N at *
      have h1 : IntKind.u64.wrap ((N : Int) * 256) = ((N * 256 : Nat) : Int) := by rw [wrap64]; unfold nat64; omega
      have h2 : IntKind.u64.wrap (x.toNat : Int) = (x.toNat : Int) := by have := x.toNat_lt; rw [wrap64]; unfold nat64; omega
      have h3 : bits .or .u64 ((N : Int) * 256) (x.toNat : Int) = ((N * 256 + x.toNat : Nat) : Int) := by rw [show ((N : Int) * 256) = ((N * 256 : Nat) : Int) by omega]; exact or_byte N x hn
      clear hx hn
      go_wp2_with fail
      go_round
      case rel => exact ⟨k + 1, by omega, by go_num, by rw [HS.out, Int.natCast_add, Int.natCast_mul]; rfl⟩
      case measure => simp [intOf]; omega
    · have hlt' : ¬ (k : Int) < (l.length : Int) := by omega
      have hkl : k = l.length := by omega
      subst hkl
      rw [HL.out]
      go_wp2_with fail
      go_ret
      exact ⟨rfl, rfl⟩
/-- What TakeNumber answers. -/
def tnN (l : List UInt8) : Int := if l.length = 8 then int64 (numL l) else 0
theorem wrap_int64 (n : Nat) (h : n < 18446744073709551616) : RowKit.wrap64 (n : Int) = int64 n := by
  unfold RowKit.wrap64
  unfold int64
  split <;> omega
set_option maxHeartbeats 2000000 in
set_option maxRecDepth 100000 in
theorem takeN_any (v : Value) (l : List UInt8) (w : World) (h : BIn w v l) (hl : l.length ≤ 9223372036854775807) : Calls Tryd.prog 5 #[v] w fun e w' => e = .returned (.tuple #[.int .i64 (tnN l), .bool (decide (l.length = 8))]) ∧ w' = w := by
  by_cases h8 : l.length = 8
  · have HN := hidIn (numB_any v l w h (by omega))
    have hb := numL_lt l
    rw [h8] at hb
    have HT : Hid (tnN l = int64 (numL l)) := by unfold Hid tnN; rw [if_pos h8]
    have hw := wrap_int64 (numL l) (by omega)
    obtain ⟨ao, c, rfl, -⟩ := h
    rw [decide_eq_true h8, HT.out, ← hw]
    generalize numL l = n at *
    rw [h8] at HN ⊢
    clear h8 HT hw
    go_enter Tryd.func5, Tryd.ntmps5
    go_wp2_with fail
    refine calls_same HN.out ?_
    go_wp2_with fail
    go_ret2
    exact ⟨rfl, rfl⟩
  · obtain ⟨ao, c, rfl, -⟩ := h
    rw [decide_eq_false h8, show tnN l = 0 by unfold tnN; rw [if_neg h8]]
    have e : ((l.length : Int) != 8) = true := by rw [bne_iff_ne]; omega
    clear h8
    go_enter Tryd.func5, Tryd.ntmps5
    go_wp2_with fail
    go_ret2
    exact ⟨rfl, rfl⟩

end Go.Proofs.YtkioolbjmcpjpaaDoor.Ev
