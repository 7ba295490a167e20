/- The document's own answer: a number's digits, below 0 too. -/
import Derived.Test.YtagjbbdpenbcoaaDoorMakerC0
import Derived.Test.YtagjbbdpenbcoaaDoorWObs0
namespace Go.Proofs.YtagjbbdpenbcoaaDoor
open Go.RowKit
set_option linter.unusedVariables false

theorem digN_dec (f : Nat) : ∀ n, n < 10 ^ (f + 1) → digN f n = Lib.decDigits n := by
  induction f with
  | zero =>
    intro n hn
    have h : n < 10 := by simpa using hn
    rw [Lib.decDigits, dif_pos h]
    simp only [digN]
    rw [Nat.mod_eq_of_lt h]
  | succ f ih =>
    intro n hn
    rw [Lib.decDigits]
    by_cases h : n < 10
    · rw [dif_pos h]; simp only [digN, h, if_true]
    · rw [dif_neg h]
      simp only [digN, h, if_false]
      rw [ih (n / 10) (by rw [Nat.pow_succ] at hn; omega)]
theorem dec_len (n : Nat) (h : n ≤ 9223372036854775808) : (Lib.decDigits n).length ≤ 20 := by
  rw [Lib.decDigits_length]; exact Lib.nDigits_le20 n (by omega)

set_option maxHeartbeats 2000000 in
set_option maxRecDepth 100000 in
theorem digitsNeg_any (f : Nat) : ∀ (m : Nat) (w : World), 1 ≤ m → m < 10 ^ (f + 1) → m ≤ 9223372036854775808 →
    Calls Tryd.prog 58 #[.int .i64 (-(m : Int))] w fun e w' => e = .returned (.string ⟨(45 :: Lib.decDigits m).toArray⟩) ∧ Below w.heap.size w w' := by
  induction f with
  | zero =>
    intro m w h1 hm hb
    have hm' : m < 10 := by simpa using hm
    have em : Int.tmod (-(m : Int)) 10 = -(m : Int) := by rw [Int.neg_tmod, Int.tmod_eq_emod_of_nonneg (by omega)]; omega
    have HD : Hid (Lib.decDigits m = [UInt8.ofNat (48 + m)]) := by show _ = _; rw [Lib.decDigits, dif_pos hm']
    have HC := hidIn (fun w => digits_small m w (by omega))
    have hneg : (-(m : Int)) < 0 := by omega
    have hgt : (-10 : Int) < -(m : Int) := by omega
    clear hm
    go_enter Tryd.func58, Tryd.ntmps58
    go_wp2_with fail
    refine (HC.out _).mono ?_
    rintro e w1 ⟨rfl, hb1⟩
    have hsz : (⟨#[UInt8.ofNat (48 + m)]⟩ : ByteArray).size = 1 := rfl
    generalize UInt8.ofNat (48 + m) = c at *
    go_wp2_with fail
    go_ret
    exact ⟨by rw [HD.out]; rfl, hb1⟩
  | succ f ih =>
    intro m w h1 hm hb
    by_cases h10 : m < 10
    · have hm' : m < 10 := h10
      have em : Int.tmod (-(m : Int)) 10 = -(m : Int) := by rw [Int.neg_tmod, Int.tmod_eq_emod_of_nonneg (by omega)]; omega
      have HD : Hid (Lib.decDigits m = [UInt8.ofNat (48 + m)]) := by show _ = _; rw [Lib.decDigits, dif_pos hm']
      have HC := hidIn (fun w => digits_small m w (by omega))
      have hneg : (-(m : Int)) < 0 := by omega
      have hgt : (-10 : Int) < -(m : Int) := by omega
      clear hm ih
      go_enter Tryd.func58, Tryd.ntmps58
      go_wp2_with fail
      refine (HC.out _).mono ?_
      rintro e w1 ⟨rfl, hb1⟩
      generalize UInt8.ofNat (48 + m) = c at *
      go_wp2_with fail
      go_ret
      exact ⟨by rw [HD.out]; rfl, hb1⟩
    · have em : Int.tmod (-(m : Int)) 10 = -((m % 10 : Nat) : Int) := by rw [Int.neg_tmod, Int.tmod_eq_emod_of_nonneg (by omega)]; omega
      have ed : Int.tdiv (-(m : Int)) 10 = -((m / 10 : Nat) : Int) := by rw [Int.neg_tdiv, Int.tdiv_eq_ediv_of_nonneg (by omega)]; omega
      have HD : Hid (Lib.decDigits m = Lib.decDigits (m / 10) ++ [UInt8.ofNat (48 + m % 10)]) := by show _ = _; rw [Lib.decDigits, dif_neg h10]
      have HC := hidIn (fun w => digits_small (m % 10) w (by omega))
      have HI := hidIn (fun w => ih (m / 10) w (by omega) (by rw [Nat.pow_succ] at hm; omega) (by omega))
      have hlen := dec_len (m / 10) (by omega)
      have hneg : (-(m : Int)) < 0 := by omega
      have hgt : ¬ (-10 : Int) < -(m : Int) := by omega
      have hq : m / 10 ≤ 922337203685477580 := by omega
      have hr : m % 10 < 10 := by omega
      generalize hqe : m / 10 = q at *
      generalize hre : m % 10 = r at *
      clear hm ih
      go_enter Tryd.func58, Tryd.ntmps58
      go_wp2_with fail
      refine (HC.out _).mono ?_
      rintro e w1 ⟨rfl, hb1⟩
      generalize UInt8.ofNat (48 + r) = c at *
      generalize Lib.decDigits q = D at *
      have hD : (⟨(45 :: D).toArray⟩ : ByteArray).size ≤ 21 := by show (45 :: D).toArray.size ≤ 21; simp; omega
      have HB1 := hidIn hb1
      clear hb1
      go_wp2_with fail
      refine (HI.out _).mono ?_
      rintro e w2 ⟨rfl, hb2⟩
      have HB2 := hidIn hb2
      clear hb2
      have hc1 : (⟨#[c]⟩ : ByteArray).size = 1 := rfl
      go_wp2_with fail
      go_ret
      exact ⟨by rw [HD.out, ← List.cons_append, ← ByteArray.mk_append_mk]; rfl, HB1.out.trans (HB2.out.mono HB1.out.size)⟩
theorem digAny (n : Int) (h0 : -9223372036854775808 ≤ n) (h1 : n ≤ 9223372036854775807) (w : World) :
    Calls Tryd.prog 58 #[.int .i64 n] w fun e w' => e = .returned (.string (numT n)) ∧ Below w.heap.size w w' := by
  by_cases h : n < 0
  · obtain ⟨m, hm⟩ : ∃ m : Nat, n = -(m : Int) := ⟨n.natAbs, by omega⟩
    subst hm
    have hp : (10 : Nat) ^ (20 + 1) = 1000000000000000000000 := by decide
    refine (digitsNeg_any 20 m w (by omega) (by omega) (by omega)).mono ?_
    rintro e w' ⟨rfl, hb⟩
    exact ⟨by unfold numT Lib.itoa; rw [if_pos h, Int.natAbs_neg, Int.natAbs_natCast], hb⟩
  · obtain ⟨m, hm⟩ : ∃ m : Nat, n = (m : Int) := ⟨n.toNat, by omega⟩
    subst hm
    have hp : (10 : Nat) ^ (20 + 1) = 1000000000000000000000 := by decide
    refine (digits_any 20 m w (by omega) (by omega) (by omega)).mono ?_
    rintro e w' ⟨rfl, hb⟩
    exact ⟨by unfold numT Lib.itoa; rw [if_neg h, Int.toNat_natCast, digN_dec 20 m (by omega)], hb⟩

end Go.Proofs.YtagjbbdpenbcoaaDoor
