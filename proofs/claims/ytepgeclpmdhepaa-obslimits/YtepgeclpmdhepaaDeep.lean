/- The walk of the statement ObsLimits where numbers stand in one another. -/
import Derived.Test.YtepgeclpmdhepaaSize
import Derived.Deep.RegionLaw
namespace Go.Proofs.Ytepgeclpmdhepaa
open Go.RowKit
set_option linter.unusedVariables false

/-- So many Negs round a Fix. -/
def negs : Nat → O
  | 0 => .fix ⟨#[120]⟩
  | n + 1 => .neg (negs n)
theorem negs_ok : ∀ n, (negs n).Ok
  | 0 => by show (⟨#[120]⟩ : ByteArray).size ≤ _; decide
  | n + 1 => negs_ok n
theorem negs_iface (n : Nat) : ∃ t x, (negs n).val = .iface t x := by cases n <;> exact ⟨_, _, rfl⟩

theorem negs_nodes : ∀ n, (negs n).nodes = n + 1
  | 0 => rfl
  | n + 1 => by show (negs n).nodes + 1 = _; rw [negs_nodes n]
theorem negs_depth : ∀ n, (negs n).depth = n + 1
  | 0 => rfl
  | n + 1 => by show (negs n).depth + 1 = _; rw [negs_depth n]
theorem form_x : nameGo 0 (runesOf ⟨#[120]⟩) = true := by decide +kernel
theorem form_1a : nameGo 0 (runesOf ⟨#[49, 97]⟩) = false := by decide +kernel
theorem negs_form : ∀ n, formB (negs n) = true
  | 0 => form_x
  | n + 1 => negs_form n
theorem chk_negs (n : Nat) : chk (negs n) = if 11 < n then 5 else 0 := by
  unfold chk
  rw [if_pos (negs_form n), negs_nodes, negs_depth]
  by_cases h : 11 < n
  · rw [if_pos h, if_pos (by omega)]
  · rw [if_neg h, if_neg (by omega)]
theorem chk_1a : chk (.fix ⟨#[49, 97]⟩) = 2 := by
  unfold chk
  rw [if_neg (by show ¬ nameGo 0 (runesOf ⟨#[49, 97]⟩) = true; rw [form_1a]; simp)]

set_option maxHeartbeats 2000000 in
set_option maxRecDepth 100000 in
theorem deep_walk (n : Int) (w : World) (h1 : -9223372036854775808 ≤ n) (h2 : n ≤ 9223372036854775807) :
    Calls Try.prog 8 #[.int .i64 n, .bool false] w fun e w' => e = .returned (.bool true) ∧ Below w.heap.size w w' := by
  obtain ⟨q, hq⟩ : ∃ q : Nat, n % 4 = q := ⟨(n % 4).toNat, by omega⟩
  have hq4 : q < 4 := by omega
  go_enter Try.func8, Try.ntmps8
  go_wp2_with fail
  refine calls_same (within_any _ 4 _ (by omega) (by omega) h1 h2) ?_
  rw [hq]
  clear h1 h2 hq
  go_wp2_with fail
  go_loop [10, 9] (fun s10 s9 => ∃ i : Nat, i + 1 ≤ 10 + q ∧ s10 = .int .i64 ((i : Int) + 1) ∧ s9 = (negs i).val) (fun s10 _ => 10 + q - (intOf s10).toNat)
  case atStart => exact ⟨0, by omega, rfl, rfl⟩
  case round =>
    obtain ⟨i, hi, rfl, rfl⟩ := hrel
    obtain ⟨t, x, hx⟩ := negs_iface i
    have HX : Hid ((negs i).val = .iface t x) := hx
    by_cases hlt : i + 1 < 10 + q
    · have hlt' : (i : Int) + 1 < 10 + (q : Int) := by omega
      rw [hx]
      clear hx
      go_wp2_with fail
      go_round
      case rel => exact ⟨i + 1, by omega, by go_num, by show _ = Value.iface _ (.agg #[(negs i).val]); rw [HX.out]⟩
      case measure => simp [intOf]; omega
    · have hlt' : ¬ (i : Int) + 1 < 10 + (q : Int) := by omega
      have HI : Hid (i = 9 + q) := by show i = 9 + q; omega
      clear hx HX
      have HO := negs_ok i
      have HN : Hid ((negs i).nodes ≤ 1000000) := by unfold Hid; rw [negs_nodes]; omega
      have HC : Hid (chk (negs i) = if 12 < 10 + q then 5 else 0) := by
        have := HI.out
        unfold Hid
        rw [chk_negs]
        by_cases h : 11 < i
        · rw [if_pos h, if_pos (by omega)]
        · rw [if_neg h, if_neg (by omega)]
      have HO : Hid ((negs i).Ok) := negs_ok i
      clear HI hi hlt
      generalize negs i = o at *
      by_cases h12 : 12 < 10 + q
      · have h12' : (12 : Int) < 10 + (q : Int) := by omega
        go_wp2_with fail
        refine (check_any o HO.out HN.out _).mono ?_
        rintro e w1 ⟨rfl, hb1⟩
        rw [HC.out, if_pos h12]
        go_wp2_with fail
        refine (check_any (.const 1000000000001) (by simp [O.Ok]) (by simp [O.nodes]) _).mono ?_
        rintro e w2 ⟨rfl, hb2⟩
        rw [show chk (.const 1000000000001) = 2 from rfl]
        go_wp2_with fail
        refine (check_any (.const (-1000000000000)) (by simp [O.Ok]) (by simp [O.nodes]) _).mono ?_
        rintro e w3 ⟨rfl, hb3⟩
        rw [show chk (.const (-1000000000000)) = 0 from rfl]
        go_wp2_with fail
        refine (check_any (.fix ⟨#[49, 97]⟩) (by show (⟨#[49, 97]⟩ : ByteArray).size ≤ _; decide) (by simp [O.nodes]) _).mono ?_
        rintro e w4 ⟨rfl, hb4⟩
        rw [chk_1a]
        go_wp2_with fail
        refine (wakes_any _).mono ?_
        rintro e w5 ⟨rfl, hb5⟩
        go_wp2_with fail
        go_ret
        have c2 := hb1.trans (hb2.mono hb1.size)
        have c3 := c2.trans (hb3.mono c2.size)
        have c4 := c3.trans (hb4.mono c3.size)
        exact ⟨rfl, c4.trans (hb5.mono c4.size)⟩
      · have h12' : ¬ (12 : Int) < 10 + (q : Int) := by omega
        go_wp2_with fail
        refine (check_any o HO.out HN.out _).mono ?_
        rintro e w1 ⟨rfl, hb1⟩
        rw [HC.out, if_neg h12]
        go_wp2_with fail
        refine (check_any (.const 1000000000001) (by simp [O.Ok]) (by simp [O.nodes]) _).mono ?_
        rintro e w2 ⟨rfl, hb2⟩
        rw [show chk (.const 1000000000001) = 2 from rfl]
        go_wp2_with fail
        refine (check_any (.const (-1000000000000)) (by simp [O.Ok]) (by simp [O.nodes]) _).mono ?_
        rintro e w3 ⟨rfl, hb3⟩
        rw [show chk (.const (-1000000000000)) = 0 from rfl]
        go_wp2_with fail
        refine (check_any (.fix ⟨#[49, 97]⟩) (by show (⟨#[49, 97]⟩ : ByteArray).size ≤ _; decide) (by simp [O.nodes]) _).mono ?_
        rintro e w4 ⟨rfl, hb4⟩
        rw [chk_1a]
        go_wp2_with fail
        refine (wakes_any _).mono ?_
        rintro e w5 ⟨rfl, hb5⟩
        go_wp2_with fail
        go_ret
        have c2 := hb1.trans (hb2.mono hb1.size)
        have c3 := c2.trans (hb3.mono c2.size)
        have c4 := c3.trans (hb4.mono c3.size)
        exact ⟨rfl, c4.trans (hb5.mono c4.size)⟩

end Go.Proofs.Ytepgeclpmdhepaa
