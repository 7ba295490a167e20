/- The plain functions of package runes on one rune, and the helpers of the statements on whole numbers: what each answers. -/
import Derived.Test.YtpopboanflnphaaRows
import Derived.WalkKit
import Derived.WalkSpells
import Derived.WalkLawsBesides
import Derived.Deep.QuietTactic
import Derived.BigQuiet
namespace Go.Proofs.Ytpopboanflnphaa
open Go.RowKit
set_option linter.unusedVariables false

def digB (r : Int) : Bool := decide (48 ≤ r) && decide (r ≤ 57)
def letB (r : Int) : Bool := (decide (97 ≤ r) && decide (r ≤ 122)) || digB r || (r == 95) || (decide (128 ≤ r) && !(r == 65533))
def markB (r : Int) : Bool := (r == 40) || (r == 41) || (r == 44)
def joinB (r : Int) : Bool := (r == 45) || letB r

theorem calls_same {P : Program} {f : Nat} {args : Array Value} {w : World} {e0 : Ending} {Q : Ending → World → Prop} (h : Calls P f args w fun e w' => e = e0 ∧ w' = w) (k : Q e0 w) : Calls P f args w Q :=
  h.mono (by rintro e w' ⟨rfl, rfl⟩; exact k)
theorem ret_bool {a b : Bool} (h : a = b) : Ending.returned (.bool a) = .returned (.bool b) := by rw [h]
theorem ret_int {k : IntKind} {a b : Int} (h : a = b) : Ending.returned (.int k a) = .returned (.int k b) := by rw [h]

set_option maxHeartbeats 400000 in
theorem dig_any (r : Int) (w : World) :
    Calls Try.prog 26 #[.int .i32 r] w fun e w' => e = .returned (.bool (digB r)) ∧ w' = w := by
  by_cases h1 : (48 : Int) ≤ r <;> by_cases h2 : r ≤ (57 : Int)
  all_goals
    go_enter Try.func26, Try.ntmps26
    go_wp2
    go_ret
    exact ⟨by simp [digB, h1, h2], rfl⟩

set_option maxHeartbeats 400000 in
theorem mark_any (r : Int) (w : World) :
    Calls Try.prog 28 #[.int .i32 r] w fun e w' => e = .returned (.bool (markB r)) ∧ w' = w := by
  cases e1 : (r == 40) <;> cases e2 : (r == 41)
  all_goals
    go_enter Try.func28, Try.ntmps28
    go_wp2
    go_ret
    exact ⟨by simp [markB, e1, e2], rfl⟩

set_option maxHeartbeats 400000 in
theorem let_any (r : Int) (w : World) :
    Calls Try.prog 17 #[.int .i32 r] w fun e w' => e = .returned (.bool (letB r)) ∧ w' = w := by
  by_cases h1 : (97 : Int) ≤ r <;> by_cases h2 : r ≤ (122 : Int)
  · go_enter Try.func17, Try.ntmps17
    go_wp2
    go_ret
    exact ⟨by simp [letB, h1, h2], rfl⟩
  rotate_right; · exfalso; omega
  all_goals
    cases hd : digB r
    · cases e3 : (r == 95)
      · by_cases h4 : (128 : Int) ≤ r
        all_goals
          go_enter Try.func17, Try.ntmps17
          go_wp2_with (go_at_call 26; refine (dig_any _ _).mono ?_; rintro e w' ⟨rfl, rfl⟩)
          go_ret
          refine ⟨ret_bool ?_, rfl⟩
          have e4 : ¬ r = 95 := by simpa using e3
          rw [Bool.eq_iff_iff]
          simp [letB, hd, e4]
          try omega
      · go_enter Try.func17, Try.ntmps17
        go_wp2_with (go_at_call 26; refine (dig_any _ _).mono ?_; rintro e w' ⟨rfl, rfl⟩)
        go_ret
        exact ⟨by simp [letB, e3], rfl⟩
    · go_enter Try.func17, Try.ntmps17
      go_wp2_with (go_at_call 26; refine (dig_any _ _).mono ?_; rintro e w' ⟨rfl, rfl⟩)
      go_ret
      exact ⟨by simp [letB, hd], rfl⟩

set_option maxHeartbeats 400000 in
theorem joins_any (r : Int) (w : World) :
    Calls Try.prog 29 #[.int .i32 r] w fun e w' => e = .returned (.bool (joinB r)) ∧ w' = w := by
  cases e1 : (r == 45)
  all_goals
    go_enter Try.func29, Try.ntmps29
    go_wp2_with (go_at_call 17; refine (let_any _ _).mono ?_; rintro e w' ⟨rfl, rfl⟩)
    go_ret
    exact ⟨by simp [joinB, e1], rfl⟩

set_option maxHeartbeats 400000 in
theorem refLet_any (r : Int) (w : World) :
    Calls Try.prog 18 #[.int .i32 r] w fun e w' => e = .returned (.bool (letB r)) ∧ w' = w := by
  by_cases h1 : (97 : Int) ≤ r <;> by_cases h2 : r ≤ (122 : Int) <;> by_cases h3 : (48 : Int) ≤ r <;> by_cases h4 : r ≤ (57 : Int) <;> cases e3 : (r == 95) <;> by_cases h5 : (128 : Int) ≤ r
  all_goals first
    | (exfalso; have := beq_iff_eq.1 e3; omega)
    | (exfalso; omega)
    | (go_enter Try.func18, Try.ntmps18
       go_wp2
       go_ret
       refine ⟨ret_bool ?_, rfl⟩
       simp only [beq_eq_false_iff_ne, beq_iff_eq] at e3
       rw [Bool.eq_iff_iff]
       simp [letB, digB]
       omega)

theorem emod_of_tmod (v n : Int) (hn : 1 ≤ n) : v % n = if Int.tmod v n < 0 then Int.tmod v n + n else Int.tmod v n := by
  have h1 := Int.emod_nonneg v (show n ≠ 0 by omega)
  have h2 := Int.emod_lt_of_pos v (show 0 < n by omega)
  rw [Int.tmod_eq_emod]
  split <;> split <;> omega

set_option maxHeartbeats 400000 in
theorem within_any (v n : Int) (w : World) (hn : 1 ≤ n) (hn2 : n ≤ 4611686018427387904) (hv : -9223372036854775808 ≤ v) (hv2 : v ≤ 9223372036854775807) :
    Calls Try.prog 9 #[.int .i64 v, .int .i64 n] w fun e w' => e = .returned (.int .i64 (v % n)) ∧ w' = w := by
  have hm1 := Int.tmod_lt_of_pos v (show 0 < n by omega)
  have hm2 : -n < Int.tmod v n := by
    have := Int.tmod_lt_of_pos (-v) (show 0 < n by omega)
    rw [Int.neg_tmod] at this; omega
  have H : Hid (v % n = if Int.tmod v n < 0 then Int.tmod v n + n else Int.tmod v n) := emod_of_tmod v n hn
  by_cases hc : Int.tmod v n < 0
  · go_enter Try.func9, Try.ntmps9
    go_wp2
    go_ret
    exact ⟨ret_int (by rw [H.out, if_pos hc]), rfl⟩
  · go_enter Try.func9, Try.ntmps9
    go_wp2
    go_ret
    exact ⟨ret_int (by rw [H.out, if_neg (by omega)]), rfl⟩

end Go.Proofs.Ytpopboanflnphaa
