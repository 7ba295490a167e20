/- The walk of the statement CentsLaws. -/
import Derived.Test.YtmnijlpklgocoaaEdgesWalk
import Derived.Deep.DeepCutAuto
namespace Go.Proofs.Ytmnijlpklgocoaa
open Go.RowKit
set_option linter.unusedVariables false

theorem addR_comm (a b : Int) : addR b a = addR a b := by unfold addR; rw [Int.add_comm b a, Bool.and_comm (vB b)]
theorem mulR_comm (a b : Int) : mulR b a = mulR a b := by unfold mulR; rw [Int.mul_comm b a, Bool.and_comm (vB b)]
theorem addR_true {a b : Int} (h : (addR a b).2 = true) : vB a = true ∧ vB b = true ∧ vB (a + b) = true ∧ (addR a b).1 = a + b := by
  unfold addR at *
  split at h
  · next x => rw [if_pos x]; simp at x; exact ⟨x.1.1, x.1.2, x.2, rfl⟩
  · simp at h
theorem mulR_true {a b : Int} (h : (mulR a b).2 = true) : vB a = true ∧ vB b = true ∧ vB (a * b) = true ∧ (mulR a b).1 = a * b := by
  unfold mulR at *
  split at h
  · next x => rw [if_pos x]; simp at x; exact ⟨x.1.1, x.1.2, x.2, rfl⟩
  · simp at h
theorem addR_false {a b : Int} (h : (addR a b).2 = false) : addR a b = (0, false) := by
  unfold addR at *
  split at h
  · simp at h
  · next x => rw [if_neg x]
theorem mulR_false {a b : Int} (h : (mulR a b).2 = false) : mulR a b = (0, false) := by
  unfold mulR at *
  split at h
  · simp at h
  · next x => rw [if_neg x]

theorem tdiv_bd (h n : Int) (hn : 0 < n) (h1 : -9223372036854775808 ≤ h) (h2 : h ≤ 9223372036854775807) : -9223372036854775808 ≤ h.tdiv n ∧ h.tdiv n ≤ 9223372036854775807 := by
  have key : ∀ m : Int, 0 ≤ m → 0 ≤ m.tdiv n ∧ m.tdiv n ≤ m := by
    intro m hm
    rw [Int.tdiv_eq_ediv_of_nonneg hm]
    exact ⟨Int.ediv_nonneg hm (by omega), Int.ediv_le_self _ hm⟩
  by_cases x : 0 ≤ h
  · have := key h x; omega
  · have := key (-h) (by omega)
    rw [Int.neg_tdiv] at this
    omega
theorem calls_near {P : Program} {f : Nat} {args : Array Value} {w : World} {Q : Ending → World → Prop} (h : Calls P f args w fun e w' => ∃ v : Int, e = .returned (.int .i64 v) ∧ -9223372036854775808 ≤ v ∧ v ≤ 9223372036854775807 ∧ w' = w) (k : ∀ v : Int, -9223372036854775808 ≤ v → v ≤ 9223372036854775807 → Q (.returned (.int .i64 v)) w) : Calls P f args w Q :=
  h.mono (by rintro e w' ⟨v, rfl, h1, h2, rfl⟩; exact k v h1 h2)

set_option maxHeartbeats 2000000 in
set_option maxRecDepth 100000 in
theorem laws_walk (a b c how : Int) (w : World) (ha1 : -9223372036854775808 ≤ a) (ha2 : a ≤ 9223372036854775807) (hb1 : -9223372036854775808 ≤ b) (hb2 : b ≤ 9223372036854775807) (hc1 : -9223372036854775808 ≤ c) (hc2 : c ≤ 9223372036854775807) (hh1 : -9223372036854775808 ≤ how) (hh2 : how ≤ 9223372036854775807) :
    Calls Try.prog 6 #[.int .i64 a, .int .i64 b, .int .i64 c, .int .i64 how] w fun e w' => e = .returned (.bool true) ∧ Below w.heap.size w w' := by
  go_enter Try.func6, Try.ntmps6
  go_wp2_with fail
  refine calls_near (near_any a how w ha1 ha2 hh1 hh2) ?_
  intro A hA1 hA2
  have hd5 := tdiv_bd how 5 (by omega) hh1 hh2
  have hd25 := tdiv_bd how 25 (by omega) hh1 hh2
  go_wp2_with fail
  refine calls_near (near_any b (how.tdiv 5) _ hb1 hb2 hd5.1 hd5.2) ?_
  intro B hB1 hB2
  go_wp2_with fail
  refine calls_near (near_any c (how.tdiv 25) _ hc1 hc2 hd25.1 hd25.2) ?_
  intro C hC1 hC2
  clear hd5 hd25 ha1 ha2 hb1 hb2 hc1 hc2 hh1 hh2 hA1 hA2 hB1 hB2 hC1 hC2
  go_wp2_with fail
  refine calls_same (add_any _ _ _) ?_
  go_wp2_with fail
  refine calls_same (add_any _ _ _) ?_
  rw [addR_comm]
  go_wp2_with fail
  refine calls_same (mul_any _ _ _) ?_
  go_wp2_with fail
  refine calls_same (mul_any _ _ _) ?_
  rw [mulR_comm]
  have HS : Hid ((addR A B).2 = true → vB A = true ∧ vB B = true ∧ vB (A + B) = true ∧ (addR A B).1 = A + B) := addR_true
  have HT : Hid (∀ p q r s t, p = (addR B C).2 → q = (mulR A (addR B C).1).2 → r = (mulR A B).2 → s = (mulR A C).2 → t = (addR (mulR A B).1 (mulR A C).1).2 → p = true → q = true → r = true → s = true → t = true → (mulR A (addR B C).1).1 = (addR (mulR A B).1 (mulR A C).1).1) := by
    intro p q r s t e1 e2 e3 e4 e5 f1 f2 f3 f4 f5
    have g1 := addR_true (e1.symm.trans f1)
    have g2 := mulR_true (e2.symm.trans f2)
    have g3 := mulR_true (e3.symm.trans f3)
    have g4 := mulR_true (e4.symm.trans f4)
    have g5 := addR_true (e5.symm.trans f5)
    rw [g2.2.2.2, g5.2.2.2, g1.2.2.2, g3.2.2.2, g4.2.2.2, Int.mul_add]
  generalize hX : addR A B = X at *
  obtain ⟨x, ok⟩ := X
  generalize hP : mulR A B = P at *
  obtain ⟨p, has⟩ := P
  go_upto_if 88 with fail
  go_cut [9] (fun s9 wx => wx = w ∧ s9 = .int .i64 x)
  case first =>
    cases ok
    · go_wp2_with fail
      go_meet
      case rel => exact ⟨rfl, rfl⟩
    · obtain ⟨v1, v2, v3, hx⟩ := HS.out rfl
      subst hx
      have HN : Hid (negR B = (-B, true)) := by unfold Hid negR; rw [v2]; rfl
      have hb1 := (vB_iff _).1 v1
      have hb2 := (vB_iff _).1 v2
      have hb3 := (vB_iff _).1 v3
      have HA : Hid (addR (A + B) (-B) = (A, true)) := addR_ok _ _ _ hb3 (by omega) (by omega) hb1
      go_wp2_with fail
      refine calls_same (neg_any _ _) ?_
      rw [HN.out]
      go_wp2_with fail
      refine calls_same (add_any _ _ _) ?_
      rw [HA.out]
      go_wp2_with fail
      refine calls_same (valid_any _ _) ?_
      rw [v3]
      go_wp2_with fail
      go_meet
      case rel => exact ⟨rfl, rfl⟩
  case rest =>
    obtain ⟨rfl, rfl⟩ := hcut
    go_wp2_with fail
    refine calls_same (add_any _ _ _) ?_
    generalize hD : addR B C = D at *
    obtain ⟨d, r1⟩ := D
    go_wp2_with fail
    refine calls_same (mul_any _ _ _) ?_
    generalize hE : mulR A d = E at *
    obtain ⟨e, r2⟩ := E
    go_wp2_with fail
    refine calls_same (mul_any _ _ _) ?_
    rw [hP]
    go_wp2_with fail
    refine calls_same (mul_any _ _ _) ?_
    generalize hG : mulR A C = G at *
    obtain ⟨g, r4⟩ := G
    go_wp2_with fail
    refine calls_same (add_any _ _ _) ?_
    generalize hH : addR p g = H at *
    obtain ⟨h, r5⟩ := H
    have HT2 : Hid (r1 = true → r2 = true → has = true → r4 = true → r5 = true → e = h) := fun a1 a2 a3 a4 a5 => by
      have := HT.out r1 r2 has r4 r5 rfl rfl rfl rfl rfl a1 a2 a3 a4 a5
      exact this
    clear HT HS hD hE hG hH
    have HV : Hid (∀ b, vB A = b → mulR A 1 = (if b then A else 0, b) ∧ mulR A 0 = (0, b)) := by
      intro b hb
      subst hb
      unfold mulR
      rw [Int.mul_one, Int.mul_zero, show vB 0 = true from rfl, show vB 1 = true from rfl]
      cases vB A <;> exact ⟨rfl, rfl⟩
    have hsplit : r1 = false ∨ (r1 = true ∧ r2 = false) ∨ (r1 = true ∧ r2 = true ∧ has = false) ∨ (r1 = true ∧ r2 = true ∧ has = true ∧ r4 = false) ∨ (r1 = true ∧ r2 = true ∧ has = true ∧ r4 = true ∧ r5 = false) ∨ (r1 = true ∧ r2 = true ∧ has = true ∧ r4 = true ∧ r5 = true ∧ e = h) := by
      have := HT2.out
      revert this
      cases r1 <;> cases r2 <;> cases has <;> cases r4 <;> cases r5 <;> simp
    clear HT2
    cases hv : vB A
    all_goals
      obtain ⟨E1, E2⟩ := HV.out _ hv
      clear HV
      rcases hsplit with rfl | ⟨rfl, rfl⟩ | ⟨rfl, rfl, rfl⟩ | ⟨rfl, rfl, rfl, rfl⟩ | ⟨rfl, rfl, rfl, rfl, rfl⟩ | ⟨rfl, rfl, rfl, rfl, rfl, rfl⟩
    all_goals
      go_wp2_with fail
      refine calls_same (mul_any _ _ _) ?_
      rw [E1]
      go_wp2_with fail
      refine calls_same (mul_any _ _ _) ?_
      rw [E2]
      clear E1 E2
      go_wp2_with (first | (go_at_call 19; refine calls_same (valid_any _ _) ?_; rw [hv]) | (go_at_call 11; refine calls_same (wakes_any _) ?_))
      go_ret
      exact ⟨rfl, Below.refl _ _⟩

end Go.Proofs.Ytmnijlpklgocoaa
