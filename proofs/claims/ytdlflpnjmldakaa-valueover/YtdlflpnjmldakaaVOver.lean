/- The walk of ValueOver. -/
import Derived.Test.YtdlflpnjmldakaaV3
namespace Go.Proofs.Ytdlflpnjmldakaa.Vl
open Go.RowKit Wd Cn
set_option linter.unusedVariables false

theorem over_mul (n : Int) (h1 : 2 ≤ n) (h2 : n ≤ 200) : rk ⟨[], []⟩ 3 (.mul (.const 1000000000000) (.const n)) = ⟨0, false, 6⟩ := by
  have a : vB (1000000000000 * n) = false := by
    cases h : vB (1000000000000 * n)
    · rfl
    · rw [vB_iff] at h; omega
  simp [rk, bothR, mulR, a, inR]
theorem over_form (n : Int) (h1 : 2 ≤ n) (h2 : n ≤ 200) : formB (.mul (.const 1000000000000) (.const n)) = true := by
  have a : vB n = true := by rw [vB_iff]; omega
  simp only [formB, a]
  rfl
theorem over_right (n : Int) (h1 : 2 ≤ n) (h2 : n ≤ 200) : ofR ⟨[], []⟩ 3 (.add (.mul (.const 1000000000000) (.const n)) (.fix ⟨#[120]⟩)) = ⟨0, false, 6⟩ := by
  unfold ofR
  rw [if_pos (by unfold chk; rw [if_pos (by rw [formB, over_form n h1 h2, formB, nmx]; rfl), if_neg (by simp [O.nodes, O.depth])])]
  rw [rk, over_mul n h1 h2]
  rfl
theorem over_left (n : Int) (h1 : 2 ≤ n) (h2 : n ≤ 200) : ofR ⟨[], []⟩ 3 (.add (.fix ⟨#[120]⟩) (.mul (.const 1000000000000) (.const n))) = ⟨0, false, 6⟩ := by
  unfold ofR
  rw [if_pos (by unfold chk; rw [if_pos (by rw [formB, over_form n h1 h2, formB, nmx]; rfl), if_neg (by simp [O.nodes, O.depth])])]
  rw [rk, over_mul n h1 h2]
  rfl
theorem over_last (n : Int) (h1 : 2 ≤ n) (h2 : n ≤ 200) : ofR ⟨[], []⟩ 3 (.add (.const 1000000000000) (.neg (.const n))) = ⟨1000000000000 - n, true, 0⟩ := by
  have a : vB n = true := by rw [vB_iff]; omega
  have b : vB (-n) = true := by rw [vB_iff]; omega
  have c : vB (1000000000000 + -n) = true := by rw [vB_iff]; omega
  have e : vB 1000000000000 = true := by rfl
  unfold ofR
  rw [if_pos (by unfold chk; rw [if_pos (by simp [formB, a, e]), if_neg (by simp [O.nodes, O.depth])])]
  simp [rk, otherR, negR, a, inR, bothR, addR, b, c, e]
  omega

set_option maxHeartbeats 2000000 in
theorem over_walk (n : Int) (left : Bool) (w : World) (h1 : -9223372036854775808 ≤ n) (h2 : n ≤ 9223372036854775807) :
    Calls Try.prog 4 #[.int .i64 n, .bool left] w fun e w' => e = .returned (.bool true) ∧ Below w.heap.size w w' := by
  obtain ⟨q, hq⟩ : ∃ q : Nat, n % 100 = q := ⟨(n % 100).toNat, by omega⟩
  have hq5 : q < 100 := by omega
  have HL := hidV (over_left (2 + q) (by omega) (by omega))
  have HR := hidV (over_right (2 + q) (by omega) (by omega))
  have HZ := hidV (over_last (2 + q) (by omega) (by omega))
  have HOK : Hid (∀ k : Int, 0 ≤ k → k ≤ 1000000000000 → -9223372036854775808 ≤ k ∧ k ≤ 9223372036854775807) := fun k a b => ⟨by omega, by omega⟩
  have HX : Hid ((O.fix ⟨#[120]⟩).Ok) := show (ByteArray.mk #[120]).size ≤ 2147483648 by decide
  have HO1 : Hid ((O.add (.mul (.const 1000000000000) (.const (2 + q))) (.fix ⟨#[120]⟩)).Ok) := ⟨⟨HOK.out _ (by omega) (by omega), HOK.out _ (by omega) (by omega)⟩, HX.out⟩
  have HO2 : Hid ((O.add (.fix ⟨#[120]⟩) (.mul (.const 1000000000000) (.const (2 + q)))).Ok) := ⟨HX.out, HOK.out _ (by omega) (by omega), HOK.out _ (by omega) (by omega)⟩
  have HO3 : Hid ((O.add (.const 1000000000000) (.neg (.const (2 + q)))).Ok) := ⟨HOK.out _ (by omega) (by omega), HOK.out _ (by omega) (by omega)⟩
  cases left
  · go_enter Try.func4, Try.ntmps4
    go_wp2_with fail
    refine (new_in' w).mono ?_
    rintro e w1 ⟨b, f, c, rfl, hi⟩
    have HI : Hid (In w w1 b f c ⟨[], []⟩) := hi
    clear hi
    go_wp2_with fail
    refine calls_same (within_any _ 100 _ (by omega) (by omega) h1 h2) ?_
    rw [hq]
    go_wp2_with fail
    have hs := of_in (HI.out.step (below_alloc (Below.refl _ _) (.cells #[(O.const 1000000000000).val, (O.const (2 + q)).val] 35))) (.add (.mul (.const 1000000000000) (.const (2 + q))) (.fix ⟨#[120]⟩)) HO1.out (by simp [O.nodes]) 3 ⟨by omega, by omega⟩ _ HR.out
    simp only [O.val] at hs
    refine hs.mono ?_
    clear hs
    rintro e w2 ⟨rfl, hi⟩
    have HI2 : Hid (In w w2 b f c ⟨[], []⟩) := hi
    clear hi
    unfold ofE
    go_wp2_with fail
    have hs := of_in HI2.out (.add (.const 1000000000000) (.neg (.const (2 + q)))) HO3.out (by simp [O.nodes]) 3 ⟨by omega, by omega⟩ _ HZ.out
    simp only [O.val] at hs
    refine hs.mono ?_
    clear hs
    rintro e w3 ⟨rfl, hi⟩
    have HI3 : Hid (In w w3 b f c ⟨[], []⟩) := hi
    clear hi
    unfold ofE
    go_wp2_with fail
    refine (wakes9_in HI3.out).mono ?_
    rintro e w4 ⟨rfl, hi⟩
    have HI4 : Hid (In w w4 b f c ⟨[], []⟩) := hi
    clear hi
    go_wp2_with fail
    go_ret
    exact ⟨rfl, HI4.out.below⟩
  · go_enter Try.func4, Try.ntmps4
    go_wp2_with fail
    refine (new_in' w).mono ?_
    rintro e w1 ⟨b, f, c, rfl, hi⟩
    have HI : Hid (In w w1 b f c ⟨[], []⟩) := hi
    clear hi
    go_wp2_with fail
    refine calls_same (within_any _ 100 _ (by omega) (by omega) h1 h2) ?_
    rw [hq]
    go_wp2_with fail
    have hs := of_in (HI.out.step (below_alloc (Below.refl _ _) (.cells #[(O.const 1000000000000).val, (O.const (2 + q)).val] 35))) (.add (.fix ⟨#[120]⟩) (.mul (.const 1000000000000) (.const (2 + q)))) HO2.out (by simp [O.nodes]) 3 ⟨by omega, by omega⟩ _ HL.out
    simp only [O.val] at hs
    refine hs.mono ?_
    clear hs
    rintro e w2 ⟨rfl, hi⟩
    have HI2 : Hid (In w w2 b f c ⟨[], []⟩) := hi
    clear hi
    unfold ofE
    go_wp2_with fail
    have hs := of_in HI2.out (.add (.const 1000000000000) (.neg (.const (2 + q)))) HO3.out (by simp [O.nodes]) 3 ⟨by omega, by omega⟩ _ HZ.out
    simp only [O.val] at hs
    refine hs.mono ?_
    clear hs
    rintro e w3 ⟨rfl, hi⟩
    have HI3 : Hid (In w w3 b f c ⟨[], []⟩) := hi
    clear hi
    unfold ofE
    go_wp2_with fail
    refine (wakes9_in HI3.out).mono ?_
    rintro e w4 ⟨rfl, hi⟩
    have HI4 : Hid (In w w4 b f c ⟨[], []⟩) := hi
    clear hi
    go_wp2_with fail
    go_ret
    exact ⟨rfl, HI4.out.below⟩

end Go.Proofs.Ytdlflpnjmldakaa.Vl
