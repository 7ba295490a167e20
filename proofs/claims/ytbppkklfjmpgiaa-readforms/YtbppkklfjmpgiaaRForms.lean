/- The walk of the statement ReadForms. -/
import Derived.Test.YtbppkklfjmpgiaaRForms0
namespace Go.Proofs.Ytbppkklfjmpgiaa
open Go.RowKit
set_option linter.unusedVariables false

set_option maxHeartbeats 8000000 in
set_option maxRecDepth 100000 in
theorem readForms_walk (n : Int) (w : World) (h1 : -9223372036854775808 ≤ n) (h2 : n ≤ 9223372036854775807) :
    Calls Try.prog 4 #[.int .i64 n] w fun e w' => e = .returned (.bool true) ∧ Below w.heap.size w w' := by
  obtain ⟨q, hq⟩ : ∃ q : Nat, n % 9 = q := ⟨(n % 9).toNat, by omega⟩
  have hq9 : q < 9 := by omega
  go_enter Try.func4, Try.ntmps4
  go_wp2_with fail
  refine (kname9_any n q hq hq9 w h1 h2).mono ?_
  rintro e W ⟨rfl, hb⟩
  have HB := hidIn hb
  clear hb h1 h2 hq
  have hcz : (cN q).size = 2 := rfl
  go_wp2_with fail
  go_loop [6, 4, 5] (fun s6 s4 s5 => ∃ i : Nat, i ≤ 12 ∧ s6 = .int .i64 i ∧ s4 = .string (gvN i) ∧ s5 = .string (rpN i)) (fun s6 _ _ => 12 - (intOf s6).toNat)
  case atStart => exact ⟨0, by omega, rfl, rfl, rfl⟩
  case round =>
    obtain ⟨i, hi, rfl, rfl, rfl⟩ := hrel
    have g1 := gvN_size i
    have g2 := rpN_size i
    by_cases hlt : i < 12
    · have hlt' : (i : Int) < 12 := by omega
      have HN : Hid (gvN (i + 1) = gvN i ++ ⟨#[103, 105, 118, 101, 40]⟩) := rfl
      have HM : Hid (rpN (i + 1) = rpN i ++ ⟨#[41]⟩) := rfl
      generalize gvN i = G at *
      generalize rpN i = H at *
      go_wp2_with fail
      go_round
      case rel => exact ⟨i + 1, by omega, by go_num, by rw [HN.out], by rw [HM.out]⟩
      case measure => simp [intOf]; omega
    · have hi12 : i = 12 := by omega
      subst hi12
      rw [gvN_12] at g1
      rw [rpN_12] at g2
      rw [gvN_12, rpN_12]
      have HFM := hidIn (forms_at q hq9)
      have HFS := hidIn (ft_size q hq9)
      generalize dpB = dp at *
      generalize enB = en at *
      obtain ⟨c, hc⟩ : ∃ c, cN q = c := ⟨_, rfl⟩
      rw [hc] at HFM HFS hcz
      rw [hc]
      clear hc
      have e1 : (dp.extract 5 60).size = 55 := by rw [ByteArray.size_extract]; omega
      have e2 : (en.extract 1 12).size = 11 := by rw [ByteArray.size_extract]; omega
      have hap : ∀ a b : ByteArray, (a ++ b).size = a.size + b.size := fun a b => ByteArray.size_append
      go_upto_region 7 with fail
      refine wp_region_grow (fun w' => Below W.heap.size W w') Up (modes [one (.agg #[.string ⟨#[]⟩, .int .i64 1, .int .i64 2]), one (.agg #[.string ⟨#[122, 101, 114, 111, 32, 122, 101, 114, 111]⟩, .int .i64 6, .int .i64 2]), one (.agg #[.string ⟨#[90, 101, 114, 111]⟩, .int .i64 1, .int .i64 2]), one (.agg #[.string ⟨#[111, 110, 101]⟩, .int .i64 4, .int .i64 2]), one (.agg #[.string ⟨#[111, 110, 101, 40]⟩, .int .i64 5, .int .i64 2]), one (.string c), one (.string (⟨#[111, 110, 101, 40]⟩ ++ c)), one (.agg #[.string (⟨#[111, 110, 101, 40]⟩ ++ c), .int .i64 7, .int .i64 2]), one (.agg #[.string ⟨#[111, 110, 101, 40, 41]⟩, .int .i64 5, .int .i64 2]), one (.agg #[.string ⟨#[111, 110, 101, 40, 49, 97, 41]⟩, .int .i64 5, .int .i64 2]), one (.string c), one (.string (⟨#[111, 110, 101, 40]⟩ ++ c)), one (.string ((⟨#[111, 110, 101, 40]⟩ ++ c) ++ ⟨#[44, 120, 41]⟩)), one (.agg #[.string ((⟨#[111, 110, 101, 40]⟩ ++ c) ++ ⟨#[44, 120, 41]⟩), .int .i64 7, .int .i64 2]), one (.agg #[.string ⟨#[103, 105, 118, 101, 40, 49, 41]⟩, .int .i64 6, .int .i64 2]), one (.agg #[.string ⟨#[97, 110, 100, 40, 122, 101, 114, 111, 41]⟩, .int .i64 9, .int .i64 2]), one (.agg #[.string ⟨#[97, 110, 100, 40, 122, 101, 114, 111, 44, 122, 101, 114, 111, 44, 122, 101, 114, 111, 41]⟩, .int .i64 14, .int .i64 2]), one (.agg #[.string ⟨#[111, 114, 40, 122, 101, 114, 111, 44, 122, 101, 114, 111, 41]⟩, .int .i64 13, .int .i64 2]), one (.agg #[.string ⟨#[119, 104, 101, 110, 40, 45, 49, 44, 122, 101, 114, 111, 41]⟩, .int .i64 6, .int .i64 2]), one (.agg #[.string ⟨#[119, 104, 101, 110, 40, 49, 48, 48, 48, 49, 44, 122, 101, 114, 111, 41]⟩, .int .i64 6, .int .i64 2]), one (.agg #[.string ⟨#[119, 104, 101, 110, 40, 48, 49, 44, 122, 101, 114, 111, 41]⟩, .int .i64 6, .int .i64 2]), one (.agg #[.string ⟨#[115, 99, 97, 108, 101, 40, 122, 101, 114, 111, 44, 122, 101, 114, 111, 41]⟩, .int .i64 7, .int .i64 2]), one (.agg #[.string ⟨#[115, 99, 97, 108, 101, 40, 97, 100, 100, 40, 49, 41, 44, 122, 101, 114, 111, 41]⟩, .int .i64 12, .int .i64 2]), one (.agg #[.string ⟨#[105, 102, 40, 49, 44, 122, 101, 114, 111, 41]⟩, .int .i64 10, .int .i64 2]), one (.agg #[.string ⟨#[195, 169, 40, 122, 101, 114, 111, 41]⟩, .int .i64 1, .int .i64 2]), one (.agg #[.string ⟨#[103, 105, 118, 101, 40, 122, 101, 114, 111, 41, 46]⟩, .int .i64 11, .int .i64 2]), one (.agg #[.string ⟨#[103, 105, 118, 101, 9, 40, 122, 101, 114, 111, 41]⟩, .int .i64 5, .int .i64 2]), one (.string dp), one (.string (dp ++ ⟨#[122, 101, 114, 111]⟩)), one (.string en), one (.string ((dp ++ ⟨#[122, 101, 114, 111]⟩) ++ en)), one (.agg #[.string ((dp ++ ⟨#[122, 101, 114, 111]⟩) ++ en), .int .i64 61, .int .i64 5]), one (.string dp), one (.agg #[.string dp, .int .i64 61, .int .i64 5]), one (.string dp), one (.string (dp.extract 5 60)), one (.string ((dp.extract 5 60) ++ ⟨#[122, 101, 114, 111]⟩)), one (.string en), one (.string (en.extract 1 12)), one (.string (((dp.extract 5 60) ++ ⟨#[122, 101, 114, 111]⟩) ++ (en.extract 1 12))), one (.agg #[.string (((dp.extract 5 60) ++ ⟨#[122, 101, 114, 111]⟩) ++ (en.extract 1 12)), .int .i64 0, .int .i64 0]), one (.agg #[.string ⟨#[111, 114, 40, 97, 44, 122, 101, 114, 111, 44, 111, 114, 40, 97, 44, 122, 101, 114, 111, 44, 122, 101, 114, 111, 41, 41]⟩, .int .i64 0, .int .i64 4]), one (.agg #[.string ⟨#[115, 99, 97, 108, 101, 40, 49, 48, 48, 48, 48, 48, 48, 48, 48, 48, 48, 48, 49, 44, 122, 101, 114, 111, 41]⟩, .int .i64 7, .int .i64 2]), one (.string c), one (.string (⟨#[111, 110, 101, 40, 195, 182]⟩ ++ c)), one (.string ((⟨#[111, 110, 101, 40, 195, 182]⟩ ++ c) ++ ⟨#[41]⟩)), one (.agg #[.string ((⟨#[111, 110, 101, 40, 195, 182]⟩ ++ c) ++ ⟨#[41]⟩), .int .i64 0, .int .i64 0]), loose (frowF c dp en), one (.int .i64 28), one (.int .i64 0)]) (by kernel_rfl) (by kernel_rfl) (up_class _) (below_drew (Below.refl _ _)) ?_
      generalize hops : (#[_, _, _, _, _, _, _, _, _, _, _, _, _, _, _, _, _, _, _, _, _, _, _, _, _, _, _, _, _, _, _, _, _, _, _, _, _, _, _, _, _, _, _, _, _, _, _, _, _, _] : Array Oper) = ops
      clear hops
      refine g_runs (.agg #[.string ⟨#[]⟩, .int .i64 1, .int .i64 2]) grow_end Up.refl rfl (wanted_none rfl) (by intro d hd w; cases hd; exact trivial) (fun w' hw' => ?_) ?_
      · go_simp
      simp only [Act.put, List.setIfInBounds_toArray, List.set_cons_zero, List.set_cons_succ]
      refine g_runs (.agg #[.string ⟨#[122, 101, 114, 111, 32, 122, 101, 114, 111]⟩, .int .i64 6, .int .i64 2]) grow_end Up.refl rfl (wanted_none rfl) (by intro d hd w; cases hd; exact trivial) (fun w' hw' => ?_) ?_
      · go_simp
      simp only [Act.put, List.setIfInBounds_toArray, List.set_cons_zero, List.set_cons_succ]
      refine g_runs (.agg #[.string ⟨#[90, 101, 114, 111]⟩, .int .i64 1, .int .i64 2]) grow_end Up.refl rfl (wanted_none rfl) (by intro d hd w; cases hd; exact trivial) (fun w' hw' => ?_) ?_
      · go_simp
      simp only [Act.put, List.setIfInBounds_toArray, List.set_cons_zero, List.set_cons_succ]
      refine g_runs (.agg #[.string ⟨#[111, 110, 101]⟩, .int .i64 4, .int .i64 2]) grow_end Up.refl rfl (wanted_none rfl) (by intro d hd w; cases hd; exact trivial) (fun w' hw' => ?_) ?_
      · go_simp
      simp only [Act.put, List.setIfInBounds_toArray, List.set_cons_zero, List.set_cons_succ]
      refine g_runs (.agg #[.string ⟨#[111, 110, 101, 40]⟩, .int .i64 5, .int .i64 2]) grow_end Up.refl rfl (wanted_none rfl) (by intro d hd w; cases hd; exact trivial) (fun w' hw' => ?_) ?_
      · go_simp
      simp only [Act.put, List.setIfInBounds_toArray, List.set_cons_zero, List.set_cons_succ]
      refine g_runs (.string c) grow_end Up.refl rfl (wanted_none rfl) (by intro d hd w; cases hd; exact trivial) (fun w' hw' => ?_) ?_
      · go_simp
      simp only [Act.put, List.setIfInBounds_toArray, List.set_cons_zero, List.set_cons_succ]
      refine g_runs (.string (⟨#[111, 110, 101, 40]⟩ ++ c)) grow_end Up.refl rfl (wanted_none rfl) (by intro d hd w; cases hd; exact trivial) (fun w' hw' => ?_) ?_
      · go_simp
      simp only [Act.put, List.setIfInBounds_toArray, List.set_cons_zero, List.set_cons_succ]
      refine g_runs (.agg #[.string (⟨#[111, 110, 101, 40]⟩ ++ c), .int .i64 7, .int .i64 2]) grow_end Up.refl rfl (wanted_none rfl) (by intro d hd w; cases hd; exact trivial) (fun w' hw' => ?_) ?_
      · go_simp
      simp only [Act.put, List.setIfInBounds_toArray, List.set_cons_zero, List.set_cons_succ]
      refine g_runs (.agg #[.string ⟨#[111, 110, 101, 40, 41]⟩, .int .i64 5, .int .i64 2]) grow_end Up.refl rfl (wanted_none rfl) (by intro d hd w; cases hd; exact trivial) (fun w' hw' => ?_) ?_
      · go_simp
      simp only [Act.put, List.setIfInBounds_toArray, List.set_cons_zero, List.set_cons_succ]
      refine g_runs (.agg #[.string ⟨#[111, 110, 101, 40, 49, 97, 41]⟩, .int .i64 5, .int .i64 2]) grow_end Up.refl rfl (wanted_none rfl) (by intro d hd w; cases hd; exact trivial) (fun w' hw' => ?_) ?_
      · go_simp
      simp only [Act.put, List.setIfInBounds_toArray, List.set_cons_zero, List.set_cons_succ]
      refine g_runs (.string c) grow_end Up.refl rfl (wanted_none rfl) (by intro d hd w; cases hd; exact trivial) (fun w' hw' => ?_) ?_
      · go_simp
      simp only [Act.put, List.setIfInBounds_toArray, List.set_cons_zero, List.set_cons_succ]
      refine g_runs (.string (⟨#[111, 110, 101, 40]⟩ ++ c)) grow_end Up.refl rfl (wanted_none rfl) (by intro d hd w; cases hd; exact trivial) (fun w' hw' => ?_) ?_
      · go_simp
      simp only [Act.put, List.setIfInBounds_toArray, List.set_cons_zero, List.set_cons_succ]
      refine g_runs (.string ((⟨#[111, 110, 101, 40]⟩ ++ c) ++ ⟨#[44, 120, 41]⟩)) grow_end Up.refl rfl (wanted_none rfl) (by intro d hd w; cases hd; exact trivial) (fun w' hw' => ?_) ?_
      · go_simp
      simp only [Act.put, List.setIfInBounds_toArray, List.set_cons_zero, List.set_cons_succ]
      refine g_runs (.agg #[.string ((⟨#[111, 110, 101, 40]⟩ ++ c) ++ ⟨#[44, 120, 41]⟩), .int .i64 7, .int .i64 2]) grow_end Up.refl rfl (wanted_none rfl) (by intro d hd w; cases hd; exact trivial) (fun w' hw' => ?_) ?_
      · go_simp
      simp only [Act.put, List.setIfInBounds_toArray, List.set_cons_zero, List.set_cons_succ]
      refine g_runs (.agg #[.string ⟨#[103, 105, 118, 101, 40, 49, 41]⟩, .int .i64 6, .int .i64 2]) grow_end Up.refl rfl (wanted_none rfl) (by intro d hd w; cases hd; exact trivial) (fun w' hw' => ?_) ?_
      · go_simp
      simp only [Act.put, List.setIfInBounds_toArray, List.set_cons_zero, List.set_cons_succ]
      refine g_runs (.agg #[.string ⟨#[97, 110, 100, 40, 122, 101, 114, 111, 41]⟩, .int .i64 9, .int .i64 2]) grow_end Up.refl rfl (wanted_none rfl) (by intro d hd w; cases hd; exact trivial) (fun w' hw' => ?_) ?_
      · go_simp
      simp only [Act.put, List.setIfInBounds_toArray, List.set_cons_zero, List.set_cons_succ]
      refine g_runs (.agg #[.string ⟨#[97, 110, 100, 40, 122, 101, 114, 111, 44, 122, 101, 114, 111, 44, 122, 101, 114, 111, 41]⟩, .int .i64 14, .int .i64 2]) grow_end Up.refl rfl (wanted_none rfl) (by intro d hd w; cases hd; exact trivial) (fun w' hw' => ?_) ?_
      · go_simp
      simp only [Act.put, List.setIfInBounds_toArray, List.set_cons_zero, List.set_cons_succ]
      refine g_runs (.agg #[.string ⟨#[111, 114, 40, 122, 101, 114, 111, 44, 122, 101, 114, 111, 41]⟩, .int .i64 13, .int .i64 2]) grow_end Up.refl rfl (wanted_none rfl) (by intro d hd w; cases hd; exact trivial) (fun w' hw' => ?_) ?_
      · go_simp
      simp only [Act.put, List.setIfInBounds_toArray, List.set_cons_zero, List.set_cons_succ]
      refine g_runs (.agg #[.string ⟨#[119, 104, 101, 110, 40, 45, 49, 44, 122, 101, 114, 111, 41]⟩, .int .i64 6, .int .i64 2]) grow_end Up.refl rfl (wanted_none rfl) (by intro d hd w; cases hd; exact trivial) (fun w' hw' => ?_) ?_
      · go_simp
      simp only [Act.put, List.setIfInBounds_toArray, List.set_cons_zero, List.set_cons_succ]
      refine g_runs (.agg #[.string ⟨#[119, 104, 101, 110, 40, 49, 48, 48, 48, 49, 44, 122, 101, 114, 111, 41]⟩, .int .i64 6, .int .i64 2]) grow_end Up.refl rfl (wanted_none rfl) (by intro d hd w; cases hd; exact trivial) (fun w' hw' => ?_) ?_
      · go_simp
      simp only [Act.put, List.setIfInBounds_toArray, List.set_cons_zero, List.set_cons_succ]
      refine g_runs (.agg #[.string ⟨#[119, 104, 101, 110, 40, 48, 49, 44, 122, 101, 114, 111, 41]⟩, .int .i64 6, .int .i64 2]) grow_end Up.refl rfl (wanted_none rfl) (by intro d hd w; cases hd; exact trivial) (fun w' hw' => ?_) ?_
      · go_simp
      simp only [Act.put, List.setIfInBounds_toArray, List.set_cons_zero, List.set_cons_succ]
      refine g_runs (.agg #[.string ⟨#[115, 99, 97, 108, 101, 40, 122, 101, 114, 111, 44, 122, 101, 114, 111, 41]⟩, .int .i64 7, .int .i64 2]) grow_end Up.refl rfl (wanted_none rfl) (by intro d hd w; cases hd; exact trivial) (fun w' hw' => ?_) ?_
      · go_simp
      simp only [Act.put, List.setIfInBounds_toArray, List.set_cons_zero, List.set_cons_succ]
      refine g_runs (.agg #[.string ⟨#[115, 99, 97, 108, 101, 40, 97, 100, 100, 40, 49, 41, 44, 122, 101, 114, 111, 41]⟩, .int .i64 12, .int .i64 2]) grow_end Up.refl rfl (wanted_none rfl) (by intro d hd w; cases hd; exact trivial) (fun w' hw' => ?_) ?_
      · go_simp
      simp only [Act.put, List.setIfInBounds_toArray, List.set_cons_zero, List.set_cons_succ]
      refine g_runs (.agg #[.string ⟨#[105, 102, 40, 49, 44, 122, 101, 114, 111, 41]⟩, .int .i64 10, .int .i64 2]) grow_end Up.refl rfl (wanted_none rfl) (by intro d hd w; cases hd; exact trivial) (fun w' hw' => ?_) ?_
      · go_simp
      simp only [Act.put, List.setIfInBounds_toArray, List.set_cons_zero, List.set_cons_succ]
      refine g_runs (.agg #[.string ⟨#[195, 169, 40, 122, 101, 114, 111, 41]⟩, .int .i64 1, .int .i64 2]) grow_end Up.refl rfl (wanted_none rfl) (by intro d hd w; cases hd; exact trivial) (fun w' hw' => ?_) ?_
      · go_simp
      simp only [Act.put, List.setIfInBounds_toArray, List.set_cons_zero, List.set_cons_succ]
      refine g_runs (.agg #[.string ⟨#[103, 105, 118, 101, 40, 122, 101, 114, 111, 41, 46]⟩, .int .i64 11, .int .i64 2]) grow_end Up.refl rfl (wanted_none rfl) (by intro d hd w; cases hd; exact trivial) (fun w' hw' => ?_) ?_
      · go_simp
      simp only [Act.put, List.setIfInBounds_toArray, List.set_cons_zero, List.set_cons_succ]
      refine g_runs (.agg #[.string ⟨#[103, 105, 118, 101, 9, 40, 122, 101, 114, 111, 41]⟩, .int .i64 5, .int .i64 2]) grow_end Up.refl rfl (wanted_none rfl) (by intro d hd w; cases hd; exact trivial) (fun w' hw' => ?_) ?_
      · go_simp
      simp only [Act.put, List.setIfInBounds_toArray, List.set_cons_zero, List.set_cons_succ]
      refine g_runs (.string dp) grow_end Up.refl rfl (wanted_none rfl) (by intro d hd w; cases hd; exact trivial) (fun w' hw' => ?_) ?_
      · go_simp
      simp only [Act.put, List.setIfInBounds_toArray, List.set_cons_zero, List.set_cons_succ]
      refine g_runs (.string (dp ++ ⟨#[122, 101, 114, 111]⟩)) grow_end Up.refl rfl (wanted_none rfl) (by intro d hd w; cases hd; exact trivial) (fun w' hw' => ?_) ?_
      · go_simp
      simp only [Act.put, List.setIfInBounds_toArray, List.set_cons_zero, List.set_cons_succ]
      refine g_runs (.string en) grow_end Up.refl rfl (wanted_none rfl) (by intro d hd w; cases hd; exact trivial) (fun w' hw' => ?_) ?_
      · go_simp
      simp only [Act.put, List.setIfInBounds_toArray, List.set_cons_zero, List.set_cons_succ]
      refine g_runs (.string ((dp ++ ⟨#[122, 101, 114, 111]⟩) ++ en)) grow_end Up.refl rfl (wanted_none rfl) (by intro d hd w; cases hd; exact trivial) (fun w' hw' => ?_) ?_
      · go_simp
      simp only [Act.put, List.setIfInBounds_toArray, List.set_cons_zero, List.set_cons_succ]
      refine g_runs (.agg #[.string ((dp ++ ⟨#[122, 101, 114, 111]⟩) ++ en), .int .i64 61, .int .i64 5]) grow_end Up.refl rfl (wanted_none rfl) (by intro d hd w; cases hd; exact trivial) (fun w' hw' => ?_) ?_
      · go_simp
      simp only [Act.put, List.setIfInBounds_toArray, List.set_cons_zero, List.set_cons_succ]
      refine g_runs (.string dp) grow_end Up.refl rfl (wanted_none rfl) (by intro d hd w; cases hd; exact trivial) (fun w' hw' => ?_) ?_
      · go_simp
      simp only [Act.put, List.setIfInBounds_toArray, List.set_cons_zero, List.set_cons_succ]
      refine g_runs (.agg #[.string dp, .int .i64 61, .int .i64 5]) grow_end Up.refl rfl (wanted_none rfl) (by intro d hd w; cases hd; exact trivial) (fun w' hw' => ?_) ?_
      · go_simp
      simp only [Act.put, List.setIfInBounds_toArray, List.set_cons_zero, List.set_cons_succ]
      refine g_runs (.string dp) grow_end Up.refl rfl (wanted_none rfl) (by intro d hd w; cases hd; exact trivial) (fun w' hw' => ?_) ?_
      · go_simp
      simp only [Act.put, List.setIfInBounds_toArray, List.set_cons_zero, List.set_cons_succ]
      refine g_runs (.string (dp.extract 5 60)) grow_end Up.refl rfl (wanted_none rfl) (by intro d hd w; cases hd; exact trivial) (fun w' hw' => ?_) ?_
      · go_simp
      simp only [Act.put, List.setIfInBounds_toArray, List.set_cons_zero, List.set_cons_succ]
      refine g_runs (.string ((dp.extract 5 60) ++ ⟨#[122, 101, 114, 111]⟩)) grow_end Up.refl rfl (wanted_none rfl) (by intro d hd w; cases hd; exact trivial) (fun w' hw' => ?_) ?_
      · go_simp
      simp only [Act.put, List.setIfInBounds_toArray, List.set_cons_zero, List.set_cons_succ]
      refine g_runs (.string en) grow_end Up.refl rfl (wanted_none rfl) (by intro d hd w; cases hd; exact trivial) (fun w' hw' => ?_) ?_
      · go_simp
      simp only [Act.put, List.setIfInBounds_toArray, List.set_cons_zero, List.set_cons_succ]
      refine g_runs (.string (en.extract 1 12)) grow_end Up.refl rfl (wanted_none rfl) (by intro d hd w; cases hd; exact trivial) (fun w' hw' => ?_) ?_
      · go_simp
      simp only [Act.put, List.setIfInBounds_toArray, List.set_cons_zero, List.set_cons_succ]
      refine g_runs (.string (((dp.extract 5 60) ++ ⟨#[122, 101, 114, 111]⟩) ++ (en.extract 1 12))) grow_end Up.refl rfl (wanted_none rfl) (by intro d hd w; cases hd; exact trivial) (fun w' hw' => ?_) ?_
      · go_simp
      simp only [Act.put, List.setIfInBounds_toArray, List.set_cons_zero, List.set_cons_succ]
      refine g_runs (.agg #[.string (((dp.extract 5 60) ++ ⟨#[122, 101, 114, 111]⟩) ++ (en.extract 1 12)), .int .i64 0, .int .i64 0]) grow_end Up.refl rfl (wanted_none rfl) (by intro d hd w; cases hd; exact trivial) (fun w' hw' => ?_) ?_
      · go_simp
      simp only [Act.put, List.setIfInBounds_toArray, List.set_cons_zero, List.set_cons_succ]
      refine g_runs (.agg #[.string ⟨#[111, 114, 40, 97, 44, 122, 101, 114, 111, 44, 111, 114, 40, 97, 44, 122, 101, 114, 111, 44, 122, 101, 114, 111, 41, 41]⟩, .int .i64 0, .int .i64 4]) grow_end Up.refl rfl (wanted_none rfl) (by intro d hd w; cases hd; exact trivial) (fun w' hw' => ?_) ?_
      · go_simp
      simp only [Act.put, List.setIfInBounds_toArray, List.set_cons_zero, List.set_cons_succ]
      refine g_runs (.agg #[.string ⟨#[115, 99, 97, 108, 101, 40, 49, 48, 48, 48, 48, 48, 48, 48, 48, 48, 48, 48, 49, 44, 122, 101, 114, 111, 41]⟩, .int .i64 7, .int .i64 2]) grow_end Up.refl rfl (wanted_none rfl) (by intro d hd w; cases hd; exact trivial) (fun w' hw' => ?_) ?_
      · go_simp
      simp only [Act.put, List.setIfInBounds_toArray, List.set_cons_zero, List.set_cons_succ]
      refine g_runs (.string c) grow_end Up.refl rfl (wanted_none rfl) (by intro d hd w; cases hd; exact trivial) (fun w' hw' => ?_) ?_
      · go_simp
      simp only [Act.put, List.setIfInBounds_toArray, List.set_cons_zero, List.set_cons_succ]
      refine g_runs (.string (⟨#[111, 110, 101, 40, 195, 182]⟩ ++ c)) grow_end Up.refl rfl (wanted_none rfl) (by intro d hd w; cases hd; exact trivial) (fun w' hw' => ?_) ?_
      · go_simp
      simp only [Act.put, List.setIfInBounds_toArray, List.set_cons_zero, List.set_cons_succ]
      refine g_runs (.string ((⟨#[111, 110, 101, 40, 195, 182]⟩ ++ c) ++ ⟨#[41]⟩)) grow_end Up.refl rfl (wanted_none rfl) (by intro d hd w; cases hd; exact trivial) (fun w' hw' => ?_) ?_
      · go_simp
      simp only [Act.put, List.setIfInBounds_toArray, List.set_cons_zero, List.set_cons_succ]
      refine g_runs (.agg #[.string ((⟨#[111, 110, 101, 40, 195, 182]⟩ ++ c) ++ ⟨#[41]⟩), .int .i64 0, .int .i64 0]) grow_end Up.refl rfl (wanted_none rfl) (by intro d hd w; cases hd; exact trivial) (fun w' hw' => ?_) ?_
      · go_simp
      simp only [Act.put, List.setIfInBounds_toArray, List.set_cons_zero, List.set_cons_succ]
      refine g_makes (frowF c dp en) rfl (frowF_stays c dp en) (wanted_none rfl) (fun w' hw' hk => ?_) (fun u73 => ?_)
      · refine ⟨.slice (some ⟨w'.heap.size, 0, none⟩) 28 28, w'.alloc (.cells (fcells c dp en) 45), ?_, below_alloc (Below.refl _ _) _, ⟨_, rfl, blk_new rfl⟩⟩
        unfold fcells
        go_simp
      simp only [Act.put, List.setIfInBounds_toArray, List.set_cons_zero, List.set_cons_succ]
      refine g_knows (.int .i64 28) grow_end Up.refl rfl (wanted_none rfl) (by intro d hd w; cases hd; exact trivial) (fun w' hw' hk => ?_) ?_
      · obtain ⟨g, rfl, hg⟩ : frowF c dp en u73 w' := hk 73 (looks_at (by simp [Op.operands, Call.operands]))
        go_simp
      simp only [Act.put, List.setIfInBounds_toArray, List.set_cons_zero, List.set_cons_succ]
      refine g_runs (.int .i64 0) grow_end Up.refl rfl (wanted_none rfl) (by intro d hd w; cases hd; exact trivial) (fun w' hw' => ?_) ?_
      · go_simp
      simp only [Act.put, List.setIfInBounds_toArray, List.set_cons_zero, List.set_cons_succ]
      refine g_nil ?_
      intro w9 hw9 hk9
      obtain ⟨g, rfl, hg⟩ : frowF c dp en u73 w9 := hk9 73
      have HG := hidIn hg
      have HW9 := hidIn hw9
      clear hk9 hg hw9 e1 e2 hap g1 g2 hcz
      go_wp2_with fail
      go_loopw [75] (fun s75 wr => ∃ i : Nat, i ≤ 28 ∧ s75 = .int .i64 i ∧ Below w9.heap.size w9 wr) (fun s75 _ => 28 - (intOf s75).toNat)
      case atStart => exact ⟨0, by omega, rfl, Below.refl _ _⟩
      case round =>
        obtain ⟨i, hi, rfl, hbr⟩ := hrel
        have HBR := hidIn hbr
        by_cases hlt : i < 28
        · have hlt' : (i : Int) < 28 := by omega
          obtain ⟨x, hx⟩ : ∃ x, (ftL c dp en)[i]? = some x := ⟨_, List.getElem?_eq_getElem (by simpa [ftL] using hlt)⟩
          obtain ⟨f1, f2, f3⟩ := fcells_get c dp en i x hx
          have hk := HG.out.below hbr HG.out.lt
          have k0 := (hk.cell (i * 3)).trans f1
          have k1 := (hk.cell (i * 3 + 1)).trans f2
          have k2 := (hk.cell (i * 3 + 2)).trans f3
          have HX := hidIn (HFM.out i x hx)
          have HXS := hidIn (HFS.out i x hx)
          clear hbr hk f1 f2 f3 hx
          obtain ⟨xs, xa, xe⟩ := x
          simp only at k0 k1 k2
          go_upto_region 10 with fail
          obtain ⟨W2, hW2⟩ : ∃ W2, W2 = wr.alloc (.cells #[.string xs, .int .i64 xa, .int .i64 xe] 45) := ⟨_, rfl⟩
          have HB2 : Hid (Below w9.heap.size w9 W2) := by rw [hW2]; exact HBR.out.alloc HBR.out.size _
          have HK2 : Hid (Blk W2 wr.heap.size 45 #[.string xs, .int .i64 xa, .int .i64 xe]) := by rw [hW2]; exact blk_new rfl
          have d0 : W2.cell? ⟨wr.heap.size, 0, none⟩ = some (.string xs) := HK2.out.cell 0
          rw [← hW2]
          clear hW2 k0 k1 k2
          go_upto_region 11 with fail
          refine (readT_any xs W2 (by have := HXS.out; omega)).mono ?_
          rintro e w4 ⟨rfl, _, hb4⟩
          obtain ⟨x1, x2, x3⟩ := HX.out
          rw [x1, x2]
          have hk4 := HK2.out.below hb4 HK2.out.lt
          have d1 : w4.cell? ⟨wr.heap.size, 1, none⟩ = some (.int .i64 xa) := hk4.cell 1
          have d2 : w4.cell? ⟨wr.heap.size, 2, none⟩ = some (.int .i64 xe) := hk4.cell 2
          have HB4 := hidIn (HB2.out.trans (hb4.mono HB2.out.size))
          clear hb4 hk4 d0 x1 x2 HX
          rcases x3 with ⟨rfl, ty, yv, hv⟩ | ⟨he, hv⟩
          · rw [hv]
            clear hv
            go_wp2_with fail
            go_roundw
            case rel => exact ⟨i + 1, by omega, by go_num, HB4.out⟩
            case measure => simp [intOf]; omega
          · rw [hv]
            clear hv
            have hen : (xe == 0) = false := beq_eq_false_iff_ne.2 he
            go_wp2_with fail
            go_roundw
            case rel => exact ⟨i + 1, by omega, by go_num, HB4.out⟩
            case measure => simp [intOf]; omega
        · have hi28 : i = 28 := by omega
          subst hi28
          clear hbr HFM HFS HG
          go_wp2_with fail
          go_loop [12] (fun s12 => ∃ S : ByteArray, S.size ≤ 1001 ∧ s12 = .string S) (fun s12 => 1001 - lenV s12)
          case atStart => exact ⟨_, by decide, rfl⟩
          case round =>
            obtain ⟨S, hS, rfl⟩ := hrel
            by_cases hlt2 : S.size ≤ 1000
            · have hlt2' : (S.size : Int) ≤ 1000 := by omega
              have hsz : (S ++ (⟨#[32]⟩ : ByteArray)).size = S.size + 1 := by rw [ByteArray.size_append]; rfl
              have HSZ := hidIn hsz
              go_wp2_with fail
              go_round
              case rel => exact ⟨_, by rw [HSZ.out]; omega, rfl⟩
              case measure => simp only [lenV]; rw [HSZ.out]; omega
            · have hlt2' : ¬ (S.size : Int) ≤ 1000 := by omega
              have HL := hidIn (rdT_long S (by omega))
              go_wp2_with fail
              refine (readT_any S wr (by omega)).mono ?_
              rintro e w5 ⟨rfl, _, hb5⟩
              rw [HL.out]
              have HB5 := hidIn (HBR.out.trans (hb5.mono HBR.out.size))
              clear hb5
              have hnil : (C.odd .nilIface).val = .nilIface := rfl
              simp only [hnil]
              go_wp2_with fail
              refine (wakes7_any w5).mono ?_
              rintro e w6 ⟨rfl, hb6⟩
              go_wp2_with fail
              go_ret
              have h6 := HB5.out.trans (hb6.mono HB5.out.size)
              have h7 := HW9.out.trans (h6.mono HW9.out.size)
              exact ⟨rfl, HB.out.trans (h7.mono HB.out.size)⟩

end Go.Proofs.Ytbppkklfjmpgiaa
