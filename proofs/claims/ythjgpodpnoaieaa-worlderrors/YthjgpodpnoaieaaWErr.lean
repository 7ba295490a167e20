/- The walk of the statement WorldErrors. -/
import Derived.Test.YthjgpodpnoaieaaKi
namespace Go.Proofs.Ythjgpodpnoaieaa.Wd
open Go.RowKit Go.Maps
set_option linter.unusedVariables false

theorem ones {i : Nat} (h : i < 13) : (#[Value.int .i64 1, .int .i64 1, .int .i64 1, .int .i64 1, .int .i64 1, .int .i64 1, .int .i64 1, .int .i64 1, .int .i64 1, .int .i64 1, .int .i64 1, .int .i64 1, .int .i64 1] : Array Value)[i]? = some (.int .i64 1) := by
  match i, h with
  | 0, _ => rfl
  | 1, _ => rfl
  | 2, _ => rfl
  | 3, _ => rfl
  | 4, _ => rfl
  | 5, _ => rfl
  | 6, _ => rfl
  | 7, _ => rfl
  | 8, _ => rfl
  | 9, _ => rfl
  | 10, _ => rfl
  | 11, _ => rfl
  | 12, _ => rfl

set_option maxHeartbeats 2000000 in
set_option maxRecDepth 100000 in
theorem errors_walk (n : Int) (w : World) (h1 : -9223372036854775808 ≤ n) (h2 : n ≤ 9223372036854775807) :
    Calls Try.prog 3 #[.int .i64 n] w fun e w' => e = .returned (.bool true) ∧ Below w.heap.size w w' := by
  go_enter Try.func3, Try.ntmps3
  go_wp2_with fail
  refine (new_in' w).mono ?_
  rintro e w0 ⟨b, f, c, rfl, hi⟩
  have HI0 : Hid (In w w0 b f c ⟨[], []⟩) := hi
  clear hi
  go_wp2_with fail
  refine calls_same (within_any n 10001 _ (by omega) (by omega) h1 h2) ?_
  have hm1 : 0 ≤ n % 10001 := Int.emod_nonneg _ (by omega)
  have hm2 : n % 10001 < 10001 := Int.emod_lt_of_pos _ (by omega)
  generalize n % 10001 = m at *
  clear h1 h2
  have hd : dayB m = true := by simp [dayB]; omega
  go_wp2_with fail
  refine (fixbad_in HI0.out _ _ _ (by simp [nmE])).mono ?_
  rintro e w1 ⟨rfl, hi⟩
  have HI1 : Hid (In w w1 b f c ⟨[], []⟩) := hi
  clear hi HI0
  go_wp2_with fail
  refine (fixbad_in HI1.out _ _ _ (by simp [nmA])).mono ?_
  rintro e w2 ⟨rfl, hi⟩
  have HI2 : Hid (In w w2 b f c ⟨[], []⟩) := hi
  clear hi HI1
  go_wp2_with fail
  refine (fixbad_in HI2.out _ _ _ (by simp [nm1])).mono ?_
  rintro e w3 ⟨rfl, hi⟩
  have HI3 : Hid (In w w3 b f c ⟨[], []⟩) := hi
  clear hi HI2
  go_wp2_with fail
  refine (fixbad_in HI3.out _ _ _ (by simp [dayB])).mono ?_
  rintro e w4 ⟨rfl, hi⟩
  have HI4 : Hid (In w w4 b f c ⟨[], []⟩) := hi
  clear hi HI3
  go_wp2_with fail
  refine (fixbad_in HI4.out _ _ _ (by simp [dayB])).mono ?_
  rintro e w5 ⟨rfl, hi⟩
  have HI5 : Hid (In w w5 b f c ⟨[], []⟩) := hi
  clear hi HI4
  go_wp2_with fail
  refine (fixbad_in HI5.out _ _ _ (by simp [vB])).mono ?_
  rintro e w6 ⟨rfl, hi⟩
  have HI6 : Hid (In w w6 b f c ⟨[], []⟩) := hi
  clear hi HI5
  go_wp2_with fail
  refine (fixbad_in HI6.out _ _ _ (by simp [vB])).mono ?_
  rintro e w7 ⟨rfl, hi⟩
  have HI7 : Hid (In w w7 b f c ⟨[], []⟩) := hi
  clear hi HI6
  go_wp2_with fail
  refine (chbad_in HI7.out _ _ _ _ (by simp [nmE])).mono ?_
  rintro e w8 ⟨rfl, hi⟩
  have HI8 : Hid (In w w8 b f c ⟨[], []⟩) := hi
  clear hi HI7
  go_wp2_with fail
  refine (chbad_in HI8.out _ _ _ _ (by simp [nmE])).mono ?_
  rintro e w9 ⟨rfl, hi⟩
  have HI9 : Hid (In w w9 b f c ⟨[], []⟩) := hi
  clear hi HI8
  go_wp2_with fail
  refine (chbad_in HI9.out _ _ _ _ (by simp [pickB])).mono ?_
  rintro e w10 ⟨rfl, hi⟩
  have HI10 : Hid (In w w10 b f c ⟨[], []⟩) := hi
  clear hi HI9
  go_wp2_with fail
  refine (chbad_in HI10.out _ _ _ _ (by simp [pickB])).mono ?_
  rintro e w11 ⟨rfl, hi⟩
  have HI11 : Hid (In w w11 b f c ⟨[], []⟩) := hi
  clear hi HI10
  go_wp2_with fail
  refine (chbad_in HI11.out _ _ _ _ (by simp [dayB])).mono ?_
  rintro e w12 ⟨rfl, hi⟩
  have HI12 : Hid (In w w12 b f c ⟨[], []⟩) := hi
  clear hi HI11
  go_wp2_with fail
  refine (chbad_in HI12.out _ _ _ _ (by simp [dayB])).mono ?_
  rintro e w13 ⟨rfl, hi⟩
  have HI13 : Hid (In w w13 b f c ⟨[], []⟩) := hi
  clear hi HI12
  go_wp2_with fail
  have hcell : ∀ i, i < 13 → (w13.alloc (.cells #[.int .i64 1, .int .i64 1, .int .i64 1, .int .i64 1, .int .i64 1, .int .i64 1, .int .i64 1, .int .i64 1, .int .i64 1, .int .i64 1, .int .i64 1, .int .i64 1, .int .i64 1] 25)).cell? ⟨w13.heap.size, i, none⟩ = some (.int .i64 1) := fun i hi => cell_blk (blk_new _ _) (ones hi)
  have HI : Hid (In w (w13.alloc (.cells #[.int .i64 1, .int .i64 1, .int .i64 1, .int .i64 1, .int .i64 1, .int .i64 1, .int .i64 1, .int .i64 1, .int .i64 1, .int .i64 1, .int .i64 1, .int .i64 1, .int .i64 1] 25)) b f c ⟨[], []⟩) := HI13.out.step (below_alloc (Below.refl _ _) _)
  clear HI13
  generalize w13.alloc (.cells #[.int .i64 1, .int .i64 1, .int .i64 1, .int .i64 1, .int .i64 1, .int .i64 1, .int .i64 1, .int .i64 1, .int .i64 1, .int .i64 1, .int .i64 1, .int .i64 1, .int .i64 1] 25) = W at *
  generalize w13.heap.size = B at *
  go_loopw [53] (fun s53 w' => ∃ i : Nat, i ≤ 13 ∧ s53 = .int .i64 i ∧ w' = W) (fun s53 _ => 13 - (intOf s53).toNat)
  case atStart => exact ⟨0, by omega, rfl, rfl⟩
  case round =>
    obtain ⟨i, hi, rfl, rfl⟩ := hrel
    by_cases hi2 : i < 13
    · have hc1 := hcell i hi2
      have hi3 : (i : Int) < 13 := by omega
      clear hcell
      go_wp2_with fail
      go_roundw
      case rel => exact ⟨i + 1, by omega, by go_num, by first | rfl | trivial⟩
      case measure => simp [intOf]; omega
    · have hi3 : ¬ (i : Int) < 13 := by omega
      clear hcell
      go_wp2_with fail
      refine (fixed_in HI.out _ _ ⟨by show ByteArray.size ⟨#[120]⟩ ≤ maxLen; decide, by show (-9223372036854775808 : Int) ≤ m; omega, by show m ≤ 9223372036854775807; omega⟩ none rfl).mono ?_
      rintro e w14 ⟨rfl, hi⟩
      have HI14 : Hid (In w w14 b f c ⟨[], []⟩) := hi
      clear hi HI
      go_wp2_with fail
      refine (chosen_in HI14.out _ _ ⟨by decide, by decide⟩ none rfl).mono ?_
      rintro e w15 ⟨rfl, hi⟩
      have HI15 : Hid (In w w15 b f c ⟨[], []⟩) := hi
      clear hi HI14
      go_wp2_with fail
      refine (fixes_in HI15.out 0 rfl).mono ?_
      rintro e w16 ⟨rfl, hi⟩
      have HI16 : Hid (In w w16 b f c ⟨[], []⟩) := hi
      clear hi HI15
      go_wp2_with fail
      refine (fix_in HI16.out _ _ _ ⟨by show ByteArray.size ⟨#[120]⟩ ≤ maxLen; decide, by show (-9223372036854775808 : Int) ≤ m; omega, by show m ≤ 9223372036854775807; omega⟩ 0 ⟨[((⟨#[120]⟩, m), -1000000000000)], []⟩ (by simp [fixE, nmx, hd, vB, KW.fixed]) (by simp [fixN, fixE, nmx, hd, vB, KW.fixed])).mono ?_
      rintro e w17 ⟨rfl, hi⟩
      have HI17 : Hid (In w w17 b f c ⟨[((⟨#[120]⟩, m), -1000000000000)], []⟩) := hi
      clear hi HI16
      go_wp2_with fail
      refine (ch_in HI17.out _ _ _ _ ⟨by decide, by decide⟩ 0 ⟨[((⟨#[120]⟩, m), -1000000000000)], [((⟨#[116]⟩, ⟨#[97]⟩), (1, m))]⟩ (by simp [chE, nmt, nma, hd, pickB, KW.chosen]) (by simp [chN, chE, nmt, nma, hd, pickB, KW.chosen])).mono ?_
      rintro e w18 ⟨rfl, hi⟩
      have HB18 : Hid (Below w.heap.size w w18) := hi.below
      clear hi HI17
      go_wp2_with fail
      refine (wakes8_any _).mono ?_
      rintro e w19 ⟨rfl, hb⟩
      go_wp2_with fail
      go_ret
      exact ⟨rfl, HB18.out.trans (hb.mono HB18.out.size)⟩

end Go.Proofs.Ythjgpodpnoaieaa.Wd
