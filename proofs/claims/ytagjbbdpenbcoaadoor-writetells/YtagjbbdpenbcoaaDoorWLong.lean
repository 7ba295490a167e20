/- The walk of the statement WriteLong. -/
import Derived.Test.YtagjbbdpenbcoaaDoorWTop
namespace Go.Proofs.YtagjbbdpenbcoaaDoor
open Go.RowKit
set_option linter.unusedVariables false

def waterB : ByteArray := ⟨#[230, 176, 180, 230, 176, 180, 230, 176, 180, 230, 176, 180, 230, 176, 180, 230, 176, 180, 230, 176, 180, 230, 176, 180, 230, 176, 180, 230, 176, 180, 230, 176, 180, 230, 176, 180]⟩
/-- The contract behind so many steps. -/
def longC : Nat → C
  | 0 => .one waterB
  | j + 1 => if (j + 1) % 6 = 0 then .and (longC j) (longC j) else .and (longC j) (.one waterB)
def longS : Nat → Nat
  | 0 => 41
  | j + 1 => if (j + 1) % 6 = 0 then 2 * longS j + 6 else longS j + 47
theorem longS_bd : ∀ j, j < 19 → longS j ≤ 4000 := by decide +kernel
theorem long_ok : ∀ j, (longC j).Ok
  | 0 => by show waterB.size ≤ _; decide
  | j + 1 => by
    unfold longC
    split
    · exact ⟨long_ok j, long_ok j⟩
    · exact ⟨long_ok j, by show waterB.size ≤ _; decide⟩
theorem long_weight : ∀ j, j < 19 → (longC j).weight ≤ 1000000 := by decide +kernel
theorem long_chk : ∀ j, j < 19 → chkC (longC j) = if 12 ≤ j then 5 else 0 := by decide +kernel
theorem long_size (j : Nat) : (textC (longC j)).size = longS j := by
  have e1 : (textC (.one waterB)).size = 41 := by simp only [textC]; rw [joinT_size, joinL1]; decide
  induction j with
  | zero => exact e1
  | succ j ih =>
    unfold longC longS
    have e : (ByteArray.mk #[97, 110, 100]).size = 3 := rfl
    split
    · simp only [textC]; rw [joinT_size, joinL2, ih, e]; omega
    · simp only [textC] at e1 ⊢; rw [joinT_size, joinL2, ih, e, e1]; omega
theorem long_bd : ∀ j, j < 12 → longS j ≤ 1000 := by decide +kernel
theorem long_err (j : Nat) (h : j < 19) : wErrC (longC j) = if 12 ≤ j then 5 else 0 := by
  have hc := long_chk j h
  unfold wErrC
  rw [hc, long_size]
  by_cases h2 : 12 ≤ j
  · rw [if_pos h2, if_neg (by decide)]
  · rw [if_neg h2, if_pos rfl, if_neg (by have := long_bd j (by omega); omega)]
theorem long_none (j : Nat) (h : j < 19) (h2 : 12 ≤ j) : wTextC (longC j) = ⟨#[]⟩ := by
  have hc := long_chk j h
  unfold wTextC
  rw [hc, if_pos h2, if_neg (by decide)]
theorem long_text (j : Nat) (h2 : j < 12) : (wTextC (longC j)).size = longS j := by
  have hc := long_chk j (by omega)
  unfold wTextC
  rw [hc, if_neg (show ¬ 12 ≤ j by omega), if_pos rfl, if_neg (by have := long_bd j (by omega); rw [long_size]; omega), long_size]

/-- The document's example. -/
def wakeC : C := .scale (.const 100) (.one ⟨#[117, 115, 100]⟩)
theorem wake_err : wErrC wakeC = 0 := by decide +kernel
theorem wake_text : wTextC wakeC = ⟨#[115, 99, 97, 108, 101, 40, 49, 48, 48, 44, 111, 110, 101, 40, 117, 115, 100, 41, 41]⟩ := by decide +kernel
theorem wake_ok : wakeC.Ok := ⟨⟨by decide, by decide⟩, by show (⟨#[117, 115, 100]⟩ : ByteArray).size ≤ _; decide⟩
set_option maxHeartbeats 1000000 in
set_option maxRecDepth 100000 in
theorem wakes6_any (w : World) (ht : TabW w) : Calls Tryd.prog 15 #[] w fun e w' => e = .returned (.bool true) ∧ Below w.heap.size w w' := by
  have HT := hidIn ht
  have HK := hidIn (writeC_any wakeC wake_ok (by decide))
  clear ht
  go_enter Tryd.func15, Tryd.ntmps15
  go_wp2_with fail
  refine (HK.out w HT.out).mono ?_
  rintro e w1 ⟨rfl, hb1⟩
  rw [wake_err, wake_text]
  go_wp2_with fail
  go_ret
  exact ⟨rfl, hb1⟩

set_option maxHeartbeats 4000000 in
set_option maxRecDepth 100000 in
theorem writeLong_walk (n : Int) (w : World) (h1 : -9223372036854775808 ≤ n) (h2 : n ≤ 9223372036854775807) (ht : TabW w) :
    Calls Tryd.prog 4 #[.int .i64 n] w fun e w' => e = .returned (.bool true) ∧ Below w.heap.size w w' := by
  obtain ⟨q, hq⟩ : ∃ q : Nat, n % 24 = q := ⟨(n % 24).toNat, by omega⟩
  have hq4 : q < 24 := by omega
  have HT := hidIn ht
  clear ht
  go_enter Tryd.func4, Tryd.ntmps4
  go_wp2_with fail
  refine calls_same (within_any _ 24 _ (by omega) (by omega) h1 h2) ?_
  rw [hq]
  clear h1 h2 hq
  go_wp2_with fail
  go_loop [6, 3, 4, 5] (fun s6 s3 s4 s5 => ∃ j : Nat, j < 19 ∧ j < 1 + q ∧ s6 = .int .i64 ((j : Int) + 1) ∧ s3 = (longC j).val ∧ s4 = .int .i64 (longS j : Int) ∧ s5 = .int .i64 ((j / 6 : Nat) : Int)) (fun s6 _ _ _ => 1 + q - (intOf s6).toNat)
  case atStart => exact ⟨0, by omega, by omega, rfl, rfl, rfl, rfl⟩
  case round =>
    obtain ⟨j, hj, hjq, rfl, rfl, rfl, rfl⟩ := hrel
    have qv := (longC j).one' (long_ok j)
    have hS := longS_bd j hj
    obtain ⟨S, hSe⟩ : ∃ S, longS j = S := ⟨_, rfl⟩
    obtain ⟨kk, hkk⟩ : ∃ kk, j / 6 = kk := ⟨_, rfl⟩
    obtain ⟨v, hv⟩ : ∃ v, (longC j).val = v := ⟨_, rfl⟩
    have HX := hidIn hv
    have HSE := hidIn hSe
    have HKK := hidIn hkk
    rw [hv] at qv
    rw [hSe] at hS
    rw [hv, hSe, hkk]
    have hk3 : kk ≤ 3 := by omega
    have sv := qv.store
    have cv := qv.cells
    have mv := qv.cells
    unfold Value.cells at mv
    have hmod : Int.tmod ((j : Int) + 1) 6 = (((j + 1) % 6 : Nat) : Int) := by rw [Int.tmod_eq_emod_of_nonneg (by omega)]; omega
    clear hv qv hSe hkk
    by_cases hlt : (j : Int) + 1 < 1 + (q : Int)
    · by_cases h18 : j ≤ 17
      · have hk2 : ¬ (2 : Int) < (kk : Int) := by have := HKK.out; omega
        have hk2' : (kk : Int) < 3 := by have := HKK.out; omega
        by_cases h6 : (j + 1) % 6 = 0
        · have h6' : Int.tmod ((j : Int) + 1) 6 = 0 := by omega
          have HN : Hid ((longC (j + 1)).val = .iface 46 (.agg #[v, v])) := by show (longC (j + 1)).val = _; unfold longC; rw [if_pos h6]; show Value.iface _ (.agg #[(longC j).val, (longC j).val]) = _; rw [HX.out]
          have HM : Hid (longS (j + 1) = 2 * S + 6) := by show longS (j + 1) = _; unfold longS; rw [if_pos h6, HSE.out]
          have HD : Hid ((j + 1) / 6 = kk + 1) := by show (j + 1) / 6 = _; have := HKK.out; omega
          clear hmod
          go_wp2_with fail
          go_round
          case rel => exact ⟨j + 1, by omega, by omega, by go_num, by rw [HN.out], by rw [HM.out]; go_num, by rw [HD.out]; go_num⟩
          case measure => simp [intOf]; omega
        · have h6' : ¬ Int.tmod ((j : Int) + 1) 6 = 0 := by omega
          have HN : Hid ((longC (j + 1)).val = .iface 46 (.agg #[v, .iface 44 (.agg #[.string waterB])])) := by show (longC (j + 1)).val = _; unfold longC; rw [if_neg h6]; show Value.iface _ (.agg #[(longC j).val, _]) = _; rw [HX.out]; rfl
          have HM : Hid (longS (j + 1) = S + 47) := by show longS (j + 1) = _; unfold longS; rw [if_neg h6, HSE.out]
          have HD : Hid ((j + 1) / 6 = kk) := by show (j + 1) / 6 = _; have := HKK.out; omega
          clear hmod
          go_wp2_with fail
          go_round
          case rel => exact ⟨j + 1, by omega, by omega, by go_num, by rw [HN.out]; rfl, by rw [HM.out]; go_num, by rw [HD.out]⟩
          case measure => simp [intOf]; omega
      · have hk2 : (2 : Int) < (kk : Int) := by have := HKK.out; omega
        have h6' : ¬ Int.tmod ((j : Int) + 1) 6 = 0 := by omega
        clear hmod
        have HC : Hid (∀ w, TabW w → Calls Tryd.prog 9 #[v] w fun e w' => e = .returned (.tuple #[.string (wTextC (longC j)), .int .i64 (wErrC (longC j))]) ∧ Below w.heap.size w w') := fun w h => by rw [← HX.out]; exact writeC_any _ (long_ok j) (long_weight j hj) w h
        have HF : Hid (∀ w, Calls Tryd.prog 17 #[v] w fun e w' => e = .returned (.int .i64 (chkC (longC j))) ∧ Below w.heap.size w w') := fun w => by rw [← HX.out]; exact checkT_any _ (long_ok j) (long_weight j hj) w
        have HE := hidIn (long_err j hj)
        have HG := hidIn (long_chk j hj)
        by_cases h12 : 12 ≤ j
        · rw [if_pos h12] at HE HG
          have HN := hidIn (long_none j hj h12)
          go_wp2_with fail
          refine (HC.out w HT.out).mono ?_
          rintro e w1 ⟨rfl, hb1⟩
          rw [HE.out, HN.out]
          have HT1 := hidIn (tabW_below HT.out hb1)
          have HB1 := hidIn hb1
          clear hb1
          go_wp2_with fail
          refine (HF.out w1).mono ?_
          rintro e w2 ⟨rfl, hb2⟩
          rw [HG.out]
          have HT2 := hidIn (tabW_below HT1.out hb2)
          have HB2 := hidIn (HB1.out.trans (hb2.mono HB1.out.size))
          clear hb2
          go_wp2_with fail
          refine (wakes6_any w2 HT2.out).mono ?_
          rintro e w3 ⟨rfl, hb3⟩
          go_wp2_with fail
          go_ret
          exact ⟨rfl, HB2.out.trans (hb3.mono HB2.out.size)⟩
        · exfalso; omega
    · clear hmod
      have HC : Hid (∀ w, TabW w → Calls Tryd.prog 9 #[v] w fun e w' => e = .returned (.tuple #[.string (wTextC (longC j)), .int .i64 (wErrC (longC j))]) ∧ Below w.heap.size w w') := fun w h => by rw [← HX.out]; exact writeC_any _ (long_ok j) (long_weight j hj) w h
      have HF : Hid (∀ w, Calls Tryd.prog 17 #[v] w fun e w' => e = .returned (.int .i64 (chkC (longC j))) ∧ Below w.heap.size w w') := fun w => by rw [← HX.out]; exact checkT_any _ (long_ok j) (long_weight j hj) w
      have HE := hidIn (long_err j hj)
      have HG := hidIn (long_chk j hj)
      by_cases h12 : 12 ≤ j
      · rw [if_pos h12] at HE HG
        have HN := hidIn (long_none j hj h12)
        go_wp2_with fail
        refine (HC.out w HT.out).mono ?_
        rintro e w1 ⟨rfl, hb1⟩
        rw [HE.out, HN.out]
        have HT1 := hidIn (tabW_below HT.out hb1)
        have HB1 := hidIn hb1
        clear hb1
        go_wp2_with fail
        refine (HF.out w1).mono ?_
        rintro e w2 ⟨rfl, hb2⟩
        rw [HG.out]
        have HT2 := hidIn (tabW_below HT1.out hb2)
        have HB2 := hidIn (HB1.out.trans (hb2.mono HB1.out.size))
        clear hb2
        go_wp2_with fail
        refine (wakes6_any w2 HT2.out).mono ?_
        rintro e w3 ⟨rfl, hb3⟩
        go_wp2_with fail
        go_ret
        exact ⟨rfl, HB2.out.trans (hb3.mono HB2.out.size)⟩
      · rw [if_neg h12] at HE HG
        have hN := long_text j (by omega)
        have hS1 := long_bd j (by omega)
        rw [HSE.out] at hN hS1
        have hs1 : ¬ (1000 : Int) < (S : Int) := by omega
        go_wp2_with fail
        refine (HC.out w HT.out).mono ?_
        rintro e w1 ⟨rfl, hb1⟩
        rw [HE.out]
        obtain ⟨tx, htx⟩ : ∃ tx, wTextC (longC j) = tx := ⟨_, rfl⟩
        rw [htx] at hN
        rw [htx]
        clear htx
        have hlen : (tx.size : Int) = (S : Int) := by omega
        have HT1 := hidIn (tabW_below HT.out hb1)
        have HB1 := hidIn hb1
        clear hb1
        go_wp2_with fail
        refine (HF.out w1).mono ?_
        rintro e w2 ⟨rfl, hb2⟩
        rw [HG.out]
        have HT2 := hidIn (tabW_below HT1.out hb2)
        have HB2 := hidIn (HB1.out.trans (hb2.mono HB1.out.size))
        clear hb2
        go_wp2_with fail
        refine (wakes6_any w2 HT2.out).mono ?_
        rintro e w3 ⟨rfl, hb3⟩
        go_wp2_with fail
        go_ret
        exact ⟨rfl, HB2.out.trans (hb3.mono HB2.out.size)⟩

end Go.Proofs.YtagjbbdpenbcoaaDoor
