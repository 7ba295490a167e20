/- The walk of the statement ReadKinds. -/
import Derived.Test.YtbppkklfjmpgiaaRKinds0
namespace Go.Proofs.Ytbppkklfjmpgiaa
open Go.RowKit
set_option linter.unusedVariables false

set_option maxHeartbeats 8000000 in
set_option maxRecDepth 100000 in
theorem readKinds_walk (n : Int) (w : World) (h1 : -9223372036854775808 ≤ n) (h2 : n ≤ 9223372036854775807) :
    Calls Try.prog 5 #[.int .i64 n] w fun e w' => e = .returned (.bool true) ∧ Below w.heap.size w w' := by
  obtain ⟨q, hq⟩ : ∃ q : Nat, n % 9 = q := ⟨(n % 9).toNat, by omega⟩
  have hq9 : q < 9 := by omega
  obtain ⟨d, hd⟩ : ∃ d : Nat, n % 10 = d := ⟨(n % 10).toNat, by omega⟩
  have hd10 : d < 10 := by omega
  go_enter Try.func5, Try.ntmps5
  go_wp2_with fail
  refine (kname9_any n q hq hq9 w h1 h2).mono ?_
  rintro e W ⟨rfl, hb⟩
  have HB := hidIn hb
  clear hb hq
  go_wp2_with fail
  refine calls_same (within_any _ 10 _ (by omega) (by omega) h1 h2) ?_
  rw [hd]
  clear h1 h2 hd
  go_upto_region 4 with fail
  rw [dg7_cut d hd10]
  have hcz : (cN q).size = 2 := rfl
  have hdz : (dg7 d).size = 1 := rfl
  have hwz : (wK (cN q) (dg7 d)).size ≤ 60 := by
    have h : ∀ q, q < 9 → ∀ d, d < 10 → (wK (cN q) (dg7 d)).size ≤ 60 := by decide +kernel
    exact h q hq9 d hd10
  have HKA := hidIn (kinds_at q hq9 d hd10)
  have HKO := hidIn (kindO_ok q hq9 d hd10)
  have HWK : Hid (wK (cN q) (dg7 d) = ⟨#[97, 100, 100, 40, 102, 105, 120, 40]⟩ ++ cN q ++ ⟨#[41, 44, 110, 101, 103, 40, 109, 117, 108, 40]⟩ ++ dg7 d ++ ⟨#[44, 109, 97, 120, 40, 45, 49, 50, 44, 102, 105, 120, 40, 195, 182, 108, 41, 41, 41, 41, 41]⟩) := rfl
  obtain ⟨c, hc⟩ : ∃ c, cN q = c := ⟨_, rfl⟩
  obtain ⟨D, hD⟩ : ∃ D, dg7 d = D := ⟨_, rfl⟩
  rw [hc, hD] at HKA HKO HWK hwz
  rw [hc] at hcz
  rw [hD] at hdz
  rw [hc, hD]
  clear hc hD
  have HOK := hidIn (oK_ok c hcz d hd10)
  have HKK := hidIn (kd_ok c D (wK c D) hcz d hd10)
  go_upto_region 6 with fail
  obtain ⟨XO, hXO⟩ : ∃ XO, XO = ((W.alloc (.cells #[.string c] 50)).alloc (.cells #[] 52)).alloc (.cells #[.iface 54 (.agg #[.string c]), .iface 61 (.agg #[.iface 59 (.agg #[.iface 56 (.agg #[.int .i64 d]), .iface 58 (.agg #[.iface 56 (.agg #[.int .i64 (-12)]), .iface 54 (.agg #[.string ⟨#[195, 182, 108]⟩])])])])] 62) := ⟨_, rfl⟩
  have HXO : Hid (Below W.heap.size W XO) := by rw [hXO]; exact below_alloc (below_alloc (below_alloc (Below.refl _ _) _) _) _
  have HK6 : Hid (Blk XO W.heap.size 50 #[.string c]) := by rw [hXO]; exact blk_k (blk_k (blk_new rfl) _) _
  have HK7 : Hid (Blk XO (W.heap.size + 1) 52 #[]) := by rw [hXO]; exact blk_k (blk_new (by simp)) _
  have HK8 : Hid (Blk XO (W.heap.size + 1 + 1) 62 #[.iface 54 (.agg #[.string c]), .iface 61 (.agg #[.iface 59 (.agg #[.iface 56 (.agg #[.int .i64 d]), .iface 58 (.agg #[.iface 56 (.agg #[.int .i64 (-12)]), .iface 54 (.agg #[.string ⟨#[195, 182, 108]⟩])])])])]) := by rw [hXO]; exact blk_new (by simp)
  have x0 : XO.cell? ⟨W.heap.size, 0, none⟩ = some (.string c) := HK6.out.cell 0
  have hz : XO.heap[W.heap.size + 1]? = some (.cells #[] 52 (0, 0)) := HK7.out
  have o0 := HK8.out.cell 0
  have o1 := HK8.out.cell 1
  simp at o0 o1
  rw [← hXO]
  clear hXO
  have hap : ∀ a b : ByteArray, (a ++ b).size = a.size + b.size := fun a b => ByteArray.size_append
  go_upto_region 7 with fail
  rw [← HWK.out]
  obtain ⟨E, hE⟩ : ∃ E, wK c D = E := ⟨_, rfl⟩
  rw [hE] at HKA HKO hwz HKK
  rw [hE]
  clear hE HWK
  go_wp2_with fail
  obtain ⟨WL, hWL⟩ : ∃ WL, WL = XO.alloc (.cells (kcells c D E d) 63) := ⟨_, rfl⟩
  have HWL : Hid (Below XO.heap.size XO WL) := by rw [hWL]; exact below_alloc (Below.refl _ _) _
  have HKL : Hid (Blk WL XO.heap.size 63 (kcells c D E d)) := by rw [hWL]; exact blk_new rfl
  unfold kcells at hWL
  rw [← hWL]
  clear hWL x0 o0 o1 hz
  have HBL : Hid (Below w.heap.size w WL) := by
    have h := HXO.out.trans (HWL.out.mono HXO.out.size)
    exact HB.out.trans (h.mono HB.out.size)
  have HK8L := hidIn (HK8.out.below HWL.out HK8.out.lt)
  clear HXO HWL HK6 HK7 HK8
  go_loopw [131] (fun s131 wr => ∃ i : Nat, i ≤ 8 ∧ s131 = .int .i64 i ∧ Below WL.heap.size WL wr) (fun s131 _ => 8 - (intOf s131).toNat)
  case atStart => exact ⟨0, by omega, rfl, Below.refl _ _⟩
  case round =>
    obtain ⟨i, hi, rfl, hbr⟩ := hrel
    have HBR := hidIn hbr
    by_cases hlt : i < 8
    · have hlt' : (i : Int) < 8 := by omega
      obtain ⟨x, hx⟩ : ∃ x, (kdL c D E d)[i]? = some x := ⟨_, List.getElem?_eq_getElem (by simpa [kdL] using hlt)⟩
      obtain ⟨f1, f2⟩ := kcells_get c D E d i x hx
      have hk := HKL.out.below hbr HKL.out.lt
      have k0 := (hk.cell (i * 2)).trans f1
      have k1 := (hk.cell (i * 2 + 1)).trans f2
      have HX := hidIn (HKA.out i x hx)
      have HXK := hidIn (HKK.out i x hx)
      clear hbr hk f1 f2 hx
      obtain ⟨xs, xc⟩ := x
      simp only at k0 k1
      have qv := xc.one' HXK.out
      have HSM : Hid (∀ cc : C, cc.Ok → ∀ w, Calls Try.prog 16 #[cc.val, xc.val] w fun e w' => e = .returned (.bool (sameC cc xc)) ∧ Below w.heap.size w w') := fun cc hcc w => sameT_any cc hcc xc HXK.out w
      obtain ⟨v1, hv1⟩ : ∃ v, xc.val = v := ⟨_, rfl⟩
      rw [hv1] at k1 qv HSM
      clear hv1
      have sv := qv.store
      have cv := qv.cells
      have mv := qv.cells
      unfold Value.cells at mv
      clear qv
      go_upto_region 10 with fail
      obtain ⟨W2, hW2⟩ : ∃ W2, W2 = wr.alloc (.cells #[.string xs, v1] 63) := ⟨_, rfl⟩
      have HB2 : Hid (Below WL.heap.size WL W2) := by rw [hW2]; exact HBR.out.alloc HBR.out.size _
      have HK2 : Hid (Blk W2 wr.heap.size 63 #[.string xs, v1]) := by rw [hW2]; exact blk_new rfl
      have d0 : W2.cell? ⟨wr.heap.size, 0, none⟩ = some (.string xs) := HK2.out.cell 0
      rw [← hW2]
      clear hW2 k0 k1
      go_upto_region 11 with fail
      refine (readT_any xs W2 (by have := HX.out.2.2.2; omega)).mono ?_
      rintro e w4 ⟨rfl, hok4, hb4⟩
      obtain ⟨x1, x2, x3, _⟩ := HX.out
      rw [x2, x3]
      have HS4 := hidIn (HSM.out _ hok4)
      rw [x1] at HS4
      have d1 : w4.cell? ⟨wr.heap.size, 1, none⟩ = some v1 := (HK2.out.below hb4 HK2.out.lt).cell 1
      have HB4 := hidIn (HB2.out.trans (hb4.mono HB2.out.size))
      clear hb4 d0 x1 x2 x3 HX hok4
      generalize (rdT xs).1.val = tv at *
      go_wp2_with fail
      refine (HS4.out w4).mono ?_
      rintro e w5 ⟨rfl, hb5⟩
      have HB5 := hidIn (HB4.out.trans (hb5.mono HB4.out.size))
      clear hb5
      go_wp2_with fail
      go_roundw
      case rel => exact ⟨i + 1, by omega, by go_num, HB5.out⟩
      case measure => simp [intOf]; omega
    · have hi8 : i = 8 := by omega
      subst hi8
      clear hbr HKA HKK HKL
      have HKO2 := HKO.out
      simp only [okO, Bool.and_eq_true, decide_eq_true_eq] at HKO2
      have HA := hidIn HKO2
      have H7 := kind7.1
      simp only [okO, Bool.and_eq_true, decide_eq_true_eq] at H7
      have HC7 := hidIn H7
      have HU := hidIn kindU
      have hO7 : (O.const (-7)).Ok := ⟨by decide, by decide⟩
      have HO7 := hidIn hO7
      clear HKO HKO2 H7 hO7
      go_upto_region 15 with fail
      refine (readO_any E wr (by omega)).mono ?_
      rintro e w5 ⟨rfl, hok5, hb5⟩
      rw [HA.out.2]
      have HS5 := hidIn (same_any _ hok5 (oK c d) HOK.out)
      rw [HA.out.1] at HS5
      have HB5 := hidIn (HBR.out.trans (hb5.mono HBR.out.size))
      clear hb5 hok5
      generalize (rdO E).1.val = vE at *
      generalize (rdO E).2.1 = aE at *
      go_upto_region 16 with fail
      refine (readO_any ⟨#[32, 45, 55, 32]⟩ w5 (by decide)).mono ?_
      rintro e w6 ⟨rfl, hok6, hb6⟩
      rw [HC7.out.2]
      have HS6 := hidIn (same_any _ hok6 (.const (-7)) HO7.out)
      rw [HC7.out.1] at HS6
      have HB6 := hidIn (HB5.out.trans (hb6.mono HB5.out.size))
      clear hb6 hok6
      generalize (rdO ⟨#[32, 45, 55, 32]⟩).1.val = v7 at *
      generalize (rdO ⟨#[32, 45, 55, 32]⟩).2.1 = a7 at *
      go_upto_region 17 with fail
      refine (readO_any ⟨#[111, 110, 101, 40, 117, 115, 100, 41]⟩ w6 (by decide)).mono ?_
      rintro e w7 ⟨rfl, hok7, hb7⟩
      rw [HU.out.1, HU.out.2]
      have HB7 := hidIn (HB6.out.trans (hb7.mono HB6.out.size))
      have hk8 := HK8L.out.below HB7.out HK8L.out.lt
      have o0 := hk8.cell 0
      have o1 := hk8.cell 1
      simp at o0 o1
      clear hb7 hok7 hk8
      generalize (rdO ⟨#[111, 110, 101, 40, 117, 115, 100, 41]⟩).1.val = vU at *
      have HOV : Hid ((oK c d).val = .iface 62 (.agg #[.iface 54 (.agg #[.string c]), .iface 61 (.agg #[.iface 59 (.agg #[.iface 56 (.agg #[.int .i64 d]), .iface 58 (.agg #[.iface 56 (.agg #[.int .i64 (-12)]), .iface 54 (.agg #[.string ⟨#[195, 182, 108]⟩])])])])])) := rfl
      rw [HOV.out] at HS5
      have HV7 : Hid ((O.const (-7)).val = .iface 56 (.agg #[.int .i64 (-7)])) := rfl
      rw [HV7.out] at HS6
      go_wp2_with fail
      refine (HS5.out w7).mono ?_
      rintro e w8 ⟨rfl, hb8⟩
      have HB8 := hidIn (HB7.out.trans (hb8.mono HB7.out.size))
      clear hb8 o0 o1
      go_wp2_with fail
      refine (HS6.out w8).mono ?_
      rintro e w9 ⟨rfl, hb9⟩
      have HB9 := hidIn (HB8.out.trans (hb9.mono HB8.out.size))
      clear hb9
      go_wp2_with fail
      refine (wakes7_any w9).mono ?_
      rintro e w10 ⟨rfl, hb10⟩
      have HB10 := hidIn (HB9.out.trans (hb10.mono HB9.out.size))
      clear hb10
      go_wp2_with fail
      go_ret
      exact ⟨rfl, HBL.out.trans (HB10.out.mono HBL.out.size)⟩

end Go.Proofs.Ytbppkklfjmpgiaa

