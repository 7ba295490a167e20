/- The walk of the statement ObsOdd. -/
import Derived.Test.YtepgeclpmdhepaaNumber
import Derived.Test.YtepgeclpmdhepaaSameO
import Derived.Test.YtepgeclpmdhepaaOddV
import Derived.Test.YtepgeclpmdhepaaKeep
namespace Go.Proofs.Ytepgeclpmdhepaa
open Go.RowKit
set_option linter.unusedVariables false

/-- What is none, so many others around it. -/
def oddIn (v : Value) (y : O) : Nat → O
  | 0 => .odd v
  | i + 1 => if i % 4 = 0 then .neg (oddIn v y i) else if i % 4 = 1 then .add y (oddIn v y i) else if i % 4 = 2 then .mul (oddIn v y i) y else .max (oddIn v y i) (oddIn v y i)
theorem oddIn_ok (v : Value) (y : O) (hv : Strange v) (hy : y.Ok) : ∀ i, (oddIn v y i).Ok
  | 0 => hv
  | i + 1 => by
    have h := oddIn_ok v y hv hy i
    unfold oddIn
    split
    · exact h
    · split
      · exact ⟨hy, h⟩
      · split
        · exact ⟨h, hy⟩
        · exact ⟨h, h⟩
theorem oddIn_form (v : Value) (y : O) : ∀ i, formB (oddIn v y i) = false
  | 0 => rfl
  | i + 1 => by
    have h := oddIn_form v y i
    unfold oddIn
    split
    · exact h
    · split
      · simp [formB, h]
      · split
        · simp [formB, h]
        · simp [formB, h]
theorem oddIn_same (v : Value) (y : O) : ∀ i, sameO (oddIn v y i) (oddIn v y i) = false
  | 0 => rfl
  | i + 1 => by
    have h := oddIn_same v y i
    unfold oddIn
    split
    · exact h
    · split
      · simp [sameO, h]
      · split
        · simp [sameO, h]
        · simp [sameO, h]
theorem oddIn_nodes (v : Value) (y : O) (hy : y.nodes ≤ 31) : ∀ i, i ≤ 8 → (oddIn v y i).nodes + 32 ≤ 32 * 3 ^ i
  | 0, _ => by simp [oddIn, O.nodes]
  | i + 1, hi => by
    have h := oddIn_nodes v y hy i (by omega)
    have h1 : 1 ≤ 3 ^ i := Nat.one_le_iff_ne_zero.2 (by simp)
    rw [Nat.pow_succ]
    unfold oddIn
    split
    · simp only [O.nodes]; omega
    · split
      · simp only [O.nodes]; omega
      · split
        · simp only [O.nodes]; omega
        · simp only [O.nodes]; omega
theorem chk_oddIn (v : Value) (y : O) (i : Nat) : chk (oddIn v y i) = 2 := by
  unfold chk
  rw [if_neg (by rw [oddIn_form]; simp)]

set_option maxHeartbeats 8000000 in
set_option maxRecDepth 100000 in
theorem obsOdd_walk (p : Pl) (n deep : Int) (w : World) (hp : PlanIn w p) (h1 : -9223372036854775808 ≤ n) (h2 : n ≤ 9223372036854775807) (hd1 : -9223372036854775808 ≤ deep) (hd2 : deep ≤ 9223372036854775807) :
    Calls Try.prog 7 #[planV p, .int .i64 n, .int .i64 deep] w fun e w' => e = .returned (.bool true) ∧ Below w.heap.size w w' := by
  obtain ⟨q, hq⟩ : ∃ q : Nat, deep % 6 = q := ⟨(deep % 6).toNat, by omega⟩
  have hq4 : q < 6 := by omega
  have HP : Hid (PlanIn w p) := hp
  have HN := Hid.in (number_any p)
  have HWH := Hid.in (numP_whole p)
  have HOK := Hid.in (whole_ok _ (numP_whole p))
  unfold planV
  clear hp
  obtain ⟨W, hW⟩ : ∃ W, W = w.alloc (.cells #[.slice p.na p.nl p.nc, .slice p.wa p.wl p.wc] 25) := ⟨_, rfl⟩
  have HB : Hid (Below w.heap.size w W) := by rw [hW]; exact below_alloc (Below.refl _ _) _
  have HBK : Hid (W.heap[w.heap.size]? = some (.cells #[.slice p.na p.nl p.nc, .slice p.wa p.wl p.wc] 25 (0, 0))) := by rw [hW]; exact heap_alloc_new _ _
  have HF : Hid (∀ w', Below W.heap.size W w' → w'.cell? ⟨w.heap.size, 0, none⟩ = some (.slice p.na p.nl p.nc) ∧ w'.cell? ⟨w.heap.size, 1, none⟩ = some (.slice p.wa p.wl p.wc) ∧ PlanIn w' p) := fun w' hw' => by
    have hlt : w.heap.size < W.heap.size := (Array.getElem?_eq_some_iff.1 HBK.out).1
    have hbk := (hw'.block _ hlt).trans HBK.out
    exact ⟨(cell_of_row _ _ _ _ _ _ hbk).trans rfl, (cell_of_row _ _ _ _ _ _ hbk).trans rfl, (HP.out.below HB.out).below hw'⟩
  go_enter Try.func7, Try.ntmps7
  go_wp2_with fail
  rw [← hW]
  clear hW HBK
  refine (odd_any n W h1 h2).mono ?_
  rintro e w1 ⟨o, rfl, hok, hcase, hx1⟩
  clear h1 h2
  have hcase2 : o = .const 1 ∨ (∃ x, o = .odd .nilIface ∧ x = 0) ∨ ∃ t x, o = .odd (.iface t x) ∧ t ≠ 34 ∧ (O.odd (.iface t x)).Ok := by
    rcases hcase with rfl | ⟨v, rfl⟩
    · exact .inl rfl
    · rcases hok with rfl | ⟨t, x, rfl, h0, hr⟩
      · exact .inr (.inl ⟨0, rfl, rfl⟩)
      · exact .inr (.inr ⟨t, x, rfl, h0, .inr ⟨t, x, rfl, h0, hr⟩⟩)
  clear hok hcase
  rcases hcase2 with rfl | ⟨_, rfl, _⟩ | ⟨t, x, rfl, h0, hst⟩
  · have ha := fun v xT w => isConst v xT w
    simp only [O.val]
    have HV : Hid ((O.odd .nilIface).Ok) := .inl rfl
    go_wp2_with fail
    refine (size_any (.odd .nilIface) HV.out (by simp [O.nodes]) _).mono ?_
    rintro e w2 ⟨rfl, hb2⟩
    rw [show ((O.odd .nilIface).nodes : Int) = 0 from rfl, show ((O.odd .nilIface).depth : Int) = 0 from rfl]
    have hx2 : Below W.heap.size W w2 := (hx1.alloc hx1.size _).trans (hb2.mono (by have := hx1.size; simp; omega))
    clear hb2
    go_wp2_with fail
    refine (names_any (.odd .nilIface) HV.out (by simp [O.nodes]) _).mono ?_
    rintro e w3 ⟨v3, rfl, hown3, hb3⟩
    have hx3 : Below W.heap.size W w3 := hx2.trans (hb3.mono hx2.size)
    obtain ⟨ao3, cap3, rfl, _, _⟩ := own_str hown3
    rw [show (O.odd .nilIface).names.length = 0 from rfl]
    clear hb3 hown3
    go_wp2_with fail
    refine (kids_any (.odd .nilIface) HV.out _).mono ?_
    rintro e w4 ⟨a4, rfl, _, hb4⟩
    have hx4 : Below W.heap.size W w4 := hx3.trans (hb4.mono hx3.size)
    rw [show (O.odd .nilIface).kids.length = 0 from rfl]
    clear hb4
    go_wp2_with fail
    refine (same_any (.odd .nilIface) HV.out (.odd .nilIface) HV.out _).mono ?_
    rintro e w5 ⟨rfl, hb5⟩
    have hx5 : Below W.heap.size W w5 := hx4.trans (hb5.mono hx4.size)
    rw [show sameO (O.odd .nilIface) (O.odd .nilIface) = false from rfl]
    clear hb5
    go_wp2_with fail
    refine (check_any (.odd .nilIface) HV.out (by simp [O.nodes]) _).mono ?_
    rintro e w6 ⟨rfl, hb6⟩
    have hx6 : Below W.heap.size W w6 := hx5.trans (hb6.mono hx5.size)
    rw [show chk (O.odd .nilIface) = 2 from rfl]
    obtain ⟨c0, c1, hp6⟩ := HF.out w6 hx6
    have HX6 : Hid (Below W.heap.size W w6) := hx6
    have HP6 : Hid (PlanIn w6 p) := hp6
    clear hb6 hx1 hx2 hx3 hx4 hx5 hx6 hp6
    go_wp2_with fail
    refine calls_same (within_any _ 6 _ (by omega) (by omega) hd1 hd2) ?_
    rw [hq]
    clear hd1 hd2 hq
    go_wp2_with fail
    refine (HN.out w6 HP6.out).mono ?_
    rintro e w7 ⟨v7, rfl, ht7, hb7⟩
    have HX7 : Hid (Below W.heap.size W w7) := HX6.out.trans (hb7.mono HX6.out.size)
    have HT7 : Hid (TIn w7 w6.heap.size (plain (numP p)) v7) := ht7
    clear ht7 hb7 c0 c1
    go_wp2_with fail
    refine (obsP_any (numP p) HWH.out w7 v7 _ HT7.out).mono ?_
    rintro e w8 ⟨rfl, hb8⟩
    have HX8 : Hid (Below W.heap.size W w8) := HX7.out.trans (hb8.mono HX7.out.size)
    have HO8 : Hid (∀ i, (oddIn .nilIface (numP p) i).Ok) := oddIn_ok _ _ HV.out HOK.out
    obtain ⟨yt, yx, hy⟩ := whole_solid (numP p) HWH.out
    have HY : Hid ((numP p).val = .iface yt yx) := hy
    have HVI : Hid (∀ i, (oddIn .nilIface (numP p) i).val = .nilIface ∨ ∃ zt zx, (oddIn .nilIface (numP p) i).val = .iface zt zx) := fun i => O.val_iface _ (HO8.out i)
    have HVS : Hid (∀ i, (oddIn .nilIface (numP p) (i + 1)).val = (if i % 4 = 0 then Value.iface 41 (.agg #[(oddIn .nilIface (numP p) i).val]) else if i % 4 = 1 then .iface 37 (.agg #[.iface yt yx, (oddIn .nilIface (numP p) i).val]) else if i % 4 = 2 then .iface 38 (.agg #[(oddIn .nilIface (numP p) i).val, .iface yt yx]) else .iface 39 (.agg #[(oddIn .nilIface (numP p) i).val, (oddIn .nilIface (numP p) i).val]))) := by
      intro i
      rw [← hy]
      show (if i % 4 = 0 then _ else _ : O).val = _
      split
      · rfl
      · split
        · rfl
        · split <;> rfl
    rw [hy]
    clear hb8 hy
    go_wp2_with fail
    go_loop [14, 12] (fun s14 s12 => ∃ i : Nat, i ≤ q + 1 ∧ s14 = .int .i64 i ∧ s12 = (oddIn .nilIface (numP p) i).val) (fun s14 _ => q + 1 - (intOf s14).toNat)
    case atStart => exact ⟨0, by omega, rfl, rfl⟩
    case round =>
      obtain ⟨i, hi, rfl, rfl⟩ := hrel
      have hvs := HVS.out i
      have HVS1 : Hid ((oddIn .nilIface (numP p) (i + 1)).val = _) := hvs
      clear hvs
      by_cases hlt : i < q + 1
      · have hlt' : (i : Int) < 1 + (q : Int) := by omega
        have hm4 : i % 4 = 0 ∨ i % 4 = 1 ∨ i % 4 = 2 ∨ i % 4 = 3 := by omega
        rcases HVI.out i with hvi | ⟨zt, zx, hvi⟩ <;> rcases hm4 with h4 | h4 | h4 | h4
        all_goals
          have h4' : (i : Int) % 4 = ((i % 4 : Nat) : Int) := by omega
          rw [h4] at h4'
          have HE := HVS1.out
          rw [h4, hvi] at HE
          have HE2 := Hid.in HE
          clear HE HVS1 HVI
          rw [hvi]
          clear hvi
          go_wp2_with fail
          go_round
          case rel => exact ⟨i + 1, by omega, by go_num, HE2.out.symm⟩
          case measure => simp [intOf]; omega
      · have hlt' : ¬ (i : Int) < 1 + (q : Int) := by omega
        have hi7 : i ≤ 6 := by omega
        have HNN : Hid ((oddIn .nilIface (numP p) i).nodes ≤ 1000000) := by
          have h := oddIn_nodes .nilIface (numP p) (numP_nodes p) i (by omega)
          have h3 : 3 ^ i ≤ 3 ^ 6 := Nat.pow_le_pow_right (by omega) hi7
          have : (3 : Nat) ^ 6 = 729 := rfl
          show _ ≤ _
          omega
        clear HVS1
        go_wp2_with fail
        refine (check_any (oddIn .nilIface (numP p) i) (HO8.out i) HNN.out _).mono ?_
        rintro e w9 ⟨rfl, hb9⟩
        rw [chk_oddIn]
        go_wp2_with fail
        refine (same_any (oddIn .nilIface (numP p) i) (HO8.out i) (oddIn .nilIface (numP p) i) (HO8.out i) _).mono ?_
        rintro e w10 ⟨rfl, hb10⟩
        rw [oddIn_same]
        go_wp2_with fail
        refine (wakes_any _).mono ?_
        rintro e w11 ⟨rfl, hb11⟩
        go_wp2_with fail
        go_ret
        have k8 := HB.out.trans (HX8.out.mono HB.out.size)
        have k9 := k8.trans (hb9.mono k8.size)
        have k10 := k9.trans (hb10.mono k9.size)
        exact ⟨rfl, k10.trans (hb11.mono k10.size)⟩
  · have ha := fun xT w => nilConst xT w
    simp only [O.val]
    have HV : Hid ((O.odd .nilIface).Ok) := .inl rfl
    go_wp2_with fail
    refine (size_any (.odd .nilIface) HV.out (by simp [O.nodes]) _).mono ?_
    rintro e w2 ⟨rfl, hb2⟩
    rw [show ((O.odd .nilIface).nodes : Int) = 0 from rfl, show ((O.odd .nilIface).depth : Int) = 0 from rfl]
    have hx2 : Below W.heap.size W w2 := (hx1.alloc hx1.size _).trans (hb2.mono (by have := hx1.size; simp; omega))
    clear hb2
    go_wp2_with fail
    refine (names_any (.odd .nilIface) HV.out (by simp [O.nodes]) _).mono ?_
    rintro e w3 ⟨v3, rfl, hown3, hb3⟩
    have hx3 : Below W.heap.size W w3 := hx2.trans (hb3.mono hx2.size)
    obtain ⟨ao3, cap3, rfl, _, _⟩ := own_str hown3
    rw [show (O.odd .nilIface).names.length = 0 from rfl]
    clear hb3 hown3
    go_wp2_with fail
    refine (kids_any (.odd .nilIface) HV.out _).mono ?_
    rintro e w4 ⟨a4, rfl, _, hb4⟩
    have hx4 : Below W.heap.size W w4 := hx3.trans (hb4.mono hx3.size)
    rw [show (O.odd .nilIface).kids.length = 0 from rfl]
    clear hb4
    go_wp2_with fail
    refine (same_any (.odd .nilIface) HV.out (.odd .nilIface) HV.out _).mono ?_
    rintro e w5 ⟨rfl, hb5⟩
    have hx5 : Below W.heap.size W w5 := hx4.trans (hb5.mono hx4.size)
    rw [show sameO (O.odd .nilIface) (O.odd .nilIface) = false from rfl]
    clear hb5
    go_wp2_with fail
    refine (check_any (.odd .nilIface) HV.out (by simp [O.nodes]) _).mono ?_
    rintro e w6 ⟨rfl, hb6⟩
    have hx6 : Below W.heap.size W w6 := hx5.trans (hb6.mono hx5.size)
    rw [show chk (O.odd .nilIface) = 2 from rfl]
    obtain ⟨c0, c1, hp6⟩ := HF.out w6 hx6
    have HX6 : Hid (Below W.heap.size W w6) := hx6
    have HP6 : Hid (PlanIn w6 p) := hp6
    clear hb6 hx1 hx2 hx3 hx4 hx5 hx6 hp6
    go_wp2_with fail
    refine calls_same (within_any _ 6 _ (by omega) (by omega) hd1 hd2) ?_
    rw [hq]
    clear hd1 hd2 hq
    go_wp2_with fail
    refine (HN.out w6 HP6.out).mono ?_
    rintro e w7 ⟨v7, rfl, ht7, hb7⟩
    have HX7 : Hid (Below W.heap.size W w7) := HX6.out.trans (hb7.mono HX6.out.size)
    have HT7 : Hid (TIn w7 w6.heap.size (plain (numP p)) v7) := ht7
    clear ht7 hb7 c0 c1
    go_wp2_with fail
    refine (obsP_any (numP p) HWH.out w7 v7 _ HT7.out).mono ?_
    rintro e w8 ⟨rfl, hb8⟩
    have HX8 : Hid (Below W.heap.size W w8) := HX7.out.trans (hb8.mono HX7.out.size)
    have HO8 : Hid (∀ i, (oddIn .nilIface (numP p) i).Ok) := oddIn_ok _ _ HV.out HOK.out
    obtain ⟨yt, yx, hy⟩ := whole_solid (numP p) HWH.out
    have HY : Hid ((numP p).val = .iface yt yx) := hy
    have HVI : Hid (∀ i, (oddIn .nilIface (numP p) i).val = .nilIface ∨ ∃ zt zx, (oddIn .nilIface (numP p) i).val = .iface zt zx) := fun i => O.val_iface _ (HO8.out i)
    have HVS : Hid (∀ i, (oddIn .nilIface (numP p) (i + 1)).val = (if i % 4 = 0 then Value.iface 41 (.agg #[(oddIn .nilIface (numP p) i).val]) else if i % 4 = 1 then .iface 37 (.agg #[.iface yt yx, (oddIn .nilIface (numP p) i).val]) else if i % 4 = 2 then .iface 38 (.agg #[(oddIn .nilIface (numP p) i).val, .iface yt yx]) else .iface 39 (.agg #[(oddIn .nilIface (numP p) i).val, (oddIn .nilIface (numP p) i).val]))) := by
      intro i
      rw [← hy]
      show (if i % 4 = 0 then _ else _ : O).val = _
      split
      · rfl
      · split
        · rfl
        · split <;> rfl
    rw [hy]
    clear hb8 hy
    go_wp2_with fail
    go_loop [14, 12] (fun s14 s12 => ∃ i : Nat, i ≤ q + 1 ∧ s14 = .int .i64 i ∧ s12 = (oddIn .nilIface (numP p) i).val) (fun s14 _ => q + 1 - (intOf s14).toNat)
    case atStart => exact ⟨0, by omega, rfl, rfl⟩
    case round =>
      obtain ⟨i, hi, rfl, rfl⟩ := hrel
      have hvs := HVS.out i
      have HVS1 : Hid ((oddIn .nilIface (numP p) (i + 1)).val = _) := hvs
      clear hvs
      by_cases hlt : i < q + 1
      · have hlt' : (i : Int) < 1 + (q : Int) := by omega
        have hm4 : i % 4 = 0 ∨ i % 4 = 1 ∨ i % 4 = 2 ∨ i % 4 = 3 := by omega
        rcases HVI.out i with hvi | ⟨zt, zx, hvi⟩ <;> rcases hm4 with h4 | h4 | h4 | h4
        all_goals
          have h4' : (i : Int) % 4 = ((i % 4 : Nat) : Int) := by omega
          rw [h4] at h4'
          have HE := HVS1.out
          rw [h4, hvi] at HE
          have HE2 := Hid.in HE
          clear HE HVS1 HVI
          rw [hvi]
          clear hvi
          go_wp2_with fail
          go_round
          case rel => exact ⟨i + 1, by omega, by go_num, HE2.out.symm⟩
          case measure => simp [intOf]; omega
      · have hlt' : ¬ (i : Int) < 1 + (q : Int) := by omega
        have hi7 : i ≤ 6 := by omega
        have HNN : Hid ((oddIn .nilIface (numP p) i).nodes ≤ 1000000) := by
          have h := oddIn_nodes .nilIface (numP p) (numP_nodes p) i (by omega)
          have h3 : 3 ^ i ≤ 3 ^ 6 := Nat.pow_le_pow_right (by omega) hi7
          have : (3 : Nat) ^ 6 = 729 := rfl
          show _ ≤ _
          omega
        clear HVS1
        go_wp2_with fail
        refine (check_any (oddIn .nilIface (numP p) i) (HO8.out i) HNN.out _).mono ?_
        rintro e w9 ⟨rfl, hb9⟩
        rw [chk_oddIn]
        go_wp2_with fail
        refine (same_any (oddIn .nilIface (numP p) i) (HO8.out i) (oddIn .nilIface (numP p) i) (HO8.out i) _).mono ?_
        rintro e w10 ⟨rfl, hb10⟩
        rw [oddIn_same]
        go_wp2_with fail
        refine (wakes_any _).mono ?_
        rintro e w11 ⟨rfl, hb11⟩
        go_wp2_with fail
        go_ret
        have k8 := HB.out.trans (HX8.out.mono HB.out.size)
        have k9 := k8.trans (hb9.mono k8.size)
        have k10 := k9.trans (hb10.mono k9.size)
        exact ⟨rfl, k10.trans (hb11.mono k10.size)⟩
  · have ha := fun v xT w => notConst t v xT w h0
    simp only [O.val]
    have HV : Hid ((O.odd (.iface t x)).Ok) := hst
    go_wp2_with fail
    refine (size_any (.odd (.iface t x)) HV.out (by simp [O.nodes]) _).mono ?_
    rintro e w2 ⟨rfl, hb2⟩
    rw [show ((O.odd (.iface t x)).nodes : Int) = 0 from rfl, show ((O.odd (.iface t x)).depth : Int) = 0 from rfl]
    have hx2 : Below W.heap.size W w2 := (hx1.alloc hx1.size _).trans (hb2.mono (by have := hx1.size; simp; omega))
    clear hb2
    go_wp2_with fail
    refine (names_any (.odd (.iface t x)) HV.out (by simp [O.nodes]) _).mono ?_
    rintro e w3 ⟨v3, rfl, hown3, hb3⟩
    have hx3 : Below W.heap.size W w3 := hx2.trans (hb3.mono hx2.size)
    obtain ⟨ao3, cap3, rfl, _, _⟩ := own_str hown3
    rw [show (O.odd (.iface t x)).names.length = 0 from rfl]
    clear hb3 hown3
    go_wp2_with fail
    refine (kids_any (.odd (.iface t x)) HV.out _).mono ?_
    rintro e w4 ⟨a4, rfl, _, hb4⟩
    have hx4 : Below W.heap.size W w4 := hx3.trans (hb4.mono hx3.size)
    rw [show (O.odd (.iface t x)).kids.length = 0 from rfl]
    clear hb4
    go_wp2_with fail
    refine (same_any (.odd (.iface t x)) HV.out (.odd (.iface t x)) HV.out _).mono ?_
    rintro e w5 ⟨rfl, hb5⟩
    have hx5 : Below W.heap.size W w5 := hx4.trans (hb5.mono hx4.size)
    rw [show sameO (O.odd (.iface t x)) (O.odd (.iface t x)) = false from rfl]
    clear hb5
    go_wp2_with fail
    refine (check_any (.odd (.iface t x)) HV.out (by simp [O.nodes]) _).mono ?_
    rintro e w6 ⟨rfl, hb6⟩
    have hx6 : Below W.heap.size W w6 := hx5.trans (hb6.mono hx5.size)
    rw [show chk (O.odd (.iface t x)) = 2 from rfl]
    obtain ⟨c0, c1, hp6⟩ := HF.out w6 hx6
    have HX6 : Hid (Below W.heap.size W w6) := hx6
    have HP6 : Hid (PlanIn w6 p) := hp6
    clear hb6 hx1 hx2 hx3 hx4 hx5 hx6 hp6
    go_wp2_with fail
    refine calls_same (within_any _ 6 _ (by omega) (by omega) hd1 hd2) ?_
    rw [hq]
    clear hd1 hd2 hq
    go_wp2_with fail
    refine (HN.out w6 HP6.out).mono ?_
    rintro e w7 ⟨v7, rfl, ht7, hb7⟩
    have HX7 : Hid (Below W.heap.size W w7) := HX6.out.trans (hb7.mono HX6.out.size)
    have HT7 : Hid (TIn w7 w6.heap.size (plain (numP p)) v7) := ht7
    clear ht7 hb7 c0 c1
    go_wp2_with fail
    refine (obsP_any (numP p) HWH.out w7 v7 _ HT7.out).mono ?_
    rintro e w8 ⟨rfl, hb8⟩
    have HX8 : Hid (Below W.heap.size W w8) := HX7.out.trans (hb8.mono HX7.out.size)
    have HO8 : Hid (∀ i, (oddIn (.iface t x) (numP p) i).Ok) := oddIn_ok _ _ HV.out HOK.out
    obtain ⟨yt, yx, hy⟩ := whole_solid (numP p) HWH.out
    have HY : Hid ((numP p).val = .iface yt yx) := hy
    have HVI : Hid (∀ i, (oddIn (.iface t x) (numP p) i).val = .nilIface ∨ ∃ zt zx, (oddIn (.iface t x) (numP p) i).val = .iface zt zx) := fun i => O.val_iface _ (HO8.out i)
    have HVS : Hid (∀ i, (oddIn (.iface t x) (numP p) (i + 1)).val = (if i % 4 = 0 then Value.iface 41 (.agg #[(oddIn (.iface t x) (numP p) i).val]) else if i % 4 = 1 then .iface 37 (.agg #[.iface yt yx, (oddIn (.iface t x) (numP p) i).val]) else if i % 4 = 2 then .iface 38 (.agg #[(oddIn (.iface t x) (numP p) i).val, .iface yt yx]) else .iface 39 (.agg #[(oddIn (.iface t x) (numP p) i).val, (oddIn (.iface t x) (numP p) i).val]))) := by
      intro i
      rw [← hy]
      show (if i % 4 = 0 then _ else _ : O).val = _
      split
      · rfl
      · split
        · rfl
        · split <;> rfl
    rw [hy]
    clear hb8 hy
    go_wp2_with fail
    go_loop [14, 12] (fun s14 s12 => ∃ i : Nat, i ≤ q + 1 ∧ s14 = .int .i64 i ∧ s12 = (oddIn (.iface t x) (numP p) i).val) (fun s14 _ => q + 1 - (intOf s14).toNat)
    case atStart => exact ⟨0, by omega, rfl, rfl⟩
    case round =>
      obtain ⟨i, hi, rfl, rfl⟩ := hrel
      have hvs := HVS.out i
      have HVS1 : Hid ((oddIn (.iface t x) (numP p) (i + 1)).val = _) := hvs
      clear hvs
      by_cases hlt : i < q + 1
      · have hlt' : (i : Int) < 1 + (q : Int) := by omega
        have hm4 : i % 4 = 0 ∨ i % 4 = 1 ∨ i % 4 = 2 ∨ i % 4 = 3 := by omega
        rcases HVI.out i with hvi | ⟨zt, zx, hvi⟩ <;> rcases hm4 with h4 | h4 | h4 | h4
        all_goals
          have h4' : (i : Int) % 4 = ((i % 4 : Nat) : Int) := by omega
          rw [h4] at h4'
          have HE := HVS1.out
          rw [h4, hvi] at HE
          have HE2 := Hid.in HE
          clear HE HVS1 HVI
          rw [hvi]
          clear hvi
          go_wp2_with fail
          go_round
          case rel => exact ⟨i + 1, by omega, by go_num, HE2.out.symm⟩
          case measure => simp [intOf]; omega
      · have hlt' : ¬ (i : Int) < 1 + (q : Int) := by omega
        have hi7 : i ≤ 6 := by omega
        have HNN : Hid ((oddIn (.iface t x) (numP p) i).nodes ≤ 1000000) := by
          have h := oddIn_nodes (.iface t x) (numP p) (numP_nodes p) i (by omega)
          have h3 : 3 ^ i ≤ 3 ^ 6 := Nat.pow_le_pow_right (by omega) hi7
          have : (3 : Nat) ^ 6 = 729 := rfl
          show _ ≤ _
          omega
        clear HVS1
        go_wp2_with fail
        refine (check_any (oddIn (.iface t x) (numP p) i) (HO8.out i) HNN.out _).mono ?_
        rintro e w9 ⟨rfl, hb9⟩
        rw [chk_oddIn]
        go_wp2_with fail
        refine (same_any (oddIn (.iface t x) (numP p) i) (HO8.out i) (oddIn (.iface t x) (numP p) i) (HO8.out i) _).mono ?_
        rintro e w10 ⟨rfl, hb10⟩
        rw [oddIn_same]
        go_wp2_with fail
        refine (wakes_any _).mono ?_
        rintro e w11 ⟨rfl, hb11⟩
        go_wp2_with fail
        go_ret
        have k8 := HB.out.trans (HX8.out.mono HB.out.size)
        have k9 := k8.trans (hb9.mono k8.size)
        have k10 := k9.trans (hb10.mono k9.size)
        exact ⟨rfl, k10.trans (hb11.mono k10.size)⟩

end Go.Proofs.Ytepgeclpmdhepaa
