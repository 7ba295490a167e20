/- The walk of CashChoices, given true, turned false. -/
import Derived.Test.YtngjlkdpplmpaaaCc1
import Derived.Test.YtngjlkdpplmpaaaMix
namespace Go.Proofs.Ytngjlkdpplmpaaa.Ca
open Go.RowKit Wd Cn Vl
set_option linter.unusedVariables false

set_option maxHeartbeats 4000000 in
set_option maxRecDepth 100000 in
theorem choices2 (day when pick : Int) (w : World) (a1 : -9223372036854775808 ≤ day) (a2 : day ≤ 9223372036854775807) (b1 : -9223372036854775808 ≤ when) (b2 : when ≤ 9223372036854775807) (c1 : -9223372036854775808 ≤ pick) (c2 : pick ≤ 9223372036854775807) :
    Calls Try.prog 3 #[.int .i64 day, .int .i64 when, .int .i64 pick, .bool true, .bool false] w fun e w' => e = .returned (.bool true) ∧ Below w.heap.size w w' := by
  have HWA := hidC (fun w : World => within_any day 50 w (by omega) (by omega) a1 a2)
  have HWB := hidC (fun w : World => within_any when 100 w (by omega) (by omega) b1 b2)
  have HWC := hidC (fun w : World => within_any pick 2 w (by omega) (by omega) c1 c2)
  obtain ⟨d, hd⟩ : ∃ d, day % 50 = d := ⟨_, rfl⟩
  obtain ⟨e, he⟩ : ∃ e, when % 100 = e := ⟨_, rfl⟩
  obtain ⟨q, hq⟩ : ∃ q, pick % 2 = q := ⟨_, rfl⟩
  have hd1 : 0 ≤ d := by omega
  have hd2 : d < 50 := by omega
  have he1 : 0 ≤ e := by omega
  have he2 : e < 100 := by omega
  have HQ : Hid (q = 0 ∨ q = 1) := by unfold Hid; omega
  rw [hd] at HWA
  rw [he] at HWB
  rw [hq] at HWC
  clear hd he hq a1 a2 b1 b2 c1 c2
  have HE1 : Hid (chE ⟨[], []⟩ ⟨#[117]⟩ ⟨#[97]⟩ q e = 0 ∧ chN ⟨[], []⟩ ⟨#[117]⟩ ⟨#[97]⟩ q e = ch1 q e) := step1 q e HQ.out he1 (by omega)
  have HE2 : Hid (chE (ch1 q e) ⟨#[116]⟩ ⟨#[97]⟩ q e = 0 ∧ chN (ch1 q e) ⟨#[116]⟩ ⟨#[97]⟩ q e = ch2 q e) := step2 q e HQ.out he1 (by omega)
  have HV : Hid (C.val (.give chC) = .iface 34 (.agg #[.iface 32 (.agg #[.string ⟨#[97]⟩, .iface 24 (.agg #[.string ⟨#[117, 115, 100]⟩]), .iface 30 (.agg #[.iface 26 (.agg #[.int .i64 3]), .iface 24 (.agg #[.string ⟨#[101, 117, 114]⟩])])])])) := rfl
  have HC0 := hidC (fun (w : World) (p f r : Nat) (hk : KIn w p f r ⟨[], []⟩) => cash_at (.give chC) chIs2.ok chIs2.wt w p f r ⟨[], []⟩ cT (env_new hk _ (by decide)) d ⟨by omega, by omega⟩ _ (of_open chIs2 ⟨[], []⟩ d hd1 (by omega) ch0_none 1 (by rfl)))
  have HC1 := hidC (fun (w : World) (p f r : Nat) (hk : KIn w p f r (ch1 q e)) => cash_at (.give chC) chIs2.ok chIs2.wt w p f r (ch1 q e) cT ⟨hk, vals1 q e, chs1 q e HQ.out he1 (by omega), by decide⟩ d ⟨by omega, by omega⟩ _ (of_open chIs2 (ch1 q e) d hd1 (by omega) (ch1_none q e) 1 (by rfl)))
  have HC2 := hidC (fun (w : World) (p f r : Nat) (hk : KIn w p f r (ch2 q e)) (x : Ck) => cash_at (.give chC) chIs2.ok chIs2.wt w p f r (ch2 q e) cT ⟨hk, vals2 q e, chs2 q e HQ.out he1 (by omega), by decide⟩ d ⟨by omega, by omega⟩ x)
  rw [HV.out] at HC0 HC1 HC2
  unfold cT at HC0 HC1
  unfold cA at HC0 HC1
  have HCH2 : Hid (∀ (w : World) (p f r : Nat), KIn w p f r (ch2 q e) → ∀ x, ofK (ch2 q e) cT (.give chC) d = x → Calls Try.prog 11 #[.string ⟨#[116]⟩, .iface 34 (.agg #[.iface 32 (.agg #[.string ⟨#[97]⟩, .iface 24 (.agg #[.string ⟨#[117, 115, 100]⟩]), .iface 30 (.agg #[.iface 26 (.agg #[.int .i64 3]), .iface 24 (.agg #[.string ⟨#[101, 117, 114]⟩])])])]), .int .i64 d, .pointer (some ⟨p, 0, none⟩)] w (OfIn w x)) := HC2.out
  clear HC2
  go_enter Try.func3, Try.ntmps3
  go_wp2_with fail
  refine calls_same (HWA.out _) ?_
  go_wp2_with fail
  refine calls_same (HWB.out _) ?_
  go_wp2_with fail
  refine calls_same (HWC.out _) ?_
  go_wp2_with fail
  refine (new_in' w).mono ?_
  rintro e1 w1 ⟨b, f, c, rfl, hi⟩
  have HI : Hid (In w w1 b f c ⟨[], []⟩) := hi
  clear hi
  go_wp2_with fail
  refine (HC0.out w1 b f c HI.out.kin).mono ?_
  rintro e2 w2 ⟨ao, cap, bo, cap2, rfl, h1, h2, hb⟩
  have HI2 := hidC (HI.out.step hb)
  obtain ⟨g, rfl, hg, d0, d1, d2, d3, d4⟩ := h2 0 _ rfl
  simp only at d0 d1 d2 d3 d4
  clear h1 h2 hb HC0
  simp only [List.length_cons, List.length_nil]
  go_wp2_with fail
  refine (ch_in HI2.out ⟨#[117]⟩ ⟨#[97]⟩ q e ⟨by decide, by decide⟩ 0 _ HE1.out.1 HE1.out.2).mono ?_
  rintro e3 w3 ⟨rfl, hi⟩
  have HI3 := hidC hi
  clear hi d0 d1 d2 d3 d4 HE1 HI2
  go_wp2_with fail
  refine (HC1.out w3 b f c HI3.out.kin).mono ?_
  rintro e4 w4 ⟨ao4, cap4, bo4, cap5, rfl, h1, h2, hb⟩
  have HI4 := hidC (HI3.out.step hb)
  clear h1 h2 hb HC1
  simp only [List.length_nil]
  go_wp2_with fail
  refine (ch_in HI4.out ⟨#[116]⟩ ⟨#[97]⟩ q e ⟨by decide, by decide⟩ 0 _ HE2.out.1 HE2.out.2).mono ?_
  rintro e5 w5 ⟨rfl, hi⟩
  have HI5 := hidC hi
  clear hi HE2 HI3 HI4
  obtain ⟨m, hm⟩ : ∃ m, Max.max d e = m := ⟨_, rfl⟩
  have HOR : Hid ((d < e ∧ m = e) ∨ (e ≤ d ∧ m = d)) := by unfold Hid; omega
  have HM := hidC hm
  clear hm
  rcases HQ.out with rfl | rfl
  · have HOF := hidC (HCH2.out w5 b f c HI5.out.kin _ (of_left chIs2 (ch2 0 e) d e hd1 (by omega) (ch2_some 0 e) m HM.out))
    go_wp2_with fail
    refine HOF.out.mono ?_
    rintro e6 w6 ⟨ao6, cap6, bo6, cap7, rfl, h1, h2, hb⟩
    have HI6 := hidC (HI5.out.step hb)
    obtain ⟨g6, rfl, hg6, f0, f1, f2⟩ := h1 0 _ rfl
    have f1' : w6.cell? ⟨g6, 1, none⟩ = some (.string ⟨#[117, 115, 100]⟩) := f1
    have f2' : w6.cell? ⟨g6, 2, none⟩ = some (.int .i64 (-1)) := f2
    simp only [Nat.zero_mul] at f0
    clear h1 h2 hb f1 f2 HOF
    simp only [List.length_cons, List.length_nil]
    rcases HOR.out with ⟨ho, rfl⟩ | ⟨ho, rfl⟩
    · go_wp2_with fail
      have HA1 := hidC (below_alloc (Below.refl w6.heap.size w6) (.cells #[.int .i64 m, .string ⟨#[117, 115, 100]⟩, .int .i64 (-1), .int .i64 m, .string ⟨#[101, 117, 114]⟩, .int .i64 (-3)] 46))
      have HA2 := hidC (below_alloc HA1.out (.cells #[.int .i64 m, .string ⟨#[117, 115, 100]⟩, .int .i64 (-1)] 46))
      have HX := hidC (heap_alloc_new (w6.alloc (.cells #[.int .i64 m, .string ⟨#[117, 115, 100]⟩, .int .i64 (-1), .int .i64 m, .string ⟨#[101, 117, 114]⟩, .int .i64 (-3)] 46)) (.cells #[.int .i64 m, .string ⟨#[117, 115, 100]⟩, .int .i64 (-1)] 46))
      have f0b := (HA2.out.cell (p := ⟨g6, 0, none⟩) hg6).trans f0
      have f1b := (HA2.out.cell (p := ⟨g6, 1, none⟩) hg6).trans f1'
      have f2b := (HA2.out.cell (p := ⟨g6, 2, none⟩) hg6).trans f2'
      have HBB := hidC (HI6.out.below.trans (HA2.out.mono HI6.out.below.size))
      have hg7 : g6 < ((w6.alloc (.cells #[.int .i64 m, .string ⟨#[117, 115, 100]⟩, .int .i64 (-1), .int .i64 m, .string ⟨#[101, 117, 114]⟩, .int .i64 (-3)] 46)).alloc (.cells #[.int .i64 m, .string ⟨#[117, 115, 100]⟩, .int .i64 (-1)] 46)).heap.size := Nat.lt_of_lt_of_le hg6 HA2.out.size
      obtain ⟨X, hX⟩ : ∃ X, (w6.alloc (.cells #[.int .i64 m, .string ⟨#[117, 115, 100]⟩, .int .i64 (-1), .int .i64 m, .string ⟨#[101, 117, 114]⟩, .int .i64 (-3)] 46)).heap.size = X := ⟨_, rfl⟩
      generalize (w6.alloc (.cells #[.int .i64 m, .string ⟨#[117, 115, 100]⟩, .int .i64 (-1), .int .i64 m, .string ⟨#[101, 117, 114]⟩, .int .i64 (-3)] 46)).alloc (.cells #[.int .i64 m, .string ⟨#[117, 115, 100]⟩, .int .i64 (-1)] 46) = V at *
      rw [hX] at HX
      simp only [size_alloc] at hX ⊢
      have HFC : Hid (∀ w', Below V.heap.size V w' → w'.cell? ⟨g6, 0, none⟩ = some (.int .i64 m) ∧ w'.cell? ⟨g6, 1, none⟩ = some (.string ⟨#[117, 115, 100]⟩) ∧ w'.cell? ⟨g6, 2, none⟩ = some (.int .i64 (-1)) ∧ w'.cell? ⟨w6.heap.size + 1, 0, none⟩ = some (.int .i64 m) ∧ w'.cell? ⟨w6.heap.size + 1, 1, none⟩ = some (.string ⟨#[117, 115, 100]⟩) ∧ w'.cell? ⟨w6.heap.size + 1, 2, none⟩ = some (.int .i64 (-1))) := fun w' hw' => by
        have hc := fun o => hw'.cell (p := ⟨g6, o, none⟩) hg7
        have hx := (hw'.block _ (Array.getElem?_eq_some_iff.1 HX.out).1).trans HX.out
        rw [← hX] at hx
        exact ⟨(hc _).trans f0b, (hc _).trans f1b, (hc _).trans f2b, cell_of_row _ _ 0 _ _ _ hx, cell_of_row _ _ 1 _ _ _ hx, cell_of_row _ _ 2 _ _ _ hx⟩
      have HC0 := hidC (below_drew (Below.refl V.heap.size V))
      clear f0b f1b f2b f0 f1' f2' hX HX HA1 HA2
      refine Mx.wp_region_mix (fun w' => Below V.heap.size V w') [(0, false), (1, false), (2, false), (3, false), (4, false), (5, false), (6, false), (7, false), (8, false), (9, false), (10, false), (11, false), (12, false), (13, false), (14, false), (15, false), (16, false), (17, false), (18, false), (19, false), (20, true), (21, false), (22, false)] (by kernel_rfl) (by kernel_rfl) HC0.out ?_ (by kernel_rfl)
      simp only [List.map_cons, List.map_nil, List.getD_cons_zero, List.getD_cons_succ]
      generalize hops : (#[_, _, _, _, _, _, _, _, _, _, _, _, _, _, _, _, _, _, _, _, _, _, _] : Array Oper) = ops
      have HD2 : Hid ((ops[2]?).bind (·.dst) = some 128) := by rw [← hops]; exact rfl
      have HD7 : Hid ((ops[7]?).bind (·.dst) = some 133) := by rw [← hops]; exact rfl
      have HD12 : Hid ((ops[12]?).bind (·.dst) = some 138) := by rw [← hops]; exact rfl
      have HD19 : Hid ((ops[19]?).bind (·.dst) = some 145) := by rw [← hops]; exact rfl
      clear hops
      refine Mx.m_pure (.int .i64 0) (Mx.wanted_none rfl) (fun w' hw' => ?_) ?_
      · go_simp
      simp only [Act.put, List.setIfInBounds_toArray, List.set_cons_zero, List.set_cons_succ]
      refine Mx.m_pure (.bool true) (Mx.wanted_none rfl) (fun w' hw' => ?_) ?_
      · go_simp
      simp only [Act.put, List.setIfInBounds_toArray, List.set_cons_zero, List.set_cons_succ]
      refine Mx.m_pure (.bool true) (Mx.wanted_none rfl) (fun w' hw' => ?_) ?_
      · go_simp
      simp only [Act.put, List.setIfInBounds_toArray, List.set_cons_zero, List.set_cons_succ]
      refine Mx.m_pure (.slice bo6 0 cap7) (Mx.wanted_met 2 128 true rfl HD2.out rfl) (fun w' hw' => ?_) ?_
      · go_simp
      simp only [Act.put, List.setIfInBounds_toArray, List.set_cons_zero, List.set_cons_succ]
      refine Mx.m_pure (.int .i64 0) (Mx.wanted_met 2 128 true rfl HD2.out rfl) (fun w' hw' => ?_) ?_
      · go_simp
      simp only [Act.put, List.setIfInBounds_toArray, List.set_cons_zero, List.set_cons_succ]
      refine Mx.m_pure (.bool true) (Mx.wanted_met 2 128 true rfl HD2.out rfl) (fun w' hw' => ?_) ?_
      · go_simp
      simp only [Act.put, List.setIfInBounds_toArray, List.set_cons_zero, List.set_cons_succ]
      refine Mx.m_pure (.bool true) (Mx.wanted_none rfl) (fun w' hw' => ?_) ?_
      · go_simp
      simp only [Act.put, List.setIfInBounds_toArray, List.set_cons_zero, List.set_cons_succ]
      refine Mx.m_pure (.bool true) (Mx.wanted_none rfl) (fun w' hw' => ?_) ?_
      · go_simp
      simp only [Act.put, List.setIfInBounds_toArray, List.set_cons_zero, List.set_cons_succ]
      refine Mx.m_pure (.slice (some ⟨g6, 0, none⟩) 1 cap6) (Mx.wanted_met 7 133 true rfl HD7.out rfl) (fun w' hw' => ?_) ?_
      · go_simp
      simp only [Act.put, List.setIfInBounds_toArray, List.set_cons_zero, List.set_cons_succ]
      refine Mx.m_pure (.int .i64 1) (Mx.wanted_met 7 133 true rfl HD7.out rfl) (fun w' hw' => ?_) ?_
      · go_simp
      simp only [Act.put, List.setIfInBounds_toArray, List.set_cons_zero, List.set_cons_succ]
      refine Mx.m_pure (.bool true) (Mx.wanted_met 7 133 true rfl HD7.out rfl) (fun w' hw' => ?_) ?_
      · go_simp
      simp only [Act.put, List.setIfInBounds_toArray, List.set_cons_zero, List.set_cons_succ]
      refine Mx.m_pure (.bool true) (Mx.wanted_none rfl) (fun w' hw' => ?_) ?_
      · go_simp
      simp only [Act.put, List.setIfInBounds_toArray, List.set_cons_zero, List.set_cons_succ]
      refine Mx.m_pure (.bool true) (Mx.wanted_none rfl) (fun w' hw' => ?_) ?_
      · go_simp
      simp only [Act.put, List.setIfInBounds_toArray, List.set_cons_zero, List.set_cons_succ]
      refine Mx.m_pure (.slice (some ⟨g6, 0, none⟩) 1 cap6) (Mx.wanted_met 12 138 true rfl HD12.out rfl) (fun w' hw' => ?_) ?_
      · go_simp
      simp only [Act.put, List.setIfInBounds_toArray, List.set_cons_zero, List.set_cons_succ]
      refine Mx.m_pure (.pointer (some ⟨g6, 0, none⟩)) (Mx.wanted_met 12 138 true rfl HD12.out rfl) (fun w' hw' => ?_) ?_
      · go_simp
      simp only [Act.put, List.setIfInBounds_toArray, List.set_cons_zero, List.set_cons_succ]
      refine Mx.m_pure (.agg #[.int .i64 m, .string ⟨#[117, 115, 100]⟩, .int .i64 (-1)]) (Mx.wanted_met 12 138 true rfl HD12.out rfl) (fun w' hw' => ?_) ?_
      · obtain ⟨q0, q1, q2, q3, q4, q5⟩ := HFC.out w' hw'
        go_simp
      simp only [Act.put, List.setIfInBounds_toArray, List.set_cons_zero, List.set_cons_succ]
      refine Mx.m_pure (.agg #[.int .i64 m, .string ⟨#[117, 115, 100]⟩, .int .i64 (-1)]) (Mx.wanted_met 12 138 true rfl HD12.out rfl) (fun w' hw' => ?_) ?_
      · obtain ⟨q0, q1, q2, q3, q4, q5⟩ := HFC.out w' hw'
        go_simp
      simp only [Act.put, List.setIfInBounds_toArray, List.set_cons_zero, List.set_cons_succ]
      refine Mx.m_pure (.bool true) (Mx.wanted_met 12 138 true rfl HD12.out rfl) (fun w' hw' => ?_) ?_
      · go_simp
      simp only [Act.put, List.setIfInBounds_toArray, List.set_cons_zero, List.set_cons_succ]
      refine Mx.m_pure (.bool true) (Mx.wanted_none rfl) (fun w' hw' => ?_) ?_
      · go_simp
      simp only [Act.put, List.setIfInBounds_toArray, List.set_cons_zero, List.set_cons_succ]
      refine Mx.m_pure (.bool true) (Mx.wanted_none rfl) (fun w' hw' => ?_) ?_
      · go_simp
      simp only [Act.put, List.setIfInBounds_toArray, List.set_cons_zero, List.set_cons_succ]
      refine Mx.m_call 13 #[] (Mx.wanted_met 19 145 true rfl HD19.out rfl) ?_ ?_
      · go_simp
      refine (wakes10_any _).mono ?_
      rintro e8 w8 ⟨rfl, hb8⟩
      have HB8 := hidC (HC0.out.trans (hb8.mono HC0.out.size))
      refine ⟨_, rfl, HB8.out, ?_⟩
      clear hb8
      simp only [Act.put, List.setIfInBounds_toArray, List.set_cons_zero, List.set_cons_succ]
      refine Mx.m_pure (.bool true) (Mx.wanted_none rfl) (fun w' hw' => ?_) ?_
      · go_simp
      simp only [Act.put, List.setIfInBounds_toArray, List.set_cons_zero, List.set_cons_succ]
      refine Mx.m_pure (.bool true) (Mx.wanted_none rfl) (fun w' hw' => ?_) ?_
      · go_simp
      simp only [Act.put, List.setIfInBounds_toArray, List.set_cons_zero, List.set_cons_succ]
      refine Mx.m_nil ?_
      intro _
      go_wp2_with fail
      go_ret
      exact ⟨rfl, HBB.out.trans (HB8.out.mono HBB.out.size)⟩
    · go_wp2_with fail
      have HA1 := hidC (below_alloc (Below.refl w6.heap.size w6) (.cells #[.int .i64 m, .string ⟨#[117, 115, 100]⟩, .int .i64 (-1), .int .i64 m, .string ⟨#[101, 117, 114]⟩, .int .i64 (-3)] 46))
      have HA2 := hidC (below_alloc HA1.out (.cells #[.int .i64 m, .string ⟨#[117, 115, 100]⟩, .int .i64 (-1)] 46))
      have HX := hidC (heap_alloc_new (w6.alloc (.cells #[.int .i64 m, .string ⟨#[117, 115, 100]⟩, .int .i64 (-1), .int .i64 m, .string ⟨#[101, 117, 114]⟩, .int .i64 (-3)] 46)) (.cells #[.int .i64 m, .string ⟨#[117, 115, 100]⟩, .int .i64 (-1)] 46))
      have f0b := (HA2.out.cell (p := ⟨g6, 0, none⟩) hg6).trans f0
      have f1b := (HA2.out.cell (p := ⟨g6, 1, none⟩) hg6).trans f1'
      have f2b := (HA2.out.cell (p := ⟨g6, 2, none⟩) hg6).trans f2'
      have HBB := hidC (HI6.out.below.trans (HA2.out.mono HI6.out.below.size))
      have hg7 : g6 < ((w6.alloc (.cells #[.int .i64 m, .string ⟨#[117, 115, 100]⟩, .int .i64 (-1), .int .i64 m, .string ⟨#[101, 117, 114]⟩, .int .i64 (-3)] 46)).alloc (.cells #[.int .i64 m, .string ⟨#[117, 115, 100]⟩, .int .i64 (-1)] 46)).heap.size := Nat.lt_of_lt_of_le hg6 HA2.out.size
      obtain ⟨X, hX⟩ : ∃ X, (w6.alloc (.cells #[.int .i64 m, .string ⟨#[117, 115, 100]⟩, .int .i64 (-1), .int .i64 m, .string ⟨#[101, 117, 114]⟩, .int .i64 (-3)] 46)).heap.size = X := ⟨_, rfl⟩
      generalize (w6.alloc (.cells #[.int .i64 m, .string ⟨#[117, 115, 100]⟩, .int .i64 (-1), .int .i64 m, .string ⟨#[101, 117, 114]⟩, .int .i64 (-3)] 46)).alloc (.cells #[.int .i64 m, .string ⟨#[117, 115, 100]⟩, .int .i64 (-1)] 46) = V at *
      rw [hX] at HX
      simp only [size_alloc] at hX ⊢
      have HFC : Hid (∀ w', Below V.heap.size V w' → w'.cell? ⟨g6, 0, none⟩ = some (.int .i64 m) ∧ w'.cell? ⟨g6, 1, none⟩ = some (.string ⟨#[117, 115, 100]⟩) ∧ w'.cell? ⟨g6, 2, none⟩ = some (.int .i64 (-1)) ∧ w'.cell? ⟨w6.heap.size + 1, 0, none⟩ = some (.int .i64 m) ∧ w'.cell? ⟨w6.heap.size + 1, 1, none⟩ = some (.string ⟨#[117, 115, 100]⟩) ∧ w'.cell? ⟨w6.heap.size + 1, 2, none⟩ = some (.int .i64 (-1))) := fun w' hw' => by
        have hc := fun o => hw'.cell (p := ⟨g6, o, none⟩) hg7
        have hx := (hw'.block _ (Array.getElem?_eq_some_iff.1 HX.out).1).trans HX.out
        rw [← hX] at hx
        exact ⟨(hc _).trans f0b, (hc _).trans f1b, (hc _).trans f2b, cell_of_row _ _ 0 _ _ _ hx, cell_of_row _ _ 1 _ _ _ hx, cell_of_row _ _ 2 _ _ _ hx⟩
      have HC0 := hidC (below_drew (Below.refl V.heap.size V))
      clear f0b f1b f2b f0 f1' f2' hX HX HA1 HA2
      refine Mx.wp_region_mix (fun w' => Below V.heap.size V w') [(0, false), (1, false), (2, false), (3, false), (4, false), (5, false), (6, false), (7, false), (8, false), (9, false), (10, false), (11, false), (12, false), (13, false), (14, false), (15, false), (16, false), (17, false), (18, false), (19, false), (20, true), (21, false), (22, false)] (by kernel_rfl) (by kernel_rfl) HC0.out ?_ (by kernel_rfl)
      simp only [List.map_cons, List.map_nil, List.getD_cons_zero, List.getD_cons_succ]
      generalize hops : (#[_, _, _, _, _, _, _, _, _, _, _, _, _, _, _, _, _, _, _, _, _, _, _] : Array Oper) = ops
      have HD2 : Hid ((ops[2]?).bind (·.dst) = some 128) := by rw [← hops]; exact rfl
      have HD7 : Hid ((ops[7]?).bind (·.dst) = some 133) := by rw [← hops]; exact rfl
      have HD12 : Hid ((ops[12]?).bind (·.dst) = some 138) := by rw [← hops]; exact rfl
      have HD19 : Hid ((ops[19]?).bind (·.dst) = some 145) := by rw [← hops]; exact rfl
      clear hops
      refine Mx.m_pure (.int .i64 0) (Mx.wanted_none rfl) (fun w' hw' => ?_) ?_
      · go_simp
      simp only [Act.put, List.setIfInBounds_toArray, List.set_cons_zero, List.set_cons_succ]
      refine Mx.m_pure (.bool true) (Mx.wanted_none rfl) (fun w' hw' => ?_) ?_
      · go_simp
      simp only [Act.put, List.setIfInBounds_toArray, List.set_cons_zero, List.set_cons_succ]
      refine Mx.m_pure (.bool true) (Mx.wanted_none rfl) (fun w' hw' => ?_) ?_
      · go_simp
      simp only [Act.put, List.setIfInBounds_toArray, List.set_cons_zero, List.set_cons_succ]
      refine Mx.m_pure (.slice bo6 0 cap7) (Mx.wanted_met 2 128 true rfl HD2.out rfl) (fun w' hw' => ?_) ?_
      · go_simp
      simp only [Act.put, List.setIfInBounds_toArray, List.set_cons_zero, List.set_cons_succ]
      refine Mx.m_pure (.int .i64 0) (Mx.wanted_met 2 128 true rfl HD2.out rfl) (fun w' hw' => ?_) ?_
      · go_simp
      simp only [Act.put, List.setIfInBounds_toArray, List.set_cons_zero, List.set_cons_succ]
      refine Mx.m_pure (.bool true) (Mx.wanted_met 2 128 true rfl HD2.out rfl) (fun w' hw' => ?_) ?_
      · go_simp
      simp only [Act.put, List.setIfInBounds_toArray, List.set_cons_zero, List.set_cons_succ]
      refine Mx.m_pure (.bool true) (Mx.wanted_none rfl) (fun w' hw' => ?_) ?_
      · go_simp
      simp only [Act.put, List.setIfInBounds_toArray, List.set_cons_zero, List.set_cons_succ]
      refine Mx.m_pure (.bool true) (Mx.wanted_none rfl) (fun w' hw' => ?_) ?_
      · go_simp
      simp only [Act.put, List.setIfInBounds_toArray, List.set_cons_zero, List.set_cons_succ]
      refine Mx.m_pure (.slice (some ⟨g6, 0, none⟩) 1 cap6) (Mx.wanted_met 7 133 true rfl HD7.out rfl) (fun w' hw' => ?_) ?_
      · go_simp
      simp only [Act.put, List.setIfInBounds_toArray, List.set_cons_zero, List.set_cons_succ]
      refine Mx.m_pure (.int .i64 1) (Mx.wanted_met 7 133 true rfl HD7.out rfl) (fun w' hw' => ?_) ?_
      · go_simp
      simp only [Act.put, List.setIfInBounds_toArray, List.set_cons_zero, List.set_cons_succ]
      refine Mx.m_pure (.bool true) (Mx.wanted_met 7 133 true rfl HD7.out rfl) (fun w' hw' => ?_) ?_
      · go_simp
      simp only [Act.put, List.setIfInBounds_toArray, List.set_cons_zero, List.set_cons_succ]
      refine Mx.m_pure (.bool true) (Mx.wanted_none rfl) (fun w' hw' => ?_) ?_
      · go_simp
      simp only [Act.put, List.setIfInBounds_toArray, List.set_cons_zero, List.set_cons_succ]
      refine Mx.m_pure (.bool true) (Mx.wanted_none rfl) (fun w' hw' => ?_) ?_
      · go_simp
      simp only [Act.put, List.setIfInBounds_toArray, List.set_cons_zero, List.set_cons_succ]
      refine Mx.m_pure (.slice (some ⟨g6, 0, none⟩) 1 cap6) (Mx.wanted_met 12 138 true rfl HD12.out rfl) (fun w' hw' => ?_) ?_
      · go_simp
      simp only [Act.put, List.setIfInBounds_toArray, List.set_cons_zero, List.set_cons_succ]
      refine Mx.m_pure (.pointer (some ⟨g6, 0, none⟩)) (Mx.wanted_met 12 138 true rfl HD12.out rfl) (fun w' hw' => ?_) ?_
      · go_simp
      simp only [Act.put, List.setIfInBounds_toArray, List.set_cons_zero, List.set_cons_succ]
      refine Mx.m_pure (.agg #[.int .i64 m, .string ⟨#[117, 115, 100]⟩, .int .i64 (-1)]) (Mx.wanted_met 12 138 true rfl HD12.out rfl) (fun w' hw' => ?_) ?_
      · obtain ⟨q0, q1, q2, q3, q4, q5⟩ := HFC.out w' hw'
        go_simp
      simp only [Act.put, List.setIfInBounds_toArray, List.set_cons_zero, List.set_cons_succ]
      refine Mx.m_pure (.agg #[.int .i64 m, .string ⟨#[117, 115, 100]⟩, .int .i64 (-1)]) (Mx.wanted_met 12 138 true rfl HD12.out rfl) (fun w' hw' => ?_) ?_
      · obtain ⟨q0, q1, q2, q3, q4, q5⟩ := HFC.out w' hw'
        go_simp
      simp only [Act.put, List.setIfInBounds_toArray, List.set_cons_zero, List.set_cons_succ]
      refine Mx.m_pure (.bool true) (Mx.wanted_met 12 138 true rfl HD12.out rfl) (fun w' hw' => ?_) ?_
      · go_simp
      simp only [Act.put, List.setIfInBounds_toArray, List.set_cons_zero, List.set_cons_succ]
      refine Mx.m_pure (.bool true) (Mx.wanted_none rfl) (fun w' hw' => ?_) ?_
      · go_simp
      simp only [Act.put, List.setIfInBounds_toArray, List.set_cons_zero, List.set_cons_succ]
      refine Mx.m_pure (.bool true) (Mx.wanted_none rfl) (fun w' hw' => ?_) ?_
      · go_simp
      simp only [Act.put, List.setIfInBounds_toArray, List.set_cons_zero, List.set_cons_succ]
      refine Mx.m_call 13 #[] (Mx.wanted_met 19 145 true rfl HD19.out rfl) ?_ ?_
      · go_simp
      refine (wakes10_any _).mono ?_
      rintro e8 w8 ⟨rfl, hb8⟩
      have HB8 := hidC (HC0.out.trans (hb8.mono HC0.out.size))
      refine ⟨_, rfl, HB8.out, ?_⟩
      clear hb8
      simp only [Act.put, List.setIfInBounds_toArray, List.set_cons_zero, List.set_cons_succ]
      refine Mx.m_pure (.bool true) (Mx.wanted_none rfl) (fun w' hw' => ?_) ?_
      · go_simp
      simp only [Act.put, List.setIfInBounds_toArray, List.set_cons_zero, List.set_cons_succ]
      refine Mx.m_pure (.bool true) (Mx.wanted_none rfl) (fun w' hw' => ?_) ?_
      · go_simp
      simp only [Act.put, List.setIfInBounds_toArray, List.set_cons_zero, List.set_cons_succ]
      refine Mx.m_nil ?_
      intro _
      go_wp2_with fail
      go_ret
      exact ⟨rfl, HBB.out.trans (HB8.out.mono HBB.out.size)⟩
  · have HOF := hidC (HCH2.out w5 b f c HI5.out.kin _ (of_right chIs2 (ch2 1 e) d e hd1 (by omega) (ch2_some 1 e) m HM.out))
    go_wp2_with fail
    refine HOF.out.mono ?_
    rintro e6 w6 ⟨ao6, cap6, bo6, cap7, rfl, h1, h2, hb⟩
    have HI6 := hidC (HI5.out.step hb)
    obtain ⟨g6, rfl, hg6, f0, f1, f2⟩ := h1 0 _ rfl
    have f1' : w6.cell? ⟨g6, 1, none⟩ = some (.string ⟨#[101, 117, 114]⟩) := f1
    have f2' : w6.cell? ⟨g6, 2, none⟩ = some (.int .i64 (-3)) := f2
    simp only [Nat.zero_mul] at f0
    clear h1 h2 hb f1 f2 HOF
    simp only [List.length_cons, List.length_nil]
    rcases HOR.out with ⟨ho, rfl⟩ | ⟨ho, rfl⟩
    · go_wp2_with fail
      have HA1 := hidC (below_alloc (Below.refl w6.heap.size w6) (.cells #[.int .i64 m, .string ⟨#[117, 115, 100]⟩, .int .i64 (-1), .int .i64 m, .string ⟨#[101, 117, 114]⟩, .int .i64 (-3)] 46))
      have HA2 := hidC (below_alloc HA1.out (.cells #[.int .i64 m, .string ⟨#[101, 117, 114]⟩, .int .i64 (-3)] 46))
      have HX := hidC (heap_alloc_new (w6.alloc (.cells #[.int .i64 m, .string ⟨#[117, 115, 100]⟩, .int .i64 (-1), .int .i64 m, .string ⟨#[101, 117, 114]⟩, .int .i64 (-3)] 46)) (.cells #[.int .i64 m, .string ⟨#[101, 117, 114]⟩, .int .i64 (-3)] 46))
      have f0b := (HA2.out.cell (p := ⟨g6, 0, none⟩) hg6).trans f0
      have f1b := (HA2.out.cell (p := ⟨g6, 1, none⟩) hg6).trans f1'
      have f2b := (HA2.out.cell (p := ⟨g6, 2, none⟩) hg6).trans f2'
      have HBB := hidC (HI6.out.below.trans (HA2.out.mono HI6.out.below.size))
      have hg7 : g6 < ((w6.alloc (.cells #[.int .i64 m, .string ⟨#[117, 115, 100]⟩, .int .i64 (-1), .int .i64 m, .string ⟨#[101, 117, 114]⟩, .int .i64 (-3)] 46)).alloc (.cells #[.int .i64 m, .string ⟨#[101, 117, 114]⟩, .int .i64 (-3)] 46)).heap.size := Nat.lt_of_lt_of_le hg6 HA2.out.size
      obtain ⟨X, hX⟩ : ∃ X, (w6.alloc (.cells #[.int .i64 m, .string ⟨#[117, 115, 100]⟩, .int .i64 (-1), .int .i64 m, .string ⟨#[101, 117, 114]⟩, .int .i64 (-3)] 46)).heap.size = X := ⟨_, rfl⟩
      generalize (w6.alloc (.cells #[.int .i64 m, .string ⟨#[117, 115, 100]⟩, .int .i64 (-1), .int .i64 m, .string ⟨#[101, 117, 114]⟩, .int .i64 (-3)] 46)).alloc (.cells #[.int .i64 m, .string ⟨#[101, 117, 114]⟩, .int .i64 (-3)] 46) = V at *
      rw [hX] at HX
      simp only [size_alloc] at hX ⊢
      have HFC : Hid (∀ w', Below V.heap.size V w' → w'.cell? ⟨g6, 0, none⟩ = some (.int .i64 m) ∧ w'.cell? ⟨g6, 1, none⟩ = some (.string ⟨#[101, 117, 114]⟩) ∧ w'.cell? ⟨g6, 2, none⟩ = some (.int .i64 (-3)) ∧ w'.cell? ⟨w6.heap.size + 1, 0, none⟩ = some (.int .i64 m) ∧ w'.cell? ⟨w6.heap.size + 1, 1, none⟩ = some (.string ⟨#[101, 117, 114]⟩) ∧ w'.cell? ⟨w6.heap.size + 1, 2, none⟩ = some (.int .i64 (-3))) := fun w' hw' => by
        have hc := fun o => hw'.cell (p := ⟨g6, o, none⟩) hg7
        have hx := (hw'.block _ (Array.getElem?_eq_some_iff.1 HX.out).1).trans HX.out
        rw [← hX] at hx
        exact ⟨(hc _).trans f0b, (hc _).trans f1b, (hc _).trans f2b, cell_of_row _ _ 0 _ _ _ hx, cell_of_row _ _ 1 _ _ _ hx, cell_of_row _ _ 2 _ _ _ hx⟩
      have HC0 := hidC (below_drew (Below.refl V.heap.size V))
      clear f0b f1b f2b f0 f1' f2' hX HX HA1 HA2
      refine Mx.wp_region_mix (fun w' => Below V.heap.size V w') [(0, false), (1, false), (2, false), (3, false), (4, false), (5, false), (6, false), (7, false), (8, false), (9, false), (10, false), (11, false), (12, false), (13, false), (14, false), (15, false), (16, false), (17, false), (18, false), (19, false), (20, true), (21, false), (22, false)] (by kernel_rfl) (by kernel_rfl) HC0.out ?_ (by kernel_rfl)
      simp only [List.map_cons, List.map_nil, List.getD_cons_zero, List.getD_cons_succ]
      generalize hops : (#[_, _, _, _, _, _, _, _, _, _, _, _, _, _, _, _, _, _, _, _, _, _, _] : Array Oper) = ops
      have HD2 : Hid ((ops[2]?).bind (·.dst) = some 128) := by rw [← hops]; exact rfl
      have HD7 : Hid ((ops[7]?).bind (·.dst) = some 133) := by rw [← hops]; exact rfl
      have HD12 : Hid ((ops[12]?).bind (·.dst) = some 138) := by rw [← hops]; exact rfl
      have HD19 : Hid ((ops[19]?).bind (·.dst) = some 145) := by rw [← hops]; exact rfl
      clear hops
      refine Mx.m_pure (.int .i64 0) (Mx.wanted_none rfl) (fun w' hw' => ?_) ?_
      · go_simp
      simp only [Act.put, List.setIfInBounds_toArray, List.set_cons_zero, List.set_cons_succ]
      refine Mx.m_pure (.bool true) (Mx.wanted_none rfl) (fun w' hw' => ?_) ?_
      · go_simp
      simp only [Act.put, List.setIfInBounds_toArray, List.set_cons_zero, List.set_cons_succ]
      refine Mx.m_pure (.bool true) (Mx.wanted_none rfl) (fun w' hw' => ?_) ?_
      · go_simp
      simp only [Act.put, List.setIfInBounds_toArray, List.set_cons_zero, List.set_cons_succ]
      refine Mx.m_pure (.slice bo6 0 cap7) (Mx.wanted_met 2 128 true rfl HD2.out rfl) (fun w' hw' => ?_) ?_
      · go_simp
      simp only [Act.put, List.setIfInBounds_toArray, List.set_cons_zero, List.set_cons_succ]
      refine Mx.m_pure (.int .i64 0) (Mx.wanted_met 2 128 true rfl HD2.out rfl) (fun w' hw' => ?_) ?_
      · go_simp
      simp only [Act.put, List.setIfInBounds_toArray, List.set_cons_zero, List.set_cons_succ]
      refine Mx.m_pure (.bool true) (Mx.wanted_met 2 128 true rfl HD2.out rfl) (fun w' hw' => ?_) ?_
      · go_simp
      simp only [Act.put, List.setIfInBounds_toArray, List.set_cons_zero, List.set_cons_succ]
      refine Mx.m_pure (.bool true) (Mx.wanted_none rfl) (fun w' hw' => ?_) ?_
      · go_simp
      simp only [Act.put, List.setIfInBounds_toArray, List.set_cons_zero, List.set_cons_succ]
      refine Mx.m_pure (.bool true) (Mx.wanted_none rfl) (fun w' hw' => ?_) ?_
      · go_simp
      simp only [Act.put, List.setIfInBounds_toArray, List.set_cons_zero, List.set_cons_succ]
      refine Mx.m_pure (.slice (some ⟨g6, 0, none⟩) 1 cap6) (Mx.wanted_met 7 133 true rfl HD7.out rfl) (fun w' hw' => ?_) ?_
      · go_simp
      simp only [Act.put, List.setIfInBounds_toArray, List.set_cons_zero, List.set_cons_succ]
      refine Mx.m_pure (.int .i64 1) (Mx.wanted_met 7 133 true rfl HD7.out rfl) (fun w' hw' => ?_) ?_
      · go_simp
      simp only [Act.put, List.setIfInBounds_toArray, List.set_cons_zero, List.set_cons_succ]
      refine Mx.m_pure (.bool true) (Mx.wanted_met 7 133 true rfl HD7.out rfl) (fun w' hw' => ?_) ?_
      · go_simp
      simp only [Act.put, List.setIfInBounds_toArray, List.set_cons_zero, List.set_cons_succ]
      refine Mx.m_pure (.bool true) (Mx.wanted_none rfl) (fun w' hw' => ?_) ?_
      · go_simp
      simp only [Act.put, List.setIfInBounds_toArray, List.set_cons_zero, List.set_cons_succ]
      refine Mx.m_pure (.bool true) (Mx.wanted_none rfl) (fun w' hw' => ?_) ?_
      · go_simp
      simp only [Act.put, List.setIfInBounds_toArray, List.set_cons_zero, List.set_cons_succ]
      refine Mx.m_pure (.slice (some ⟨g6, 0, none⟩) 1 cap6) (Mx.wanted_met 12 138 true rfl HD12.out rfl) (fun w' hw' => ?_) ?_
      · go_simp
      simp only [Act.put, List.setIfInBounds_toArray, List.set_cons_zero, List.set_cons_succ]
      refine Mx.m_pure (.pointer (some ⟨g6, 0, none⟩)) (Mx.wanted_met 12 138 true rfl HD12.out rfl) (fun w' hw' => ?_) ?_
      · go_simp
      simp only [Act.put, List.setIfInBounds_toArray, List.set_cons_zero, List.set_cons_succ]
      refine Mx.m_pure (.agg #[.int .i64 m, .string ⟨#[101, 117, 114]⟩, .int .i64 (-3)]) (Mx.wanted_met 12 138 true rfl HD12.out rfl) (fun w' hw' => ?_) ?_
      · obtain ⟨q0, q1, q2, q3, q4, q5⟩ := HFC.out w' hw'
        go_simp
      simp only [Act.put, List.setIfInBounds_toArray, List.set_cons_zero, List.set_cons_succ]
      refine Mx.m_pure (.agg #[.int .i64 m, .string ⟨#[101, 117, 114]⟩, .int .i64 (-3)]) (Mx.wanted_met 12 138 true rfl HD12.out rfl) (fun w' hw' => ?_) ?_
      · obtain ⟨q0, q1, q2, q3, q4, q5⟩ := HFC.out w' hw'
        go_simp
      simp only [Act.put, List.setIfInBounds_toArray, List.set_cons_zero, List.set_cons_succ]
      refine Mx.m_pure (.bool true) (Mx.wanted_met 12 138 true rfl HD12.out rfl) (fun w' hw' => ?_) ?_
      · go_simp
      simp only [Act.put, List.setIfInBounds_toArray, List.set_cons_zero, List.set_cons_succ]
      refine Mx.m_pure (.bool true) (Mx.wanted_none rfl) (fun w' hw' => ?_) ?_
      · go_simp
      simp only [Act.put, List.setIfInBounds_toArray, List.set_cons_zero, List.set_cons_succ]
      refine Mx.m_pure (.bool true) (Mx.wanted_none rfl) (fun w' hw' => ?_) ?_
      · go_simp
      simp only [Act.put, List.setIfInBounds_toArray, List.set_cons_zero, List.set_cons_succ]
      refine Mx.m_call 13 #[] (Mx.wanted_met 19 145 true rfl HD19.out rfl) ?_ ?_
      · go_simp
      refine (wakes10_any _).mono ?_
      rintro e8 w8 ⟨rfl, hb8⟩
      have HB8 := hidC (HC0.out.trans (hb8.mono HC0.out.size))
      refine ⟨_, rfl, HB8.out, ?_⟩
      clear hb8
      simp only [Act.put, List.setIfInBounds_toArray, List.set_cons_zero, List.set_cons_succ]
      refine Mx.m_pure (.bool true) (Mx.wanted_none rfl) (fun w' hw' => ?_) ?_
      · go_simp
      simp only [Act.put, List.setIfInBounds_toArray, List.set_cons_zero, List.set_cons_succ]
      refine Mx.m_pure (.bool true) (Mx.wanted_none rfl) (fun w' hw' => ?_) ?_
      · go_simp
      simp only [Act.put, List.setIfInBounds_toArray, List.set_cons_zero, List.set_cons_succ]
      refine Mx.m_nil ?_
      intro _
      go_wp2_with fail
      go_ret
      exact ⟨rfl, HBB.out.trans (HB8.out.mono HBB.out.size)⟩
    · go_wp2_with fail
      have HA1 := hidC (below_alloc (Below.refl w6.heap.size w6) (.cells #[.int .i64 m, .string ⟨#[117, 115, 100]⟩, .int .i64 (-1), .int .i64 m, .string ⟨#[101, 117, 114]⟩, .int .i64 (-3)] 46))
      have HA2 := hidC (below_alloc HA1.out (.cells #[.int .i64 m, .string ⟨#[101, 117, 114]⟩, .int .i64 (-3)] 46))
      have HX := hidC (heap_alloc_new (w6.alloc (.cells #[.int .i64 m, .string ⟨#[117, 115, 100]⟩, .int .i64 (-1), .int .i64 m, .string ⟨#[101, 117, 114]⟩, .int .i64 (-3)] 46)) (.cells #[.int .i64 m, .string ⟨#[101, 117, 114]⟩, .int .i64 (-3)] 46))
      have f0b := (HA2.out.cell (p := ⟨g6, 0, none⟩) hg6).trans f0
      have f1b := (HA2.out.cell (p := ⟨g6, 1, none⟩) hg6).trans f1'
      have f2b := (HA2.out.cell (p := ⟨g6, 2, none⟩) hg6).trans f2'
      have HBB := hidC (HI6.out.below.trans (HA2.out.mono HI6.out.below.size))
      have hg7 : g6 < ((w6.alloc (.cells #[.int .i64 m, .string ⟨#[117, 115, 100]⟩, .int .i64 (-1), .int .i64 m, .string ⟨#[101, 117, 114]⟩, .int .i64 (-3)] 46)).alloc (.cells #[.int .i64 m, .string ⟨#[101, 117, 114]⟩, .int .i64 (-3)] 46)).heap.size := Nat.lt_of_lt_of_le hg6 HA2.out.size
      obtain ⟨X, hX⟩ : ∃ X, (w6.alloc (.cells #[.int .i64 m, .string ⟨#[117, 115, 100]⟩, .int .i64 (-1), .int .i64 m, .string ⟨#[101, 117, 114]⟩, .int .i64 (-3)] 46)).heap.size = X := ⟨_, rfl⟩
      generalize (w6.alloc (.cells #[.int .i64 m, .string ⟨#[117, 115, 100]⟩, .int .i64 (-1), .int .i64 m, .string ⟨#[101, 117, 114]⟩, .int .i64 (-3)] 46)).alloc (.cells #[.int .i64 m, .string ⟨#[101, 117, 114]⟩, .int .i64 (-3)] 46) = V at *
      rw [hX] at HX
      simp only [size_alloc] at hX ⊢
      have HFC : Hid (∀ w', Below V.heap.size V w' → w'.cell? ⟨g6, 0, none⟩ = some (.int .i64 m) ∧ w'.cell? ⟨g6, 1, none⟩ = some (.string ⟨#[101, 117, 114]⟩) ∧ w'.cell? ⟨g6, 2, none⟩ = some (.int .i64 (-3)) ∧ w'.cell? ⟨w6.heap.size + 1, 0, none⟩ = some (.int .i64 m) ∧ w'.cell? ⟨w6.heap.size + 1, 1, none⟩ = some (.string ⟨#[101, 117, 114]⟩) ∧ w'.cell? ⟨w6.heap.size + 1, 2, none⟩ = some (.int .i64 (-3))) := fun w' hw' => by
        have hc := fun o => hw'.cell (p := ⟨g6, o, none⟩) hg7
        have hx := (hw'.block _ (Array.getElem?_eq_some_iff.1 HX.out).1).trans HX.out
        rw [← hX] at hx
        exact ⟨(hc _).trans f0b, (hc _).trans f1b, (hc _).trans f2b, cell_of_row _ _ 0 _ _ _ hx, cell_of_row _ _ 1 _ _ _ hx, cell_of_row _ _ 2 _ _ _ hx⟩
      have HC0 := hidC (below_drew (Below.refl V.heap.size V))
      clear f0b f1b f2b f0 f1' f2' hX HX HA1 HA2
      refine Mx.wp_region_mix (fun w' => Below V.heap.size V w') [(0, false), (1, false), (2, false), (3, false), (4, false), (5, false), (6, false), (7, false), (8, false), (9, false), (10, false), (11, false), (12, false), (13, false), (14, false), (15, false), (16, false), (17, false), (18, false), (19, false), (20, true), (21, false), (22, false)] (by kernel_rfl) (by kernel_rfl) HC0.out ?_ (by kernel_rfl)
      simp only [List.map_cons, List.map_nil, List.getD_cons_zero, List.getD_cons_succ]
      generalize hops : (#[_, _, _, _, _, _, _, _, _, _, _, _, _, _, _, _, _, _, _, _, _, _, _] : Array Oper) = ops
      have HD2 : Hid ((ops[2]?).bind (·.dst) = some 128) := by rw [← hops]; exact rfl
      have HD7 : Hid ((ops[7]?).bind (·.dst) = some 133) := by rw [← hops]; exact rfl
      have HD12 : Hid ((ops[12]?).bind (·.dst) = some 138) := by rw [← hops]; exact rfl
      have HD19 : Hid ((ops[19]?).bind (·.dst) = some 145) := by rw [← hops]; exact rfl
      clear hops
      refine Mx.m_pure (.int .i64 0) (Mx.wanted_none rfl) (fun w' hw' => ?_) ?_
      · go_simp
      simp only [Act.put, List.setIfInBounds_toArray, List.set_cons_zero, List.set_cons_succ]
      refine Mx.m_pure (.bool true) (Mx.wanted_none rfl) (fun w' hw' => ?_) ?_
      · go_simp
      simp only [Act.put, List.setIfInBounds_toArray, List.set_cons_zero, List.set_cons_succ]
      refine Mx.m_pure (.bool true) (Mx.wanted_none rfl) (fun w' hw' => ?_) ?_
      · go_simp
      simp only [Act.put, List.setIfInBounds_toArray, List.set_cons_zero, List.set_cons_succ]
      refine Mx.m_pure (.slice bo6 0 cap7) (Mx.wanted_met 2 128 true rfl HD2.out rfl) (fun w' hw' => ?_) ?_
      · go_simp
      simp only [Act.put, List.setIfInBounds_toArray, List.set_cons_zero, List.set_cons_succ]
      refine Mx.m_pure (.int .i64 0) (Mx.wanted_met 2 128 true rfl HD2.out rfl) (fun w' hw' => ?_) ?_
      · go_simp
      simp only [Act.put, List.setIfInBounds_toArray, List.set_cons_zero, List.set_cons_succ]
      refine Mx.m_pure (.bool true) (Mx.wanted_met 2 128 true rfl HD2.out rfl) (fun w' hw' => ?_) ?_
      · go_simp
      simp only [Act.put, List.setIfInBounds_toArray, List.set_cons_zero, List.set_cons_succ]
      refine Mx.m_pure (.bool true) (Mx.wanted_none rfl) (fun w' hw' => ?_) ?_
      · go_simp
      simp only [Act.put, List.setIfInBounds_toArray, List.set_cons_zero, List.set_cons_succ]
      refine Mx.m_pure (.bool true) (Mx.wanted_none rfl) (fun w' hw' => ?_) ?_
      · go_simp
      simp only [Act.put, List.setIfInBounds_toArray, List.set_cons_zero, List.set_cons_succ]
      refine Mx.m_pure (.slice (some ⟨g6, 0, none⟩) 1 cap6) (Mx.wanted_met 7 133 true rfl HD7.out rfl) (fun w' hw' => ?_) ?_
      · go_simp
      simp only [Act.put, List.setIfInBounds_toArray, List.set_cons_zero, List.set_cons_succ]
      refine Mx.m_pure (.int .i64 1) (Mx.wanted_met 7 133 true rfl HD7.out rfl) (fun w' hw' => ?_) ?_
      · go_simp
      simp only [Act.put, List.setIfInBounds_toArray, List.set_cons_zero, List.set_cons_succ]
      refine Mx.m_pure (.bool true) (Mx.wanted_met 7 133 true rfl HD7.out rfl) (fun w' hw' => ?_) ?_
      · go_simp
      simp only [Act.put, List.setIfInBounds_toArray, List.set_cons_zero, List.set_cons_succ]
      refine Mx.m_pure (.bool true) (Mx.wanted_none rfl) (fun w' hw' => ?_) ?_
      · go_simp
      simp only [Act.put, List.setIfInBounds_toArray, List.set_cons_zero, List.set_cons_succ]
      refine Mx.m_pure (.bool true) (Mx.wanted_none rfl) (fun w' hw' => ?_) ?_
      · go_simp
      simp only [Act.put, List.setIfInBounds_toArray, List.set_cons_zero, List.set_cons_succ]
      refine Mx.m_pure (.slice (some ⟨g6, 0, none⟩) 1 cap6) (Mx.wanted_met 12 138 true rfl HD12.out rfl) (fun w' hw' => ?_) ?_
      · go_simp
      simp only [Act.put, List.setIfInBounds_toArray, List.set_cons_zero, List.set_cons_succ]
      refine Mx.m_pure (.pointer (some ⟨g6, 0, none⟩)) (Mx.wanted_met 12 138 true rfl HD12.out rfl) (fun w' hw' => ?_) ?_
      · go_simp
      simp only [Act.put, List.setIfInBounds_toArray, List.set_cons_zero, List.set_cons_succ]
      refine Mx.m_pure (.agg #[.int .i64 m, .string ⟨#[101, 117, 114]⟩, .int .i64 (-3)]) (Mx.wanted_met 12 138 true rfl HD12.out rfl) (fun w' hw' => ?_) ?_
      · obtain ⟨q0, q1, q2, q3, q4, q5⟩ := HFC.out w' hw'
        go_simp
      simp only [Act.put, List.setIfInBounds_toArray, List.set_cons_zero, List.set_cons_succ]
      refine Mx.m_pure (.agg #[.int .i64 m, .string ⟨#[101, 117, 114]⟩, .int .i64 (-3)]) (Mx.wanted_met 12 138 true rfl HD12.out rfl) (fun w' hw' => ?_) ?_
      · obtain ⟨q0, q1, q2, q3, q4, q5⟩ := HFC.out w' hw'
        go_simp
      simp only [Act.put, List.setIfInBounds_toArray, List.set_cons_zero, List.set_cons_succ]
      refine Mx.m_pure (.bool true) (Mx.wanted_met 12 138 true rfl HD12.out rfl) (fun w' hw' => ?_) ?_
      · go_simp
      simp only [Act.put, List.setIfInBounds_toArray, List.set_cons_zero, List.set_cons_succ]
      refine Mx.m_pure (.bool true) (Mx.wanted_none rfl) (fun w' hw' => ?_) ?_
      · go_simp
      simp only [Act.put, List.setIfInBounds_toArray, List.set_cons_zero, List.set_cons_succ]
      refine Mx.m_pure (.bool true) (Mx.wanted_none rfl) (fun w' hw' => ?_) ?_
      · go_simp
      simp only [Act.put, List.setIfInBounds_toArray, List.set_cons_zero, List.set_cons_succ]
      refine Mx.m_call 13 #[] (Mx.wanted_met 19 145 true rfl HD19.out rfl) ?_ ?_
      · go_simp
      refine (wakes10_any _).mono ?_
      rintro e8 w8 ⟨rfl, hb8⟩
      have HB8 := hidC (HC0.out.trans (hb8.mono HC0.out.size))
      refine ⟨_, rfl, HB8.out, ?_⟩
      clear hb8
      simp only [Act.put, List.setIfInBounds_toArray, List.set_cons_zero, List.set_cons_succ]
      refine Mx.m_pure (.bool true) (Mx.wanted_none rfl) (fun w' hw' => ?_) ?_
      · go_simp
      simp only [Act.put, List.setIfInBounds_toArray, List.set_cons_zero, List.set_cons_succ]
      refine Mx.m_pure (.bool true) (Mx.wanted_none rfl) (fun w' hw' => ?_) ?_
      · go_simp
      simp only [Act.put, List.setIfInBounds_toArray, List.set_cons_zero, List.set_cons_succ]
      refine Mx.m_nil ?_
      intro _
      go_wp2_with fail
      go_ret
      exact ⟨rfl, HBB.out.trans (HB8.out.mono HBB.out.size)⟩

end Go.Proofs.Ytngjlkdpplmpaaa.Ca
namespace Go.Proofs.Ytngjlkdpplmpaaa.Ca
open Go.RowKit Wd Cn Vl
set_option linter.unusedVariables false

set_option maxHeartbeats 4000000 in
set_option maxRecDepth 100000 in
theorem choices3 (day when pick : Int) (w : World) (a1 : -9223372036854775808 ≤ day) (a2 : day ≤ 9223372036854775807) (b1 : -9223372036854775808 ≤ when) (b2 : when ≤ 9223372036854775807) (c1 : -9223372036854775808 ≤ pick) (c2 : pick ≤ 9223372036854775807) :
    Calls Try.prog 3 #[.int .i64 day, .int .i64 when, .int .i64 pick, .bool true, .bool true] w fun e w' => e = .returned (.bool true) ∧ Below w.heap.size w w' := by
  have HWA := hidC (fun w : World => within_any day 50 w (by omega) (by omega) a1 a2)
  have HWB := hidC (fun w : World => within_any when 100 w (by omega) (by omega) b1 b2)
  have HWC := hidC (fun w : World => within_any pick 2 w (by omega) (by omega) c1 c2)
  obtain ⟨d, hd⟩ : ∃ d, day % 50 = d := ⟨_, rfl⟩
  obtain ⟨e, he⟩ : ∃ e, when % 100 = e := ⟨_, rfl⟩
  obtain ⟨q, hq⟩ : ∃ q, pick % 2 = q := ⟨_, rfl⟩
  have hd1 : 0 ≤ d := by omega
  have hd2 : d < 50 := by omega
  have he1 : 0 ≤ e := by omega
  have he2 : e < 100 := by omega
  have HQ : Hid (q = 0 ∨ q = 1) := by unfold Hid; omega
  rw [hd] at HWA
  rw [he] at HWB
  rw [hq] at HWC
  clear hd he hq a1 a2 b1 b2 c1 c2
  have HE1 : Hid (chE ⟨[], []⟩ ⟨#[117]⟩ ⟨#[97]⟩ q e = 0 ∧ chN ⟨[], []⟩ ⟨#[117]⟩ ⟨#[97]⟩ q e = ch1 q e) := step1 q e HQ.out he1 (by omega)
  have HE2 : Hid (chE (ch1 q e) ⟨#[116]⟩ ⟨#[97]⟩ q e = 0 ∧ chN (ch1 q e) ⟨#[116]⟩ ⟨#[97]⟩ q e = ch2 q e) := step2 q e HQ.out he1 (by omega)
  have HV : Hid (C.val (.give (.scale (.const (-2)) chC)) = .iface 34 (.agg #[.iface 30 (.agg #[.iface 26 (.agg #[.int .i64 (-2)]), .iface 32 (.agg #[.string ⟨#[97]⟩, .iface 24 (.agg #[.string ⟨#[117, 115, 100]⟩]), .iface 30 (.agg #[.iface 26 (.agg #[.int .i64 3]), .iface 24 (.agg #[.string ⟨#[101, 117, 114]⟩])])])])])) := rfl
  have HC0 := hidC (fun (w : World) (p f r : Nat) (hk : KIn w p f r ⟨[], []⟩) => cash_at (.give (.scale (.const (-2)) chC)) chIs3.ok chIs3.wt w p f r ⟨[], []⟩ cT (env_new hk _ (by decide)) d ⟨by omega, by omega⟩ _ (of_open chIs3 ⟨[], []⟩ d hd1 (by omega) ch0_none 0 (by rfl)))
  have HC1 := hidC (fun (w : World) (p f r : Nat) (hk : KIn w p f r (ch1 q e)) => cash_at (.give (.scale (.const (-2)) chC)) chIs3.ok chIs3.wt w p f r (ch1 q e) cT ⟨hk, vals1 q e, chs1 q e HQ.out he1 (by omega), by decide⟩ d ⟨by omega, by omega⟩ _ (of_open chIs3 (ch1 q e) d hd1 (by omega) (ch1_none q e) 0 (by rfl)))
  have HC2 := hidC (fun (w : World) (p f r : Nat) (hk : KIn w p f r (ch2 q e)) (x : Ck) => cash_at (.give (.scale (.const (-2)) chC)) chIs3.ok chIs3.wt w p f r (ch2 q e) cT ⟨hk, vals2 q e, chs2 q e HQ.out he1 (by omega), by decide⟩ d ⟨by omega, by omega⟩ x)
  rw [HV.out] at HC0 HC1 HC2
  unfold cT at HC0 HC1
  unfold cA at HC0 HC1
  have HCH2 : Hid (∀ (w : World) (p f r : Nat), KIn w p f r (ch2 q e) → ∀ x, ofK (ch2 q e) cT (.give (.scale (.const (-2)) chC)) d = x → Calls Try.prog 11 #[.string ⟨#[116]⟩, .iface 34 (.agg #[.iface 30 (.agg #[.iface 26 (.agg #[.int .i64 (-2)]), .iface 32 (.agg #[.string ⟨#[97]⟩, .iface 24 (.agg #[.string ⟨#[117, 115, 100]⟩]), .iface 30 (.agg #[.iface 26 (.agg #[.int .i64 3]), .iface 24 (.agg #[.string ⟨#[101, 117, 114]⟩])])])])]), .int .i64 d, .pointer (some ⟨p, 0, none⟩)] w (OfIn w x)) := HC2.out
  clear HC2
  go_enter Try.func3, Try.ntmps3
  go_wp2_with fail
  refine calls_same (HWA.out _) ?_
  go_wp2_with fail
  refine calls_same (HWB.out _) ?_
  go_wp2_with fail
  refine calls_same (HWC.out _) ?_
  go_wp2_with fail
  refine (new_in' w).mono ?_
  rintro e1 w1 ⟨b, f, c, rfl, hi⟩
  have HI : Hid (In w w1 b f c ⟨[], []⟩) := hi
  clear hi
  go_wp2_with fail
  refine (HC0.out w1 b f c HI.out.kin).mono ?_
  rintro e2 w2 ⟨ao, cap, bo, cap2, rfl, h1, h2, hb⟩
  have HI2 := hidC (HI.out.step hb)
  obtain ⟨g, rfl, hg, d0, d1, d2, d3, d4⟩ := h2 0 _ rfl
  simp only at d0 d1 d2 d3 d4
  clear h1 h2 hb HC0
  simp only [List.length_cons, List.length_nil]
  go_wp2_with fail
  refine (ch_in HI2.out ⟨#[117]⟩ ⟨#[97]⟩ q e ⟨by decide, by decide⟩ 0 _ HE1.out.1 HE1.out.2).mono ?_
  rintro e3 w3 ⟨rfl, hi⟩
  have HI3 := hidC hi
  clear hi d0 d1 d2 d3 d4 HE1 HI2
  go_wp2_with fail
  refine (HC1.out w3 b f c HI3.out.kin).mono ?_
  rintro e4 w4 ⟨ao4, cap4, bo4, cap5, rfl, h1, h2, hb⟩
  have HI4 := hidC (HI3.out.step hb)
  clear h1 h2 hb HC1
  simp only [List.length_nil]
  go_wp2_with fail
  refine (ch_in HI4.out ⟨#[116]⟩ ⟨#[97]⟩ q e ⟨by decide, by decide⟩ 0 _ HE2.out.1 HE2.out.2).mono ?_
  rintro e5 w5 ⟨rfl, hi⟩
  have HI5 := hidC hi
  clear hi HE2 HI3 HI4
  obtain ⟨m, hm⟩ : ∃ m, Max.max d e = m := ⟨_, rfl⟩
  have HOR : Hid ((d < e ∧ m = e) ∨ (e ≤ d ∧ m = d)) := by unfold Hid; omega
  have HM := hidC hm
  clear hm
  rcases HQ.out with rfl | rfl
  · have HOF := hidC (HCH2.out w5 b f c HI5.out.kin _ (of_left chIs3 (ch2 0 e) d e hd1 (by omega) (ch2_some 0 e) m HM.out))
    go_wp2_with fail
    refine HOF.out.mono ?_
    rintro e6 w6 ⟨ao6, cap6, bo6, cap7, rfl, h1, h2, hb⟩
    have HI6 := hidC (HI5.out.step hb)
    obtain ⟨g6, rfl, hg6, f0, f1, f2⟩ := h1 0 _ rfl
    have f1' : w6.cell? ⟨g6, 1, none⟩ = some (.string ⟨#[117, 115, 100]⟩) := f1
    have f2' : w6.cell? ⟨g6, 2, none⟩ = some (.int .i64 2) := f2
    simp only [Nat.zero_mul] at f0
    clear h1 h2 hb f1 f2 HOF
    simp only [List.length_cons, List.length_nil]
    rcases HOR.out with ⟨ho, rfl⟩ | ⟨ho, rfl⟩
    · go_wp2_with fail
      have HA1 := hidC (below_alloc (Below.refl w6.heap.size w6) (.cells #[.int .i64 m, .string ⟨#[117, 115, 100]⟩, .int .i64 2, .int .i64 m, .string ⟨#[101, 117, 114]⟩, .int .i64 6] 46))
      have HA2 := hidC (below_alloc HA1.out (.cells #[.int .i64 m, .string ⟨#[117, 115, 100]⟩, .int .i64 2] 46))
      have HX := hidC (heap_alloc_new (w6.alloc (.cells #[.int .i64 m, .string ⟨#[117, 115, 100]⟩, .int .i64 2, .int .i64 m, .string ⟨#[101, 117, 114]⟩, .int .i64 6] 46)) (.cells #[.int .i64 m, .string ⟨#[117, 115, 100]⟩, .int .i64 2] 46))
      have f0b := (HA2.out.cell (p := ⟨g6, 0, none⟩) hg6).trans f0
      have f1b := (HA2.out.cell (p := ⟨g6, 1, none⟩) hg6).trans f1'
      have f2b := (HA2.out.cell (p := ⟨g6, 2, none⟩) hg6).trans f2'
      have HBB := hidC (HI6.out.below.trans (HA2.out.mono HI6.out.below.size))
      have hg7 : g6 < ((w6.alloc (.cells #[.int .i64 m, .string ⟨#[117, 115, 100]⟩, .int .i64 2, .int .i64 m, .string ⟨#[101, 117, 114]⟩, .int .i64 6] 46)).alloc (.cells #[.int .i64 m, .string ⟨#[117, 115, 100]⟩, .int .i64 2] 46)).heap.size := Nat.lt_of_lt_of_le hg6 HA2.out.size
      obtain ⟨X, hX⟩ : ∃ X, (w6.alloc (.cells #[.int .i64 m, .string ⟨#[117, 115, 100]⟩, .int .i64 2, .int .i64 m, .string ⟨#[101, 117, 114]⟩, .int .i64 6] 46)).heap.size = X := ⟨_, rfl⟩
      generalize (w6.alloc (.cells #[.int .i64 m, .string ⟨#[117, 115, 100]⟩, .int .i64 2, .int .i64 m, .string ⟨#[101, 117, 114]⟩, .int .i64 6] 46)).alloc (.cells #[.int .i64 m, .string ⟨#[117, 115, 100]⟩, .int .i64 2] 46) = V at *
      rw [hX] at HX
      simp only [size_alloc] at hX ⊢
      have HFC : Hid (∀ w', Below V.heap.size V w' → w'.cell? ⟨g6, 0, none⟩ = some (.int .i64 m) ∧ w'.cell? ⟨g6, 1, none⟩ = some (.string ⟨#[117, 115, 100]⟩) ∧ w'.cell? ⟨g6, 2, none⟩ = some (.int .i64 2) ∧ w'.cell? ⟨w6.heap.size + 1, 0, none⟩ = some (.int .i64 m) ∧ w'.cell? ⟨w6.heap.size + 1, 1, none⟩ = some (.string ⟨#[117, 115, 100]⟩) ∧ w'.cell? ⟨w6.heap.size + 1, 2, none⟩ = some (.int .i64 2)) := fun w' hw' => by
        have hc := fun o => hw'.cell (p := ⟨g6, o, none⟩) hg7
        have hx := (hw'.block _ (Array.getElem?_eq_some_iff.1 HX.out).1).trans HX.out
        rw [← hX] at hx
        exact ⟨(hc _).trans f0b, (hc _).trans f1b, (hc _).trans f2b, cell_of_row _ _ 0 _ _ _ hx, cell_of_row _ _ 1 _ _ _ hx, cell_of_row _ _ 2 _ _ _ hx⟩
      have HC0 := hidC (below_drew (Below.refl V.heap.size V))
      clear f0b f1b f2b f0 f1' f2' hX HX HA1 HA2
      refine Mx.wp_region_mix (fun w' => Below V.heap.size V w') [(0, false), (1, false), (2, false), (3, false), (4, false), (5, false), (6, false), (7, false), (8, false), (9, false), (10, false), (11, false), (12, false), (13, false), (14, false), (15, false), (16, false), (17, false), (18, false), (19, false), (20, true), (21, false), (22, false)] (by kernel_rfl) (by kernel_rfl) HC0.out ?_ (by kernel_rfl)
      simp only [List.map_cons, List.map_nil, List.getD_cons_zero, List.getD_cons_succ]
      generalize hops : (#[_, _, _, _, _, _, _, _, _, _, _, _, _, _, _, _, _, _, _, _, _, _, _] : Array Oper) = ops
      have HD2 : Hid ((ops[2]?).bind (·.dst) = some 128) := by rw [← hops]; exact rfl
      have HD7 : Hid ((ops[7]?).bind (·.dst) = some 133) := by rw [← hops]; exact rfl
      have HD12 : Hid ((ops[12]?).bind (·.dst) = some 138) := by rw [← hops]; exact rfl
      have HD19 : Hid ((ops[19]?).bind (·.dst) = some 145) := by rw [← hops]; exact rfl
      clear hops
      refine Mx.m_pure (.int .i64 0) (Mx.wanted_none rfl) (fun w' hw' => ?_) ?_
      · go_simp
      simp only [Act.put, List.setIfInBounds_toArray, List.set_cons_zero, List.set_cons_succ]
      refine Mx.m_pure (.bool true) (Mx.wanted_none rfl) (fun w' hw' => ?_) ?_
      · go_simp
      simp only [Act.put, List.setIfInBounds_toArray, List.set_cons_zero, List.set_cons_succ]
      refine Mx.m_pure (.bool true) (Mx.wanted_none rfl) (fun w' hw' => ?_) ?_
      · go_simp
      simp only [Act.put, List.setIfInBounds_toArray, List.set_cons_zero, List.set_cons_succ]
      refine Mx.m_pure (.slice bo6 0 cap7) (Mx.wanted_met 2 128 true rfl HD2.out rfl) (fun w' hw' => ?_) ?_
      · go_simp
      simp only [Act.put, List.setIfInBounds_toArray, List.set_cons_zero, List.set_cons_succ]
      refine Mx.m_pure (.int .i64 0) (Mx.wanted_met 2 128 true rfl HD2.out rfl) (fun w' hw' => ?_) ?_
      · go_simp
      simp only [Act.put, List.setIfInBounds_toArray, List.set_cons_zero, List.set_cons_succ]
      refine Mx.m_pure (.bool true) (Mx.wanted_met 2 128 true rfl HD2.out rfl) (fun w' hw' => ?_) ?_
      · go_simp
      simp only [Act.put, List.setIfInBounds_toArray, List.set_cons_zero, List.set_cons_succ]
      refine Mx.m_pure (.bool true) (Mx.wanted_none rfl) (fun w' hw' => ?_) ?_
      · go_simp
      simp only [Act.put, List.setIfInBounds_toArray, List.set_cons_zero, List.set_cons_succ]
      refine Mx.m_pure (.bool true) (Mx.wanted_none rfl) (fun w' hw' => ?_) ?_
      · go_simp
      simp only [Act.put, List.setIfInBounds_toArray, List.set_cons_zero, List.set_cons_succ]
      refine Mx.m_pure (.slice (some ⟨g6, 0, none⟩) 1 cap6) (Mx.wanted_met 7 133 true rfl HD7.out rfl) (fun w' hw' => ?_) ?_
      · go_simp
      simp only [Act.put, List.setIfInBounds_toArray, List.set_cons_zero, List.set_cons_succ]
      refine Mx.m_pure (.int .i64 1) (Mx.wanted_met 7 133 true rfl HD7.out rfl) (fun w' hw' => ?_) ?_
      · go_simp
      simp only [Act.put, List.setIfInBounds_toArray, List.set_cons_zero, List.set_cons_succ]
      refine Mx.m_pure (.bool true) (Mx.wanted_met 7 133 true rfl HD7.out rfl) (fun w' hw' => ?_) ?_
      · go_simp
      simp only [Act.put, List.setIfInBounds_toArray, List.set_cons_zero, List.set_cons_succ]
      refine Mx.m_pure (.bool true) (Mx.wanted_none rfl) (fun w' hw' => ?_) ?_
      · go_simp
      simp only [Act.put, List.setIfInBounds_toArray, List.set_cons_zero, List.set_cons_succ]
      refine Mx.m_pure (.bool true) (Mx.wanted_none rfl) (fun w' hw' => ?_) ?_
      · go_simp
      simp only [Act.put, List.setIfInBounds_toArray, List.set_cons_zero, List.set_cons_succ]
      refine Mx.m_pure (.slice (some ⟨g6, 0, none⟩) 1 cap6) (Mx.wanted_met 12 138 true rfl HD12.out rfl) (fun w' hw' => ?_) ?_
      · go_simp
      simp only [Act.put, List.setIfInBounds_toArray, List.set_cons_zero, List.set_cons_succ]
      refine Mx.m_pure (.pointer (some ⟨g6, 0, none⟩)) (Mx.wanted_met 12 138 true rfl HD12.out rfl) (fun w' hw' => ?_) ?_
      · go_simp
      simp only [Act.put, List.setIfInBounds_toArray, List.set_cons_zero, List.set_cons_succ]
      refine Mx.m_pure (.agg #[.int .i64 m, .string ⟨#[117, 115, 100]⟩, .int .i64 2]) (Mx.wanted_met 12 138 true rfl HD12.out rfl) (fun w' hw' => ?_) ?_
      · obtain ⟨q0, q1, q2, q3, q4, q5⟩ := HFC.out w' hw'
        go_simp
      simp only [Act.put, List.setIfInBounds_toArray, List.set_cons_zero, List.set_cons_succ]
      refine Mx.m_pure (.agg #[.int .i64 m, .string ⟨#[117, 115, 100]⟩, .int .i64 2]) (Mx.wanted_met 12 138 true rfl HD12.out rfl) (fun w' hw' => ?_) ?_
      · obtain ⟨q0, q1, q2, q3, q4, q5⟩ := HFC.out w' hw'
        go_simp
      simp only [Act.put, List.setIfInBounds_toArray, List.set_cons_zero, List.set_cons_succ]
      refine Mx.m_pure (.bool true) (Mx.wanted_met 12 138 true rfl HD12.out rfl) (fun w' hw' => ?_) ?_
      · go_simp
      simp only [Act.put, List.setIfInBounds_toArray, List.set_cons_zero, List.set_cons_succ]
      refine Mx.m_pure (.bool true) (Mx.wanted_none rfl) (fun w' hw' => ?_) ?_
      · go_simp
      simp only [Act.put, List.setIfInBounds_toArray, List.set_cons_zero, List.set_cons_succ]
      refine Mx.m_pure (.bool true) (Mx.wanted_none rfl) (fun w' hw' => ?_) ?_
      · go_simp
      simp only [Act.put, List.setIfInBounds_toArray, List.set_cons_zero, List.set_cons_succ]
      refine Mx.m_call 13 #[] (Mx.wanted_met 19 145 true rfl HD19.out rfl) ?_ ?_
      · go_simp
      refine (wakes10_any _).mono ?_
      rintro e8 w8 ⟨rfl, hb8⟩
      have HB8 := hidC (HC0.out.trans (hb8.mono HC0.out.size))
      refine ⟨_, rfl, HB8.out, ?_⟩
      clear hb8
      simp only [Act.put, List.setIfInBounds_toArray, List.set_cons_zero, List.set_cons_succ]
      refine Mx.m_pure (.bool true) (Mx.wanted_none rfl) (fun w' hw' => ?_) ?_
      · go_simp
      simp only [Act.put, List.setIfInBounds_toArray, List.set_cons_zero, List.set_cons_succ]
      refine Mx.m_pure (.bool true) (Mx.wanted_none rfl) (fun w' hw' => ?_) ?_
      · go_simp
      simp only [Act.put, List.setIfInBounds_toArray, List.set_cons_zero, List.set_cons_succ]
      refine Mx.m_nil ?_
      intro _
      go_wp2_with fail
      go_ret
      exact ⟨rfl, HBB.out.trans (HB8.out.mono HBB.out.size)⟩
    · go_wp2_with fail
      have HA1 := hidC (below_alloc (Below.refl w6.heap.size w6) (.cells #[.int .i64 m, .string ⟨#[117, 115, 100]⟩, .int .i64 2, .int .i64 m, .string ⟨#[101, 117, 114]⟩, .int .i64 6] 46))
      have HA2 := hidC (below_alloc HA1.out (.cells #[.int .i64 m, .string ⟨#[117, 115, 100]⟩, .int .i64 2] 46))
      have HX := hidC (heap_alloc_new (w6.alloc (.cells #[.int .i64 m, .string ⟨#[117, 115, 100]⟩, .int .i64 2, .int .i64 m, .string ⟨#[101, 117, 114]⟩, .int .i64 6] 46)) (.cells #[.int .i64 m, .string ⟨#[117, 115, 100]⟩, .int .i64 2] 46))
      have f0b := (HA2.out.cell (p := ⟨g6, 0, none⟩) hg6).trans f0
      have f1b := (HA2.out.cell (p := ⟨g6, 1, none⟩) hg6).trans f1'
      have f2b := (HA2.out.cell (p := ⟨g6, 2, none⟩) hg6).trans f2'
      have HBB := hidC (HI6.out.below.trans (HA2.out.mono HI6.out.below.size))
      have hg7 : g6 < ((w6.alloc (.cells #[.int .i64 m, .string ⟨#[117, 115, 100]⟩, .int .i64 2, .int .i64 m, .string ⟨#[101, 117, 114]⟩, .int .i64 6] 46)).alloc (.cells #[.int .i64 m, .string ⟨#[117, 115, 100]⟩, .int .i64 2] 46)).heap.size := Nat.lt_of_lt_of_le hg6 HA2.out.size
      obtain ⟨X, hX⟩ : ∃ X, (w6.alloc (.cells #[.int .i64 m, .string ⟨#[117, 115, 100]⟩, .int .i64 2, .int .i64 m, .string ⟨#[101, 117, 114]⟩, .int .i64 6] 46)).heap.size = X := ⟨_, rfl⟩
      generalize (w6.alloc (.cells #[.int .i64 m, .string ⟨#[117, 115, 100]⟩, .int .i64 2, .int .i64 m, .string ⟨#[101, 117, 114]⟩, .int .i64 6] 46)).alloc (.cells #[.int .i64 m, .string ⟨#[117, 115, 100]⟩, .int .i64 2] 46) = V at *
      rw [hX] at HX
      simp only [size_alloc] at hX ⊢
      have HFC : Hid (∀ w', Below V.heap.size V w' → w'.cell? ⟨g6, 0, none⟩ = some (.int .i64 m) ∧ w'.cell? ⟨g6, 1, none⟩ = some (.string ⟨#[117, 115, 100]⟩) ∧ w'.cell? ⟨g6, 2, none⟩ = some (.int .i64 2) ∧ w'.cell? ⟨w6.heap.size + 1, 0, none⟩ = some (.int .i64 m) ∧ w'.cell? ⟨w6.heap.size + 1, 1, none⟩ = some (.string ⟨#[117, 115, 100]⟩) ∧ w'.cell? ⟨w6.heap.size + 1, 2, none⟩ = some (.int .i64 2)) := fun w' hw' => by
        have hc := fun o => hw'.cell (p := ⟨g6, o, none⟩) hg7
        have hx := (hw'.block _ (Array.getElem?_eq_some_iff.1 HX.out).1).trans HX.out
        rw [← hX] at hx
        exact ⟨(hc _).trans f0b, (hc _).trans f1b, (hc _).trans f2b, cell_of_row _ _ 0 _ _ _ hx, cell_of_row _ _ 1 _ _ _ hx, cell_of_row _ _ 2 _ _ _ hx⟩
      have HC0 := hidC (below_drew (Below.refl V.heap.size V))
      clear f0b f1b f2b f0 f1' f2' hX HX HA1 HA2
      refine Mx.wp_region_mix (fun w' => Below V.heap.size V w') [(0, false), (1, false), (2, false), (3, false), (4, false), (5, false), (6, false), (7, false), (8, false), (9, false), (10, false), (11, false), (12, false), (13, false), (14, false), (15, false), (16, false), (17, false), (18, false), (19, false), (20, true), (21, false), (22, false)] (by kernel_rfl) (by kernel_rfl) HC0.out ?_ (by kernel_rfl)
      simp only [List.map_cons, List.map_nil, List.getD_cons_zero, List.getD_cons_succ]
      generalize hops : (#[_, _, _, _, _, _, _, _, _, _, _, _, _, _, _, _, _, _, _, _, _, _, _] : Array Oper) = ops
      have HD2 : Hid ((ops[2]?).bind (·.dst) = some 128) := by rw [← hops]; exact rfl
      have HD7 : Hid ((ops[7]?).bind (·.dst) = some 133) := by rw [← hops]; exact rfl
      have HD12 : Hid ((ops[12]?).bind (·.dst) = some 138) := by rw [← hops]; exact rfl
      have HD19 : Hid ((ops[19]?).bind (·.dst) = some 145) := by rw [← hops]; exact rfl
      clear hops
      refine Mx.m_pure (.int .i64 0) (Mx.wanted_none rfl) (fun w' hw' => ?_) ?_
      · go_simp
      simp only [Act.put, List.setIfInBounds_toArray, List.set_cons_zero, List.set_cons_succ]
      refine Mx.m_pure (.bool true) (Mx.wanted_none rfl) (fun w' hw' => ?_) ?_
      · go_simp
      simp only [Act.put, List.setIfInBounds_toArray, List.set_cons_zero, List.set_cons_succ]
      refine Mx.m_pure (.bool true) (Mx.wanted_none rfl) (fun w' hw' => ?_) ?_
      · go_simp
      simp only [Act.put, List.setIfInBounds_toArray, List.set_cons_zero, List.set_cons_succ]
      refine Mx.m_pure (.slice bo6 0 cap7) (Mx.wanted_met 2 128 true rfl HD2.out rfl) (fun w' hw' => ?_) ?_
      · go_simp
      simp only [Act.put, List.setIfInBounds_toArray, List.set_cons_zero, List.set_cons_succ]
      refine Mx.m_pure (.int .i64 0) (Mx.wanted_met 2 128 true rfl HD2.out rfl) (fun w' hw' => ?_) ?_
      · go_simp
      simp only [Act.put, List.setIfInBounds_toArray, List.set_cons_zero, List.set_cons_succ]
      refine Mx.m_pure (.bool true) (Mx.wanted_met 2 128 true rfl HD2.out rfl) (fun w' hw' => ?_) ?_
      · go_simp
      simp only [Act.put, List.setIfInBounds_toArray, List.set_cons_zero, List.set_cons_succ]
      refine Mx.m_pure (.bool true) (Mx.wanted_none rfl) (fun w' hw' => ?_) ?_
      · go_simp
      simp only [Act.put, List.setIfInBounds_toArray, List.set_cons_zero, List.set_cons_succ]
      refine Mx.m_pure (.bool true) (Mx.wanted_none rfl) (fun w' hw' => ?_) ?_
      · go_simp
      simp only [Act.put, List.setIfInBounds_toArray, List.set_cons_zero, List.set_cons_succ]
      refine Mx.m_pure (.slice (some ⟨g6, 0, none⟩) 1 cap6) (Mx.wanted_met 7 133 true rfl HD7.out rfl) (fun w' hw' => ?_) ?_
      · go_simp
      simp only [Act.put, List.setIfInBounds_toArray, List.set_cons_zero, List.set_cons_succ]
      refine Mx.m_pure (.int .i64 1) (Mx.wanted_met 7 133 true rfl HD7.out rfl) (fun w' hw' => ?_) ?_
      · go_simp
      simp only [Act.put, List.setIfInBounds_toArray, List.set_cons_zero, List.set_cons_succ]
      refine Mx.m_pure (.bool true) (Mx.wanted_met 7 133 true rfl HD7.out rfl) (fun w' hw' => ?_) ?_
      · go_simp
      simp only [Act.put, List.setIfInBounds_toArray, List.set_cons_zero, List.set_cons_succ]
      refine Mx.m_pure (.bool true) (Mx.wanted_none rfl) (fun w' hw' => ?_) ?_
      · go_simp
      simp only [Act.put, List.setIfInBounds_toArray, List.set_cons_zero, List.set_cons_succ]
      refine Mx.m_pure (.bool true) (Mx.wanted_none rfl) (fun w' hw' => ?_) ?_
      · go_simp
      simp only [Act.put, List.setIfInBounds_toArray, List.set_cons_zero, List.set_cons_succ]
      refine Mx.m_pure (.slice (some ⟨g6, 0, none⟩) 1 cap6) (Mx.wanted_met 12 138 true rfl HD12.out rfl) (fun w' hw' => ?_) ?_
      · go_simp
      simp only [Act.put, List.setIfInBounds_toArray, List.set_cons_zero, List.set_cons_succ]
      refine Mx.m_pure (.pointer (some ⟨g6, 0, none⟩)) (Mx.wanted_met 12 138 true rfl HD12.out rfl) (fun w' hw' => ?_) ?_
      · go_simp
      simp only [Act.put, List.setIfInBounds_toArray, List.set_cons_zero, List.set_cons_succ]
      refine Mx.m_pure (.agg #[.int .i64 m, .string ⟨#[117, 115, 100]⟩, .int .i64 2]) (Mx.wanted_met 12 138 true rfl HD12.out rfl) (fun w' hw' => ?_) ?_
      · obtain ⟨q0, q1, q2, q3, q4, q5⟩ := HFC.out w' hw'
        go_simp
      simp only [Act.put, List.setIfInBounds_toArray, List.set_cons_zero, List.set_cons_succ]
      refine Mx.m_pure (.agg #[.int .i64 m, .string ⟨#[117, 115, 100]⟩, .int .i64 2]) (Mx.wanted_met 12 138 true rfl HD12.out rfl) (fun w' hw' => ?_) ?_
      · obtain ⟨q0, q1, q2, q3, q4, q5⟩ := HFC.out w' hw'
        go_simp
      simp only [Act.put, List.setIfInBounds_toArray, List.set_cons_zero, List.set_cons_succ]
      refine Mx.m_pure (.bool true) (Mx.wanted_met 12 138 true rfl HD12.out rfl) (fun w' hw' => ?_) ?_
      · go_simp
      simp only [Act.put, List.setIfInBounds_toArray, List.set_cons_zero, List.set_cons_succ]
      refine Mx.m_pure (.bool true) (Mx.wanted_none rfl) (fun w' hw' => ?_) ?_
      · go_simp
      simp only [Act.put, List.setIfInBounds_toArray, List.set_cons_zero, List.set_cons_succ]
      refine Mx.m_pure (.bool true) (Mx.wanted_none rfl) (fun w' hw' => ?_) ?_
      · go_simp
      simp only [Act.put, List.setIfInBounds_toArray, List.set_cons_zero, List.set_cons_succ]
      refine Mx.m_call 13 #[] (Mx.wanted_met 19 145 true rfl HD19.out rfl) ?_ ?_
      · go_simp
      refine (wakes10_any _).mono ?_
      rintro e8 w8 ⟨rfl, hb8⟩
      have HB8 := hidC (HC0.out.trans (hb8.mono HC0.out.size))
      refine ⟨_, rfl, HB8.out, ?_⟩
      clear hb8
      simp only [Act.put, List.setIfInBounds_toArray, List.set_cons_zero, List.set_cons_succ]
      refine Mx.m_pure (.bool true) (Mx.wanted_none rfl) (fun w' hw' => ?_) ?_
      · go_simp
      simp only [Act.put, List.setIfInBounds_toArray, List.set_cons_zero, List.set_cons_succ]
      refine Mx.m_pure (.bool true) (Mx.wanted_none rfl) (fun w' hw' => ?_) ?_
      · go_simp
      simp only [Act.put, List.setIfInBounds_toArray, List.set_cons_zero, List.set_cons_succ]
      refine Mx.m_nil ?_
      intro _
      go_wp2_with fail
      go_ret
      exact ⟨rfl, HBB.out.trans (HB8.out.mono HBB.out.size)⟩
  · have HOF := hidC (HCH2.out w5 b f c HI5.out.kin _ (of_right chIs3 (ch2 1 e) d e hd1 (by omega) (ch2_some 1 e) m HM.out))
    go_wp2_with fail
    refine HOF.out.mono ?_
    rintro e6 w6 ⟨ao6, cap6, bo6, cap7, rfl, h1, h2, hb⟩
    have HI6 := hidC (HI5.out.step hb)
    obtain ⟨g6, rfl, hg6, f0, f1, f2⟩ := h1 0 _ rfl
    have f1' : w6.cell? ⟨g6, 1, none⟩ = some (.string ⟨#[101, 117, 114]⟩) := f1
    have f2' : w6.cell? ⟨g6, 2, none⟩ = some (.int .i64 6) := f2
    simp only [Nat.zero_mul] at f0
    clear h1 h2 hb f1 f2 HOF
    simp only [List.length_cons, List.length_nil]
    rcases HOR.out with ⟨ho, rfl⟩ | ⟨ho, rfl⟩
    · go_wp2_with fail
      have HA1 := hidC (below_alloc (Below.refl w6.heap.size w6) (.cells #[.int .i64 m, .string ⟨#[117, 115, 100]⟩, .int .i64 2, .int .i64 m, .string ⟨#[101, 117, 114]⟩, .int .i64 6] 46))
      have HA2 := hidC (below_alloc HA1.out (.cells #[.int .i64 m, .string ⟨#[101, 117, 114]⟩, .int .i64 6] 46))
      have HX := hidC (heap_alloc_new (w6.alloc (.cells #[.int .i64 m, .string ⟨#[117, 115, 100]⟩, .int .i64 2, .int .i64 m, .string ⟨#[101, 117, 114]⟩, .int .i64 6] 46)) (.cells #[.int .i64 m, .string ⟨#[101, 117, 114]⟩, .int .i64 6] 46))
      have f0b := (HA2.out.cell (p := ⟨g6, 0, none⟩) hg6).trans f0
      have f1b := (HA2.out.cell (p := ⟨g6, 1, none⟩) hg6).trans f1'
      have f2b := (HA2.out.cell (p := ⟨g6, 2, none⟩) hg6).trans f2'
      have HBB := hidC (HI6.out.below.trans (HA2.out.mono HI6.out.below.size))
      have hg7 : g6 < ((w6.alloc (.cells #[.int .i64 m, .string ⟨#[117, 115, 100]⟩, .int .i64 2, .int .i64 m, .string ⟨#[101, 117, 114]⟩, .int .i64 6] 46)).alloc (.cells #[.int .i64 m, .string ⟨#[101, 117, 114]⟩, .int .i64 6] 46)).heap.size := Nat.lt_of_lt_of_le hg6 HA2.out.size
      obtain ⟨X, hX⟩ : ∃ X, (w6.alloc (.cells #[.int .i64 m, .string ⟨#[117, 115, 100]⟩, .int .i64 2, .int .i64 m, .string ⟨#[101, 117, 114]⟩, .int .i64 6] 46)).heap.size = X := ⟨_, rfl⟩
      generalize (w6.alloc (.cells #[.int .i64 m, .string ⟨#[117, 115, 100]⟩, .int .i64 2, .int .i64 m, .string ⟨#[101, 117, 114]⟩, .int .i64 6] 46)).alloc (.cells #[.int .i64 m, .string ⟨#[101, 117, 114]⟩, .int .i64 6] 46) = V at *
      rw [hX] at HX
      simp only [size_alloc] at hX ⊢
      have HFC : Hid (∀ w', Below V.heap.size V w' → w'.cell? ⟨g6, 0, none⟩ = some (.int .i64 m) ∧ w'.cell? ⟨g6, 1, none⟩ = some (.string ⟨#[101, 117, 114]⟩) ∧ w'.cell? ⟨g6, 2, none⟩ = some (.int .i64 6) ∧ w'.cell? ⟨w6.heap.size + 1, 0, none⟩ = some (.int .i64 m) ∧ w'.cell? ⟨w6.heap.size + 1, 1, none⟩ = some (.string ⟨#[101, 117, 114]⟩) ∧ w'.cell? ⟨w6.heap.size + 1, 2, none⟩ = some (.int .i64 6)) := fun w' hw' => by
        have hc := fun o => hw'.cell (p := ⟨g6, o, none⟩) hg7
        have hx := (hw'.block _ (Array.getElem?_eq_some_iff.1 HX.out).1).trans HX.out
        rw [← hX] at hx
        exact ⟨(hc _).trans f0b, (hc _).trans f1b, (hc _).trans f2b, cell_of_row _ _ 0 _ _ _ hx, cell_of_row _ _ 1 _ _ _ hx, cell_of_row _ _ 2 _ _ _ hx⟩
      have HC0 := hidC (below_drew (Below.refl V.heap.size V))
      clear f0b f1b f2b f0 f1' f2' hX HX HA1 HA2
      refine Mx.wp_region_mix (fun w' => Below V.heap.size V w') [(0, false), (1, false), (2, false), (3, false), (4, false), (5, false), (6, false), (7, false), (8, false), (9, false), (10, false), (11, false), (12, false), (13, false), (14, false), (15, false), (16, false), (17, false), (18, false), (19, false), (20, true), (21, false), (22, false)] (by kernel_rfl) (by kernel_rfl) HC0.out ?_ (by kernel_rfl)
      simp only [List.map_cons, List.map_nil, List.getD_cons_zero, List.getD_cons_succ]
      generalize hops : (#[_, _, _, _, _, _, _, _, _, _, _, _, _, _, _, _, _, _, _, _, _, _, _] : Array Oper) = ops
      have HD2 : Hid ((ops[2]?).bind (·.dst) = some 128) := by rw [← hops]; exact rfl
      have HD7 : Hid ((ops[7]?).bind (·.dst) = some 133) := by rw [← hops]; exact rfl
      have HD12 : Hid ((ops[12]?).bind (·.dst) = some 138) := by rw [← hops]; exact rfl
      have HD19 : Hid ((ops[19]?).bind (·.dst) = some 145) := by rw [← hops]; exact rfl
      clear hops
      refine Mx.m_pure (.int .i64 0) (Mx.wanted_none rfl) (fun w' hw' => ?_) ?_
      · go_simp
      simp only [Act.put, List.setIfInBounds_toArray, List.set_cons_zero, List.set_cons_succ]
      refine Mx.m_pure (.bool true) (Mx.wanted_none rfl) (fun w' hw' => ?_) ?_
      · go_simp
      simp only [Act.put, List.setIfInBounds_toArray, List.set_cons_zero, List.set_cons_succ]
      refine Mx.m_pure (.bool true) (Mx.wanted_none rfl) (fun w' hw' => ?_) ?_
      · go_simp
      simp only [Act.put, List.setIfInBounds_toArray, List.set_cons_zero, List.set_cons_succ]
      refine Mx.m_pure (.slice bo6 0 cap7) (Mx.wanted_met 2 128 true rfl HD2.out rfl) (fun w' hw' => ?_) ?_
      · go_simp
      simp only [Act.put, List.setIfInBounds_toArray, List.set_cons_zero, List.set_cons_succ]
      refine Mx.m_pure (.int .i64 0) (Mx.wanted_met 2 128 true rfl HD2.out rfl) (fun w' hw' => ?_) ?_
      · go_simp
      simp only [Act.put, List.setIfInBounds_toArray, List.set_cons_zero, List.set_cons_succ]
      refine Mx.m_pure (.bool true) (Mx.wanted_met 2 128 true rfl HD2.out rfl) (fun w' hw' => ?_) ?_
      · go_simp
      simp only [Act.put, List.setIfInBounds_toArray, List.set_cons_zero, List.set_cons_succ]
      refine Mx.m_pure (.bool true) (Mx.wanted_none rfl) (fun w' hw' => ?_) ?_
      · go_simp
      simp only [Act.put, List.setIfInBounds_toArray, List.set_cons_zero, List.set_cons_succ]
      refine Mx.m_pure (.bool true) (Mx.wanted_none rfl) (fun w' hw' => ?_) ?_
      · go_simp
      simp only [Act.put, List.setIfInBounds_toArray, List.set_cons_zero, List.set_cons_succ]
      refine Mx.m_pure (.slice (some ⟨g6, 0, none⟩) 1 cap6) (Mx.wanted_met 7 133 true rfl HD7.out rfl) (fun w' hw' => ?_) ?_
      · go_simp
      simp only [Act.put, List.setIfInBounds_toArray, List.set_cons_zero, List.set_cons_succ]
      refine Mx.m_pure (.int .i64 1) (Mx.wanted_met 7 133 true rfl HD7.out rfl) (fun w' hw' => ?_) ?_
      · go_simp
      simp only [Act.put, List.setIfInBounds_toArray, List.set_cons_zero, List.set_cons_succ]
      refine Mx.m_pure (.bool true) (Mx.wanted_met 7 133 true rfl HD7.out rfl) (fun w' hw' => ?_) ?_
      · go_simp
      simp only [Act.put, List.setIfInBounds_toArray, List.set_cons_zero, List.set_cons_succ]
      refine Mx.m_pure (.bool true) (Mx.wanted_none rfl) (fun w' hw' => ?_) ?_
      · go_simp
      simp only [Act.put, List.setIfInBounds_toArray, List.set_cons_zero, List.set_cons_succ]
      refine Mx.m_pure (.bool true) (Mx.wanted_none rfl) (fun w' hw' => ?_) ?_
      · go_simp
      simp only [Act.put, List.setIfInBounds_toArray, List.set_cons_zero, List.set_cons_succ]
      refine Mx.m_pure (.slice (some ⟨g6, 0, none⟩) 1 cap6) (Mx.wanted_met 12 138 true rfl HD12.out rfl) (fun w' hw' => ?_) ?_
      · go_simp
      simp only [Act.put, List.setIfInBounds_toArray, List.set_cons_zero, List.set_cons_succ]
      refine Mx.m_pure (.pointer (some ⟨g6, 0, none⟩)) (Mx.wanted_met 12 138 true rfl HD12.out rfl) (fun w' hw' => ?_) ?_
      · go_simp
      simp only [Act.put, List.setIfInBounds_toArray, List.set_cons_zero, List.set_cons_succ]
      refine Mx.m_pure (.agg #[.int .i64 m, .string ⟨#[101, 117, 114]⟩, .int .i64 6]) (Mx.wanted_met 12 138 true rfl HD12.out rfl) (fun w' hw' => ?_) ?_
      · obtain ⟨q0, q1, q2, q3, q4, q5⟩ := HFC.out w' hw'
        go_simp
      simp only [Act.put, List.setIfInBounds_toArray, List.set_cons_zero, List.set_cons_succ]
      refine Mx.m_pure (.agg #[.int .i64 m, .string ⟨#[101, 117, 114]⟩, .int .i64 6]) (Mx.wanted_met 12 138 true rfl HD12.out rfl) (fun w' hw' => ?_) ?_
      · obtain ⟨q0, q1, q2, q3, q4, q5⟩ := HFC.out w' hw'
        go_simp
      simp only [Act.put, List.setIfInBounds_toArray, List.set_cons_zero, List.set_cons_succ]
      refine Mx.m_pure (.bool true) (Mx.wanted_met 12 138 true rfl HD12.out rfl) (fun w' hw' => ?_) ?_
      · go_simp
      simp only [Act.put, List.setIfInBounds_toArray, List.set_cons_zero, List.set_cons_succ]
      refine Mx.m_pure (.bool true) (Mx.wanted_none rfl) (fun w' hw' => ?_) ?_
      · go_simp
      simp only [Act.put, List.setIfInBounds_toArray, List.set_cons_zero, List.set_cons_succ]
      refine Mx.m_pure (.bool true) (Mx.wanted_none rfl) (fun w' hw' => ?_) ?_
      · go_simp
      simp only [Act.put, List.setIfInBounds_toArray, List.set_cons_zero, List.set_cons_succ]
      refine Mx.m_call 13 #[] (Mx.wanted_met 19 145 true rfl HD19.out rfl) ?_ ?_
      · go_simp
      refine (wakes10_any _).mono ?_
      rintro e8 w8 ⟨rfl, hb8⟩
      have HB8 := hidC (HC0.out.trans (hb8.mono HC0.out.size))
      refine ⟨_, rfl, HB8.out, ?_⟩
      clear hb8
      simp only [Act.put, List.setIfInBounds_toArray, List.set_cons_zero, List.set_cons_succ]
      refine Mx.m_pure (.bool true) (Mx.wanted_none rfl) (fun w' hw' => ?_) ?_
      · go_simp
      simp only [Act.put, List.setIfInBounds_toArray, List.set_cons_zero, List.set_cons_succ]
      refine Mx.m_pure (.bool true) (Mx.wanted_none rfl) (fun w' hw' => ?_) ?_
      · go_simp
      simp only [Act.put, List.setIfInBounds_toArray, List.set_cons_zero, List.set_cons_succ]
      refine Mx.m_nil ?_
      intro _
      go_wp2_with fail
      go_ret
      exact ⟨rfl, HBB.out.trans (HB8.out.mono HBB.out.size)⟩
    · go_wp2_with fail
      have HA1 := hidC (below_alloc (Below.refl w6.heap.size w6) (.cells #[.int .i64 m, .string ⟨#[117, 115, 100]⟩, .int .i64 2, .int .i64 m, .string ⟨#[101, 117, 114]⟩, .int .i64 6] 46))
      have HA2 := hidC (below_alloc HA1.out (.cells #[.int .i64 m, .string ⟨#[101, 117, 114]⟩, .int .i64 6] 46))
      have HX := hidC (heap_alloc_new (w6.alloc (.cells #[.int .i64 m, .string ⟨#[117, 115, 100]⟩, .int .i64 2, .int .i64 m, .string ⟨#[101, 117, 114]⟩, .int .i64 6] 46)) (.cells #[.int .i64 m, .string ⟨#[101, 117, 114]⟩, .int .i64 6] 46))
      have f0b := (HA2.out.cell (p := ⟨g6, 0, none⟩) hg6).trans f0
      have f1b := (HA2.out.cell (p := ⟨g6, 1, none⟩) hg6).trans f1'
      have f2b := (HA2.out.cell (p := ⟨g6, 2, none⟩) hg6).trans f2'
      have HBB := hidC (HI6.out.below.trans (HA2.out.mono HI6.out.below.size))
      have hg7 : g6 < ((w6.alloc (.cells #[.int .i64 m, .string ⟨#[117, 115, 100]⟩, .int .i64 2, .int .i64 m, .string ⟨#[101, 117, 114]⟩, .int .i64 6] 46)).alloc (.cells #[.int .i64 m, .string ⟨#[101, 117, 114]⟩, .int .i64 6] 46)).heap.size := Nat.lt_of_lt_of_le hg6 HA2.out.size
      obtain ⟨X, hX⟩ : ∃ X, (w6.alloc (.cells #[.int .i64 m, .string ⟨#[117, 115, 100]⟩, .int .i64 2, .int .i64 m, .string ⟨#[101, 117, 114]⟩, .int .i64 6] 46)).heap.size = X := ⟨_, rfl⟩
      generalize (w6.alloc (.cells #[.int .i64 m, .string ⟨#[117, 115, 100]⟩, .int .i64 2, .int .i64 m, .string ⟨#[101, 117, 114]⟩, .int .i64 6] 46)).alloc (.cells #[.int .i64 m, .string ⟨#[101, 117, 114]⟩, .int .i64 6] 46) = V at *
      rw [hX] at HX
      simp only [size_alloc] at hX ⊢
      have HFC : Hid (∀ w', Below V.heap.size V w' → w'.cell? ⟨g6, 0, none⟩ = some (.int .i64 m) ∧ w'.cell? ⟨g6, 1, none⟩ = some (.string ⟨#[101, 117, 114]⟩) ∧ w'.cell? ⟨g6, 2, none⟩ = some (.int .i64 6) ∧ w'.cell? ⟨w6.heap.size + 1, 0, none⟩ = some (.int .i64 m) ∧ w'.cell? ⟨w6.heap.size + 1, 1, none⟩ = some (.string ⟨#[101, 117, 114]⟩) ∧ w'.cell? ⟨w6.heap.size + 1, 2, none⟩ = some (.int .i64 6)) := fun w' hw' => by
        have hc := fun o => hw'.cell (p := ⟨g6, o, none⟩) hg7
        have hx := (hw'.block _ (Array.getElem?_eq_some_iff.1 HX.out).1).trans HX.out
        rw [← hX] at hx
        exact ⟨(hc _).trans f0b, (hc _).trans f1b, (hc _).trans f2b, cell_of_row _ _ 0 _ _ _ hx, cell_of_row _ _ 1 _ _ _ hx, cell_of_row _ _ 2 _ _ _ hx⟩
      have HC0 := hidC (below_drew (Below.refl V.heap.size V))
      clear f0b f1b f2b f0 f1' f2' hX HX HA1 HA2
      refine Mx.wp_region_mix (fun w' => Below V.heap.size V w') [(0, false), (1, false), (2, false), (3, false), (4, false), (5, false), (6, false), (7, false), (8, false), (9, false), (10, false), (11, false), (12, false), (13, false), (14, false), (15, false), (16, false), (17, false), (18, false), (19, false), (20, true), (21, false), (22, false)] (by kernel_rfl) (by kernel_rfl) HC0.out ?_ (by kernel_rfl)
      simp only [List.map_cons, List.map_nil, List.getD_cons_zero, List.getD_cons_succ]
      generalize hops : (#[_, _, _, _, _, _, _, _, _, _, _, _, _, _, _, _, _, _, _, _, _, _, _] : Array Oper) = ops
      have HD2 : Hid ((ops[2]?).bind (·.dst) = some 128) := by rw [← hops]; exact rfl
      have HD7 : Hid ((ops[7]?).bind (·.dst) = some 133) := by rw [← hops]; exact rfl
      have HD12 : Hid ((ops[12]?).bind (·.dst) = some 138) := by rw [← hops]; exact rfl
      have HD19 : Hid ((ops[19]?).bind (·.dst) = some 145) := by rw [← hops]; exact rfl
      clear hops
      refine Mx.m_pure (.int .i64 0) (Mx.wanted_none rfl) (fun w' hw' => ?_) ?_
      · go_simp
      simp only [Act.put, List.setIfInBounds_toArray, List.set_cons_zero, List.set_cons_succ]
      refine Mx.m_pure (.bool true) (Mx.wanted_none rfl) (fun w' hw' => ?_) ?_
      · go_simp
      simp only [Act.put, List.setIfInBounds_toArray, List.set_cons_zero, List.set_cons_succ]
      refine Mx.m_pure (.bool true) (Mx.wanted_none rfl) (fun w' hw' => ?_) ?_
      · go_simp
      simp only [Act.put, List.setIfInBounds_toArray, List.set_cons_zero, List.set_cons_succ]
      refine Mx.m_pure (.slice bo6 0 cap7) (Mx.wanted_met 2 128 true rfl HD2.out rfl) (fun w' hw' => ?_) ?_
      · go_simp
      simp only [Act.put, List.setIfInBounds_toArray, List.set_cons_zero, List.set_cons_succ]
      refine Mx.m_pure (.int .i64 0) (Mx.wanted_met 2 128 true rfl HD2.out rfl) (fun w' hw' => ?_) ?_
      · go_simp
      simp only [Act.put, List.setIfInBounds_toArray, List.set_cons_zero, List.set_cons_succ]
      refine Mx.m_pure (.bool true) (Mx.wanted_met 2 128 true rfl HD2.out rfl) (fun w' hw' => ?_) ?_
      · go_simp
      simp only [Act.put, List.setIfInBounds_toArray, List.set_cons_zero, List.set_cons_succ]
      refine Mx.m_pure (.bool true) (Mx.wanted_none rfl) (fun w' hw' => ?_) ?_
      · go_simp
      simp only [Act.put, List.setIfInBounds_toArray, List.set_cons_zero, List.set_cons_succ]
      refine Mx.m_pure (.bool true) (Mx.wanted_none rfl) (fun w' hw' => ?_) ?_
      · go_simp
      simp only [Act.put, List.setIfInBounds_toArray, List.set_cons_zero, List.set_cons_succ]
      refine Mx.m_pure (.slice (some ⟨g6, 0, none⟩) 1 cap6) (Mx.wanted_met 7 133 true rfl HD7.out rfl) (fun w' hw' => ?_) ?_
      · go_simp
      simp only [Act.put, List.setIfInBounds_toArray, List.set_cons_zero, List.set_cons_succ]
      refine Mx.m_pure (.int .i64 1) (Mx.wanted_met 7 133 true rfl HD7.out rfl) (fun w' hw' => ?_) ?_
      · go_simp
      simp only [Act.put, List.setIfInBounds_toArray, List.set_cons_zero, List.set_cons_succ]
      refine Mx.m_pure (.bool true) (Mx.wanted_met 7 133 true rfl HD7.out rfl) (fun w' hw' => ?_) ?_
      · go_simp
      simp only [Act.put, List.setIfInBounds_toArray, List.set_cons_zero, List.set_cons_succ]
      refine Mx.m_pure (.bool true) (Mx.wanted_none rfl) (fun w' hw' => ?_) ?_
      · go_simp
      simp only [Act.put, List.setIfInBounds_toArray, List.set_cons_zero, List.set_cons_succ]
      refine Mx.m_pure (.bool true) (Mx.wanted_none rfl) (fun w' hw' => ?_) ?_
      · go_simp
      simp only [Act.put, List.setIfInBounds_toArray, List.set_cons_zero, List.set_cons_succ]
      refine Mx.m_pure (.slice (some ⟨g6, 0, none⟩) 1 cap6) (Mx.wanted_met 12 138 true rfl HD12.out rfl) (fun w' hw' => ?_) ?_
      · go_simp
      simp only [Act.put, List.setIfInBounds_toArray, List.set_cons_zero, List.set_cons_succ]
      refine Mx.m_pure (.pointer (some ⟨g6, 0, none⟩)) (Mx.wanted_met 12 138 true rfl HD12.out rfl) (fun w' hw' => ?_) ?_
      · go_simp
      simp only [Act.put, List.setIfInBounds_toArray, List.set_cons_zero, List.set_cons_succ]
      refine Mx.m_pure (.agg #[.int .i64 m, .string ⟨#[101, 117, 114]⟩, .int .i64 6]) (Mx.wanted_met 12 138 true rfl HD12.out rfl) (fun w' hw' => ?_) ?_
      · obtain ⟨q0, q1, q2, q3, q4, q5⟩ := HFC.out w' hw'
        go_simp
      simp only [Act.put, List.setIfInBounds_toArray, List.set_cons_zero, List.set_cons_succ]
      refine Mx.m_pure (.agg #[.int .i64 m, .string ⟨#[101, 117, 114]⟩, .int .i64 6]) (Mx.wanted_met 12 138 true rfl HD12.out rfl) (fun w' hw' => ?_) ?_
      · obtain ⟨q0, q1, q2, q3, q4, q5⟩ := HFC.out w' hw'
        go_simp
      simp only [Act.put, List.setIfInBounds_toArray, List.set_cons_zero, List.set_cons_succ]
      refine Mx.m_pure (.bool true) (Mx.wanted_met 12 138 true rfl HD12.out rfl) (fun w' hw' => ?_) ?_
      · go_simp
      simp only [Act.put, List.setIfInBounds_toArray, List.set_cons_zero, List.set_cons_succ]
      refine Mx.m_pure (.bool true) (Mx.wanted_none rfl) (fun w' hw' => ?_) ?_
      · go_simp
      simp only [Act.put, List.setIfInBounds_toArray, List.set_cons_zero, List.set_cons_succ]
      refine Mx.m_pure (.bool true) (Mx.wanted_none rfl) (fun w' hw' => ?_) ?_
      · go_simp
      simp only [Act.put, List.setIfInBounds_toArray, List.set_cons_zero, List.set_cons_succ]
      refine Mx.m_call 13 #[] (Mx.wanted_met 19 145 true rfl HD19.out rfl) ?_ ?_
      · go_simp
      refine (wakes10_any _).mono ?_
      rintro e8 w8 ⟨rfl, hb8⟩
      have HB8 := hidC (HC0.out.trans (hb8.mono HC0.out.size))
      refine ⟨_, rfl, HB8.out, ?_⟩
      clear hb8
      simp only [Act.put, List.setIfInBounds_toArray, List.set_cons_zero, List.set_cons_succ]
      refine Mx.m_pure (.bool true) (Mx.wanted_none rfl) (fun w' hw' => ?_) ?_
      · go_simp
      simp only [Act.put, List.setIfInBounds_toArray, List.set_cons_zero, List.set_cons_succ]
      refine Mx.m_pure (.bool true) (Mx.wanted_none rfl) (fun w' hw' => ?_) ?_
      · go_simp
      simp only [Act.put, List.setIfInBounds_toArray, List.set_cons_zero, List.set_cons_succ]
      refine Mx.m_nil ?_
      intro _
      go_wp2_with fail
      go_ret
      exact ⟨rfl, HBB.out.trans (HB8.out.mono HBB.out.size)⟩

end Go.Proofs.Ytngjlkdpplmpaaa.Ca
namespace Go.Proofs.Ytngjlkdpplmpaaa.Ca
open Go.RowKit Wd Cn Vl
set_option linter.unusedVariables false

theorem choices_walk (day when pick : Int) (give neg : Bool) (w : World) (a1 : -9223372036854775808 ≤ day) (a2 : day ≤ 9223372036854775807) (b1 : -9223372036854775808 ≤ when) (b2 : when ≤ 9223372036854775807) (c1 : -9223372036854775808 ≤ pick) (c2 : pick ≤ 9223372036854775807) :
    Calls Try.prog 3 #[.int .i64 day, .int .i64 when, .int .i64 pick, .bool give, .bool neg] w fun e w' => e = .returned (.bool true) ∧ Below w.heap.size w w' := by
  cases give
  · cases neg
    · exact choices0 day when pick w a1 a2 b1 b2 c1 c2
    · exact choices1 day when pick w a1 a2 b1 b2 c1 c2
  · cases neg
    · exact choices2 day when pick w a1 a2 b1 b2 c1 c2
    · exact choices3 day when pick w a1 a2 b1 b2 c1 c2

end Go.Proofs.Ytngjlkdpplmpaaa.Ca
