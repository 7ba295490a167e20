/- The walk of the statement WriteApart. -/
import Derived.Test.YtagjbbdpenbcoaaDoorWa1
import Derived.Test.YtagjbbdpenbcoaaDoorNumber
namespace Go.Proofs.YtagjbbdpenbcoaaDoor
open Go.RowKit
set_option linter.unusedVariables false

/-- A tree that stands in memory. -/
def trF (t : T) (v : Value) (w : World) : Prop := TIn w 0 t v
theorem trF_stays (t : T) : ∀ u w w', Up w w' → trF t u w → trF t u w' := fun u w w' h ht => TIn.below ht h
theorem sameO_form (o : O) (h : formB o = true) : sameO o o = true := by
  induction o with
  | odd v => cases h
  | _ => simp_all [formB, sameO]
theorem sameC_form (c : C) (h : formC c = true) : sameC c c = true := by
  induction c with
  | odd v => cases h
  | _ => simp_all [formC, sameC, sameO_form]
/-- What of two contracts' texts the statement asks. -/
theorem apartC (a b : C) : (wErrC a ≠ 0) ∨ (wErrC a = 0 ∧ wErrC b ≠ 0) ∨ (wErrC a = 0 ∧ wErrC b = 0 ∧ (wTextC a).toList = (wTextC b).toList ∧ sameC a b = true) ∨ (wErrC a = 0 ∧ wErrC b = 0 ∧ ¬ (wTextC a).toList = (wTextC b).toList ∧ sameC a b = false ∧ ((wTextC a).toList == (wTextC b).toList) = false) := by
  by_cases ha : wErrC a = 0
  · by_cases hb : wErrC b = 0
    · have key : ∀ c : C, wErrC c = 0 → formC c = true ∧ wTextC c = textC c := by
        intro c h
        unfold wErrC at h
        unfold wTextC
        by_cases hc : chkC c = 0
        · rw [if_pos hc] at h ⊢
          by_cases hs : 1000 < (textC c).size
          · rw [if_pos hs] at h; cases h
          · rw [if_neg hs]; exact ⟨(chkC_zero hc).1, rfl⟩
        · rw [if_neg hc] at h; exact absurd h hc
      obtain ⟨fa, ea⟩ := key a ha
      obtain ⟨fb, eb⟩ := key b hb
      cases hs : sameC a b with
      | true => exact .inr (.inr (.inl ⟨ha, hb, by rw [sameC_eq a b hs], rfl⟩))
      | false =>
        suffices hne : ¬ (wTextC a).toList = (wTextC b).toList from .inr (.inr (.inr ⟨ha, hb, hne, rfl, by simpa using hne⟩))
        intro h
        have he := toList_inj h
        rw [ea, eb] at he
        have := textC_inj fa fb he
        subst this
        rw [sameC_form a fa] at hs
        cases hs
    · exact .inr (.inl ⟨ha, hb⟩)
  · exact .inl ha
theorem apartO (a b : O) : (wErr a ≠ 0) ∨ (wErr a = 0 ∧ wErr b ≠ 0) ∨ (wErr a = 0 ∧ wErr b = 0 ∧ (wText a).toList = (wText b).toList ∧ sameO a b = true) ∨ (wErr a = 0 ∧ wErr b = 0 ∧ ¬ (wText a).toList = (wText b).toList ∧ sameO a b = false ∧ ((wText a).toList == (wText b).toList) = false) := by
  by_cases ha : wErr a = 0
  · by_cases hb : wErr b = 0
    · have key : ∀ c : O, wErr c = 0 → formB c = true ∧ wText c = textO c := by
        intro c h
        unfold wErr at h
        unfold wText
        by_cases hc : chk c = 0
        · rw [if_pos hc] at h ⊢
          by_cases hs : 1000 < (textO c).size
          · rw [if_pos hs] at h; cases h
          · rw [if_neg hs]; exact ⟨(chk_zero hc).1, rfl⟩
        · rw [if_neg hc] at h; exact absurd h hc
      obtain ⟨fa, ea⟩ := key a ha
      obtain ⟨fb, eb⟩ := key b hb
      cases hs : sameO a b with
      | true => exact .inr (.inr (.inl ⟨ha, hb, by rw [sameO_eq a b hs], rfl⟩))
      | false =>
        suffices hne : ¬ (wText a).toList = (wText b).toList from .inr (.inr (.inr ⟨ha, hb, hne, rfl, by simpa using hne⟩))
        intro h
        have he := toList_inj h
        rw [ea, eb] at he
        have := textO_inj fa fb he
        subst this
        rw [sameO_form a fa] at hs
        cases hs
    · exact .inr (.inl ⟨ha, hb⟩)
  · exact .inl ha

set_option maxHeartbeats 8000000 in
set_option maxRecDepth 100000 in
theorem writeApart_walk (p q : Pl) (same : Bool) (w : World) (hp : PlanIn w p) (hq : PlanIn w q) (ht : TabW w) :
    Calls Tryd.prog 3 #[planV p, planV q, .bool same] w fun e w' => e = .returned (.bool true) ∧ Below w.heap.size w w' := by
  have HP := hidIn hp
  have HQ := hidIn hq
  have HTB := hidIn ht
  clear hp hq ht
  unfold planV
  go_enter Tryd.func3, Tryd.ntmps3
  cases same with

  | false =>
    go_upto_region 3 with fail
    obtain ⟨W, hW⟩ : ∃ W, W = (w.alloc (.cells #[.slice p.na p.nl p.nc, .slice p.wa p.wl p.wc] 25)).alloc (.cells #[.slice q.na q.nl q.nc, .slice q.wa q.wl q.wc] 25) := ⟨_, rfl⟩
    have HB : Hid (Below w.heap.size w W) := by rw [hW]; exact below_alloc (below_alloc (Below.refl _ _) _) _
    have HBP : Hid (Blk W w.heap.size 25 #[.slice p.na p.nl p.nc, .slice p.wa p.wl p.wc]) := by rw [hW]; exact blk_keep (blk_new rfl) _
    have HBQ : Hid (Blk W (w.heap.size + 1) 25 #[.slice q.na q.nl q.nc, .slice q.wa q.wl q.wc]) := by rw [hW]; exact blk_new (by simp)
    have HPW := hidIn (HP.out.below HB.out)
    have HQW := hidIn (HQ.out.below HB.out)
    have HTX : Hid (∀ X, Below W.heap.size W X → TabW X) := fun X hX => tabW_below HTB.out (HB.out.trans (hX.mono HB.out.size))
    have HF : Hid (∀ X, Below W.heap.size W X → (X.cell? ⟨w.heap.size, 0, none⟩ = some (.slice p.na p.nl p.nc) ∧ X.cell? ⟨w.heap.size, 1, none⟩ = some (.slice p.wa p.wl p.wc)) ∧ X.cell? ⟨w.heap.size + 1, 0, none⟩ = some (.slice q.na q.nl q.nc) ∧ X.cell? ⟨w.heap.size + 1, 1, none⟩ = some (.slice q.wa q.wl q.wc)) := fun X hX => by
      have h1 := HBP.out.below hX HBP.out.lt
      have h2 := HBQ.out.below hX HBQ.out.lt
      exact ⟨⟨h1.cell 0, h1.cell 1⟩, h2.cell 0, h2.cell 1⟩
    rw [← hW]
    clear hW HBP HBQ
    refine wp_region_grow (fun w' => Below W.heap.size W w') Up (modes [one (.agg #[.slice p.na p.nl p.nc, .slice p.wa p.wl p.wc]), loose (trF (plainC (rightP p))), one ((rightP p).val), one (.agg #[.slice q.na q.nl q.nc, .slice q.wa q.wl q.wc]), loose (trF (plainC (rightP q))), one ((rightP q).val), one ((rightP p).val), one ((rightP q).val)]) (by kernel_rfl) (by kernel_rfl) (up_class _) (below_drew (Below.refl _ _)) ?_
    generalize hops : (#[_, _, _, _, _, _, _, _] : Array Oper) = ops
    clear hops
    refine g_runs (.agg #[.slice p.na p.nl p.nc, .slice p.wa p.wl p.wc]) grow_end Up.refl rfl (wanted_none rfl) (by intro d hd w; cases hd; exact trivial) (fun w' hw' => ?_) ?_
    · obtain ⟨⟨f0, f1⟩, f2, f3⟩ := HF.out w' hw'
      go_simp
    simp only [Act.put, List.setIfInBounds_toArray, List.set_cons_zero, List.set_cons_succ]
    refine g_loose 8 #[.agg #[.slice p.na p.nl p.nc, .slice p.wa p.wl p.wc]] (trF (plainC (rightP p))) rfl (trF_stays _) (wanted_none rfl) (fun w' hw' => ?_) (fun w' hw' hk => ?_) (fun u22 => ?_)
    · go_simp
    · refine (right_any p w' (HPW.out.below hw')).mono ?_
      rintro e w3 ⟨v3, rfl, h3, hb3⟩
      exact ⟨v3, rfl, hb3, h3.low (Nat.zero_le _)⟩
    simp only [Act.put, List.setIfInBounds_toArray, List.set_cons_zero, List.set_cons_succ]
    refine g_calls 7 #[u22] ((rightP p).val) grow_end rfl (wanted_none rfl) (by intro d hd w; cases hd; exact trivial) (fun w' hw' => ?_) (fun w' hw' hk => ?_) ?_
    · go_simp
    · have h22 : trF (plainC (rightP p)) u22 w' := hk 22 (looks_at (by simp [Op.operands, Call.operands]))
      refine (termP_any (rightP p) (rightP_whole p) w' _ 0 h22).mono ?_
      rintro e w3 ⟨rfl, hb3⟩
      exact ⟨rfl, hb3⟩
    simp only [Act.put, List.setIfInBounds_toArray, List.set_cons_zero, List.set_cons_succ]
    refine g_runs (.agg #[.slice q.na q.nl q.nc, .slice q.wa q.wl q.wc]) grow_end Up.refl rfl (wanted_none rfl) (by intro d hd w; cases hd; exact trivial) (fun w' hw' => ?_) ?_
    · obtain ⟨⟨f0, f1⟩, f2, f3⟩ := HF.out w' hw'
      go_simp
    simp only [Act.put, List.setIfInBounds_toArray, List.set_cons_zero, List.set_cons_succ]
    refine g_loose 8 #[.agg #[.slice q.na q.nl q.nc, .slice q.wa q.wl q.wc]] (trF (plainC (rightP q))) rfl (trF_stays _) (wanted_none rfl) (fun w' hw' => ?_) (fun w' hw' hk => ?_) (fun u25 => ?_)
    · go_simp
    · refine (right_any q w' (HQW.out.below hw')).mono ?_
      rintro e w3 ⟨v3, rfl, h3, hb3⟩
      exact ⟨v3, rfl, hb3, h3.low (Nat.zero_le _)⟩
    simp only [Act.put, List.setIfInBounds_toArray, List.set_cons_zero, List.set_cons_succ]
    refine g_calls 7 #[u25] ((rightP q).val) grow_end rfl (wanted_none rfl) (by intro d hd w; cases hd; exact trivial) (fun w' hw' => ?_) (fun w' hw' hk => ?_) ?_
    · go_simp
    · have h25 : trF (plainC (rightP q)) u25 w' := hk 25 (looks_at (by simp [Op.operands, Call.operands]))
      refine (termP_any (rightP q) (rightP_whole q) w' _ 0 h25).mono ?_
      rintro e w3 ⟨rfl, hb3⟩
      exact ⟨rfl, hb3⟩
    simp only [Act.put, List.setIfInBounds_toArray, List.set_cons_zero, List.set_cons_succ]
    refine g_runs ((rightP p).val) grow_end Up.refl rfl (wanted_none rfl) (by intro d hd w; cases hd; exact trivial) (fun w' hw' => ?_) ?_
    · go_simp
    simp only [Act.put, List.setIfInBounds_toArray, List.set_cons_zero, List.set_cons_succ]
    refine g_runs ((rightP q).val) grow_end Up.refl rfl (wanted_none rfl) (by intro d hd w; cases hd; exact trivial) (fun w' hw' => ?_) ?_
    · go_simp
    simp only [Act.put, List.setIfInBounds_toArray, List.set_cons_zero, List.set_cons_succ]
    refine g_nil ?_
    intro w9 hw9 hk9
    have HX9 := hidIn hw9
    clear hw9 hk9
    have HA1 := hidIn (cwhole_ok _ (rightP_whole p))
    have HA2 := hidIn (cwhole_ok _ (rightP_whole q))
    have HW1 := hidIn (rightP_weight p)
    have HW2 := hidIn (rightP_weight q)
    have HAP := hidIn (apartC (rightP p) (rightP q))
    have HSM := hidIn (sameT_any (rightP p) HA1.out (rightP q) HA2.out)
    have HWA := hidIn (writeC_any (rightP p) HA1.out (by have := HW1.out; omega))
    have HWB := hidIn (writeC_any (rightP q) HA2.out (by have := HW2.out; omega))
    obtain ⟨va, hva⟩ : ∃ v, (rightP p).val = v := ⟨_, rfl⟩
    obtain ⟨vb, hvb⟩ : ∃ v, (rightP q).val = v := ⟨_, rfl⟩
    rw [hva, hvb] at HSM
    rw [hva] at HWA
    rw [hvb] at HWB
    rw [hva, hvb]
    clear hva hvb HA1 HA2 HW1 HW2
    generalize wErrC (rightP p) = n1 at *
    generalize wTextC (rightP p) = t1 at *
    generalize wErrC (rightP q) = n2 at *
    generalize wTextC (rightP q) = t2 at *
    generalize sameC (rightP p) (rightP q) = s12 at *
    go_upto_region 5 with fail
    refine (HWA.out w9 (HTX.out _ HX9.out)).mono ?_
    rintro e x1 ⟨rfl, hb1⟩
    have HX1 := hidIn (HX9.out.trans (hb1.mono HX9.out.size))
    clear hb1
    go_upto_region 6 with fail
    refine (HWB.out x1 (HTX.out _ HX1.out)).mono ?_
    rintro e x2 ⟨rfl, hb2⟩
    have HX2 := hidIn (HX1.out.trans (hb2.mono HX1.out.size))
    clear hb2
    go_upto_region 6 with fail
    refine wp_region_grow (fun w' => Below x2.heap.size x2 w') Up (modes [one (.agg #[.slice p.na p.nl p.nc, .slice p.wa p.wl p.wc]), loose (trF (plain (numP p))), one ((numP p).val), one (.agg #[.slice q.na q.nl q.nc, .slice q.wa q.wl q.wc]), loose (trF (plain (numP q))), one ((numP q).val), one ((numP p).val), one ((numP q).val)]) (by kernel_rfl) (by kernel_rfl) (up_class _) (below_drew (Below.refl _ _)) ?_
    generalize hops : (#[_, _, _, _, _, _, _, _] : Array Oper) = ops
    clear hops
    refine g_runs (.agg #[.slice p.na p.nl p.nc, .slice p.wa p.wl p.wc]) grow_end Up.refl rfl (wanted_none rfl) (by intro d hd w; cases hd; exact trivial) (fun w' hw' => ?_) ?_
    · obtain ⟨⟨f0, f1⟩, f2, f3⟩ := HF.out w' (HX2.out.trans (hw'.mono HX2.out.size))
      go_simp
    simp only [Act.put, List.setIfInBounds_toArray, List.set_cons_zero, List.set_cons_succ]
    refine g_loose 11 #[.agg #[.slice p.na p.nl p.nc, .slice p.wa p.wl p.wc]] (trF (plain (numP p))) rfl (trF_stays _) (wanted_none rfl) (fun w' hw' => ?_) (fun w' hw' hk => ?_) (fun u38 => ?_)
    · go_simp
    · refine (number_any p w' (HPW.out.below (HX2.out.trans (hw'.mono HX2.out.size)))).mono ?_
      rintro e w3 ⟨v3, rfl, h3, hb3⟩
      exact ⟨v3, rfl, hb3, h3.low (Nat.zero_le _)⟩
    simp only [Act.put, List.setIfInBounds_toArray, List.set_cons_zero, List.set_cons_succ]
    refine g_calls 10 #[u38] ((numP p).val) grow_end rfl (wanted_none rfl) (by intro d hd w; cases hd; exact trivial) (fun w' hw' => ?_) (fun w' hw' hk => ?_) ?_
    · go_simp
    · have h38 : trF (plain (numP p)) u38 w' := hk 38 (looks_at (by simp [Op.operands, Call.operands]))
      refine (obsP_any (numP p) (numP_whole p) w' _ 0 h38).mono ?_
      rintro e w3 ⟨rfl, hb3⟩
      exact ⟨rfl, hb3⟩
    simp only [Act.put, List.setIfInBounds_toArray, List.set_cons_zero, List.set_cons_succ]
    refine g_runs (.agg #[.slice q.na q.nl q.nc, .slice q.wa q.wl q.wc]) grow_end Up.refl rfl (wanted_none rfl) (by intro d hd w; cases hd; exact trivial) (fun w' hw' => ?_) ?_
    · obtain ⟨⟨f0, f1⟩, f2, f3⟩ := HF.out w' (HX2.out.trans (hw'.mono HX2.out.size))
      go_simp
    simp only [Act.put, List.setIfInBounds_toArray, List.set_cons_zero, List.set_cons_succ]
    refine g_loose 11 #[.agg #[.slice q.na q.nl q.nc, .slice q.wa q.wl q.wc]] (trF (plain (numP q))) rfl (trF_stays _) (wanted_none rfl) (fun w' hw' => ?_) (fun w' hw' hk => ?_) (fun u41 => ?_)
    · go_simp
    · refine (number_any q w' (HQW.out.below (HX2.out.trans (hw'.mono HX2.out.size)))).mono ?_
      rintro e w3 ⟨v3, rfl, h3, hb3⟩
      exact ⟨v3, rfl, hb3, h3.low (Nat.zero_le _)⟩
    simp only [Act.put, List.setIfInBounds_toArray, List.set_cons_zero, List.set_cons_succ]
    refine g_calls 10 #[u41] ((numP q).val) grow_end rfl (wanted_none rfl) (by intro d hd w; cases hd; exact trivial) (fun w' hw' => ?_) (fun w' hw' hk => ?_) ?_
    · go_simp
    · have h41 : trF (plain (numP q)) u41 w' := hk 41 (looks_at (by simp [Op.operands, Call.operands]))
      refine (obsP_any (numP q) (numP_whole q) w' _ 0 h41).mono ?_
      rintro e w3 ⟨rfl, hb3⟩
      exact ⟨rfl, hb3⟩
    simp only [Act.put, List.setIfInBounds_toArray, List.set_cons_zero, List.set_cons_succ]
    refine g_runs ((numP p).val) grow_end Up.refl rfl (wanted_none rfl) (by intro d hd w; cases hd; exact trivial) (fun w' hw' => ?_) ?_
    · go_simp
    simp only [Act.put, List.setIfInBounds_toArray, List.set_cons_zero, List.set_cons_succ]
    refine g_runs ((numP q).val) grow_end Up.refl rfl (wanted_none rfl) (by intro d hd w; cases hd; exact trivial) (fun w' hw' => ?_) ?_
    · go_simp
    simp only [Act.put, List.setIfInBounds_toArray, List.set_cons_zero, List.set_cons_succ]
    refine g_nil ?_
    intro y9 hy9 hj9
    have HY9 := hidIn (HX2.out.trans (hy9.mono HX2.out.size))
    clear hy9 hj9
    have HA1 := hidIn (whole_ok _ (numP_whole p))
    have HA2 := hidIn (whole_ok _ (numP_whole q))
    have HW1 := hidIn (numP_nodes p)
    have HW2 := hidIn (numP_nodes q)
    have HAP2 := hidIn (apartO (numP p) (numP q))
    have HSM2 := hidIn (same_any (numP p) HA1.out (numP q) HA2.out)
    have HWA2 := hidIn (writeO_any (numP p) HA1.out (by have := HW1.out; omega))
    have HWB2 := hidIn (writeO_any (numP q) HA2.out (by have := HW2.out; omega))
    obtain ⟨vc, hvc⟩ : ∃ v, (numP p).val = v := ⟨_, rfl⟩
    obtain ⟨vd, hvd⟩ : ∃ v, (numP q).val = v := ⟨_, rfl⟩
    rw [hvc, hvd] at HSM2
    rw [hvc] at HWA2
    rw [hvd] at HWB2
    rw [hvc, hvd]
    clear hvc hvd HA1 HA2 HW1 HW2
    generalize wErr (numP p) = m1 at *
    generalize wText (numP p) = r1 at *
    generalize wErr (numP q) = m2 at *
    generalize wText (numP q) = r2 at *
    generalize sameO (numP p) (numP q) = s34 at *
    go_upto_region 8 with fail
    refine (HWA2.out y9 (HTX.out _ HY9.out)).mono ?_
    rintro e z1 ⟨rfl, hb1⟩
    have HZ1 := hidIn (HY9.out.trans (hb1.mono HY9.out.size))
    clear hb1
    go_upto_region 9 with fail
    refine (HWB2.out z1 (HTX.out _ HZ1.out)).mono ?_
    rintro e z2 ⟨rfl, hb2⟩
    have HZ2 := hidIn (HZ1.out.trans (hb2.mono HZ1.out.size))
    clear hb2 HWA HWB HWA2 HWB2 HF HPW HQW HP HQ HTB HX9 HX1 HX2 HY9 HZ1
    go_upto_region 9 with fail
    have hap := HAP.out
    have hap2 := HAP2.out
    clear HAP HAP2
    rcases hap with d1 | ⟨d1, d2⟩ | ⟨d1, d2, d3, d4⟩ | ⟨d1, d2, d3, d4, d5⟩
    all_goals rcases hap2 with g1 | ⟨g1, g2⟩ | ⟨g1, g2, g3, g4⟩ | ⟨g1, g2, g3, g4, g5⟩
    all_goals first
      | (subst d4; subst g4)
      | subst d4
      | subst g4
      | skip
    all_goals have hcur := HZ2.out
    all_goals go_wp2_with (first
      | (go_at_call 13; refine (HSM.out _).mono ?_; rintro e wS ⟨rfl, hbS⟩; have hcS := hcur.trans (hbS.mono hcur.size))
      | (go_at_call 14; refine (HSM2.out _).mono ?_; rintro e wO ⟨rfl, hbO⟩; first | have hcO := hcS.trans (hbO.mono hcS.size) | have hcO := hcur.trans (hbO.mono hcur.size))
      | (go_at_call 15; refine (wakes6_any _ (HTX.out _ (by assumption))).mono ?_; rintro e wK ⟨rfl, hbK⟩))
    all_goals go_ret
    all_goals first
      | exact ⟨rfl, HB.out.trans ((hcO.trans (hbK.mono hcO.size)).mono HB.out.size)⟩
      | exact ⟨rfl, HB.out.trans ((hcS.trans (hbK.mono hcS.size)).mono HB.out.size)⟩
      | exact ⟨rfl, HB.out.trans ((hcur.trans (hbK.mono hcur.size)).mono HB.out.size)⟩
  | true =>
    go_upto_region 3 with fail
    obtain ⟨W, hW⟩ : ∃ W, W = (w.alloc (.cells #[.slice p.na p.nl p.nc, .slice p.wa p.wl p.wc] 25)).alloc (.cells #[.slice p.na p.nl p.nc, .slice p.wa p.wl p.wc] 25) := ⟨_, rfl⟩
    have HB : Hid (Below w.heap.size w W) := by rw [hW]; exact below_alloc (below_alloc (Below.refl _ _) _) _
    have HBP : Hid (Blk W w.heap.size 25 #[.slice p.na p.nl p.nc, .slice p.wa p.wl p.wc]) := by rw [hW]; exact blk_keep (blk_new rfl) _
    have HBQ : Hid (Blk W (w.heap.size + 1) 25 #[.slice p.na p.nl p.nc, .slice p.wa p.wl p.wc]) := by rw [hW]; exact blk_new (by simp)
    have HPW := hidIn (HP.out.below HB.out)
    have HQW := hidIn (HP.out.below HB.out)
    have HTX : Hid (∀ X, Below W.heap.size W X → TabW X) := fun X hX => tabW_below HTB.out (HB.out.trans (hX.mono HB.out.size))
    have HF : Hid (∀ X, Below W.heap.size W X → (X.cell? ⟨w.heap.size, 0, none⟩ = some (.slice p.na p.nl p.nc) ∧ X.cell? ⟨w.heap.size, 1, none⟩ = some (.slice p.wa p.wl p.wc)) ∧ X.cell? ⟨w.heap.size + 1, 0, none⟩ = some (.slice p.na p.nl p.nc) ∧ X.cell? ⟨w.heap.size + 1, 1, none⟩ = some (.slice p.wa p.wl p.wc)) := fun X hX => by
      have h1 := HBP.out.below hX HBP.out.lt
      have h2 := HBQ.out.below hX HBQ.out.lt
      exact ⟨⟨h1.cell 0, h1.cell 1⟩, h2.cell 0, h2.cell 1⟩
    rw [← hW]
    clear hW HBP HBQ
    refine wp_region_grow (fun w' => Below W.heap.size W w') Up (modes [one (.agg #[.slice p.na p.nl p.nc, .slice p.wa p.wl p.wc]), loose (trF (plainC (rightP p))), one ((rightP p).val), one (.agg #[.slice p.na p.nl p.nc, .slice p.wa p.wl p.wc]), loose (trF (plainC (rightP p))), one ((rightP p).val), one ((rightP p).val), one ((rightP p).val)]) (by kernel_rfl) (by kernel_rfl) (up_class _) (below_drew (Below.refl _ _)) ?_
    generalize hops : (#[_, _, _, _, _, _, _, _] : Array Oper) = ops
    clear hops
    refine g_runs (.agg #[.slice p.na p.nl p.nc, .slice p.wa p.wl p.wc]) grow_end Up.refl rfl (wanted_none rfl) (by intro d hd w; cases hd; exact trivial) (fun w' hw' => ?_) ?_
    · obtain ⟨⟨f0, f1⟩, f2, f3⟩ := HF.out w' hw'
      go_simp
    simp only [Act.put, List.setIfInBounds_toArray, List.set_cons_zero, List.set_cons_succ]
    refine g_loose 8 #[.agg #[.slice p.na p.nl p.nc, .slice p.wa p.wl p.wc]] (trF (plainC (rightP p))) rfl (trF_stays _) (wanted_none rfl) (fun w' hw' => ?_) (fun w' hw' hk => ?_) (fun u22 => ?_)
    · go_simp
    · refine (right_any p w' (HPW.out.below hw')).mono ?_
      rintro e w3 ⟨v3, rfl, h3, hb3⟩
      exact ⟨v3, rfl, hb3, h3.low (Nat.zero_le _)⟩
    simp only [Act.put, List.setIfInBounds_toArray, List.set_cons_zero, List.set_cons_succ]
    refine g_calls 7 #[u22] ((rightP p).val) grow_end rfl (wanted_none rfl) (by intro d hd w; cases hd; exact trivial) (fun w' hw' => ?_) (fun w' hw' hk => ?_) ?_
    · go_simp
    · have h22 : trF (plainC (rightP p)) u22 w' := hk 22 (looks_at (by simp [Op.operands, Call.operands]))
      refine (termP_any (rightP p) (rightP_whole p) w' _ 0 h22).mono ?_
      rintro e w3 ⟨rfl, hb3⟩
      exact ⟨rfl, hb3⟩
    simp only [Act.put, List.setIfInBounds_toArray, List.set_cons_zero, List.set_cons_succ]
    refine g_runs (.agg #[.slice p.na p.nl p.nc, .slice p.wa p.wl p.wc]) grow_end Up.refl rfl (wanted_none rfl) (by intro d hd w; cases hd; exact trivial) (fun w' hw' => ?_) ?_
    · obtain ⟨⟨f0, f1⟩, f2, f3⟩ := HF.out w' hw'
      go_simp
    simp only [Act.put, List.setIfInBounds_toArray, List.set_cons_zero, List.set_cons_succ]
    refine g_loose 8 #[.agg #[.slice p.na p.nl p.nc, .slice p.wa p.wl p.wc]] (trF (plainC (rightP p))) rfl (trF_stays _) (wanted_none rfl) (fun w' hw' => ?_) (fun w' hw' hk => ?_) (fun u25 => ?_)
    · go_simp
    · refine (right_any p w' (HQW.out.below hw')).mono ?_
      rintro e w3 ⟨v3, rfl, h3, hb3⟩
      exact ⟨v3, rfl, hb3, h3.low (Nat.zero_le _)⟩
    simp only [Act.put, List.setIfInBounds_toArray, List.set_cons_zero, List.set_cons_succ]
    refine g_calls 7 #[u25] ((rightP p).val) grow_end rfl (wanted_none rfl) (by intro d hd w; cases hd; exact trivial) (fun w' hw' => ?_) (fun w' hw' hk => ?_) ?_
    · go_simp
    · have h25 : trF (plainC (rightP p)) u25 w' := hk 25 (looks_at (by simp [Op.operands, Call.operands]))
      refine (termP_any (rightP p) (rightP_whole p) w' _ 0 h25).mono ?_
      rintro e w3 ⟨rfl, hb3⟩
      exact ⟨rfl, hb3⟩
    simp only [Act.put, List.setIfInBounds_toArray, List.set_cons_zero, List.set_cons_succ]
    refine g_runs ((rightP p).val) grow_end Up.refl rfl (wanted_none rfl) (by intro d hd w; cases hd; exact trivial) (fun w' hw' => ?_) ?_
    · go_simp
    simp only [Act.put, List.setIfInBounds_toArray, List.set_cons_zero, List.set_cons_succ]
    refine g_runs ((rightP p).val) grow_end Up.refl rfl (wanted_none rfl) (by intro d hd w; cases hd; exact trivial) (fun w' hw' => ?_) ?_
    · go_simp
    simp only [Act.put, List.setIfInBounds_toArray, List.set_cons_zero, List.set_cons_succ]
    refine g_nil ?_
    intro w9 hw9 hk9
    have HX9 := hidIn hw9
    clear hw9 hk9
    have HA1 := hidIn (cwhole_ok _ (rightP_whole p))
    have HA2 := hidIn (cwhole_ok _ (rightP_whole p))
    have HW1 := hidIn (rightP_weight p)
    have HW2 := hidIn (rightP_weight p)
    have HAP := hidIn (apartC (rightP p) (rightP p))
    have HSM := hidIn (sameT_any (rightP p) HA1.out (rightP p) HA2.out)
    have HWA := hidIn (writeC_any (rightP p) HA1.out (by have := HW1.out; omega))
    have HWB := hidIn (writeC_any (rightP p) HA2.out (by have := HW2.out; omega))
    obtain ⟨va, hva⟩ : ∃ v, (rightP p).val = v := ⟨_, rfl⟩
    obtain ⟨vb, hvb⟩ : ∃ v, (rightP p).val = v := ⟨_, rfl⟩
    rw [hva] at HSM
    rw [hva] at HWA
    rw [hva] at HWB
    rw [hva]
    clear hva hvb vb HA1 HA2 HW1 HW2
    generalize wErrC (rightP p) = n1 at *
    generalize wTextC (rightP p) = t1 at *
    generalize sameC (rightP p) (rightP p) = s12 at *
    go_upto_region 5 with fail
    refine (HWA.out w9 (HTX.out _ HX9.out)).mono ?_
    rintro e x1 ⟨rfl, hb1⟩
    have HX1 := hidIn (HX9.out.trans (hb1.mono HX9.out.size))
    clear hb1
    go_upto_region 6 with fail
    refine (HWB.out x1 (HTX.out _ HX1.out)).mono ?_
    rintro e x2 ⟨rfl, hb2⟩
    have HX2 := hidIn (HX1.out.trans (hb2.mono HX1.out.size))
    clear hb2
    go_upto_region 6 with fail
    refine wp_region_grow (fun w' => Below x2.heap.size x2 w') Up (modes [one (.agg #[.slice p.na p.nl p.nc, .slice p.wa p.wl p.wc]), loose (trF (plain (numP p))), one ((numP p).val), one (.agg #[.slice p.na p.nl p.nc, .slice p.wa p.wl p.wc]), loose (trF (plain (numP p))), one ((numP p).val), one ((numP p).val), one ((numP p).val)]) (by kernel_rfl) (by kernel_rfl) (up_class _) (below_drew (Below.refl _ _)) ?_
    generalize hops : (#[_, _, _, _, _, _, _, _] : Array Oper) = ops
    clear hops
    refine g_runs (.agg #[.slice p.na p.nl p.nc, .slice p.wa p.wl p.wc]) grow_end Up.refl rfl (wanted_none rfl) (by intro d hd w; cases hd; exact trivial) (fun w' hw' => ?_) ?_
    · obtain ⟨⟨f0, f1⟩, f2, f3⟩ := HF.out w' (HX2.out.trans (hw'.mono HX2.out.size))
      go_simp
    simp only [Act.put, List.setIfInBounds_toArray, List.set_cons_zero, List.set_cons_succ]
    refine g_loose 11 #[.agg #[.slice p.na p.nl p.nc, .slice p.wa p.wl p.wc]] (trF (plain (numP p))) rfl (trF_stays _) (wanted_none rfl) (fun w' hw' => ?_) (fun w' hw' hk => ?_) (fun u38 => ?_)
    · go_simp
    · refine (number_any p w' (HPW.out.below (HX2.out.trans (hw'.mono HX2.out.size)))).mono ?_
      rintro e w3 ⟨v3, rfl, h3, hb3⟩
      exact ⟨v3, rfl, hb3, h3.low (Nat.zero_le _)⟩
    simp only [Act.put, List.setIfInBounds_toArray, List.set_cons_zero, List.set_cons_succ]
    refine g_calls 10 #[u38] ((numP p).val) grow_end rfl (wanted_none rfl) (by intro d hd w; cases hd; exact trivial) (fun w' hw' => ?_) (fun w' hw' hk => ?_) ?_
    · go_simp
    · have h38 : trF (plain (numP p)) u38 w' := hk 38 (looks_at (by simp [Op.operands, Call.operands]))
      refine (obsP_any (numP p) (numP_whole p) w' _ 0 h38).mono ?_
      rintro e w3 ⟨rfl, hb3⟩
      exact ⟨rfl, hb3⟩
    simp only [Act.put, List.setIfInBounds_toArray, List.set_cons_zero, List.set_cons_succ]
    refine g_runs (.agg #[.slice p.na p.nl p.nc, .slice p.wa p.wl p.wc]) grow_end Up.refl rfl (wanted_none rfl) (by intro d hd w; cases hd; exact trivial) (fun w' hw' => ?_) ?_
    · obtain ⟨⟨f0, f1⟩, f2, f3⟩ := HF.out w' (HX2.out.trans (hw'.mono HX2.out.size))
      go_simp
    simp only [Act.put, List.setIfInBounds_toArray, List.set_cons_zero, List.set_cons_succ]
    refine g_loose 11 #[.agg #[.slice p.na p.nl p.nc, .slice p.wa p.wl p.wc]] (trF (plain (numP p))) rfl (trF_stays _) (wanted_none rfl) (fun w' hw' => ?_) (fun w' hw' hk => ?_) (fun u41 => ?_)
    · go_simp
    · refine (number_any p w' (HQW.out.below (HX2.out.trans (hw'.mono HX2.out.size)))).mono ?_
      rintro e w3 ⟨v3, rfl, h3, hb3⟩
      exact ⟨v3, rfl, hb3, h3.low (Nat.zero_le _)⟩
    simp only [Act.put, List.setIfInBounds_toArray, List.set_cons_zero, List.set_cons_succ]
    refine g_calls 10 #[u41] ((numP p).val) grow_end rfl (wanted_none rfl) (by intro d hd w; cases hd; exact trivial) (fun w' hw' => ?_) (fun w' hw' hk => ?_) ?_
    · go_simp
    · have h41 : trF (plain (numP p)) u41 w' := hk 41 (looks_at (by simp [Op.operands, Call.operands]))
      refine (obsP_any (numP p) (numP_whole p) w' _ 0 h41).mono ?_
      rintro e w3 ⟨rfl, hb3⟩
      exact ⟨rfl, hb3⟩
    simp only [Act.put, List.setIfInBounds_toArray, List.set_cons_zero, List.set_cons_succ]
    refine g_runs ((numP p).val) grow_end Up.refl rfl (wanted_none rfl) (by intro d hd w; cases hd; exact trivial) (fun w' hw' => ?_) ?_
    · go_simp
    simp only [Act.put, List.setIfInBounds_toArray, List.set_cons_zero, List.set_cons_succ]
    refine g_runs ((numP p).val) grow_end Up.refl rfl (wanted_none rfl) (by intro d hd w; cases hd; exact trivial) (fun w' hw' => ?_) ?_
    · go_simp
    simp only [Act.put, List.setIfInBounds_toArray, List.set_cons_zero, List.set_cons_succ]
    refine g_nil ?_
    intro y9 hy9 hj9
    have HY9 := hidIn (HX2.out.trans (hy9.mono HX2.out.size))
    clear hy9 hj9
    have HA1 := hidIn (whole_ok _ (numP_whole p))
    have HA2 := hidIn (whole_ok _ (numP_whole p))
    have HW1 := hidIn (numP_nodes p)
    have HW2 := hidIn (numP_nodes p)
    have HAP2 := hidIn (apartO (numP p) (numP p))
    have HSM2 := hidIn (same_any (numP p) HA1.out (numP p) HA2.out)
    have HWA2 := hidIn (writeO_any (numP p) HA1.out (by have := HW1.out; omega))
    have HWB2 := hidIn (writeO_any (numP p) HA2.out (by have := HW2.out; omega))
    obtain ⟨vc, hvc⟩ : ∃ v, (numP p).val = v := ⟨_, rfl⟩
    obtain ⟨vd, hvd⟩ : ∃ v, (numP p).val = v := ⟨_, rfl⟩
    rw [hvc] at HSM2
    rw [hvc] at HWA2
    rw [hvc] at HWB2
    rw [hvc]
    clear hvc hvd vd HA1 HA2 HW1 HW2
    generalize wErr (numP p) = m1 at *
    generalize wText (numP p) = r1 at *
    generalize sameO (numP p) (numP p) = s34 at *
    go_upto_region 8 with fail
    refine (HWA2.out y9 (HTX.out _ HY9.out)).mono ?_
    rintro e z1 ⟨rfl, hb1⟩
    have HZ1 := hidIn (HY9.out.trans (hb1.mono HY9.out.size))
    clear hb1
    go_upto_region 9 with fail
    refine (HWB2.out z1 (HTX.out _ HZ1.out)).mono ?_
    rintro e z2 ⟨rfl, hb2⟩
    have HZ2 := hidIn (HZ1.out.trans (hb2.mono HZ1.out.size))
    clear hb2 HWA HWB HWA2 HWB2 HF HPW HQW HP HQ HTB HX9 HX1 HX2 HY9 HZ1
    go_upto_region 9 with fail
    have hap := HAP.out
    have hap2 := HAP2.out
    clear HAP HAP2
    rcases hap with d1 | ⟨d1, d2⟩ | ⟨d1, d2, d3, d4⟩ | ⟨d1, d2, d3, d4, d5⟩
    case inr.inl => exact absurd d1 d2
    case inr.inr.inr => exact absurd trivial d3
    all_goals rcases hap2 with g1 | ⟨g1, g2⟩ | ⟨g1, g2, g3, g4⟩ | ⟨g1, g2, g3, g4, g5⟩
    all_goals first
      | (subst d4; subst g4)
      | subst d4
      | subst g4
      | skip
    all_goals try exact absurd g1 g2
    all_goals try exact absurd trivial g3
    all_goals have hcur := HZ2.out
    all_goals go_wp2_with (first
      | (go_at_call 13; refine (HSM.out _).mono ?_; rintro e wS ⟨rfl, hbS⟩; have hcS := hcur.trans (hbS.mono hcur.size))
      | (go_at_call 14; refine (HSM2.out _).mono ?_; rintro e wO ⟨rfl, hbO⟩; first | have hcO := hcS.trans (hbO.mono hcS.size) | have hcO := hcur.trans (hbO.mono hcur.size))
      | (go_at_call 15; refine (wakes6_any _ (HTX.out _ (by assumption))).mono ?_; rintro e wK ⟨rfl, hbK⟩))
    all_goals go_ret
    all_goals first
      | exact ⟨rfl, HB.out.trans ((hcO.trans (hbK.mono hcO.size)).mono HB.out.size)⟩
      | exact ⟨rfl, HB.out.trans ((hcS.trans (hbK.mono hcS.size)).mono HB.out.size)⟩
      | exact ⟨rfl, HB.out.trans ((hcur.trans (hbK.mono hcur.size)).mono HB.out.size)⟩

end Go.Proofs.YtagjbbdpenbcoaaDoor
