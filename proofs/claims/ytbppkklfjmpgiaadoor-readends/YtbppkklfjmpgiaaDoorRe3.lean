/- The walk of the statement ReadEnds. -/
import Derived.Test.YtbppkklfjmpgiaaDoorRe2
namespace Go.Proofs.YtbppkklfjmpgiaaDoor
open Go.RowKit
set_option linter.unusedVariables false

theorem fineE_text {c : C} (h : chkC c = 0) (hs : (textC c).size ≤ 884) : wTextC c = textC c := by unfold wTextC; rw [if_pos h, if_neg (by omega)]
theorem fineE_err {c : C} (h : chkC c = 0) (hs : (textC c).size ≤ 884) : wErrC c = 0 := by unfold wErrC; rw [if_pos h, if_neg (by omega)]
theorem zero_text (c : C) (hf : formC c = true) (h : c.isZero = false) : (textC c).toList ≠ (textC .zero).toList := by
  intro e
  have := textC_inj hf (b := .zero) rfl (toList_inj e)
  subst this
  cases h
theorem zero_list : (textC .zero).toList = [122, 101, 114, 111] := by decide +kernel
theorem text_some (c : C) (hf : formC c = true) : (textC c).toList.isEmpty = false := by
  cases hl : (textC c).toList with
  | cons a l => rfl
  | nil =>
    exfalso
    have hnil : (⟨#[]⟩ : ByteArray).toList = [] := by decide +kernel
    have he := toList_inj (hl.trans hnil.symm)
    have hb := rbC c hf
    rw [he] at hb
    have hw : ∀ (l : List Int), (runesBytes l).data.toList = [] → l = [] := by
      intro l h
      cases l with
      | nil => rfl
      | cons x l =>
        exfalso
        rw [rb_cons] at h
        have hx := List.append_eq_nil_iff.1 h
        have := Rn.encode_size x
        have h0 : (Utf8.encode x).size = 0 := by
          have := congrArg List.length hx.1
          simpa using this
        omega
    have := hw _ hb
    cases c <;> simp [rnC] at this
    cases hf

set_option maxHeartbeats 4000000 in
set_option maxRecDepth 100000 in
theorem readEnds_walk (p : Pl) (w : World) (hp : PlanIn w p) (ht : TabW w) :
    Calls Tryd.prog 3 #[planV p] w fun e w' => e = .returned (.bool true) ∧ Below w.heap.size w w' := by
  have HP := hidIn hp
  have HTB := hidIn ht
  clear hp ht
  unfold planV
  go_enter Tryd.func3, Tryd.ntmps3
  go_wp2_with fail
  obtain ⟨W, hW⟩ : ∃ W, W = w.alloc (.cells #[.slice p.na p.nl p.nc, .slice p.wa p.wl p.wc] 25) := ⟨_, rfl⟩
  have HB : Hid (Below w.heap.size w W) := by rw [hW]; exact below_alloc (Below.refl _ _) _
  have HPW := hidIn (HP.out.below HB.out)
  rw [← hW]
  clear hW HP
  refine (right_any p W HPW.out).mono ?_
  rintro e w1 ⟨v1, rfl, ht1, hb1⟩
  have HT1 := hidIn ht1
  have HB1 := hidIn (HB.out.trans (hb1.mono HB.out.size))
  clear ht1 hb1
  go_wp2_with fail
  refine (termP_any (rightP p) (rightP_whole p) w1 v1 _ HT1.out).mono ?_
  rintro e w2 ⟨rfl, hb2⟩
  have HB2 := hidIn (HB1.out.trans (hb2.mono HB1.out.size))
  clear hb2 HT1
  have HFI := hidIn (rightP_fine p)
  have HOK := hidIn (cwhole_ok _ (rightP_whole p))
  have HWT := hidIn (rightP_weight p)
  obtain ⟨c, hc⟩ : ∃ c, rightP p = c := ⟨_, rfl⟩
  rw [hc] at HFI HOK HWT
  rw [hc]
  clear hc
  have HWA : Hid (∀ w, TabW w → Calls Tryd.prog 4 #[c.val] w fun e w' => e = .returned (.tuple #[.string (textC c), .int .i64 0]) ∧ Below w.heap.size w w') := fun w hw => by
    have h := writeC_any c HOK.out (by have := HWT.out; omega) w hw
    rw [fineE_text HFI.out.1 HFI.out.2, fineE_err HFI.out.1 HFI.out.2] at h
    exact h
  have qv := c.one' HOK.out
  obtain ⟨vc, hvc⟩ : ∃ v, c.val = v := ⟨_, rfl⟩
  rw [hvc] at qv HWA
  rw [hvc]
  clear hvc
  have sv := qv.store
  have cv := qv.cells
  have mv := qv.cells
  unfold Value.cells at mv
  clear qv
  go_wp2_with fail
  refine (HWA.out w2 (tabW_below HTB.out HB2.out)).mono ?_
  rintro e w3 ⟨rfl, hb3⟩
  have HB3 := hidIn (HB2.out.trans (hb3.mono HB2.out.size))
  clear hb3 sv cv mv HWA
  have hf := (chkC_zero HFI.out.1).1
  have hemp := text_some c hf
  have hsz := HFI.out.2
  have HRN : Hid (runesOf (textC c) = rnC c) := runes_of _ _ (vC c) (rbC c hf).symm
  cases hz : c.isZero with
  | true =>
    have hzl : ((textC c).toList == [122, 101, 114, 111]) = true := by
      cases c <;> first | (rw [zero_list]; rfl) | cases hz
    generalize textC c = s at *
    go_wp2_with fail
    refine (wakes7_any w3).mono ?_
    rintro e w4 ⟨rfl, hb4⟩
    go_wp2_with fail
    go_ret
    exact ⟨rfl, HB3.out.trans (hb4.mono HB3.out.size)⟩
  | false =>
    have hzl : ((textC c).toList == [122, 101, 114, 111]) = false := by
      rw [← zero_list]
      exact beq_eq_false_iff_ne.2 (zero_text c hf hz)
    have HEN := hidIn (ends_of c HFI.out.1 (by omega) hz)
    have hpos : 1 ≤ (textC c).size := by
      obtain ⟨rs, hrs⟩ := rnC_last c hf hz
      have := rbC c hf
      rw [hrs, rb_app, rb_41] at this
      have := congrArg List.length this
      simp at this
      omega
    generalize hN : rnC c = rn at *
    generalize textC c = s at *
    clear hf hz hN
    go_upto_region 8 with fail
    go_loopw [5] (fun n5 w' => ∃ (pos k : Nat), k ≤ pos ∧ pos ≤ s.size ∧ w' = w3.iter s pos ∧ n5 = .int .i64 k ∧ k + (rest s pos).length = (runesOf s).length) (fun _ w' => s.size - w'.iterPos w3.heap.size)
    case atStart => exact ⟨0, 0, by omega, by omega, rfl, rfl, by show 0 + (rest s 0).length = (rest s 0).length; omega⟩
    case round =>
      obtain ⟨pos, k, hpp, hps, rfl, rfl, hc⟩ := hrel
      by_cases hp : pos < s.size
      · have hwd := width_pos s pos hp
        have hst := rest_step s pos hp
        have hle := decode_fits s pos hp
        have HC : Hid (k + 1 + (rest s (pos + (Utf8.decode s pos).2)).length = (runesOf s).length) := by rw [← hc, hst]; show _ = _; simp; omega
        clear hc hst
        have hnx : ∀ ty, (Instr.next (.pointer (some ⟨w3.heap.size, 0, none⟩)) true ty).run Tryd.prog (w3.iter s pos) = _ := fun ty => run_next_any w3 s pos ty hp
        generalize hr : ((Utf8.decode s pos).1 : Int) = r at *
        generalize hwi : (Utf8.decode s pos).2 = wi at *
        clear hr hwi
        go_wp2_with fail
        go_roundw
        case rel => exact ⟨pos + wi, k + 1, by omega, by omega, rfl, by go_num, HC.out⟩
        case measure => simp; omega
      · have hnx : ∀ ty, (Instr.next (.pointer (some ⟨w3.heap.size, 0, none⟩)) true ty).run Tryd.prog (w3.iter s pos) = _ := fun ty => run_next_end w3 s pos ty hp
        rw [rest_end s pos hp, HRN.out] at hc
        have hk : k = rn.length := hc
        subst hk
        have HB4 := hidIn (HB3.out.trans ((below_iter w3 s pos).mono HB3.out.size))
        obtain ⟨⟨a1, a2⟩, ⟨b1, b2⟩, c1, c2⟩ := HEN.out
        have HA := hidIn (And.intro a1 a2)
        have HBb := hidIn (And.intro b1 b2)
        have HCc := hidIn (And.intro c1 c2)
        have hap1 : (s ++ (⟨#[41]⟩ : ByteArray)).size = s.size + 1 := by rw [ByteArray.size_append]; rfl
        have hap2 : (s ++ (⟨#[32, 44]⟩ : ByteArray)).size = s.size + 2 := by rw [ByteArray.size_append]; rfl
        clear hc a1 a2 b1 b2 c1 c2 HEN HRN
        go_upto_region 10 with fail
        generalize w3.iter s pos = w4 at *
        go_upto_region 11 with fail
        refine (readT_any _ w4 (by rw [ByteArray.size_extract]; omega)).mono ?_
        rintro e w5 ⟨rfl, _, hb5⟩
        rw [HA.out.1, HA.out.2]
        have HB5 := hidIn (HB4.out.trans (hb5.mono HB4.out.size))
        clear hb5
        generalize (rdT (s.extract 0 (s.size - 1))).1.val = z1 at *
        go_upto_region 12 with fail
        refine (readT_any _ w5 (by omega)).mono ?_
        rintro e w6 ⟨rfl, _, hb6⟩
        rw [HBb.out.1, HBb.out.2]
        have HB6 := hidIn (HB5.out.trans (hb6.mono HB5.out.size))
        clear hb6
        generalize (rdT (s ++ ⟨#[41]⟩)).1.val = z2 at *
        go_upto_region 13 with fail
        refine (readT_any _ w6 (by omega)).mono ?_
        rintro e w7 ⟨rfl, _, hb7⟩
        rw [HCc.out.1, HCc.out.2]
        have HB7 := hidIn (HB6.out.trans (hb7.mono HB6.out.size))
        clear hb7
        generalize (rdT (s ++ ⟨#[32, 44]⟩)).1.val = z3 at *
        have hrn : rn.length ≤ 1000 := by omega
        go_wp2_with fail
        refine (wakes7_any w7).mono ?_
        rintro e w8 ⟨rfl, hb8⟩
        go_wp2_with fail
        go_ret
        exact ⟨rfl, HB7.out.trans (hb8.mono HB7.out.size)⟩

end Go.Proofs.YtbppkklfjmpgiaaDoor
