/- The document's own answer: Write, of a contract's and a number's tree: that of package write. -/
import Derived.Test.YtagjbbdpenbcoaaDoorRefText
import Derived.Test.YtagjbbdpenbcoaaDoorBridgeO
import Derived.Test.YtagjbbdpenbcoaaDoorRightP
namespace Go.Proofs.YtagjbbdpenbcoaaDoor
open Go.RowKit
set_option linter.unusedVariables false

theorem plain_text (o : O) (h : formB o = true) : textT (plain o) = textO o := by
  induction o with
  | const n => simp [plain, textT, textO]
  | fix s => simp [plain, textT, textTL, textO, headP]; rfl
  | add l r h1 h2 => simp only [formB, Bool.and_eq_true] at h; simp [plain, textT, textTL, textO, headP, h1 h.1, h2 h.2]; rfl
  | mul l r h1 h2 => simp only [formB, Bool.and_eq_true] at h; simp [plain, textT, textTL, textO, headP, h1 h.1, h2 h.2]; rfl
  | max l r h1 h2 => simp only [formB, Bool.and_eq_true] at h; simp [plain, textT, textTL, textO, headP, h1 h.1, h2 h.2]; rfl
  | neg o h1 => simp [plain, textT, textTL, textO, headP, h1 h]; rfl
  | odd v => cases h
theorem plainC_text (c : C) (h : formC c = true) : textT (plainC c) = textC c := by
  induction c with
  | zero => simp [plainC, textT, textC]
  | one s => simp [plainC, textT, textTL, textC, headP]; rfl
  | give c h1 => simp [plainC, textT, textTL, textC, headP, h1 h]; rfl
  | and l r h1 h2 => simp only [formC, Bool.and_eq_true] at h; simp [plainC, textT, textTL, textC, headP, h1 h.1, h2 h.2]; rfl
  | or s l r h1 h2 => simp only [formC, Bool.and_eq_true] at h; simp [plainC, textT, textTL, textC, headP, h1 h.1.2, h2 h.2]; rfl
  | scale o c h1 => simp only [formC, Bool.and_eq_true] at h; simp [plainC, textT, textTL, textC, headP, plain_text o h.1, h1 h.2]; rfl
  | when d c h1 => simp only [formC, Bool.and_eq_true] at h; simp [plainC, textT, textTL, textC, headP, h1 h.2]; rfl
  | iff o l r h1 h2 => simp only [formC, Bool.and_eq_true] at h; simp [plainC, textT, textTL, textC, headP, plain_text o h.1.1, h1 h.1.2, h2 h.2]; rfl
  | odd v => cases h
theorem plain_wk (o : O) (k : o.Ok) : (plain o).wk := by
  induction o with
  | const n => have := k; simp only [O.Ok] at this; simp [plain, T.wk, wkL]; omega
  | fix s => simp [plain, T.wk, wkL]
  | add l r h1 h2 => simp [plain, T.wk, wkL, h1 k.1, h2 k.2]
  | mul l r h1 h2 => simp [plain, T.wk, wkL, h1 k.1, h2 k.2]
  | max l r h1 h2 => simp [plain, T.wk, wkL, h1 k.1, h2 k.2]
  | neg o h1 => simp [plain, T.wk, wkL, h1 k]
  | odd v => simp [plain, T.wk, wkL]
theorem plainC_wk (c : C) (k : c.Ok) : (plainC c).wk := by
  induction c with
  | zero => simp [plainC, T.wk, wkL]
  | one s => simp [plainC, T.wk, wkL]
  | give c h1 => simp [plainC, T.wk, wkL, h1 k]
  | and l r h1 h2 => simp [plainC, T.wk, wkL, h1 k.1, h2 k.2]
  | or s l r h1 h2 => simp [plainC, T.wk, wkL, h1 k.2.1, h2 k.2.2]
  | scale o c h1 => simp [plainC, T.wk, wkL, plain_wk o k.1, h1 k.2]
  | when d c h1 => have := k.1; simp [plainC, T.wk, wkL, h1 k.2]; omega
  | iff o l r h1 h2 => simp [plainC, T.wk, wkL, plain_wk o k.1, h1 k.2.1, h2 k.2.2]
  | odd v => simp [plainC, T.wk, wkL]

set_option maxHeartbeats 1000000 in
set_option maxRecDepth 100000 in
theorem refWriteC_any (c : C) (hok : c.Ok) (hwt : c.weight ≤ 300000) (w : World) (v : Value) (ht : TIn w 0 (plainC c) v) : Calls Tryd.prog 20 #[v, .bool false] w fun e w' => e = .returned (.tuple #[.string (wTextC c), .int .i64 (wErrC c)]) ∧ Below w.heap.size w w' := by
  have HW : Hid (chkC c = 0 → (textC c).size ≤ 70368744177664 ∧ ∀ (w : World) (v : Value), TIn w 0 (plainC c) v → Calls Tryd.prog 38 #[v] w fun e w' => e = .returned (.string (textC c)) ∧ Below w.heap.size w w') := fun h => by
    have hz := chkC_zero h
    have hn := formC_neat c hok hz.1
    have hs : (textC c).size ≤ 70368744177664 := Nat.le_trans (textC_size _ c hn) (by omega)
    refine ⟨hs, ?_⟩
    have h2 := refText_any (plainC c) (plainC_wk c hok)
    rw [plainC_text c hz.1] at h2
    exact h2 hs
  have HR : Hid (wTextC c = if chkC c = 0 then (if 1000 < (textC c).size then ⟨#[]⟩ else textC c) else ⟨#[]⟩) := rfl
  have HE : Hid (wErrC c = if chkC c = 0 then (if 1000 < (textC c).size then 5 else 0) else chkC c) := rfl
  have HK : Hid (∀ (w : World) (v : Value), TIn w 0 (plainC c) v → Calls Tryd.prog 22 #[v, .bool false] w fun e w' => e = .returned (.int .i64 (chkC c)) ∧ Below w.heap.size w w') := fun w v h => refCheckC_any c hok hwt w v 0 h
  have HV := hidIn ht
  obtain ⟨a, cap, rfl, _, _, _⟩ := ht
  generalize wTextC c = rt at *
  generalize wErrC c = re at *
  clear hok hwt
  go_enter Tryd.func20, Tryd.ntmps20
  go_wp2_with fail
  have HB0 : Hid (Below w.heap.size w (w.alloc (.cells #[.int .i64 (plainC c).kind, .string (plainC c).s, .int .i64 (plainC c).n, .slice a (plainC c).k.length cap] 30))) := below_alloc (Below.refl _ _) _
  refine (HK.out _ _ (HV.out.below HB0.out)).mono ?_
  rintro e w1 ⟨rfl, hb1⟩
  have HB1 : Hid (Below w.heap.size w w1) := HB0.out.trans (hb1.mono (by simp))
  have hcells : ∀ j, j < 4 → w1.cell? ⟨w.heap.size, j, none⟩ = (#[.int .i64 (plainC c).kind, .string (plainC c).s, .int .i64 (plainC c).n, .slice a (plainC c).k.length cap] : Array Value)[j]? := fun j hj => (cell_of_row _ _ _ _ _ _ ((hb1.block _ (by simp)).trans (heap_alloc_new _ _)))
  have k0 := hcells 0 (by decide)
  have k1 := hcells 1 (by decide)
  have k2 := hcells 2 (by decide)
  have k3 := hcells 3 (by decide)
  simp at k0 k1 k2 k3
  have HV1 := hidIn (HV.out.below HB1.out)
  clear hb1 hcells
  by_cases h0 : chkC c = 0
  · obtain ⟨hs, hw⟩ := HW.out h0
    have HW1 := hidIn hw
    clear hw
    have H1 := HR.out
    have H2 := HE.out
    rw [if_pos h0] at H1 H2
    have HH1 := hidIn H1
    have HH2 := hidIn H2
    clear H1 H2 HR HE
    rw [h0]
    clear h0
    go_wp2_with fail
    refine (HW1.out w1 _ HV1.out).mono ?_
    rintro e w2 ⟨rfl, hb2⟩
    have HB2 := hidIn (HB1.out.trans (hb2.mono HB1.out.size))
    clear hb2 k0 k1 k2 k3 HW1 HV1
    by_cases h1 : 1000 < (textC c).size
    · have h1' : (1000 : Int) < ((textC c).size : Int) := by omega
      rw [if_pos h1] at HH1 HH2
      go_wp2_with fail
      go_ret2
      exact ⟨by rw [HH1.out, HH2.out]; rfl, HB2.out⟩
    · have h1' : ¬ (1000 : Int) < ((textC c).size : Int) := by omega
      rw [if_neg h1] at HH1 HH2
      go_wp2_with fail
      go_ret2
      exact ⟨by rw [HH1.out, HH2.out]; rfl, HB2.out⟩
  · obtain ⟨n, hn⟩ : ∃ n, chkC c = n := ⟨_, rfl⟩
    have H1 := HR.out
    have H2 := HE.out
    rw [if_neg h0] at H1 H2
    rw [hn] at h0 H2
    rw [hn]
    clear k0 k1 k2 k3
    go_wp2_with fail
    go_ret2
    exact ⟨by rw [H1, H2]; rfl, HB1.out⟩

set_option maxHeartbeats 1000000 in
set_option maxRecDepth 100000 in
theorem refWriteO_any (c : O) (hok : c.Ok) (hwt : c.nodes ≤ 1000) (w : World) (v : Value) (ht : TIn w 0 (plain c) v) : Calls Tryd.prog 20 #[v, .bool true] w fun e w' => e = .returned (.tuple #[.string (wText c), .int .i64 (wErr c)]) ∧ Below w.heap.size w w' := by
  have HW : Hid (chk c = 0 → (textO c).size ≤ 70368744177664 ∧ ∀ (w : World) (v : Value), TIn w 0 (plain c) v → Calls Tryd.prog 38 #[v] w fun e w' => e = .returned (.string (textO c)) ∧ Below w.heap.size w w') := fun h => by
    have hz := chk_zero h
    have hn := formB_neat c hok hz.1
    have hs : (textO c).size ≤ 70368744177664 := Nat.le_trans (textO_size _ c hn) (by omega)
    refine ⟨hs, ?_⟩
    have h2 := refText_any (plain c) (plain_wk c hok)
    rw [plain_text c hz.1] at h2
    exact h2 hs
  have HR : Hid (wText c = if chk c = 0 then (if 1000 < (textO c).size then ⟨#[]⟩ else textO c) else ⟨#[]⟩) := rfl
  have HE : Hid (wErr c = if chk c = 0 then (if 1000 < (textO c).size then 5 else 0) else chk c) := rfl
  have HK : Hid (∀ (w : World) (v : Value), TIn w 0 (plain c) v → Calls Tryd.prog 22 #[v, .bool true] w fun e w' => e = .returned (.int .i64 (chk c)) ∧ Below w.heap.size w w') := fun w v h => by
    have h2 := refCheck_any (plain c) (plain_sized c hok) (by have := plain_cnt c; omega) (by rw [plain_nodes]; omega) true w v h
    rw [plain_chk] at h2
    exact h2
  have HV := hidIn ht
  obtain ⟨a, cap, rfl, _, _, _⟩ := ht
  generalize wText c = rt at *
  generalize wErr c = re at *
  clear hok hwt
  go_enter Tryd.func20, Tryd.ntmps20
  go_wp2_with fail
  have HB0 : Hid (Below w.heap.size w (w.alloc (.cells #[.int .i64 (plain c).kind, .string (plain c).s, .int .i64 (plain c).n, .slice a (plain c).k.length cap] 30))) := below_alloc (Below.refl _ _) _
  refine (HK.out _ _ (HV.out.below HB0.out)).mono ?_
  rintro e w1 ⟨rfl, hb1⟩
  have HB1 : Hid (Below w.heap.size w w1) := HB0.out.trans (hb1.mono (by simp))
  have hcells : ∀ j, j < 4 → w1.cell? ⟨w.heap.size, j, none⟩ = (#[.int .i64 (plain c).kind, .string (plain c).s, .int .i64 (plain c).n, .slice a (plain c).k.length cap] : Array Value)[j]? := fun j hj => (cell_of_row _ _ _ _ _ _ ((hb1.block _ (by simp)).trans (heap_alloc_new _ _)))
  have k0 := hcells 0 (by decide)
  have k1 := hcells 1 (by decide)
  have k2 := hcells 2 (by decide)
  have k3 := hcells 3 (by decide)
  simp at k0 k1 k2 k3
  have HV1 := hidIn (HV.out.below HB1.out)
  clear hb1 hcells
  by_cases h0 : chk c = 0
  · obtain ⟨hs, hw⟩ := HW.out h0
    have HW1 := hidIn hw
    clear hw
    have H1 := HR.out
    have H2 := HE.out
    rw [if_pos h0] at H1 H2
    have HH1 := hidIn H1
    have HH2 := hidIn H2
    clear H1 H2 HR HE
    rw [h0]
    clear h0
    go_wp2_with fail
    refine (HW1.out w1 _ HV1.out).mono ?_
    rintro e w2 ⟨rfl, hb2⟩
    have HB2 := hidIn (HB1.out.trans (hb2.mono HB1.out.size))
    clear hb2 k0 k1 k2 k3 HW1 HV1
    by_cases h1 : 1000 < (textO c).size
    · have h1' : (1000 : Int) < ((textO c).size : Int) := by omega
      rw [if_pos h1] at HH1 HH2
      go_wp2_with fail
      go_ret2
      exact ⟨by rw [HH1.out, HH2.out]; rfl, HB2.out⟩
    · have h1' : ¬ (1000 : Int) < ((textO c).size : Int) := by omega
      rw [if_neg h1] at HH1 HH2
      go_wp2_with fail
      go_ret2
      exact ⟨by rw [HH1.out, HH2.out]; rfl, HB2.out⟩
  · obtain ⟨n, hn⟩ : ∃ n, chk c = n := ⟨_, rfl⟩
    have H1 := HR.out
    have H2 := HE.out
    rw [if_neg h0] at H1 H2
    rw [hn] at h0 H2
    rw [hn]
    clear k0 k1 k2 k3
    go_wp2_with fail
    go_ret2
    exact ⟨by rw [H1, H2]; rfl, HB1.out⟩

end Go.Proofs.YtagjbbdpenbcoaaDoor
