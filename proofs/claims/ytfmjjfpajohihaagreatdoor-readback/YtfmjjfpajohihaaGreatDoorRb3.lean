/- A plan's right contract, as the statements make it. -/
import Derived.Test.YtfmjjfpajohihaaGreatDoorRb2
import Derived.Test.YtfmjjfpajohihaaGreatDoorRefO
import Derived.Test.YtfmjjfpajohihaaGreatDoorRb1
import Derived.Test.YtfmjjfpajohihaaGreatDoorNumber
namespace Go.Proofs.YtfmjjfpajohihaaGreatDoor
open Go.RowKit
set_option linter.unusedVariables false

theorem plainC_nodes (c : C) : (plainC c).nodes = c.nodes := by
  induction c with
  | scale o c ih => have := plain_nodes o; simp only [plainC, T.nodes, nodesL, C.nodes] at *; simp; omega
  | iff o l r h1 h2 => have := plain_nodes o; simp only [plainC, T.nodes, nodesL, C.nodes] at *; simp; omega
  | _ => simp_all [plainC, T.nodes, nodesL, C.nodes] <;> omega
theorem plainC_depth (c : C) : (plainC c).depth = c.depth := by
  induction c with
  | scale o c ih => have := plain_depth o; simp only [plainC, T.depth, depthL, C.depth] at *; simp; omega
  | iff o l r h1 h2 => have := plain_depth o; simp only [plainC, T.depth, depthL, C.depth] at *; simp; omega
  | _ => simp_all [plainC, T.depth, depthL, C.depth] <;> omega
theorem plainC_labs (c : C) : (plainC c).labs = c.labels := by
  induction c <;> simp_all [plainC, T.labs, labsL, C.labels, plain_labs]
theorem plainC_cnt (c : C) : (plainC c).cnt ≤ 3 * c.weight := by
  induction c with
  | scale o c ih => have := plain_cnt o; simp only [plainC, T.cnt, cntL, C.weight] at *; omega
  | iff o l r h1 h2 => have := plain_cnt o; simp only [plainC, T.cnt, cntL, C.weight] at *; omega
  | _ => simp only [plainC, T.cnt, cntL, C.weight] at * <;> omega
theorem plainC_sized (c : C) (h : c.Ok) : (plainC c).Sized := by
  have he : (⟨#[]⟩ : ByteArray).size ≤ 2147483648 := by decide
  induction c with
  | zero => simp only [plainC, T.Sized, SizedL]; exact ⟨he, trivial⟩
  | one s => simp only [plainC, T.Sized, SizedL]; exact ⟨h, trivial⟩
  | odd v => simp only [plainC, T.Sized, SizedL]; exact ⟨he, trivial⟩
  | give c h1 => simp only [plainC, T.Sized, SizedL]; exact ⟨he, h1 h, trivial⟩
  | and l r h1 h2 => simp only [plainC, T.Sized, SizedL]; exact ⟨he, h1 h.1, h2 h.2, trivial⟩
  | or s l r h1 h2 => simp only [plainC, T.Sized, SizedL]; exact ⟨h.1, h1 h.2.1, h2 h.2.2, trivial⟩
  | scale o c h1 => simp only [plainC, T.Sized, SizedL]; exact ⟨he, plain_sized o h.1, h1 h.2, trivial⟩
  | when d c h1 => simp only [plainC, T.Sized, SizedL]; exact ⟨he, h1 h.2, trivial⟩
  | iff o l r h1 h2 => simp only [plainC, T.Sized, SizedL]; exact ⟨he, plain_sized o h.1, h1 h.2.1, h2 h.2.2, trivial⟩
theorem plainC_form (c : C) : formT (plainC c) false = formC c := by
  induction c <;> simp_all [plainC, formT, formTL, headOk, partB, formC, plain_form, Bool.and_assoc]
theorem plainC_chk (c : C) : chkT (plainC c) false = chkC c := by
  unfold chkT chkC
  rw [plainC_form, plainC_nodes, plainC_depth, plainC_labs]
theorem refCheckC_any (c : C) (hok : c.Ok) (hw : c.weight ≤ 300000) (w : World) (v : Value) (B : Nat) (ht : TIn w B (plainC c) v) : Calls Tryz.prog 32 #[v, .bool false] w fun e w' => e = .returned (.int .i64 (chkC c)) ∧ Below w.heap.size w w' := by
  have h := refCheck_any (plainC c) (plainC_sized c hok) (by have := plainC_cnt c; omega) (by rw [plainC_nodes]; have := weight_nodes c; omega) false w v (ht.low (Nat.zero_le _))
  rw [plainC_chk] at h
  exact h
/-- The right contract of a plan. -/
def rightP (p : Pl) : C := if chkC (conP p) = 0 then conP p else .one ⟨#[117, 115, 100]⟩
theorem rightP_whole (p : Pl) : (rightP p).whole := by
  unfold rightP
  split
  · exact conP_whole p
  · show (⟨#[117, 115, 100]⟩ : ByteArray).size ≤ _
    decide
theorem rightP_weight (p : Pl) : (rightP p).weight ≤ 630 := by
  unfold rightP
  split
  · exact conP_weight p
  · simp [C.weight]

set_option maxHeartbeats 1000000 in
set_option maxRecDepth 100000 in
theorem right_any (p : Pl) (w : World) (h : PlanIn w p) : Calls Tryz.prog 14 #[planV p] w fun e w' => ∃ v, e = .returned v ∧ TIn w' w.heap.size (plainC (rightP p)) v ∧ Below w.heap.size w w' := by
  unfold planV
  have HP := hidIn h
  have HOK := hidIn (cwhole_ok _ (conP_whole p))
  have HWT := hidIn (conP_weight p)
  have HRP : Hid (rightP p = if chkC (conP p) = 0 then conP p else .one ⟨#[117, 115, 100]⟩) := rfl
  clear h
  go_enter Tryz.func14, Tryz.ntmps14
  go_wp2_with fail
  obtain ⟨W, hW⟩ : ∃ W, W = (w.alloc (.cells #[.slice p.na p.nl p.nc, .slice p.wa p.wl p.wc] 25)).alloc (.cells #[.int .i64 0, .string ⟨#[]⟩, .int .i64 0, .slice none 0 0] 44) := ⟨_, rfl⟩
  have hWs : W.heap.size = w.heap.size + 2 := by rw [hW]; simp
  have HB : Hid (Below w.heap.size w W) := by rw [hW]; exact below_alloc (below_alloc (Below.refl _ _) _) _
  have HZ : Hid (Blk W (w.heap.size + 1) 44 zeroT) := by rw [hW]; exact blk_new (by simp)
  have HPW := hidIn (HP.out.below HB.out)
  have HWS := hidIn hWs
  rw [← hW]
  clear hW hWs
  refine (contract_any p W HPW.out).mono ?_
  rintro e w1 ⟨v, rfl, ht1, hb1⟩
  have ht1' := ht1
  obtain ⟨ka, kc, rfl, _, _, _⟩ := ht1'
  have HT1 := hidIn ht1
  have HB1 := hidIn hb1
  clear ht1 hb1
  generalize hC : conP p = c at *
  clear hC
  go_wp2_with fail
  obtain ⟨w2, hw2⟩ : ∃ w2, w2 = w1.alloc (.cells (four (plainC c) ka kc) 44) := ⟨_, rfl⟩
  have HB2 : Hid (Below W.heap.size W w2) := by rw [hw2]; exact below_alloc HB1.out _
  have HT2 : Hid (TIn w2 W.heap.size (plainC c) (.agg (four (plainC c) ka kc))) := by rw [hw2]; exact HT1.out.below (below_alloc (Below.refl _ _) _)
  have HK2 : Hid (Blk w2 w1.heap.size 44 (four (plainC c) ka kc)) := by rw [hw2]; exact blk_new rfl
  unfold four at hw2
  rw [← hw2]
  clear hw2 HT1
  refine (refCheckC_any c HOK.out (by have := HWT.out; omega) w2 _ _ HT2.out).mono ?_
  rintro e w3 ⟨rfl, hb3⟩
  have HB3 := hidIn (HB2.out.trans (hb3.mono HB2.out.size))
  have HT3 := hidIn (HT2.out.below hb3)
  have hk3 : Blk w3 w1.heap.size 44 (four (plainC c) ka kc) := HK2.out.below hb3 HK2.out.lt
  obtain ⟨q0, q1, q2, q3⟩ := four_cells hk3
  have HZ3 : Hid (Blk w3 (w.heap.size + 1) 44 zeroT) := HZ.out.below HB3.out HZ.out.lt
  obtain ⟨⟨z0, z1, z2, z3⟩, f0, f1, f2, f3⟩ := blk_zero HZ3.out
  have hne : ¬ w.heap.size + 1 = w1.heap.size := by have := HWS.out; have := HB1.out.size; omega
  have HBE : Hid (Below w.heap.size w w3) := HB.out.trans (HB3.out.mono HB.out.size)
  clear hb3 hk3 HK2 HT2
  by_cases h0 : chkC c = 0
  · have h0' : (chkC c == 0) = true := by simp [h0]
    have HR : Hid (rightP p = c) := by unfold Hid; rw [HRP.out, if_pos h0]
    rw [h0]
    clear h0
    go_wp2_with fail
    refine bodyPost_ret (results_cell_row rfl _ _ (w.heap.size + 1) 44 #[.int .i64 (plainC c).kind, .string (plainC c).s, .int .i64 (plainC c).n, .slice ka (plainC c).k.length kc] (0, 0) _ rfl (set4_blk HZ3.out _ _ _ _) Tryz.underlying44 rfl infoT) rfl ?_
    refine ⟨_, rfl, ?_, (((HBE.out.setCell (Nat.le_succ _) _).setCell (Nat.le_succ _) _).setCell (Nat.le_succ _) _).setCell (Nat.le_succ _) _⟩
    rw [HR.out]
    exact (HT3.out.set4 (R := w.heap.size + 1) (by have := HWS.out; omega) _ _ _ _).low (by have := HWS.out; omega)
  · have h0' : (chkC c == 0) = false := by rw [beq_eq_false_iff_ne]; exact h0
    have HR : Hid (rightP p = .one ⟨#[117, 115, 100]⟩) := by unfold Hid; rw [HRP.out, if_neg h0]
    go_wp2_with fail
    refine bodyPost_ret (results_cell_row rfl _ _ (w.heap.size + 1) 44 #[.int .i64 2, .string ⟨#[117, 115, 100]⟩, .int .i64 0, .slice none 0 0] (0, 0) _ rfl (set4_blk HZ3.out _ _ _ _) Tryz.underlying44 rfl infoT) rfl ?_
    refine ⟨_, rfl, ?_, (((HBE.out.setCell (Nat.le_succ _) _).setCell (Nat.le_succ _) _).setCell (Nat.le_succ _) _).setCell (Nat.le_succ _) _⟩
    rw [HR.out]
    exact tin_leaf _ _ _ _ _

end Go.Proofs.YtfmjjfpajohihaaGreatDoor
namespace Go.Proofs.YtfmjjfpajohihaaGreatDoor
open Go.RowKit
set_option linter.unusedVariables false

/-- Numbers and names as a plan makes them: short. -/
def O.tidy : O → Prop
  | .const n => (numT n).size ≤ 14
  | .fix s => s.size ≤ 14
  | .add l r => l.tidy ∧ r.tidy
  | .neg o => o.tidy
  | .mul l r => l.tidy ∧ r.tidy
  | .max l r => l.tidy ∧ r.tidy
  | .odd _ => False
def C.tidy : C → Prop
  | .zero => True
  | .one s => s.size ≤ 14
  | .give c => c.tidy
  | .and l r => l.tidy ∧ r.tidy
  | .or s l r => s.size ≤ 4 ∧ l.tidy ∧ r.tidy
  | .scale o c => o.tidy ∧ c.tidy
  | .when d c => (numT d).size ≤ 1 ∧ c.tidy
  | .iff o l r => o.tidy ∧ l.tidy ∧ r.tidy
  | .odd _ => False
theorem tidyO_size (o : O) (h : o.tidy) : 3 * (textO o).size ≤ 44 * o.nodes + 13 := by
  induction o with
  | const n => have h' : (numT n).size ≤ 14 := h; simp only [textO, O.nodes]; omega
  | fix s => have h' : s.size ≤ 14 := h; simp only [textO, O.nodes]; rw [joinT_size, joinL1]; have e : (ByteArray.mk #[102, 105, 120]).size = 3 := rfl; omega
  | add l r h1 h2 => have a := h1 h.1; have b := h2 h.2; simp only [textO, O.nodes]; rw [joinT_size, joinL2]; have e : (ByteArray.mk #[97, 100, 100]).size = 3 := rfl; omega
  | neg o h1 => have a := h1 h; simp only [textO, O.nodes]; rw [joinT_size, joinL1]; have e : (ByteArray.mk #[110, 101, 103]).size = 3 := rfl; omega
  | mul l r h1 h2 => have a := h1 h.1; have b := h2 h.2; simp only [textO, O.nodes]; rw [joinT_size, joinL2]; have e : (ByteArray.mk #[109, 117, 108]).size = 3 := rfl; omega
  | max l r h1 h2 => have a := h1 h.1; have b := h2 h.2; simp only [textO, O.nodes]; rw [joinT_size, joinL2]; have e : (ByteArray.mk #[109, 97, 120]).size = 3 := rfl; omega
  | odd v => exact absurd h id
theorem tidyC_size (c : C) (h : c.tidy) : 3 * (textC c).size ≤ 44 * c.nodes + 13 := by
  induction c with
  | zero => simp only [textC, C.nodes]; have e : (ByteArray.mk #[122, 101, 114, 111]).size = 4 := rfl; omega
  | one s => have h' : s.size ≤ 14 := h; simp only [textC, C.nodes]; rw [joinT_size, joinL1]; have e : (ByteArray.mk #[111, 110, 101]).size = 3 := rfl; omega
  | give c h1 => have a := h1 h; simp only [textC, C.nodes]; rw [joinT_size, joinL1]; have e : (ByteArray.mk #[103, 105, 118, 101]).size = 4 := rfl; omega
  | and l r h1 h2 => have a := h1 h.1; have b := h2 h.2; simp only [textC, C.nodes]; rw [joinT_size, joinL2]; have e : (ByteArray.mk #[97, 110, 100]).size = 3 := rfl; omega
  | or s l r h1 h2 => have h' : s.size ≤ 4 := h.1; have a := h1 h.2.1; have b := h2 h.2.2; simp only [textC, C.nodes]; rw [joinT_size, joinL3]; have e : (ByteArray.mk #[111, 114]).size = 2 := rfl; omega
  | scale o c h1 => have a := tidyO_size o h.1; have b := h1 h.2; simp only [textC, C.nodes]; rw [joinT_size, joinL2]; have e : (ByteArray.mk #[115, 99, 97, 108, 101]).size = 5 := rfl; omega
  | when d c h1 => have h' : (numT d).size ≤ 1 := h.1; have b := h1 h.2; simp only [textC, C.nodes]; rw [joinT_size, joinL2]; have e : (ByteArray.mk #[119, 104, 101, 110]).size = 4 := rfl; omega
  | iff o l r h1 h2 => have a := tidyO_size o h.1; have b := h1 h.2.1; have c := h2 h.2.2; simp only [textC, C.nodes]; rw [joinT_size, joinL3]; have e : (ByteArray.mk #[105, 102]).size = 2 := rfl; omega
  | odd v => exact absurd h id
theorem tab_tidy0 : ∀ k, k < 10 → (numT (tabN k)).size ≤ 14 := by decide +kernel
theorem tab_tidy (k : Nat) : (numT (tabN k)).size ≤ 14 := by
  by_cases h : k < 10
  · exact tab_tidy0 k h
  · have e : tabN k = 0 := by
      unfold tabN tabL
      rw [List.getD, List.getElem?_eq_none (by simp; omega)]
      rfl
    rw [e]
    decide +kernel
theorem day_tidy0 : ∀ k : Nat, k < 8 → (numT (k : Int)).size ≤ 1 := by decide +kernel
theorem day_tidy (n : Int) : (numT (n % 8)).size ≤ 1 := by
  have h := day_tidy0 (n % 8).toNat (by omega)
  rw [Int.toNat_of_nonneg (by omega)] at h
  exact h
theorem ch_tidy0 : ∀ k, k < 100 → (chT k).size ≤ 4 := by decide +kernel
theorem numO_tidy (p : Pl) : ∀ d i left, (numO p d i left).1.tidy := by
  intro d
  induction d with
  | zero =>
    intro i left
    unfold numO
    split
    · exact tab_tidy _
    · exact wordOf_size p (i + 1)
  | succ d ih =>
    intro i left
    have h1 := ih (i + 1) (left - 1)
    have h2 := ih (numO p d (i + 1) (left - 1)).2.1 (numO p d (i + 1) (left - 1)).2.2
    unfold numO
    split
    · exact tab_tidy _
    · split
      · exact wordOf_size p (i + 1)
      · split
        · exact h1
        · simp only
          split
          · exact ⟨h1, h2⟩
          · split
            · exact ⟨h1, h2⟩
            · exact ⟨h1, h2⟩
theorem conO_tidy (p : Pl) : ∀ d i left label, label + 2 ^ d ≤ 100 → (conO p d i left label).1.tidy ∧ (conO p d i left label).2.2.2 + 1 ≤ label + 2 ^ d := by
  intro d
  induction d with
  | zero =>
    intro i left label hl
    unfold conO
    split
    · exact ⟨curOf_size p (i + 1), by simp⟩
    · exact ⟨trivial, by simp⟩
  | succ d ih =>
    intro i left label hl
    have hp : 1 ≤ 2 ^ d := Nat.one_le_two_pow
    have hp2 : 2 ^ (d + 1) = 2 * 2 ^ d := by rw [Nat.pow_succ]; omega
    rw [hp2] at hl
    have h1 := ih (i + 1) (left - 1) label (by omega)
    have h2 := ih (conO p d (i + 1) (left - 1) label).2.1 (conO p d (i + 1) (left - 1) label).2.2.1 (conO p d (i + 1) (left - 1) label).2.2.2 (by omega)
    have h3 := ih (i + 2) (left - 1) (label + 1) (by omega)
    have h4 := ih (conO p d (i + 2) (left - 1) (label + 1)).2.1 (conO p d (i + 2) (left - 1) (label + 1)).2.2.1 (conO p d (i + 2) (left - 1) (label + 1)).2.2.2 (by omega)
    have h5 := ih (i + 2) (left - 1) label (by omega)
    have ho := numO_tidy p (min d 2) (i + 1) (left - 1)
    have h6 := ih (numO p (min d 2) (i + 1) (left - 1)).2.1 (numO p (min d 2) (i + 1) (left - 1)).2.2 label (by omega)
    have h7 := ih (conO p d (numO p (min d 2) (i + 1) (left - 1)).2.1 (numO p (min d 2) (i + 1) (left - 1)).2.2 label).2.1 (conO p d (numO p (min d 2) (i + 1) (left - 1)).2.1 (numO p (min d 2) (i + 1) (left - 1)).2.2 label).2.2.1 (conO p d (numO p (min d 2) (i + 1) (left - 1)).2.1 (numO p (min d 2) (i + 1) (left - 1)).2.2 label).2.2.2 (by omega)
    unfold conO
    rw [hp2]
    split
    · exact ⟨curOf_size p (i + 1), by simp only; omega⟩
    · split
      · exact ⟨trivial, by simp only; omega⟩
      · split
        · exact ⟨h1.1, by simp only; omega⟩
        · split
          · exact ⟨⟨h1.1, h2.1⟩, by simp only; omega⟩
          · split
            · refine ⟨⟨?_, h3.1, h4.1⟩, by simp only; omega⟩
              split
              · decide
              · exact ch_tidy0 (label + 1) (by omega)
            · split
              · exact ⟨⟨ho, h6.1⟩, by simp only; omega⟩
              · split
                · exact ⟨⟨day_tidy _, h5.1⟩, by simp only; omega⟩
                · exact ⟨⟨ho, h6.1, h7.1⟩, by simp only; omega⟩
theorem rightP_fine (p : Pl) : chkC (rightP p) = 0 ∧ (textC (rightP p)).size ≤ 884 := by
  unfold rightP
  split
  · rename_i h
    refine ⟨h, ?_⟩
    have h1 := tidyC_size _ (conO_tidy p 5 0 24 0 (by decide)).1
    have h2 := (chkC_zero h).2.1
    unfold conP at h2 ⊢
    omega
  · exact ⟨by decide +kernel, by decide +kernel⟩

end Go.Proofs.YtfmjjfpajohihaaGreatDoor
namespace Go.Proofs.YtfmjjfpajohihaaGreatDoor
open Go.RowKit
set_option linter.unusedVariables false

theorem wake7 : rdT ⟨#[103, 105, 118, 101, 40, 32, 122, 101, 114, 111, 32, 41]⟩ = (.give .zero, 0, 0) := by kernel_rfl
set_option maxHeartbeats 1000000 in
set_option maxRecDepth 100000 in
theorem wakes7_any (w : World) : Calls Tryz.prog 10 #[] w fun e w' => e = .returned (.bool true) ∧ Below w.heap.size w w' := by
  have HK := hidIn (readT_any ⟨#[103, 105, 118, 101, 40, 32, 122, 101, 114, 111, 32, 41]⟩ w (by decide))
  rw [wake7] at HK
  go_enter Tryz.func10, Tryz.ntmps10
  go_wp2_with fail
  refine HK.out.mono ?_
  rintro e w1 ⟨rfl, _, hb1⟩
  have HB1 := hidIn hb1
  clear hb1
  have hv : (C.give .zero).val = .iface 69 (.agg #[.iface 77 (.agg #[])]) := rfl
  simp only [hv]
  have hy : ∀ xT w, (Instr.typeAssert (.iface 69 (.agg #[.iface 77 (.agg #[])])) xT 69 true).run Tryz.prog w = _ := fun xT w => assert_yes Tryz.underlying69 (by intro m h; cases h) _ xT w
  go_wp2_with fail
  go_ret
  exact ⟨rfl, below_alloc HB1.out _⟩

end Go.Proofs.YtfmjjfpajohihaaGreatDoor
namespace Go.Proofs.YtfmjjfpajohihaaGreatDoor
open Go.RowKit
set_option linter.unusedVariables false

theorem fineE_text {c : C} (h : chkC c = 0) (hs : (textC c).size ≤ 884) : wTextC c = textC c := by unfold wTextC; rw [if_pos h, if_neg (by omega)]
theorem fineE_err {c : C} (h : chkC c = 0) (hs : (textC c).size ≤ 884) : wErrC c = 0 := by unfold wErrC; rw [if_pos h, if_neg (by omega)]
/-- How many blanks stand round the mark n. -/
def gapN (ll : Nat) (lf : Nat → Int) (n : Nat) : Nat := if n < ll then (lf n % 3).toNat else 0
theorem gapN_in {ll : Nat} {lf : Nat → Int} {n : Nat} (h : n < ll) : lf n % 3 = (gapN ll lf n : Int) := by
  unfold gapN
  rw [if_pos h]
  have := Int.emod_nonneg (lf n) (show (3 : Int) ≠ 0 by omega)
  omega
theorem gapN_out {ll : Nat} {lf : Nat → Int} {n : Nat} (h : ¬ n < ll) : gapN ll lf n = 0 := by unfold gapN; rw [if_neg h]
theorem gapN_le (ll : Nat) (lf : Nat → Int) (n : Nat) : gapN ll lf n ≤ 2 := by
  unfold gapN
  split
  · have := Int.emod_lt_of_pos (lf n) (show (0 : Int) < 3 by omega)
    omega
  · omega
/-- The same memory, whatever was drawn. -/
structure SameW (w w' : World) : Prop where
  heap : w'.heap = w.heap
  os : w'.os = w.os
  tape : w'.tape = w.tape
  output : w'.output = w.output
theorem SameW.below {w0 w w' : World} (h : SameW w w') (hb : Below w0.heap.size w0 w) : Below w0.heap.size w0 w' :=
  ⟨h.os.trans hb.os, h.tape.trans hb.tape, h.output.trans hb.output, by rw [h.heap]; exact hb.size, fun k hk => by rw [h.heap]; exact hb.block k hk⟩
theorem SameW.below0 {B : Nat} {w0 w w' : World} (h : SameW w w') (hb : Below B w0 w) : Below B w0 w' :=
  ⟨h.os.trans hb.os, h.tape.trans hb.tape, h.output.trans hb.output, by rw [h.heap]; exact hb.size, fun k hk => by rw [h.heap]; exact hb.block k hk⟩
theorem wErr_zero {o : O} (h : wErr o = 0) : chk o = 0 ∧ (textO o).size ≤ 1000 ∧ wText o = textO o := by
  unfold wErr at h
  split at h
  · rename_i hc
    split at h
    · cases h
    · rename_i hs
      refine ⟨hc, by omega, ?_⟩
      unfold wText
      rw [if_pos hc, if_neg hs]
  · rename_i hc
    exact absurd h hc
theorem wErr_ways (o : O) : wErr o = 0 ∨ wErr o = 5 ∨ wErr o = 2 := by
  by_cases hf : formB o = true <;> by_cases hn : 60 < o.nodes ∨ 12 < o.depth <;> by_cases hs : 1000 < (textO o).size <;> simp [wErr, chk, hf, hn, hs]
theorem readsO (o : O) (he : wErr o = 0) (w : World) : Calls Tryz.prog 9 #[.string (wText o)] w fun e w' => e = .returned (.tuple #[o.val, .int .i64 0, .int .i64 0]) ∧ Below w.heap.size w w' := by
  obtain ⟨h1, h2, h3⟩ := wErr_zero he
  have h := readO_any (wText o) w (by rw [h3]; omega)
  have hr : rdO (wText o) = (o, 0, 0) := by rw [h3]; exact read_writeO o h1 h2
  generalize rdO (wText o) = R at *
  subst hr
  refine h.mono ?_
  rintro e w' ⟨he, _, hb⟩
  exact ⟨he, hb⟩
theorem readsC (c : C) (s : ByteArray) (hs : s.size ≤ 140737488351232) (hr : rdT s = (c, 0, 0)) (vc : Value) (hv : c.val = vc) (w : World) : Calls Tryz.prog 6 #[.string s] w fun e w' => e = .returned (.tuple #[vc, .int .i64 0, .int .i64 0]) ∧ Below w.heap.size w w' := by
  have h := readT_any s w hs
  generalize rdT s = R at *
  subst hr
  subst hv
  refine h.mono ?_
  rintro e w' ⟨he, _, hb⟩
  exact ⟨he, hb⟩
theorem iterPos_at (w : World) (s : ByteArray) (pos B : Nat) (h : w.heap.size = B) : (w.iter s pos).iterPos B = pos := by
  subst h
  simp
theorem two_blanks (k : Nat) (hk : k ≤ 2) : (⟨#[32, 32]⟩ : ByteArray).extract 0 k = runesBytes (blk32 k) := by
  match k, hk with
  | 0, _ => decide +kernel
  | 1, _ => decide +kernel
  | 2, _ => decide +kernel

set_option maxHeartbeats 40000000 in
set_option maxRecDepth 100000 in
theorem readBack_walk (p : Pl) (la : Option Addr) (ll lc : Nat) (lf : Nat → Int) (w : World) (hp : PlanIn w p) (hl : HasInts w la ll lf) (hk : ll ≤ 9223372036854775807) (ht : TabW w) :
    Calls Tryz.prog 4 #[planV p, .slice la ll lc] w fun e w' => e = .returned (.bool true) ∧ Below w.heap.size w w' := by
  have HP := hidIn hp
  have HTB := hidIn ht
  have HL := hidIn hl
  clear hp ht hl
  unfold planV
  go_enter Tryz.func4, Tryz.ntmps4
  go_wp2_with fail
  obtain ⟨W, hW⟩ : ∃ W, W = w.alloc (.cells #[.slice p.na p.nl p.nc, .slice p.wa p.wl p.wc] 25) := ⟨_, rfl⟩
  have HB : Hid (Below w.heap.size w W) := by rw [hW]; exact below_alloc (Below.refl _ _) _
  have HPW := hidIn (HP.out.below HB.out)
  have HCK : Hid (W.heap[w.heap.size]? = some (.cells #[.slice p.na p.nl p.nc, .slice p.wa p.wl p.wc] 25)) := by rw [hW]; exact (MapKept.heap_alloc w _).1
  rw [← hW]
  clear hW HP
  refine (right_any p W HPW.out).mono ?_
  rintro e w1 ⟨v1, rfl, ht1, hb1⟩
  have HT1 := hidIn ht1
  have HB1 := hidIn (HB.out.trans (hb1.mono HB.out.size))
  have HD1 := hidIn hb1
  clear ht1 hb1
  go_wp2_with fail
  refine (termP_any (rightP p) (rightP_whole p) w1 v1 _ HT1.out).mono ?_
  rintro e w2 ⟨rfl, hb2⟩
  have HB2 := hidIn (HB1.out.trans (hb2.mono HB1.out.size))
  have HD2 := hidIn (HD1.out.trans (hb2.mono HD1.out.size))
  clear hb2 HT1
  have HFI := hidIn (rightP_fine p)
  have HOK := hidIn (cwhole_ok _ (rightP_whole p))
  have HWT := hidIn (rightP_weight p)
  have HWH := hidIn (whole_sameC _ (rightP_whole p))
  obtain ⟨c, hc⟩ : ∃ c, rightP p = c := ⟨_, rfl⟩
  rw [hc] at HFI HOK HWT HWH
  rw [hc]
  clear hc
  have HWA : Hid (∀ w, TabW w → Calls Tryz.prog 7 #[c.val] w fun e w' => e = .returned (.tuple #[.string (textC c), .int .i64 0]) ∧ Below w.heap.size w w') := fun w hw => by
    have h := writeC_any c HOK.out (by have := HWT.out; omega) w hw
    rw [fineE_text HFI.out.1 HFI.out.2, fineE_err HFI.out.1 HFI.out.2] at h
    exact h
  have qv := c.one' HOK.out
  obtain ⟨vc, hvc⟩ : ∃ v, c.val = v := ⟨_, rfl⟩
  rw [hvc] at qv HWA
  rw [hvc]
  have HVC := hidIn hvc
  clear hvc
  have sv := qv.store
  have cv := qv.cells
  have mv := qv.cells
  unfold Value.cells at mv
  clear qv
  go_wp2_with fail
  refine (HWA.out w2 (tabW_below HTB.out HB2.out)).mono ?_
  rintro e w3 ⟨rfl, hb3⟩
  have HB3 := hidIn (HB2.out.trans (hb3.mono HB2.out.size))
  have HD3 := hidIn (HD2.out.trans (hb3.mono HD2.out.size))
  clear hb3 HWA
  have hf := (chkC_zero HFI.out.1).1
  have hsz := HFI.out.2
  have HRN : Hid (runesOf (textC c) = rnC c) := runes_of _ _ (vC c) (rbC c hf).symm
  have HSP : Hid (spr (gapN ll lf) 0 (runesOf (textC c)) = spr (gapN ll lf) 0 (rnC c)) := by rw [HRN.out]; exact trivial |> fun _ => rfl
  have HRD := hidIn (read_write c HFI.out.1 (by omega))
  obtain ⟨rn, hrn⟩ : ∃ rn, rnC c = rn := ⟨_, rfl⟩
  rw [hrn] at HRN HSP
  obtain ⟨s, hs⟩ : ∃ s, textC c = s := ⟨_, rfl⟩
  rw [hs] at HRN HSP HRD hsz
  rw [hs]
  go_upto_region 8 with fail
  go_loopw [8, 9] (fun s8 s9 w' => ∃ (pos n : Nat) (acc : List Int), n ≤ pos ∧ pos ≤ s.size ∧ (∃ wm, SameW w3 wm ∧ w' = wm.iter s pos) ∧ s8 = .string (runesBytes acc) ∧ s9 = .int .i64 n ∧ acc ++ spr (gapN ll lf) n (rest s pos) = spr (gapN ll lf) 0 rn ∧ (runesBytes acc).size ≤ 8 * pos) (fun _ _ w' => s.size - w'.iterPos w3.heap.size)
  case atStart => exact ⟨0, 0, [], by omega, by omega, ⟨w3, ⟨rfl, rfl, rfl, rfl⟩, rfl⟩, rfl, rfl, HSP.out, by show (runesBytes []).size ≤ 0; decide⟩
  case round =>
    obtain ⟨pos, n, acc, hnp, hps, ⟨wm, hwm, rfl⟩, rfl, rfl, hacc, hasz⟩ := hrel
    have HWM := hidIn hwm
    have h0 : wm.heap.size = w3.heap.size := by rw [hwm.heap]
    have HIP : Hid (∀ q, (wm.iter s q).iterPos w3.heap.size = q) := fun q => iterPos_at wm s q _ h0
    clear hwm
    by_cases hp : pos < s.size
    · have hwd := width_pos s pos hp
      have hst := rest_step s pos hp
      have hle := decode_fits s pos hp
      rw [hst] at hacc
      have HACC := hidIn hacc
      clear hacc hst
      have hnx : ∀ ty, (Instr.next (.pointer (some ⟨w3.heap.size, 0, none⟩)) true ty).run Tryz.prog (wm.iter s pos) = .ok (.tuple #[.bool true, .int .i64 pos, .int .i32 ((Utf8.decode s pos).1 : Int)]) (wm.iter s (pos + (Utf8.decode s pos).2)) := fun ty => by rw [← h0]; exact run_next_any wm s pos ty hp
      clear h0
      generalize hr : ((Utf8.decode s pos).1 : Int) = r at *
      generalize hwi : (Utf8.decode s pos).2 = wi at *
      clear hr hwi
      cases hm : Rn.markB r with
      | false =>
        have HACC2 := hidIn (gap_else (gapN ll lf) n acc r (rest s (pos + wi)) hm ▸ HACC.out)
        have h3 : (r == 40) = false ∧ (r == 41) = false ∧ (r == 44) = false := by
          unfold Rn.markB at hm
          simp only [Bool.or_eq_false_iff] at hm
          exact ⟨hm.1.1, hm.1.2, hm.2⟩
        obtain ⟨h40, h41, h44⟩ := h3
        have HRB : Hid (runesBytes (acc ++ [r]) = runesBytes acc ++ Utf8.encode r) := by
          show runesBytes (acc ++ [r]) = _
          rw [Rn.runesBytes_append, Rn.runesBytes_one]
        have hen := (Rn.encode_size r).2
        have hsz2 : (runesBytes acc ++ Utf8.encode r).size = (runesBytes acc).size + (Utf8.encode r).size := ByteArray.size_append
        clear hm
        generalize hX : runesBytes acc = X at *
        generalize hE : Utf8.encode r = E at *
        go_wp2_with fail
        go_roundw
        case rel =>
          refine ⟨pos + wi, n, acc ++ [r], by omega, by omega, ⟨wm, HWM.out, rfl⟩, by rw [HRB.out], rfl, HACC2.out, ?_⟩
          rw [HRB.out]
          omega
        case measure => rw [HIP.out, HIP.out]; omega
      | true =>
        have HACC2 := hidIn (gap_mark (gapN ll lf) n acc r (rest s (pos + wi)) hm ▸ HACC.out)
        have hgl := gapN_le ll lf n
        have HRB := hidIn (gap_bytes acc (gapN ll lf n) r)
        have HRS := hidIn (gap_size acc (gapN ll lf n) hgl r)
        have HTW := hidIn (two_blanks (gapN ll lf n) hgl)
        have hen := (Rn.encode_size r).2
        have HW : Hid ((r == 40) = true ∨ ((r == 40) = false ∧ (r == 41) = true) ∨ ((r == 40) = false ∧ (r == 41) = false ∧ (r == 44) = true)) := by
          show _ ∨ _
          unfold Rn.markB at hm
          cases h40 : (r == 40)
          · cases h41 : (r == 41)
            · rw [h40, h41] at hm; exact .inr (.inr ⟨rfl, rfl, by simpa using hm⟩)
            · exact .inr (.inl ⟨rfl, rfl⟩)
          · exact .inl rfl
        clear hm
        by_cases hnl : n < ll
        · have a4 : (n : Int) < (ll : Int) := by omega
          obtain ⟨bb, off, rfl, hbb, hcell, g1, g2⟩ := HL.out n hnl
          have hbw : Below w.heap.size w (wm.iter s (pos + wi)) := (HWM.out.below HB3.out).trans ((below_iter wm s (pos + wi)).mono (HWM.out.below HB3.out).size)
          have hcell1 : (wm.iter s (pos + wi)).cell? ⟨bb, off + n, none⟩ = some (.int .i64 (lf n)) := (hbw.cell (p := ⟨bb, off + n, none⟩) hbb).trans hcell
          have HGE := hidIn (gapN_in (lf := lf) hnl)
          clear hcell hbw
          generalize gapN ll lf n = k at *
          have hk0 : (0 : Int) ≤ (k : Int) := by omega
          have hk2 : (k : Int) ≤ 2 := by omega
          have q1 : ((⟨#[32, 32]⟩ : ByteArray).extract 0 k).size ≤ 2 := by rw [ByteArray.size_extract]; omega
          generalize hX : runesBytes acc = X at *
          generalize hE : Utf8.encode r = E at *
          have q2 : ((⟨#[32, 32]⟩ : ByteArray).extract 0 k ++ E).size ≤ 6 := by rw [ByteArray.size_append]; omega
          have q3 : ((⟨#[32, 32]⟩ : ByteArray).extract 0 k ++ E ++ (⟨#[32, 32]⟩ : ByteArray).extract 0 k).size ≤ 8 := by rw [ByteArray.size_append]; omega
          have q4 : (X ++ ((⟨#[32, 32]⟩ : ByteArray).extract 0 k ++ E ++ (⟨#[32, 32]⟩ : ByteArray).extract 0 k)).size ≤ 8 * pos + 8 := by rw [ByteArray.size_append]; omega
          rcases HW.out with h40 | ⟨h40, h41⟩ | ⟨h40, h41, h44⟩
          · go_wp2_with fail
            refine calls_same (within_any (lf n) 3 _ (by omega) (by omega) g1 g2) ?_
            rw [HGE.out]
            go_upto_region 15 with fail
            generalize hwi2 : wm.iter s (pos + wi) = wi2 at *
            go_quiet (fail)
            go_wp2_with fail
            go_roundw
            case rel =>
              refine ⟨pos + wi, n + 1, acc ++ (blk32 k ++ ([r] ++ blk32 k)), by omega, by omega, ⟨wm.drewN nq, ⟨HWM.out.heap, HWM.out.os, HWM.out.tape, HWM.out.output⟩, by rw [← hwi2]; rfl⟩, ?_, by go_num, HACC2.out, by have := HRS.out; omega⟩
              rw [HRB.out, ← HTW.out]
            case measure =>
              rw [← hwi2, show ((wm.iter s (pos + wi)).drewN nq).iterPos w3.heap.size = (wm.iter s (pos + wi)).iterPos w3.heap.size from rfl, HIP.out, HIP.out]
              omega
          · go_wp2_with fail
            refine calls_same (within_any (lf n) 3 _ (by omega) (by omega) g1 g2) ?_
            rw [HGE.out]
            go_upto_region 15 with fail
            generalize hwi2 : wm.iter s (pos + wi) = wi2 at *
            go_quiet (fail)
            go_wp2_with fail
            go_roundw
            case rel =>
              refine ⟨pos + wi, n + 1, acc ++ (blk32 k ++ ([r] ++ blk32 k)), by omega, by omega, ⟨wm.drewN nq, ⟨HWM.out.heap, HWM.out.os, HWM.out.tape, HWM.out.output⟩, by rw [← hwi2]; rfl⟩, ?_, by go_num, HACC2.out, by have := HRS.out; omega⟩
              rw [HRB.out, ← HTW.out]
            case measure =>
              rw [← hwi2, show ((wm.iter s (pos + wi)).drewN nq).iterPos w3.heap.size = (wm.iter s (pos + wi)).iterPos w3.heap.size from rfl, HIP.out, HIP.out]
              omega
          · go_wp2_with fail
            refine calls_same (within_any (lf n) 3 _ (by omega) (by omega) g1 g2) ?_
            rw [HGE.out]
            go_upto_region 15 with fail
            generalize hwi2 : wm.iter s (pos + wi) = wi2 at *
            go_quiet (fail)
            go_wp2_with fail
            go_roundw
            case rel =>
              refine ⟨pos + wi, n + 1, acc ++ (blk32 k ++ ([r] ++ blk32 k)), by omega, by omega, ⟨wm.drewN nq, ⟨HWM.out.heap, HWM.out.os, HWM.out.tape, HWM.out.output⟩, by rw [← hwi2]; rfl⟩, ?_, by go_num, HACC2.out, by have := HRS.out; omega⟩
              rw [HRB.out, ← HTW.out]
            case measure =>
              rw [← hwi2, show ((wm.iter s (pos + wi)).drewN nq).iterPos w3.heap.size = (wm.iter s (pos + wi)).iterPos w3.heap.size from rfl, HIP.out, HIP.out]
              omega
        · have a4 : ¬ (n : Int) < (ll : Int) := by omega
          have hg0 := gapN_out (lf := lf) hnl
          rw [hg0] at HACC2 HRB HRS HTW
          clear hg0 hgl
          have q1 : ((⟨#[32, 32]⟩ : ByteArray).extract 0 0).size ≤ 2 := by rw [ByteArray.size_extract]; omega
          generalize hX : runesBytes acc = X at *
          generalize hE : Utf8.encode r = E at *
          have q2 : ((⟨#[32, 32]⟩ : ByteArray).extract 0 0 ++ E).size ≤ 6 := by rw [ByteArray.size_append]; omega
          have q3 : ((⟨#[32, 32]⟩ : ByteArray).extract 0 0 ++ E ++ (⟨#[32, 32]⟩ : ByteArray).extract 0 0).size ≤ 8 := by rw [ByteArray.size_append]; omega
          have q4 : (X ++ ((⟨#[32, 32]⟩ : ByteArray).extract 0 0 ++ E ++ (⟨#[32, 32]⟩ : ByteArray).extract 0 0)).size ≤ 8 * pos + 8 := by rw [ByteArray.size_append]; omega
          rcases HW.out with h40 | ⟨h40, h41⟩ | ⟨h40, h41, h44⟩
          · go_upto_region 15 with fail
            generalize hwi2 : wm.iter s (pos + wi) = wi2 at *
            go_quiet (fail)
            go_wp2_with fail
            go_roundw
            case rel =>
              refine ⟨pos + wi, n + 1, acc ++ (blk32 0 ++ ([r] ++ blk32 0)), by omega, by omega, ⟨wm.drewN nq, ⟨HWM.out.heap, HWM.out.os, HWM.out.tape, HWM.out.output⟩, by rw [← hwi2]; rfl⟩, ?_, by go_num, HACC2.out, by have := HRS.out; omega⟩
              rw [HRB.out, ← HTW.out]
              simp
            case measure =>
              rw [← hwi2, show ((wm.iter s (pos + wi)).drewN nq).iterPos w3.heap.size = (wm.iter s (pos + wi)).iterPos w3.heap.size from rfl, HIP.out, HIP.out]
              omega
          · go_upto_region 15 with fail
            generalize hwi2 : wm.iter s (pos + wi) = wi2 at *
            go_quiet (fail)
            go_wp2_with fail
            go_roundw
            case rel =>
              refine ⟨pos + wi, n + 1, acc ++ (blk32 0 ++ ([r] ++ blk32 0)), by omega, by omega, ⟨wm.drewN nq, ⟨HWM.out.heap, HWM.out.os, HWM.out.tape, HWM.out.output⟩, by rw [← hwi2]; rfl⟩, ?_, by go_num, HACC2.out, by have := HRS.out; omega⟩
              rw [HRB.out, ← HTW.out]
              simp
            case measure =>
              rw [← hwi2, show ((wm.iter s (pos + wi)).drewN nq).iterPos w3.heap.size = (wm.iter s (pos + wi)).iterPos w3.heap.size from rfl, HIP.out, HIP.out]
              omega
          · go_upto_region 15 with fail
            generalize hwi2 : wm.iter s (pos + wi) = wi2 at *
            go_quiet (fail)
            go_wp2_with fail
            go_roundw
            case rel =>
              refine ⟨pos + wi, n + 1, acc ++ (blk32 0 ++ ([r] ++ blk32 0)), by omega, by omega, ⟨wm.drewN nq, ⟨HWM.out.heap, HWM.out.os, HWM.out.tape, HWM.out.output⟩, by rw [← hwi2]; rfl⟩, ?_, by go_num, HACC2.out, by have := HRS.out; omega⟩
              rw [HRB.out, ← HTW.out]
              simp
            case measure =>
              rw [← hwi2, show ((wm.iter s (pos + wi)).drewN nq).iterPos w3.heap.size = (wm.iter s (pos + wi)).iterPos w3.heap.size from rfl, HIP.out, HIP.out]
              omega
    · have hnx := fun ty => run_next_end (P := Tryz.prog) wm s pos ty hp
      simp only [h0] at hnx
      rw [rest_end s pos hp] at hacc
      have HX : Hid (runesBytes acc = runesBytes (spr (gapN ll lf) 0 (rnC c))) := by
        show runesBytes acc = _
        rw [hrn, ← hacc]
        simp [spr]
      clear hacc h0
      have HDm := hidIn (SameW.below0 HWM.out HD3.out)
      have HD4 := hidIn (HDm.out.trans ((below_iter wm s pos).mono HDm.out.size))
      have HRT : Hid (∀ w, Calls Tryz.prog 6 #[.string s] w fun e w' => e = .returned (.tuple #[vc, .int .i64 0, .int .i64 0]) ∧ Below w.heap.size w w') := readsC c s (by omega) HRD.out vc HVC.out
      have HSM : Hid (∀ w, Calls Tryz.prog 8 #[vc, vc] w fun e w' => e = .returned (.bool true) ∧ Below w.heap.size w w') := fun w => by
        have h := sameT_any c HOK.out c HOK.out w
        rw [HWH.out, HVC.out] at h
        exact h
      generalize hXa : runesBytes acc = X at *
      have HRX : Hid (X.size ≤ 1000 → ∀ w, Calls Tryz.prog 6 #[.string X] w fun e w' => e = .returned (.tuple #[vc, .int .i64 0, .int .i64 0]) ∧ Below w.heap.size w w') := fun hx => readsC c X (by omega) (read_gaps c HFI.out.1 (gapN ll lf) X HX.out hx) vc HVC.out
      clear hXa HX HSP HRN HIP HWM
      go_upto_region 17 with fail
      generalize wm.iter s pos = w4 at *
      go_upto_region 18 with fail
      refine (HRT.out w4).mono ?_
      rintro e w5 ⟨rfl, hb5⟩
      have HD5 := hidIn (HD4.out.trans (hb5.mono HD4.out.size))
      clear hb5
      go_wp2_with fail
      refine (HSM.out w5).mono ?_
      rintro e w6 ⟨rfl, hb6⟩
      have HD6 := hidIn (HD5.out.trans (hb6.mono HD5.out.size))
      clear hb6
      by_cases hxs : X.size ≤ 1000
      · have hxi : (X.size : Int) ≤ 1000 := by omega
        go_wp2_with fail
        refine (HRX.out hxs w6).mono ?_
        rintro e w7 ⟨rfl, hb7⟩
        have HD7 := hidIn (HD6.out.trans (hb7.mono HD6.out.size))
        clear hb7
        go_wp2_with fail
        refine (HSM.out w7).mono ?_
        rintro e wk ⟨rfl, hb8⟩
        have HD := hidIn (HD7.out.trans (hb8.mono HD7.out.size))
        clear hb8
        have hc0 : wk.cell? ⟨w.heap.size, 0, none⟩ = some (.slice p.na p.nl p.nc) := by
          have hb := (HD.out.block _ (Array.getElem?_eq_some_iff.1 HCK.out).1).trans HCK.out
          simp [World.cell?, hb]
        have hc1 : wk.cell? ⟨w.heap.size, 1, none⟩ = some (.slice p.wa p.wl p.wc) := by
          have hb := (HD.out.block _ (Array.getElem?_eq_some_iff.1 HCK.out).1).trans HCK.out
          simp [World.cell?, hb]
        go_wp2_with fail
        refine (number_any p wk (HPW.out.below HD.out)).mono ?_
        rintro e w8 ⟨v8, rfl, ht8, hb8⟩
        have HT8 := hidIn ht8
        have HD8 := hidIn (HD.out.trans (hb8.mono HD.out.size))
        clear ht8 hb8 hc0 hc1
        go_wp2_with fail
        refine (obsP_any (numP p) (numP_whole p) w8 v8 _ HT8.out).mono ?_
        rintro e w9 ⟨rfl, hb9⟩
        have HD9 := hidIn (HD8.out.trans (hb9.mono HD8.out.size))
        have HB9 := hidIn (HB.out.trans (HD9.out.mono HB.out.size))
        clear hb9 HT8
        have HNO := hidIn (whole_ok _ (numP_whole p))
        have HNN := hidIn (numP_nodes p)
        have HNS := hidIn (whole_same _ (numP_whole p))
        obtain ⟨o, ho⟩ : ∃ o, numP p = o := ⟨_, rfl⟩
        rw [ho] at HNO HNN HNS
        rw [ho]
        clear ho
        have HWO := hidIn (writeO_any o HNO.out (by have := HNN.out; omega) w9 (tabW_below HTB.out HB9.out))
        have HRO : Hid (wErr o = 0 → ∀ w, Calls Tryz.prog 9 #[.string (wText o)] w fun e w' => e = .returned (.tuple #[o.val, .int .i64 0, .int .i64 0]) ∧ Below w.heap.size w w') := readsO o
        have HSO : Hid (∀ w, Calls Tryz.prog 12 #[o.val, o.val] w fun e w' => e = .returned (.bool true) ∧ Below w.heap.size w w') := fun w => by
          have h := same_any o HNO.out o HNO.out w
          rw [HNS.out] at h
          exact h
        have HEC := hidIn (wErr_ways o)
        have qo := o.one' HNO.out
        obtain ⟨vo, hvo⟩ : ∃ v, o.val = v := ⟨_, rfl⟩
        rw [hvo] at qo HWO HRO HSO
        rw [hvo]
        clear hvo
        have so := qo.store
        have co := qo.cells
        have mo := qo.cells
        unfold Value.cells at mo
        clear qo
        generalize wErr o = we at *
        generalize wText o = wt at *
        go_wp2_with fail
        refine HWO.out.mono ?_
        rintro e w10 ⟨rfl, hb10⟩
        have HB10 := hidIn (HB9.out.trans (hb10.mono HB9.out.size))
        clear hb10 HWO
        rcases HEC.out with rfl | rfl | rfl
        · go_wp2_with fail
          refine (HRO.out (by first | rfl | trivial) w10).mono ?_
          rintro e w11 ⟨rfl, hb11⟩
          have HB11 := hidIn (HB10.out.trans (hb11.mono HB10.out.size))
          clear hb11
          go_wp2_with fail
          refine (HSO.out w11).mono ?_
          rintro e w12 ⟨rfl, hb12⟩
          have HB12 := hidIn (HB11.out.trans (hb12.mono HB11.out.size))
          clear hb12
          go_wp2_with fail
          refine (wakes7_any w12).mono ?_
          rintro e w13 ⟨rfl, hb13⟩
          go_wp2_with fail
          go_ret
          exact ⟨rfl, HB12.out.trans (hb13.mono HB12.out.size)⟩
        · go_wp2_with fail
          refine (wakes7_any w10).mono ?_
          rintro e w13 ⟨rfl, hb13⟩
          go_wp2_with fail
          go_ret
          exact ⟨rfl, HB10.out.trans (hb13.mono HB10.out.size)⟩
        · go_wp2_with fail
          refine (wakes7_any w10).mono ?_
          rintro e w13 ⟨rfl, hb13⟩
          go_wp2_with fail
          go_ret
          exact ⟨rfl, HB10.out.trans (hb13.mono HB10.out.size)⟩
      · have hxi : ¬ (X.size : Int) ≤ 1000 := by omega
        obtain ⟨wk, hwk⟩ : ∃ wk, wk = w6 := ⟨_, rfl⟩
        have HD : Hid (Below W.heap.size W wk) := by rw [hwk]; exact HD6
        rw [← hwk]
        clear hwk
        have hc0 : wk.cell? ⟨w.heap.size, 0, none⟩ = some (.slice p.na p.nl p.nc) := by
          have hb := (HD.out.block _ (Array.getElem?_eq_some_iff.1 HCK.out).1).trans HCK.out
          simp [World.cell?, hb]
        have hc1 : wk.cell? ⟨w.heap.size, 1, none⟩ = some (.slice p.wa p.wl p.wc) := by
          have hb := (HD.out.block _ (Array.getElem?_eq_some_iff.1 HCK.out).1).trans HCK.out
          simp [World.cell?, hb]
        go_wp2_with fail
        refine (number_any p wk (HPW.out.below HD.out)).mono ?_
        rintro e w8 ⟨v8, rfl, ht8, hb8⟩
        have HT8 := hidIn ht8
        have HD8 := hidIn (HD.out.trans (hb8.mono HD.out.size))
        clear ht8 hb8 hc0 hc1
        go_wp2_with fail
        refine (obsP_any (numP p) (numP_whole p) w8 v8 _ HT8.out).mono ?_
        rintro e w9 ⟨rfl, hb9⟩
        have HD9 := hidIn (HD8.out.trans (hb9.mono HD8.out.size))
        have HB9 := hidIn (HB.out.trans (HD9.out.mono HB.out.size))
        clear hb9 HT8
        have HNO := hidIn (whole_ok _ (numP_whole p))
        have HNN := hidIn (numP_nodes p)
        have HNS := hidIn (whole_same _ (numP_whole p))
        obtain ⟨o, ho⟩ : ∃ o, numP p = o := ⟨_, rfl⟩
        rw [ho] at HNO HNN HNS
        rw [ho]
        clear ho
        have HWO := hidIn (writeO_any o HNO.out (by have := HNN.out; omega) w9 (tabW_below HTB.out HB9.out))
        have HRO : Hid (wErr o = 0 → ∀ w, Calls Tryz.prog 9 #[.string (wText o)] w fun e w' => e = .returned (.tuple #[o.val, .int .i64 0, .int .i64 0]) ∧ Below w.heap.size w w') := readsO o
        have HSO : Hid (∀ w, Calls Tryz.prog 12 #[o.val, o.val] w fun e w' => e = .returned (.bool true) ∧ Below w.heap.size w w') := fun w => by
          have h := same_any o HNO.out o HNO.out w
          rw [HNS.out] at h
          exact h
        have HEC := hidIn (wErr_ways o)
        have qo := o.one' HNO.out
        obtain ⟨vo, hvo⟩ : ∃ v, o.val = v := ⟨_, rfl⟩
        rw [hvo] at qo HWO HRO HSO
        rw [hvo]
        clear hvo
        have so := qo.store
        have co := qo.cells
        have mo := qo.cells
        unfold Value.cells at mo
        clear qo
        generalize wErr o = we at *
        generalize wText o = wt at *
        go_wp2_with fail
        refine HWO.out.mono ?_
        rintro e w10 ⟨rfl, hb10⟩
        have HB10 := hidIn (HB9.out.trans (hb10.mono HB9.out.size))
        clear hb10 HWO
        rcases HEC.out with rfl | rfl | rfl
        · go_wp2_with fail
          refine (HRO.out (by first | rfl | trivial) w10).mono ?_
          rintro e w11 ⟨rfl, hb11⟩
          have HB11 := hidIn (HB10.out.trans (hb11.mono HB10.out.size))
          clear hb11
          go_wp2_with fail
          refine (HSO.out w11).mono ?_
          rintro e w12 ⟨rfl, hb12⟩
          have HB12 := hidIn (HB11.out.trans (hb12.mono HB11.out.size))
          clear hb12
          go_wp2_with fail
          refine (wakes7_any w12).mono ?_
          rintro e w13 ⟨rfl, hb13⟩
          go_wp2_with fail
          go_ret
          exact ⟨rfl, HB12.out.trans (hb13.mono HB12.out.size)⟩
        · go_wp2_with fail
          refine (wakes7_any w10).mono ?_
          rintro e w13 ⟨rfl, hb13⟩
          go_wp2_with fail
          go_ret
          exact ⟨rfl, HB10.out.trans (hb13.mono HB10.out.size)⟩
        · go_wp2_with fail
          refine (wakes7_any w10).mono ?_
          rintro e w13 ⟨rfl, hb13⟩
          go_wp2_with fail
          go_ret
          exact ⟨rfl, HB10.out.trans (hb13.mono HB10.out.size)⟩

end Go.Proofs.YtfmjjfpajohihaaGreatDoor
