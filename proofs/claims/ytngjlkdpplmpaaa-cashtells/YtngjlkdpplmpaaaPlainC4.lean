/- A contract as a tree: When, If. -/
import Derived.Test.YtngjlkdpplmpaaaPlainC1
import Derived.Test.YtngjlkdpplmpaaaGrowL
namespace Go.Proofs.Ytngjlkdpplmpaaa
open Go.RowKit
set_option linter.unusedVariables false

/-- A tree in new memory. -/
def treeF (B : Nat) (t : T) (v : Value) (w : World) : Prop := ∃ ka kc, v = .agg #[.int .i64 t.kind, .string t.s, .int .i64 t.n, .slice ka t.k.length kc] ∧ TIn w B t (.agg (four t ka kc))
theorem treeF_stays (B : Nat) (t : T) : ∀ u w w', Up w w' → treeF B t u w → treeF B t u w' := fun u w w' h ⟨ka, kc, e, ht⟩ => ⟨ka, kc, e, ht.below h⟩
/-- Trees one behind another in new memory. -/
def kidsF (B : Nat) (l : List T) (n : Nat) (v : Value) (w : World) : Prop := ∃ b, v = .slice (some ⟨b, 0, none⟩) n n ∧ KAt w B l (some ⟨b, 0, none⟩) 0
theorem kidsF_stays (B : Nat) (l : List T) (n : Nat) : ∀ u w w', Up w w' → kidsF B l n u w → kidsF B l n u w' := fun u w w' h ⟨b, e, ht⟩ => ⟨b, e, ht.below h⟩
def madeF (B : Nat) (kind : Int) (d : Int) (l : List T) (n : Nat) (v : Value) (w : World) : Prop := ∃ b, v = .agg #[.int .i64 kind, .string ⟨#[]⟩, .int .i64 d, .slice (some ⟨b, 0, none⟩) n n] ∧ KAt w B l (some ⟨b, 0, none⟩) 0
theorem madeF_stays (B : Nat) (kind d : Int) (l : List T) (n : Nat) : ∀ u w w', Up w w' → madeF B kind d l n u w → madeF B kind d l n u w' := fun u w w' h ⟨b, e, ht⟩ => ⟨b, e, ht.below h⟩
set_option maxHeartbeats 4000000 in
set_option maxRecDepth 100000 in
theorem plainC_when (d : Int) (c : C) (q1 : One' c.val) (ih1 : MakesC c) : MakesC (.when d c) := by
  intro w
  have a0 := fun v xT w => notZero 56 v xT w (by decide)
  have a1 := fun v xT w => notOne 56 v xT w (by decide)
  have a2 := fun v xT w => notGive 56 v xT w (by decide)
  have a3 := fun v xT w => notAnd 56 v xT w (by decide)
  have a4 := fun v xT w => notOr 56 v xT w (by decide)
  have a5 := fun v xT w => notScale 56 v xT w (by decide)
  have a6 := fun v xT w => isWhen v xT w
  have hs1 := q1.store
  have cv1 := q1.cells
  have mv1 := q1.cells
  unfold Value.cells at mv1
  unfold C.val
  have HI1 := hidIn ih1
  clear q1
  go_enter Try.func34, Try.ntmps34
  go_wp2_with fail
  obtain ⟨W, hW⟩ : ∃ W, W = (w.alloc (.cells #[.int .i64 0, .string ⟨#[]⟩, .int .i64 0, .slice none 0 0] 72)).alloc (.cells #[.int .i64 d, c.val] 56) := ⟨_, rfl⟩
  have HB : Hid (Below w.heap.size w W) := by rw [hW]; exact below_alloc (below_alloc (Below.refl _ _) _) _
  have HZ : Hid (Blk W w.heap.size 72 zeroT) := by rw [hW]; exact blk_keep (blk_new rfl) _
  have HX : Hid (Blk W (w.heap.size + 1) 56 #[.int .i64 d, c.val]) := by rw [hW]; exact blk_new (by simp)
  have HWS : Hid (W.heap.size = w.heap.size + 2) := by unfold Hid; rw [hW]; simp
  rw [← hW]
  clear hW
  have HI1 : Hid (∀ w, Calls Try.prog 34 #[c.val] w (TreePost w (plainC c))) := ih1
  have HPL : Hid (plainC (.when d c) = .mk 7 ⟨#[]⟩ d [plainC c]) := rfl
  have HF : Hid (∀ w', Below W.heap.size W w' → w'.cell? ⟨w.heap.size + 1, 0, none⟩ = some (.int .i64 d) ∧ w'.cell? ⟨w.heap.size + 1, 1, none⟩ = some c.val) := fun w' hw' => ⟨(HX.out.below hw' HX.out.lt).cell 0, (HX.out.below hw' HX.out.lt).cell 1⟩
  clear ih1
  generalize c.val = vc at *
  generalize plainC c = tc at *
  clear hs1 cv1 mv1 a0 a1 a2 a3 a4 a5 a6
  refine wp_region_growL (l := [_, _, _, _, _, _, _]) (fun w' => Below W.heap.size W w') Up (modes [one (.pointer (some ⟨w.heap.size + 1, 0, none⟩)), one (.int .i64 d), one (.pointer (some ⟨w.heap.size + 1, 1, none⟩)), one (vc), loose (treeF W.heap.size tc), loose (kidsF W.heap.size [tc] 1), loose (madeF W.heap.size 7 d [tc] 1)]) (by kernel_rfl) rfl (by kernel_rfl) (by kernel_rfl) (up_class _) (below_drew (Below.refl _ _)) ?_
  generalize hops : (#[_, _, _, _, _, _, _, _] : Array Oper) = ops
  clear hops
  refine g_runs (.pointer (some ⟨w.heap.size + 1, 0, none⟩)) grow_end Up.refl rfl (wanted_none rfl) (by intro d hd w; cases hd; exact trivial) (fun w' hw' => ?_) ?_
  · go_simp
  simp only [Act.put, List.setIfInBounds_toArray, List.set_cons_zero, List.set_cons_succ]
  refine g_runs (.int .i64 d) grow_end Up.refl rfl (wanted_none rfl) (by intro d hd w; cases hd; exact trivial) (fun w' hw' => ?_) ?_
  · obtain ⟨y0, y1⟩ := HF.out w' hw'
    go_simp
  simp only [Act.put, List.setIfInBounds_toArray, List.set_cons_zero, List.set_cons_succ]
  refine g_runs (.pointer (some ⟨w.heap.size + 1, 1, none⟩)) grow_end Up.refl rfl (wanted_none rfl) (by intro d hd w; cases hd; exact trivial) (fun w' hw' => ?_) ?_
  · go_simp
  simp only [Act.put, List.setIfInBounds_toArray, List.set_cons_zero, List.set_cons_succ]
  refine g_runs (vc) grow_end Up.refl rfl (wanted_none rfl) (by intro d hd w; cases hd; exact trivial) (fun w' hw' => ?_) ?_
  · obtain ⟨y0, y1⟩ := HF.out w' hw'
    go_simp
  simp only [Act.put, List.setIfInBounds_toArray, List.set_cons_zero, List.set_cons_succ]
  refine g_loose 34 #[vc] (treeF W.heap.size tc) rfl (treeF_stays _ _) (wanted_none rfl) (fun w' hw' => ?_) (fun w' hw' hk => ?_) (fun u72 => ?_)
  · go_simp
  · refine (HI1.out w').mono ?_
    rintro e w3 ⟨ka, kc, rfl, ht, hb⟩
    exact ⟨_, rfl, hb, ka, kc, rfl, ht.low hw'.size⟩
  simp only [Act.put, List.setIfInBounds_toArray, List.set_cons_zero, List.set_cons_succ]
  refine g_makes (kidsF W.heap.size [tc] 1) rfl (kidsF_stays _ _ _) (wanted_none rfl) (fun w' hw' hk => ?_) (fun u73 => ?_)
  · obtain ⟨ka72, kc72, rfl, ht72⟩ : treeF W.heap.size tc u72 w' := hk 72 (looks_at (by simp [Op.operands]))
    refine ⟨.slice (some ⟨w'.heap.size, 0, none⟩) 1 1, w'.alloc (.cells (four tc ka72 kc72) 72), ?_, below_alloc (Below.refl _ _) _, w'.heap.size, rfl, kat_one (ht72.below (below_alloc (Below.refl _ _) _)) hw'.size (blk_new rfl)⟩
    unfold four
    go_simp
  simp only [Act.put, List.setIfInBounds_toArray, List.set_cons_zero, List.set_cons_succ]
  refine g_makes (madeF W.heap.size 7 d [tc] 1) rfl (madeF_stays _ _ _ _ _) (wanted_none rfl) (fun w' hw' hk => ?_) (fun u74 => ?_)
  · obtain ⟨b, rfl, hb⟩ : kidsF W.heap.size [tc] 1 u73 w' := hk 73 (looks_at (by simp [Op.operands]))
    refine ⟨_, w', ?_, Up.refl _, b, rfl, hb⟩
    go_simp
  simp only [Act.put, List.setIfInBounds_toArray, List.set_cons_zero, List.set_cons_succ]
  refine g_nil ?_
  intro w9 hw9 hk9
  obtain ⟨b, rfl, hkat⟩ : madeF W.heap.size 7 d [tc] 1 u74 w9 := hk9 74
  have hz9 := HZ.out.below hw9 HZ.out.lt
  obtain ⟨⟨z0, z1, z2, z3⟩, f0, f1, f2, f3⟩ := blk_zero hz9
  have HZ9 := hidIn hz9
  have HB9 := hidIn hw9
  have HK9 := hidIn hkat
  clear hz9 hw9 hkat hk9
  go_wp2_with fail
  refine bodyPost_ret (results_cell_row rfl _ _ w.heap.size 72 #[.int .i64 7, .string ⟨#[]⟩, .int .i64 d, .slice (some ⟨b, 0, none⟩) 1 1] (0, 0) _ rfl ?blk Try.underlying72 rfl infoT) rfl ?post
  case blk => change Blk _ _ _ _; (with_reducible exact blk_set4' HZ9.out _ _ _ _)
  case post =>
    have hbw : Below w.heap.size w w9 := HB.out.trans (HB9.out.mono HB.out.size)
    have hWS := HWS.out
    rw [HPL.out]
    refine ⟨some ⟨b, 0, none⟩, 1, rfl, ⟨some ⟨b, 0, none⟩, 1, rfl, Nat.le_refl _, by omega, HK9.out.kept (by omega) (fun k x v hk hv => ?_)⟩, ?_⟩
    · rw [set4_cell' (by omega)]
      exact hv
    · (repeat first | with_reducible exact hbw | with_reducible refine below_set ?_ (by omega) _ _)
set_option maxHeartbeats 4000000 in
set_option maxRecDepth 100000 in
theorem plainC_iff (n : O) (l r : C) (q1 : One' n.val) (q2 : One' l.val) (q3 : One' r.val) (ih1 : MakesO n) (ih2 : MakesC l) (ih3 : MakesC r) : MakesC (.iff n l r) := by
  intro w
  have a0 := fun v xT w => notZero 54 v xT w (by decide)
  have a1 := fun v xT w => notOne 54 v xT w (by decide)
  have a2 := fun v xT w => notGive 54 v xT w (by decide)
  have a3 := fun v xT w => notAnd 54 v xT w (by decide)
  have a4 := fun v xT w => notOr 54 v xT w (by decide)
  have a5 := fun v xT w => notScale 54 v xT w (by decide)
  have a6 := fun v xT w => notWhen 54 v xT w (by decide)
  have a7 := fun v xT w => isIf v xT w
  have hs1 := q1.store
  have cv1 := q1.cells
  have mv1 := q1.cells
  unfold Value.cells at mv1
  have hs2 := q2.store
  have cv2 := q2.cells
  have mv2 := q2.cells
  unfold Value.cells at mv2
  have hs3 := q3.store
  have cv3 := q3.cells
  have mv3 := q3.cells
  unfold Value.cells at mv3
  unfold C.val
  clear q1 q2 q3
  go_enter Try.func34, Try.ntmps34
  go_wp2_with fail
  obtain ⟨W, hW⟩ : ∃ W, W = (w.alloc (.cells #[.int .i64 0, .string ⟨#[]⟩, .int .i64 0, .slice none 0 0] 72)).alloc (.cells #[n.val, l.val, r.val] 54) := ⟨_, rfl⟩
  have HB : Hid (Below w.heap.size w W) := by rw [hW]; exact below_alloc (below_alloc (Below.refl _ _) _) _
  have HZ : Hid (Blk W w.heap.size 72 zeroT) := by rw [hW]; exact blk_keep (blk_new rfl) _
  have HX : Hid (Blk W (w.heap.size + 1) 54 #[n.val, l.val, r.val]) := by rw [hW]; exact blk_new (by simp)
  have HWS : Hid (W.heap.size = w.heap.size + 2) := by unfold Hid; rw [hW]; simp
  rw [← hW]
  clear hW
  have HI1 : Hid (∀ w, Calls Try.prog 57 #[n.val] w (TreePost w (plain n))) := ih1
  have HI2 : Hid (∀ w, Calls Try.prog 34 #[l.val] w (TreePost w (plainC l))) := ih2
  have HI3 : Hid (∀ w, Calls Try.prog 34 #[r.val] w (TreePost w (plainC r))) := ih3
  have HPL : Hid (plainC (.iff n l r) = .mk 8 ⟨#[]⟩ 0 [plain n, plainC l, plainC r]) := rfl
  have HF : Hid (∀ w', Below W.heap.size W w' → w'.cell? ⟨w.heap.size + 1, 0, none⟩ = some n.val ∧ w'.cell? ⟨w.heap.size + 1, 1, none⟩ = some l.val ∧ w'.cell? ⟨w.heap.size + 1, 2, none⟩ = some r.val) := fun w' hw' => ⟨(HX.out.below hw' HX.out.lt).cell 0, (HX.out.below hw' HX.out.lt).cell 1, (HX.out.below hw' HX.out.lt).cell 2⟩
  clear ih1 ih2 ih3
  generalize n.val = vn at *
  generalize l.val = vl at *
  generalize r.val = vr at *
  generalize plain n = tn at *
  generalize plainC l = tl at *
  generalize plainC r = tr at *
  clear hs1 cv1 mv1 hs2 cv2 mv2 hs3 cv3 mv3 a0 a1 a2 a3 a4 a5 a6 a7
  refine wp_region_growL (l := [_, _, _, _, _, _, _, _, _, _, _]) (fun w' => Below W.heap.size W w') Up (modes [one (.pointer (some ⟨w.heap.size + 1, 0, none⟩)), one (vn), loose (treeF W.heap.size tn), one (.pointer (some ⟨w.heap.size + 1, 1, none⟩)), one (vl), loose (treeF W.heap.size tl), one (.pointer (some ⟨w.heap.size + 1, 2, none⟩)), one (vr), loose (treeF W.heap.size tr), loose (kidsF W.heap.size [tn, tl, tr] 3), loose (madeF W.heap.size 8 0 [tn, tl, tr] 3)]) (by kernel_rfl) rfl (by kernel_rfl) (by kernel_rfl) (up_class _) (below_drew (Below.refl _ _)) ?_
  generalize hops : (#[_, _, _, _, _, _, _, _, _, _, _, _] : Array Oper) = ops
  clear hops
  refine g_runs (.pointer (some ⟨w.heap.size + 1, 0, none⟩)) grow_end Up.refl rfl (wanted_none rfl) (by intro d hd w; cases hd; exact trivial) (fun w' hw' => ?_) ?_
  · go_simp
  simp only [Act.put, List.setIfInBounds_toArray, List.set_cons_zero, List.set_cons_succ]
  refine g_runs (vn) grow_end Up.refl rfl (wanted_none rfl) (by intro d hd w; cases hd; exact trivial) (fun w' hw' => ?_) ?_
  · obtain ⟨y0, y1, y2⟩ := HF.out w' hw'
    go_simp
  simp only [Act.put, List.setIfInBounds_toArray, List.set_cons_zero, List.set_cons_succ]
  refine g_loose 57 #[vn] (treeF W.heap.size tn) rfl (treeF_stays _ _) (wanted_none rfl) (fun w' hw' => ?_) (fun w' hw' hk => ?_) (fun u80 => ?_)
  · go_simp
  · refine (HI1.out w').mono ?_
    rintro e w3 ⟨ka, kc, rfl, ht, hb⟩
    exact ⟨_, rfl, hb, ka, kc, rfl, ht.low hw'.size⟩
  simp only [Act.put, List.setIfInBounds_toArray, List.set_cons_zero, List.set_cons_succ]
  refine g_runs (.pointer (some ⟨w.heap.size + 1, 1, none⟩)) grow_end Up.refl rfl (wanted_none rfl) (by intro d hd w; cases hd; exact trivial) (fun w' hw' => ?_) ?_
  · go_simp
  simp only [Act.put, List.setIfInBounds_toArray, List.set_cons_zero, List.set_cons_succ]
  refine g_runs (vl) grow_end Up.refl rfl (wanted_none rfl) (by intro d hd w; cases hd; exact trivial) (fun w' hw' => ?_) ?_
  · obtain ⟨y0, y1, y2⟩ := HF.out w' hw'
    go_simp
  simp only [Act.put, List.setIfInBounds_toArray, List.set_cons_zero, List.set_cons_succ]
  refine g_loose 34 #[vl] (treeF W.heap.size tl) rfl (treeF_stays _ _) (wanted_none rfl) (fun w' hw' => ?_) (fun w' hw' hk => ?_) (fun u83 => ?_)
  · go_simp
  · refine (HI2.out w').mono ?_
    rintro e w3 ⟨ka, kc, rfl, ht, hb⟩
    exact ⟨_, rfl, hb, ka, kc, rfl, ht.low hw'.size⟩
  simp only [Act.put, List.setIfInBounds_toArray, List.set_cons_zero, List.set_cons_succ]
  refine g_runs (.pointer (some ⟨w.heap.size + 1, 2, none⟩)) grow_end Up.refl rfl (wanted_none rfl) (by intro d hd w; cases hd; exact trivial) (fun w' hw' => ?_) ?_
  · go_simp
  simp only [Act.put, List.setIfInBounds_toArray, List.set_cons_zero, List.set_cons_succ]
  refine g_runs (vr) grow_end Up.refl rfl (wanted_none rfl) (by intro d hd w; cases hd; exact trivial) (fun w' hw' => ?_) ?_
  · obtain ⟨y0, y1, y2⟩ := HF.out w' hw'
    go_simp
  simp only [Act.put, List.setIfInBounds_toArray, List.set_cons_zero, List.set_cons_succ]
  refine g_loose 34 #[vr] (treeF W.heap.size tr) rfl (treeF_stays _ _) (wanted_none rfl) (fun w' hw' => ?_) (fun w' hw' hk => ?_) (fun u86 => ?_)
  · go_simp
  · refine (HI3.out w').mono ?_
    rintro e w3 ⟨ka, kc, rfl, ht, hb⟩
    exact ⟨_, rfl, hb, ka, kc, rfl, ht.low hw'.size⟩
  simp only [Act.put, List.setIfInBounds_toArray, List.set_cons_zero, List.set_cons_succ]
  refine g_makes (kidsF W.heap.size [tn, tl, tr] 3) rfl (kidsF_stays _ _ _) (wanted_none rfl) (fun w' hw' hk => ?_) (fun u87 => ?_)
  · obtain ⟨ka80, kc80, rfl, ht80⟩ : treeF W.heap.size tn u80 w' := hk 80 (looks_at (by simp [Op.operands]))
    obtain ⟨ka83, kc83, rfl, ht83⟩ : treeF W.heap.size tl u83 w' := hk 83 (looks_at (by simp [Op.operands]))
    obtain ⟨ka86, kc86, rfl, ht86⟩ : treeF W.heap.size tr u86 w' := hk 86 (looks_at (by simp [Op.operands]))
    refine ⟨.slice (some ⟨w'.heap.size, 0, none⟩) 3 3, w'.alloc (.cells (twelve tn ka80 kc80 tl ka83 kc83 tr ka86 kc86) 72), ?_, below_alloc (Below.refl _ _) _, w'.heap.size, rfl, kat_three (ht80.below (below_alloc (Below.refl _ _) _)) (ht83.below (below_alloc (Below.refl _ _) _)) (ht86.below (below_alloc (Below.refl _ _) _)) hw'.size (blk_new rfl)⟩
    unfold twelve
    go_simp
  simp only [Act.put, List.setIfInBounds_toArray, List.set_cons_zero, List.set_cons_succ]
  refine g_makes (madeF W.heap.size 8 0 [tn, tl, tr] 3) rfl (madeF_stays _ _ _ _ _) (wanted_none rfl) (fun w' hw' hk => ?_) (fun u88 => ?_)
  · obtain ⟨b, rfl, hb⟩ : kidsF W.heap.size [tn, tl, tr] 3 u87 w' := hk 87 (looks_at (by simp [Op.operands]))
    refine ⟨_, w', ?_, Up.refl _, b, rfl, hb⟩
    go_simp
  simp only [Act.put, List.setIfInBounds_toArray, List.set_cons_zero, List.set_cons_succ]
  refine g_nil ?_
  intro w9 hw9 hk9
  obtain ⟨b, rfl, hkat⟩ : madeF W.heap.size 8 0 [tn, tl, tr] 3 u88 w9 := hk9 88
  have hz9 := HZ.out.below hw9 HZ.out.lt
  obtain ⟨⟨z0, z1, z2, z3⟩, f0, f1, f2, f3⟩ := blk_zero hz9
  have HZ9 := hidIn hz9
  have HB9 := hidIn hw9
  have HK9 := hidIn hkat
  clear hz9 hw9 hkat hk9
  go_wp2_with fail
  refine bodyPost_ret (results_cell_row rfl _ _ w.heap.size 72 #[.int .i64 8, .string ⟨#[]⟩, .int .i64 0, .slice (some ⟨b, 0, none⟩) 3 3] (0, 0) _ rfl ?blk Try.underlying72 rfl infoT) rfl ?post
  case blk => change Blk _ _ _ _; (with_reducible exact blk_set4' HZ9.out _ _ _ _)
  case post =>
    have hbw : Below w.heap.size w w9 := HB.out.trans (HB9.out.mono HB.out.size)
    have hWS := HWS.out
    rw [HPL.out]
    refine ⟨some ⟨b, 0, none⟩, 3, rfl, ⟨some ⟨b, 0, none⟩, 3, rfl, Nat.le_refl _, by omega, HK9.out.kept (by omega) (fun k x v hk hv => ?_)⟩, ?_⟩
    · rw [set4_cell' (by omega)]
      exact hv
    · (repeat first | with_reducible exact hbw | with_reducible refine below_set ?_ (by omega) _ _)

end Go.Proofs.Ytngjlkdpplmpaaa
