/- A contract as a tree: And, Scale. -/
import Derived.Test.YtngjlkdpplmpaaaPlainC1
namespace Go.Proofs.Ytngjlkdpplmpaaa
open Go.RowKit
set_option linter.unusedVariables false

set_option maxHeartbeats 4000000 in
set_option maxRecDepth 100000 in
theorem plainC_and (l r : C) (q1 : One' l.val) (q2 : One' r.val) (ih1 : MakesC l) (ih2 : MakesC r) : MakesC (.and l r) := by
  intro w
  have a0 := fun v xT w => notZero 64 v xT w (by decide)
  have a1 := fun v xT w => notOne 64 v xT w (by decide)
  have a2 := fun v xT w => notGive 64 v xT w (by decide)
  have a3 := fun v xT w => isAnd v xT w
  have hs1 := q1.store
  have cv1 := q1.cells
  have mv1 := q1.cells
  unfold Value.cells at mv1
  have hs2 := q2.store
  have cv2 := q2.cells
  have mv2 := q2.cells
  unfold Value.cells at mv2
  unfold C.val
  have HI1 := hidIn ih1
  have HI2 := hidIn ih2
  clear ih1 ih2 q1 q2
  go_enter Try.func34, Try.ntmps34
  go_wp2_with fail
  obtain ⟨W, hW⟩ : ∃ W, W = (w.alloc (.cells #[.int .i64 0, .string ⟨#[]⟩, .int .i64 0, .slice none 0 0] 72)).alloc (.cells #[l.val, r.val] 64) := ⟨_, rfl⟩
  have HB : Hid (Below w.heap.size w W) := by rw [hW]; exact below_alloc (below_alloc (Below.refl _ _) _) _
  have HZ : Hid (Blk W w.heap.size 72 zeroT) := by rw [hW]; exact blk_keep (blk_new rfl) _
  have HX : Hid (Blk W (w.heap.size + 1) 64 #[l.val, r.val]) := by rw [hW]; exact blk_new (by simp)
  have HWS : Hid (W.heap.size = w.heap.size + 2) := by unfold Hid; rw [hW]; simp
  rw [← hW]
  clear hW
  have x1 : W.cell? ⟨w.heap.size + 1, 0, none⟩ = some l.val := HX.out.cell 0
  have x2 : W.cell? ⟨w.heap.size + 1, 1, none⟩ = some r.val := HX.out.cell 1
  have HC1 : Hid (∀ X, Below W.heap.size W X → Calls Try.prog 34 #[l.val] X (fun e w1 => ∃ ka kc, e = .returned (.agg #[.int .i64 (plainC l).kind, .string (plainC l).s, .int .i64 (plainC l).n, .slice ka (plainC l).k.length kc]) ∧ TIn w1 W.heap.size (plainC l) (.agg (four (plainC l) ka kc)) ∧ Below W.heap.size W w1)) := by
    intro X hX 
    refine (HI1.out X).mono ?_
    rintro e w1 ⟨ka, kc, rfl, ht, hb⟩
    exact ⟨ka, kc, rfl, ht.low hX.size, hX.trans (hb.mono hX.size)⟩
  have HC2 : Hid (∀ X (t1 : T) (v1 : Value), Below W.heap.size W X → TIn X W.heap.size t1 v1 → Calls Try.prog 34 #[r.val] X (fun e w1 => ∃ ka kc, e = .returned (.agg #[.int .i64 (plainC r).kind, .string (plainC r).s, .int .i64 (plainC r).n, .slice ka (plainC r).k.length kc]) ∧ TIn w1 W.heap.size (plainC r) (.agg (four (plainC r) ka kc)) ∧ TIn w1 W.heap.size t1 v1 ∧ Below W.heap.size W w1)) := by
    intro X t1 v1 hX hk1
    refine (HI2.out X).mono ?_
    rintro e w1 ⟨ka, kc, rfl, ht, hb⟩
    exact ⟨ka, kc, rfl, ht.low hX.size, hk1.below hb, hX.trans (hb.mono hX.size)⟩
  clear HI1 HI2
  have HPL : Hid (plainC (.and l r) = .mk 4 ⟨#[]⟩ 0 [plainC l, plainC r]) := rfl
  generalize l.val = va at *
  generalize r.val = vb at *
  generalize plainC l = ta at *
  generalize plainC r = tb at *
  clear hs1 cv1 mv1 hs2 cv2 mv2 a0 a1 a2 a3
  go_region_with (first
    | (go_at_call 34; (with_reducible show Calls _ _ #[va] _ _); refine (HC1.out _ (by first | with_reducible exact below_drew (Below.refl _ _) | with_reducible exact Below.refl _ _)).mono ?_; rintro e w1 ⟨ka, kc, rfl, ht1, hb1⟩; have y2 : w1.cell? ⟨w.heap.size + 1, 1, none⟩ = some vb := (HX.out.below hb1 HX.out.lt).cell 1; have HT1 := hidIn ht1; have HB1 := hidIn hb1; clear ht1 hb1)
    | (go_at_call 34; (with_reducible show Calls _ _ #[vb] _ _); refine (HC2.out _ ta (.agg (four ta ka kc)) (by first | with_reducible exact HB1.out | with_reducible exact below_drew HB1.out) (by first | with_reducible exact HT1.out | with_reducible exact HT1.out.below (below_drew (Below.refl _ _)))).mono ?_; rintro e w2 ⟨la, lc, rfl, ht2, ht3, hb2⟩; have HT2 := hidIn ht2; have HT3 := hidIn ht3; have HB2 := hidIn hb2; clear ht2 ht3 hb2)
    | (go_at_call 56; refine (treeTwo_any 4 ta tb ka la kc lc W.heap.size _ (by first | with_reducible exact HB2.out.size | with_reducible exact (below_drew HB2.out).size) (by first | with_reducible exact HT3.out | with_reducible exact HT3.out.below (below_drew (Below.refl _ _))) (by first | with_reducible exact HT2.out | with_reducible exact HT2.out.below (below_drew (Below.refl _ _)))).mono ?_; rintro e w3 ⟨b, rfl, hkat, hb3⟩; have hb3' : Below W.heap.size W w3 := (by first | exact HB2.out.trans (hb3.mono HB2.out.size) | exact (below_drew HB2.out).trans (hb3.mono HB2.out.size)); have hz3 := HZ.out.below hb3' HZ.out.lt; obtain ⟨⟨z0, z1, z2, z3⟩, f0, f1, f2, f3⟩ := blk_zero hz3; have HZ3 := hidIn hz3; have HB3 := hidIn hb3'; have HKAT := hidIn hkat; clear hz3 hb3 hb3' hkat))
  all_goals
    go_wp2_with fail
    refine bodyPost_ret (results_cell_row rfl _ _ w.heap.size 72 #[.int .i64 4, .string ⟨#[]⟩, .int .i64 0, .slice (some ⟨b, 0, none⟩) 2 2] (0, 0) _ rfl ?blk Try.underlying72 rfl infoT) rfl ?post
    case blk => change Blk _ _ _ _; (with_reducible exact blk_set4' HZ3.out _ _ _ _)
    case post =>
      have hbw : Below w.heap.size w w3 := HB.out.trans (HB3.out.mono HB.out.size)
      have hWS := HWS.out
      rw [HPL.out]
      refine tree_two (w := w) (B := W.heap.size) (t := ta) (u := tb) HKAT.out ?_ (by omega) ?_
      · intro k x v hk hv
        rw [set4_cell' (by omega)]
        exact hv
      · (repeat first | with_reducible exact hbw | with_reducible refine below_set ?_ (by omega) _ _)
set_option maxHeartbeats 4000000 in
set_option maxRecDepth 100000 in
theorem plainC_scale (n : O) (c : C) (q1 : One' n.val) (q2 : One' c.val) (ih1 : MakesO n) (ih2 : MakesC c) : MakesC (.scale n c) := by
  intro w
  have a0 := fun v xT w => notZero 30 v xT w (by decide)
  have a1 := fun v xT w => notOne 30 v xT w (by decide)
  have a2 := fun v xT w => notGive 30 v xT w (by decide)
  have a3 := fun v xT w => notAnd 30 v xT w (by decide)
  have a4 := fun v xT w => notOr 30 v xT w (by decide)
  have a5 := fun v xT w => isScale v xT w
  have hs1 := q1.store
  have cv1 := q1.cells
  have mv1 := q1.cells
  unfold Value.cells at mv1
  have hs2 := q2.store
  have cv2 := q2.cells
  have mv2 := q2.cells
  unfold Value.cells at mv2
  unfold C.val
  have HI1 := hidIn ih1
  have HI2 := hidIn ih2
  clear ih1 ih2 q1 q2
  go_enter Try.func34, Try.ntmps34
  go_wp2_with fail
  obtain ⟨W, hW⟩ : ∃ W, W = (w.alloc (.cells #[.int .i64 0, .string ⟨#[]⟩, .int .i64 0, .slice none 0 0] 72)).alloc (.cells #[n.val, c.val] 30) := ⟨_, rfl⟩
  have HB : Hid (Below w.heap.size w W) := by rw [hW]; exact below_alloc (below_alloc (Below.refl _ _) _) _
  have HZ : Hid (Blk W w.heap.size 72 zeroT) := by rw [hW]; exact blk_keep (blk_new rfl) _
  have HX : Hid (Blk W (w.heap.size + 1) 30 #[n.val, c.val]) := by rw [hW]; exact blk_new (by simp)
  have HWS : Hid (W.heap.size = w.heap.size + 2) := by unfold Hid; rw [hW]; simp
  rw [← hW]
  clear hW
  have x1 : W.cell? ⟨w.heap.size + 1, 0, none⟩ = some n.val := HX.out.cell 0
  have x2 : W.cell? ⟨w.heap.size + 1, 1, none⟩ = some c.val := HX.out.cell 1
  have HC1 : Hid (∀ X, Below W.heap.size W X → Calls Try.prog 57 #[n.val] X (fun e w1 => ∃ ka kc, e = .returned (.agg #[.int .i64 (plain n).kind, .string (plain n).s, .int .i64 (plain n).n, .slice ka (plain n).k.length kc]) ∧ TIn w1 W.heap.size (plain n) (.agg (four (plain n) ka kc)) ∧ Below W.heap.size W w1)) := by
    intro X hX 
    refine (HI1.out X).mono ?_
    rintro e w1 ⟨ka, kc, rfl, ht, hb⟩
    exact ⟨ka, kc, rfl, ht.low hX.size, hX.trans (hb.mono hX.size)⟩
  have HC2 : Hid (∀ X (t1 : T) (v1 : Value), Below W.heap.size W X → TIn X W.heap.size t1 v1 → Calls Try.prog 34 #[c.val] X (fun e w1 => ∃ ka kc, e = .returned (.agg #[.int .i64 (plainC c).kind, .string (plainC c).s, .int .i64 (plainC c).n, .slice ka (plainC c).k.length kc]) ∧ TIn w1 W.heap.size (plainC c) (.agg (four (plainC c) ka kc)) ∧ TIn w1 W.heap.size t1 v1 ∧ Below W.heap.size W w1)) := by
    intro X t1 v1 hX hk1
    refine (HI2.out X).mono ?_
    rintro e w1 ⟨ka, kc, rfl, ht, hb⟩
    exact ⟨ka, kc, rfl, ht.low hX.size, hk1.below hb, hX.trans (hb.mono hX.size)⟩
  clear HI1 HI2
  have HPL : Hid (plainC (.scale n c) = .mk 6 ⟨#[]⟩ 0 [plain n, plainC c]) := rfl
  generalize n.val = va at *
  generalize c.val = vb at *
  generalize plain n = ta at *
  generalize plainC c = tb at *
  clear hs1 cv1 mv1 hs2 cv2 mv2 a0 a1 a2 a3 a4 a5
  go_region_with (first
    | (go_at_call 57; (with_reducible show Calls _ _ #[va] _ _); refine (HC1.out _ (by first | with_reducible exact below_drew (Below.refl _ _) | with_reducible exact Below.refl _ _)).mono ?_; rintro e w1 ⟨ka, kc, rfl, ht1, hb1⟩; have y2 : w1.cell? ⟨w.heap.size + 1, 1, none⟩ = some vb := (HX.out.below hb1 HX.out.lt).cell 1; have HT1 := hidIn ht1; have HB1 := hidIn hb1; clear ht1 hb1)
    | (go_at_call 34; (with_reducible show Calls _ _ #[vb] _ _); refine (HC2.out _ ta (.agg (four ta ka kc)) (by first | with_reducible exact HB1.out | with_reducible exact below_drew HB1.out) (by first | with_reducible exact HT1.out | with_reducible exact HT1.out.below (below_drew (Below.refl _ _)))).mono ?_; rintro e w2 ⟨la, lc, rfl, ht2, ht3, hb2⟩; have HT2 := hidIn ht2; have HT3 := hidIn ht3; have HB2 := hidIn hb2; clear ht2 ht3 hb2)
    | (go_at_call 56; refine (treeTwo_any 6 ta tb ka la kc lc W.heap.size _ (by first | with_reducible exact HB2.out.size | with_reducible exact (below_drew HB2.out).size) (by first | with_reducible exact HT3.out | with_reducible exact HT3.out.below (below_drew (Below.refl _ _))) (by first | with_reducible exact HT2.out | with_reducible exact HT2.out.below (below_drew (Below.refl _ _)))).mono ?_; rintro e w3 ⟨b, rfl, hkat, hb3⟩; have hb3' : Below W.heap.size W w3 := (by first | exact HB2.out.trans (hb3.mono HB2.out.size) | exact (below_drew HB2.out).trans (hb3.mono HB2.out.size)); have hz3 := HZ.out.below hb3' HZ.out.lt; obtain ⟨⟨z0, z1, z2, z3⟩, f0, f1, f2, f3⟩ := blk_zero hz3; have HZ3 := hidIn hz3; have HB3 := hidIn hb3'; have HKAT := hidIn hkat; clear hz3 hb3 hb3' hkat))
  all_goals
    go_wp2_with fail
    refine bodyPost_ret (results_cell_row rfl _ _ w.heap.size 72 #[.int .i64 6, .string ⟨#[]⟩, .int .i64 0, .slice (some ⟨b, 0, none⟩) 2 2] (0, 0) _ rfl ?blk Try.underlying72 rfl infoT) rfl ?post
    case blk => change Blk _ _ _ _; (with_reducible exact blk_set4' HZ3.out _ _ _ _)
    case post =>
      have hbw : Below w.heap.size w w3 := HB.out.trans (HB3.out.mono HB.out.size)
      have hWS := HWS.out
      rw [HPL.out]
      refine tree_two (w := w) (B := W.heap.size) (t := ta) (u := tb) HKAT.out ?_ (by omega) ?_
      · intro k x v hk hv
        rw [set4_cell' (by omega)]
        exact hv
      · (repeat first | with_reducible exact hbw | with_reducible refine below_set ?_ (by omega) _ _)

end Go.Proofs.Ytngjlkdpplmpaaa
