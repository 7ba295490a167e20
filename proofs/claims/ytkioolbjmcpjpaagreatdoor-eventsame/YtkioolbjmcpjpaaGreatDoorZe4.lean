/- Do at no ledger: whatever the command, some event that may be made of it. -/
import Derived.Test.YtkioolbjmcpjpaaGreatDoorZeDoPass
import Derived.Test.YtkioolbjmcpjpaaGreatDoorZeDoTrade
import Derived.Test.YtkioolbjmcpjpaaGreatDoorZeDoFix
import Derived.Test.YtkioolbjmcpjpaaGreatDoorZeDoChoose
import Derived.Test.YtkioolbjmcpjpaaGreatDoorZeDoToday
import Derived.Test.YtkioolbjmcpjpaaGreatDoorZeDoSettle
import Derived.Test.YtkioolbjmcpjpaaGreatDoorZeDoElse
import Derived.Test.YtkioolbjmcpjpaaGreatDoorZe3
import Derived.Test.YtkioolbjmcpjpaaGreatDoorZe2
import Derived.Test.YtkioolbjmcpjpaaGreatDoorZe1
import Derived.Test.YtkioolbjmcpjpaaGreatDoorMaker
import Derived.Test.YtkioolbjmcpjpaaGreatDoorTermWalk
import Derived.Test.YtkioolbjmcpjpaaGreatDoorSize
import Derived.Test.YtkioolbjmcpjpaaGreatDoorNumber
import Derived.Test.YtkioolbjmcpjpaaGreatDoorWhole
import Derived.Deep.CutBlock
import Derived.ChangeArms
namespace Go.Proofs.YtkioolbjmcpjpaaGreatDoor.Ev
open Go.RowKit
set_option linter.unusedVariables false

theorem do_any (c : Cm) (w : World) (hc : c.In w) : Calls Tryz.prog 38 #[.pointer none, .agg c.cs, .int .i64 3] w (DoPost w) := by
  rcases (by omega : (0 ≤ c.k % 20 ∧ c.k % 20 < 1) ∨ (1 ≤ c.k % 20 ∧ c.k % 20 < 7) ∨ (7 ≤ c.k % 20 ∧ c.k % 20 < 11) ∨ (11 ≤ c.k % 20 ∧ c.k % 20 < 14) ∨ (14 ≤ c.k % 20 ∧ c.k % 20 < 17) ∨ (17 ≤ c.k % 20 ∧ c.k % 20 < 19) ∨ (19 ≤ c.k % 20 ∧ c.k % 20 < 20)) with h | h | h | h | h | h | h
  · exact do_pass c w hc h
  · exact do_trade c w hc h
  · exact do_fix c w hc h
  · exact do_choose c w hc h
  · exact do_today c w hc h
  · exact do_settle c w hc h
  · exact do_else c w hc h

end Go.Proofs.YtkioolbjmcpjpaaGreatDoor.Ev
namespace Go.Proofs.YtkioolbjmcpjpaaGreatDoor
open Go.RowKit
set_option linter.unusedVariables false

set_option maxHeartbeats 4000000 in
set_option maxRecDepth 100000 in
theorem plainC_and (l r : C) (q1 : One' l.val) (q2 : One' r.val) (ih1 : MakesC l) (ih2 : MakesC r) : MakesC (.and l r) := by
  intro w
  have a0 := fun v xT w => notZero 101 v xT w (by decide)
  have a1 := fun v xT w => notOne 101 v xT w (by decide)
  have a2 := fun v xT w => notGive 101 v xT w (by decide)
  have a3 := fun v xT w => isAnd v xT w
  have hs1 := q1.store
  have cv1 := q1.cells
  have mv1 := q1.cells
  unfold Value.cells at mv1
  have hs2 := q2.store
  have cv2 := q2.cells
  have mv2 := q2.cells
  unfold Value.cells at mv2
  unfold C.val
  have HI1 := hidIn ih1
  have HI2 := hidIn ih2
  clear ih1 ih2 q1 q2
  go_enter Tryz.func65, Tryz.ntmps65
  go_wp2_with fail
  obtain ⟨W, hW⟩ : ∃ W, W = (w.alloc (.cells #[.int .i64 0, .string ⟨#[]⟩, .int .i64 0, .slice none 0 0] 33)).alloc (.cells #[l.val, r.val] 101) := ⟨_, rfl⟩
  have HB : Hid (Below w.heap.size w W) := by rw [hW]; exact below_alloc (below_alloc (Below.refl _ _) _) _
  have HZ : Hid (Blk W w.heap.size 33 zeroT) := by rw [hW]; exact blk_keep (blk_new rfl) _
  have HX : Hid (Blk W (w.heap.size + 1) 101 #[l.val, r.val]) := by rw [hW]; exact blk_new (by simp)
  have HWS : Hid (W.heap.size = w.heap.size + 2) := by unfold Hid; rw [hW]; simp
  rw [← hW]
  clear hW
  have x1 : W.cell? ⟨w.heap.size + 1, 0, none⟩ = some l.val := HX.out.cell 0
  have x2 : W.cell? ⟨w.heap.size + 1, 1, none⟩ = some r.val := HX.out.cell 1
  have HC1 : Hid (∀ X, Below W.heap.size W X → Calls Tryz.prog 65 #[l.val] X (fun e w1 => ∃ ka kc, e = .returned (.agg #[.int .i64 (plainC l).kind, .string (plainC l).s, .int .i64 (plainC l).n, .slice ka (plainC l).k.length kc]) ∧ TIn w1 W.heap.size (plainC l) (.agg (four (plainC l) ka kc)) ∧ Below W.heap.size W w1)) := by
    intro X hX 
    refine (HI1.out X).mono ?_
    rintro e w1 ⟨ka, kc, rfl, ht, hb⟩
    exact ⟨ka, kc, rfl, ht.low hX.size, hX.trans (hb.mono hX.size)⟩
  have HC2 : Hid (∀ X (t1 : T) (v1 : Value), Below W.heap.size W X → TIn X W.heap.size t1 v1 → Calls Tryz.prog 65 #[r.val] X (fun e w1 => ∃ ka kc, e = .returned (.agg #[.int .i64 (plainC r).kind, .string (plainC r).s, .int .i64 (plainC r).n, .slice ka (plainC r).k.length kc]) ∧ TIn w1 W.heap.size (plainC r) (.agg (four (plainC r) ka kc)) ∧ TIn w1 W.heap.size t1 v1 ∧ Below W.heap.size W w1)) := by
    intro X t1 v1 hX hk1
    refine (HI2.out X).mono ?_
    rintro e w1 ⟨ka, kc, rfl, ht, hb⟩
    exact ⟨ka, kc, rfl, ht.low hX.size, hk1.below hb, hX.trans (hb.mono hX.size)⟩
  clear HI1 HI2
  have HPL : Hid (plainC (.and l r) = .mk 4 ⟨#[]⟩ 0 [plainC l, plainC r]) := rfl
  generalize l.val = va at *
  generalize r.val = vb at *
  generalize plainC l = ta at *
  generalize plainC r = tb at *
  clear hs1 cv1 mv1 hs2 cv2 mv2 a0 a1 a2 a3
  go_region_with (first
    | (go_at_call 65; (with_reducible show Calls _ _ #[va] _ _); refine (HC1.out _ (by first | with_reducible exact below_drew (Below.refl _ _) | with_reducible exact Below.refl _ _)).mono ?_; rintro e w1 ⟨ka, kc, rfl, ht1, hb1⟩; have y2 : w1.cell? ⟨w.heap.size + 1, 1, none⟩ = some vb := (HX.out.below hb1 HX.out.lt).cell 1; have HT1 := hidIn ht1; have HB1 := hidIn hb1; clear ht1 hb1)
    | (go_at_call 65; (with_reducible show Calls _ _ #[vb] _ _); refine (HC2.out _ ta (.agg (four ta ka kc)) (by first | with_reducible exact HB1.out | with_reducible exact below_drew HB1.out) (by first | with_reducible exact HT1.out | with_reducible exact HT1.out.below (below_drew (Below.refl _ _)))).mono ?_; rintro e w2 ⟨la, lc, rfl, ht2, ht3, hb2⟩; have HT2 := hidIn ht2; have HT3 := hidIn ht3; have HB2 := hidIn hb2; clear ht2 ht3 hb2)
    | (go_at_call 105; refine (treeTwo_any 4 ta tb ka la kc lc W.heap.size _ (by first | with_reducible exact HB2.out.size | with_reducible exact (below_drew HB2.out).size) (by first | with_reducible exact HT3.out | with_reducible exact HT3.out.below (below_drew (Below.refl _ _))) (by first | with_reducible exact HT2.out | with_reducible exact HT2.out.below (below_drew (Below.refl _ _)))).mono ?_; rintro e w3 ⟨b, rfl, hkat, hb3⟩; have hb3' : Below W.heap.size W w3 := (by first | exact HB2.out.trans (hb3.mono HB2.out.size) | exact (below_drew HB2.out).trans (hb3.mono HB2.out.size)); have hz3 := HZ.out.below hb3' HZ.out.lt; obtain ⟨⟨z0, z1, z2, z3⟩, f0, f1, f2, f3⟩ := blk_zero hz3; have HZ3 := hidIn hz3; have HB3 := hidIn hb3'; have HKAT := hidIn hkat; clear hz3 hb3 hb3' hkat))
  all_goals
    go_wp2_with fail
    refine bodyPost_ret (results_cell_row rfl _ _ w.heap.size 33 #[.int .i64 4, .string ⟨#[]⟩, .int .i64 0, .slice (some ⟨b, 0, none⟩) 2 2] (0, 0) _ rfl ?blk Tryz.underlying33 rfl infoT) rfl ?post
    case blk => change Blk _ _ _ _; (with_reducible exact blk_set4' HZ3.out _ _ _ _)
    case post =>
      have hbw : Below w.heap.size w w3 := HB.out.trans (HB3.out.mono HB.out.size)
      have hWS := HWS.out
      rw [HPL.out]
      refine tree_two (w := w) (B := W.heap.size) (t := ta) (u := tb) HKAT.out ?_ (by omega) ?_
      · intro k x v hk hv
        rw [set4_cell' (by omega)]
        exact hv
      · (repeat first | with_reducible exact hbw | with_reducible refine below_set ?_ (by omega) _ _)
set_option maxHeartbeats 4000000 in
set_option maxRecDepth 100000 in
theorem plainC_scale (n : O) (c : C) (q1 : One' n.val) (q2 : One' c.val) (ih1 : MakesO n) (ih2 : MakesC c) : MakesC (.scale n c) := by
  intro w
  have a0 := fun v xT w => notZero 107 v xT w (by decide)
  have a1 := fun v xT w => notOne 107 v xT w (by decide)
  have a2 := fun v xT w => notGive 107 v xT w (by decide)
  have a3 := fun v xT w => notAnd 107 v xT w (by decide)
  have a4 := fun v xT w => notOr 107 v xT w (by decide)
  have a5 := fun v xT w => isScale v xT w
  have hs1 := q1.store
  have cv1 := q1.cells
  have mv1 := q1.cells
  unfold Value.cells at mv1
  have hs2 := q2.store
  have cv2 := q2.cells
  have mv2 := q2.cells
  unfold Value.cells at mv2
  unfold C.val
  have HI1 := hidIn ih1
  have HI2 := hidIn ih2
  clear ih1 ih2 q1 q2
  go_enter Tryz.func65, Tryz.ntmps65
  go_wp2_with fail
  obtain ⟨W, hW⟩ : ∃ W, W = (w.alloc (.cells #[.int .i64 0, .string ⟨#[]⟩, .int .i64 0, .slice none 0 0] 33)).alloc (.cells #[n.val, c.val] 107) := ⟨_, rfl⟩
  have HB : Hid (Below w.heap.size w W) := by rw [hW]; exact below_alloc (below_alloc (Below.refl _ _) _) _
  have HZ : Hid (Blk W w.heap.size 33 zeroT) := by rw [hW]; exact blk_keep (blk_new rfl) _
  have HX : Hid (Blk W (w.heap.size + 1) 107 #[n.val, c.val]) := by rw [hW]; exact blk_new (by simp)
  have HWS : Hid (W.heap.size = w.heap.size + 2) := by unfold Hid; rw [hW]; simp
  rw [← hW]
  clear hW
  have x1 : W.cell? ⟨w.heap.size + 1, 0, none⟩ = some n.val := HX.out.cell 0
  have x2 : W.cell? ⟨w.heap.size + 1, 1, none⟩ = some c.val := HX.out.cell 1
  have HC1 : Hid (∀ X, Below W.heap.size W X → Calls Tryz.prog 106 #[n.val] X (fun e w1 => ∃ ka kc, e = .returned (.agg #[.int .i64 (plain n).kind, .string (plain n).s, .int .i64 (plain n).n, .slice ka (plain n).k.length kc]) ∧ TIn w1 W.heap.size (plain n) (.agg (four (plain n) ka kc)) ∧ Below W.heap.size W w1)) := by
    intro X hX 
    refine (HI1.out X).mono ?_
    rintro e w1 ⟨ka, kc, rfl, ht, hb⟩
    exact ⟨ka, kc, rfl, ht.low hX.size, hX.trans (hb.mono hX.size)⟩
  have HC2 : Hid (∀ X (t1 : T) (v1 : Value), Below W.heap.size W X → TIn X W.heap.size t1 v1 → Calls Tryz.prog 65 #[c.val] X (fun e w1 => ∃ ka kc, e = .returned (.agg #[.int .i64 (plainC c).kind, .string (plainC c).s, .int .i64 (plainC c).n, .slice ka (plainC c).k.length kc]) ∧ TIn w1 W.heap.size (plainC c) (.agg (four (plainC c) ka kc)) ∧ TIn w1 W.heap.size t1 v1 ∧ Below W.heap.size W w1)) := by
    intro X t1 v1 hX hk1
    refine (HI2.out X).mono ?_
    rintro e w1 ⟨ka, kc, rfl, ht, hb⟩
    exact ⟨ka, kc, rfl, ht.low hX.size, hk1.below hb, hX.trans (hb.mono hX.size)⟩
  clear HI1 HI2
  have HPL : Hid (plainC (.scale n c) = .mk 6 ⟨#[]⟩ 0 [plain n, plainC c]) := rfl
  generalize n.val = va at *
  generalize c.val = vb at *
  generalize plain n = ta at *
  generalize plainC c = tb at *
  clear hs1 cv1 mv1 hs2 cv2 mv2 a0 a1 a2 a3 a4 a5
  go_region_with (first
    | (go_at_call 106; (with_reducible show Calls _ _ #[va] _ _); refine (HC1.out _ (by first | with_reducible exact below_drew (Below.refl _ _) | with_reducible exact Below.refl _ _)).mono ?_; rintro e w1 ⟨ka, kc, rfl, ht1, hb1⟩; have y2 : w1.cell? ⟨w.heap.size + 1, 1, none⟩ = some vb := (HX.out.below hb1 HX.out.lt).cell 1; have HT1 := hidIn ht1; have HB1 := hidIn hb1; clear ht1 hb1)
    | (go_at_call 65; (with_reducible show Calls _ _ #[vb] _ _); refine (HC2.out _ ta (.agg (four ta ka kc)) (by first | with_reducible exact HB1.out | with_reducible exact below_drew HB1.out) (by first | with_reducible exact HT1.out | with_reducible exact HT1.out.below (below_drew (Below.refl _ _)))).mono ?_; rintro e w2 ⟨la, lc, rfl, ht2, ht3, hb2⟩; have HT2 := hidIn ht2; have HT3 := hidIn ht3; have HB2 := hidIn hb2; clear ht2 ht3 hb2)
    | (go_at_call 105; refine (treeTwo_any 6 ta tb ka la kc lc W.heap.size _ (by first | with_reducible exact HB2.out.size | with_reducible exact (below_drew HB2.out).size) (by first | with_reducible exact HT3.out | with_reducible exact HT3.out.below (below_drew (Below.refl _ _))) (by first | with_reducible exact HT2.out | with_reducible exact HT2.out.below (below_drew (Below.refl _ _)))).mono ?_; rintro e w3 ⟨b, rfl, hkat, hb3⟩; have hb3' : Below W.heap.size W w3 := (by first | exact HB2.out.trans (hb3.mono HB2.out.size) | exact (below_drew HB2.out).trans (hb3.mono HB2.out.size)); have hz3 := HZ.out.below hb3' HZ.out.lt; obtain ⟨⟨z0, z1, z2, z3⟩, f0, f1, f2, f3⟩ := blk_zero hz3; have HZ3 := hidIn hz3; have HB3 := hidIn hb3'; have HKAT := hidIn hkat; clear hz3 hb3 hb3' hkat))
  all_goals
    go_wp2_with fail
    refine bodyPost_ret (results_cell_row rfl _ _ w.heap.size 33 #[.int .i64 6, .string ⟨#[]⟩, .int .i64 0, .slice (some ⟨b, 0, none⟩) 2 2] (0, 0) _ rfl ?blk Tryz.underlying33 rfl infoT) rfl ?post
    case blk => change Blk _ _ _ _; (with_reducible exact blk_set4' HZ3.out _ _ _ _)
    case post =>
      have hbw : Below w.heap.size w w3 := HB.out.trans (HB3.out.mono HB.out.size)
      have hWS := HWS.out
      rw [HPL.out]
      refine tree_two (w := w) (B := W.heap.size) (t := ta) (u := tb) HKAT.out ?_ (by omega) ?_
      · intro k x v hk hv
        rw [set4_cell' (by omega)]
        exact hv
      · (repeat first | with_reducible exact hbw | with_reducible refine below_set ?_ (by omega) _ _)

end Go.Proofs.YtkioolbjmcpjpaaGreatDoor
namespace Go.Proofs.YtkioolbjmcpjpaaGreatDoor
open Go.RowKit
set_option linter.unusedVariables false

theorem plainCC_any (c : C) (h : c.Ok) : MakesC c := by
  induction c with
  | zero => exact plainC_zero
  | one s => exact plainC_one s
  | odd v => exact plainC_odd v h
  | give c ih => exact plainC_give c (c.one' h) (ih h)
  | and l r ihl ihr => exact plainC_and l r (l.one' h.1) (r.one' h.2) (ihl h.1) (ihr h.2)
  | or s l r ihl ihr => exact plainC_or s l r (l.one' h.2.1) (r.one' h.2.2) (ihl h.2.1) (ihr h.2.2)
  | scale o c ih => exact plainC_scale o c (o.one' h.1) (c.one' h.2) (plainO_any o h.1) (ih h.2)
  | when d c ih => exact plainC_when d c (c.one' h.2) (ih h.2)
  | iff o l r ihl ihr => exact plainC_iff o l r (o.one' h.1) (l.one' h.2.1) (r.one' h.2.2) (plainO_any o h.1) (ihl h.2.1) (ihr h.2.2)

end Go.Proofs.YtkioolbjmcpjpaaGreatDoor
namespace Go.Proofs.YtkioolbjmcpjpaaGreatDoor.Ev
open Go.RowKit
set_option linter.unusedVariables false

theorem infoE11 : (Tryz.prog.info? 35).map (·.size) = some 11 := by kernel_rfl
theorem m_skip11 {P : Program} {ops : Array Oper} {C : World → Prop} {Q : Act → World → Prop} {o : Oper} {r : List (Oper × Bool)} {a : Act} {w w' : World} (hw : Region.wanted o (yielded ops a.tmps) = true) (h : (execOp a.eval o).run P w = .ok .skip w') (hC : C w') (hk : Mx.mix P ops C Q r (a.put o.dst undef) w') : Mx.mix P ops C Q ((o, true) :: r) a w := by
  refine ⟨hw, ?_⟩
  unfold Mx.stepK
  rw [h]
  exact ⟨hC, hk⟩
theorem trow11 {W : World} {B M : Nat} {t : T} {v : Value} {B' : Nat} (h : TIn W B t v) (y : Array Value) (hM : M < B) (hB : B' ≤ B) : TIn (W.setRow M y) B' t v := (h.kept hB (fun b o z hb hc => by
  have hne : b ≠ M := by omega
  have e := setRow_other W M b y hne
  simp only [World.cell?, e] at hc ⊢
  exact hc))

set_option maxHeartbeats 8000000 in
set_option maxRecDepth 100000 in
theorem event_any (e : Ev) (hok : e.t.Ok) (w : World) : Calls Tryz.prog 37 #[e.val] w fun x w' => ∃ r, x = .returned r ∧ RIn w' w.heap.size e r ∧ Below w.heap.size w w' := by
  have HPL := hidIn (plainCC_any e.t hok)
  unfold MakesC TreePost at HPL
  obtain ⟨nb, -, hv⟩ := nil_runs e.t hok
  obtain ⟨k, i, n, l, u, d, v, t⟩ := e
  unfold Ev.val Ev.cs RIn
  simp only at *
  generalize t.val = tv at *
  generalize htk : (plainC t).kind = tk at *
  generalize hts : (plainC t).s = ts at *
  generalize htn : (plainC t).n = tn at *
  generalize hkl : (plainC t).k.length = kl at *
  have HFR : Hid (∀ ka kc, four (plainC t) ka kc = #[.int .i64 tk, .string ts, .int .i64 tn, .slice ka kl kc]) := fun ka kc => by unfold four; rw [htk, hts, htn, hkl]
  simp only [HFR.out] at HPL
  clear htk hts htn hkl HFR hok
  rcases hv with ⟨-, rfl⟩ | ⟨-, xt, xv, rfl⟩
  · have hx0 : ((w.alloc (.cells #[.int .i64 k, .string i, .string n, .string l, .string u, .int .i64 d, .int .i64 v, .nilIface] 30)).alloc (.cells #[.int .i64 0, .string ⟨#[]⟩, .string ⟨#[]⟩, .string ⟨#[]⟩, .string ⟨#[]⟩, .int .i64 0, .int .i64 0, .int .i64 0, .string ⟨#[]⟩, .int .i64 0, .slice none 0 0] 35)).heap[w.heap.size]? = some (.cells #[.int .i64 k, .string i, .string n, .string l, .string u, .int .i64 d, .int .i64 v, .nilIface] 30) := heap_keeps (heap_alloc_new _ _) _
    have hx1 : ((w.alloc (.cells #[.int .i64 k, .string i, .string n, .string l, .string u, .int .i64 d, .int .i64 v, .nilIface] 30)).alloc (.cells #[.int .i64 0, .string ⟨#[]⟩, .string ⟨#[]⟩, .string ⟨#[]⟩, .string ⟨#[]⟩, .int .i64 0, .int .i64 0, .int .i64 0, .string ⟨#[]⟩, .int .i64 0, .slice none 0 0] 35)).heap[w.heap.size + 1]? = some (.cells #[.int .i64 0, .string ⟨#[]⟩, .string ⟨#[]⟩, .string ⟨#[]⟩, .string ⟨#[]⟩, .int .i64 0, .int .i64 0, .int .i64 0, .string ⟨#[]⟩, .int .i64 0, .slice none 0 0] 35) := by
      have h := heap_alloc_new (w.alloc (.cells #[.int .i64 k, .string i, .string n, .string l, .string u, .int .i64 d, .int .i64 v, .nilIface] 30)) (.cells #[.int .i64 0, .string ⟨#[]⟩, .string ⟨#[]⟩, .string ⟨#[]⟩, .string ⟨#[]⟩, .int .i64 0, .int .i64 0, .int .i64 0, .string ⟨#[]⟩, .int .i64 0, .slice none 0 0] 35)
      rwa [show (w.alloc (.cells #[.int .i64 k, .string i, .string n, .string l, .string u, .int .i64 d, .int .i64 v, .nilIface] 30)).heap.size = w.heap.size + 1 by simp] at h
    have HA := hidIn hx0
    have HR := hidIn hx1
    have HBV : Hid (Below w.heap.size w ((w.alloc (.cells #[.int .i64 k, .string i, .string n, .string l, .string u, .int .i64 d, .int .i64 v, .nilIface] 30)).alloc (.cells #[.int .i64 0, .string ⟨#[]⟩, .string ⟨#[]⟩, .string ⟨#[]⟩, .string ⟨#[]⟩, .int .i64 0, .int .i64 0, .int .i64 0, .string ⟨#[]⟩, .int .i64 0, .slice none 0 0] 35))) := below_alloc (below_alloc (Below.refl _ _) _) _
    have HVZ : Hid (w.heap.size + 1 < ((w.alloc (.cells #[.int .i64 k, .string i, .string n, .string l, .string u, .int .i64 d, .int .i64 v, .nilIface] 30)).alloc (.cells #[.int .i64 0, .string ⟨#[]⟩, .string ⟨#[]⟩, .string ⟨#[]⟩, .string ⟨#[]⟩, .int .i64 0, .int .i64 0, .int .i64 0, .string ⟨#[]⟩, .int .i64 0, .slice none 0 0] 35)).heap.size) := by unfold Hid; simp
    clear hx0 hx1
    go_enter Tryz.func37, Tryz.ntmps37
    go_wp2_with fail
    generalize (w.alloc (.cells #[.int .i64 k, .string i, .string n, .string l, .string u, .int .i64 d, .int .i64 v, .nilIface] 30)).alloc (.cells #[.int .i64 0, .string ⟨#[]⟩, .string ⟨#[]⟩, .string ⟨#[]⟩, .string ⟨#[]⟩, .int .i64 0, .int .i64 0, .int .i64 0, .string ⟨#[]⟩, .int .i64 0, .slice none 0 0] 35) = V at *
    refine Mx.wp_region_mix (fun W => W.heap[w.heap.size]? = some (.cells #[.int .i64 k, .string i, .string n, .string l, .string u, .int .i64 d, .int .i64 v, .nilIface] 30)) [(0, false), (1, false), (2, false), (3, false), (4, false), (5, false), (6, false), (7, false), (8, false), (9, false), (10, false), (11, false), (12, false), (13, false), (14, false), (15, false), (16, true), (17, true), (18, true)] (by kernel_rfl) (by kernel_rfl) HA.out ?_ (by kernel_rfl)
    simp only [List.map_cons, List.map_nil, List.getD_cons_zero, List.getD_cons_succ]
    generalize hops : (#[_, _, _, _, _, _, _, _, _, _, _, _, _, _, _, _, _, _, _] : Array Oper) = ops
    clear hops
    refine Mx.m_pure (.pointer (some ⟨w.heap.size, 0, none⟩)) (Mx.wanted_none rfl) (fun W hW => ?_) ?_
    · go_simp
    simp only [Act.put, List.setIfInBounds_toArray, List.set_cons_zero, List.set_cons_succ]
    refine Mx.m_pure (.int .i64 k) (Mx.wanted_none rfl) (fun W hW => ?_) ?_
    · have x := cell_of_row _ _ 0 _ _ _ hW
      go_simp
    simp only [Act.put, List.setIfInBounds_toArray, List.set_cons_zero, List.set_cons_succ]
    refine Mx.m_pure (.pointer (some ⟨w.heap.size, 1, none⟩)) (Mx.wanted_none rfl) (fun W hW => ?_) ?_
    · go_simp
    simp only [Act.put, List.setIfInBounds_toArray, List.set_cons_zero, List.set_cons_succ]
    refine Mx.m_pure (.string i) (Mx.wanted_none rfl) (fun W hW => ?_) ?_
    · have x := cell_of_row _ _ 1 _ _ _ hW
      go_simp
    simp only [Act.put, List.setIfInBounds_toArray, List.set_cons_zero, List.set_cons_succ]
    refine Mx.m_pure (.pointer (some ⟨w.heap.size, 2, none⟩)) (Mx.wanted_none rfl) (fun W hW => ?_) ?_
    · go_simp
    simp only [Act.put, List.setIfInBounds_toArray, List.set_cons_zero, List.set_cons_succ]
    refine Mx.m_pure (.string n) (Mx.wanted_none rfl) (fun W hW => ?_) ?_
    · have x := cell_of_row _ _ 2 _ _ _ hW
      go_simp
    simp only [Act.put, List.setIfInBounds_toArray, List.set_cons_zero, List.set_cons_succ]
    refine Mx.m_pure (.pointer (some ⟨w.heap.size, 3, none⟩)) (Mx.wanted_none rfl) (fun W hW => ?_) ?_
    · go_simp
    simp only [Act.put, List.setIfInBounds_toArray, List.set_cons_zero, List.set_cons_succ]
    refine Mx.m_pure (.string l) (Mx.wanted_none rfl) (fun W hW => ?_) ?_
    · have x := cell_of_row _ _ 3 _ _ _ hW
      go_simp
    simp only [Act.put, List.setIfInBounds_toArray, List.set_cons_zero, List.set_cons_succ]
    refine Mx.m_pure (.pointer (some ⟨w.heap.size, 4, none⟩)) (Mx.wanted_none rfl) (fun W hW => ?_) ?_
    · go_simp
    simp only [Act.put, List.setIfInBounds_toArray, List.set_cons_zero, List.set_cons_succ]
    refine Mx.m_pure (.string u) (Mx.wanted_none rfl) (fun W hW => ?_) ?_
    · have x := cell_of_row _ _ 4 _ _ _ hW
      go_simp
    simp only [Act.put, List.setIfInBounds_toArray, List.set_cons_zero, List.set_cons_succ]
    refine Mx.m_pure (.pointer (some ⟨w.heap.size, 5, none⟩)) (Mx.wanted_none rfl) (fun W hW => ?_) ?_
    · go_simp
    simp only [Act.put, List.setIfInBounds_toArray, List.set_cons_zero, List.set_cons_succ]
    refine Mx.m_pure (.int .i64 d) (Mx.wanted_none rfl) (fun W hW => ?_) ?_
    · have x := cell_of_row _ _ 5 _ _ _ hW
      go_simp
    simp only [Act.put, List.setIfInBounds_toArray, List.set_cons_zero, List.set_cons_succ]
    refine Mx.m_pure (.pointer (some ⟨w.heap.size, 6, none⟩)) (Mx.wanted_none rfl) (fun W hW => ?_) ?_
    · go_simp
    simp only [Act.put, List.setIfInBounds_toArray, List.set_cons_zero, List.set_cons_succ]
    refine Mx.m_pure (.int .i64 v) (Mx.wanted_none rfl) (fun W hW => ?_) ?_
    · have x := cell_of_row _ _ 6 _ _ _ hW
      go_simp
    simp only [Act.put, List.setIfInBounds_toArray, List.set_cons_zero, List.set_cons_succ]
    refine Mx.m_pure (.pointer (some ⟨w.heap.size, 7, none⟩)) (Mx.wanted_none rfl) (fun W hW => ?_) ?_
    · go_simp
    simp only [Act.put, List.setIfInBounds_toArray, List.set_cons_zero, List.set_cons_succ]
    refine Mx.m_pure (.nilIface) (Mx.wanted_none rfl) (fun W hW => ?_) ?_
    · have x := cell_of_row _ _ 7 _ _ _ hW
      go_simp
    simp only [Act.put, List.setIfInBounds_toArray, List.set_cons_zero, List.set_cons_succ]
    refine Mx.m_call 65 #[.nilIface] (Mx.wanted_none rfl) ?_ ?_
    · go_simp
    refine (HPL.out V.drew).mono ?_
    rintro e w2 ⟨ka, kc, rfl, ht, hb⟩
    have HTI := hidIn ht
    have HB2 := hidIn (HBV.out.trans ((show Below V.heap.size V w2 from ⟨hb.os, hb.tape, hb.output, hb.size, hb.block⟩).mono HBV.out.size))
    have HA2 : Hid (w2.heap[w.heap.size]? = some (.cells #[.int .i64 k, .string i, .string n, .string l, .string u, .int .i64 d, .int .i64 v, .nilIface] 30)) := (hb.block _ (Array.getElem?_eq_some_iff.1 HA.out).1).trans HA.out
    have HR2 : Hid (w2.heap[w.heap.size + 1]? = some (.cells #[.int .i64 0, .string ⟨#[]⟩, .string ⟨#[]⟩, .string ⟨#[]⟩, .string ⟨#[]⟩, .int .i64 0, .int .i64 0, .int .i64 0, .string ⟨#[]⟩, .int .i64 0, .slice none 0 0] 35)) := (hb.block _ (Array.getElem?_eq_some_iff.1 HR.out).1).trans HR.out
    refine ⟨_, rfl, HA2.out, ?_⟩
    clear hb ht
    simp only [Act.put, List.setIfInBounds_toArray, List.set_cons_zero, List.set_cons_succ]
    refine Mx.m_run (.agg #[.int .i64 k, .string i, .string n, .string l, .string u, .int .i64 d, .int .i64 v, .int .i64 tk, .string ts, .int .i64 tn, .slice ka kl kc]) (Mx.wanted_none rfl) (w' := w2) ?_ HA2.out ?_
    · go_simp
    simp only [Act.put, List.setIfInBounds_toArray, List.set_cons_zero, List.set_cons_succ]
    refine m_skip11 (Mx.wanted_none rfl) (store_row_run 35 (.tmp 2) (.tmp 20) rfl (w.heap.size + 1) #[.int .i64 k, .string i, .string n, .string l, .string u, .int .i64 d, .int .i64 v, .int .i64 tk, .string ts, .int .i64 tn, .slice ka kl kc] rfl rfl _ _ HR2.out infoE11 rfl (by first | rfl | simp [Value.oneCell'])) ((setRow_other _ _ _ _ (by omega)).trans HA2.out) ?_
    refine Mx.m_nil (fun _ => ?_)
    simp only [Act.put]
    go_wp2_with fail
    refine bodyPost_ret (results_cell_row rfl _ _ (w.heap.size + 1) 35 #[.int .i64 k, .string i, .string n, .string l, .string u, .int .i64 d, .int .i64 v, .int .i64 tk, .string ts, .int .i64 tn, .slice ka kl kc] (0, 0) _ rfl (setRow_heap _ _ _ _ _ _ HR2.out) Tryz.underlying35 rfl infoE11) rfl ?_
    exact ⟨_, rfl, ⟨ka, kc, rfl, trow11 HTI.out _ HVZ.out (by have := HVZ.out; show w.heap.size ≤ V.heap.size; omega)⟩, row_below HB2.out (by omega) _⟩
  · have hx0 : ((w.alloc (.cells #[.int .i64 k, .string i, .string n, .string l, .string u, .int .i64 d, .int .i64 v, .iface xt xv] 30)).alloc (.cells #[.int .i64 0, .string ⟨#[]⟩, .string ⟨#[]⟩, .string ⟨#[]⟩, .string ⟨#[]⟩, .int .i64 0, .int .i64 0, .int .i64 0, .string ⟨#[]⟩, .int .i64 0, .slice none 0 0] 35)).heap[w.heap.size]? = some (.cells #[.int .i64 k, .string i, .string n, .string l, .string u, .int .i64 d, .int .i64 v, .iface xt xv] 30) := heap_keeps (heap_alloc_new _ _) _
    have hx1 : ((w.alloc (.cells #[.int .i64 k, .string i, .string n, .string l, .string u, .int .i64 d, .int .i64 v, .iface xt xv] 30)).alloc (.cells #[.int .i64 0, .string ⟨#[]⟩, .string ⟨#[]⟩, .string ⟨#[]⟩, .string ⟨#[]⟩, .int .i64 0, .int .i64 0, .int .i64 0, .string ⟨#[]⟩, .int .i64 0, .slice none 0 0] 35)).heap[w.heap.size + 1]? = some (.cells #[.int .i64 0, .string ⟨#[]⟩, .string ⟨#[]⟩, .string ⟨#[]⟩, .string ⟨#[]⟩, .int .i64 0, .int .i64 0, .int .i64 0, .string ⟨#[]⟩, .int .i64 0, .slice none 0 0] 35) := by
      have h := heap_alloc_new (w.alloc (.cells #[.int .i64 k, .string i, .string n, .string l, .string u, .int .i64 d, .int .i64 v, .iface xt xv] 30)) (.cells #[.int .i64 0, .string ⟨#[]⟩, .string ⟨#[]⟩, .string ⟨#[]⟩, .string ⟨#[]⟩, .int .i64 0, .int .i64 0, .int .i64 0, .string ⟨#[]⟩, .int .i64 0, .slice none 0 0] 35)
      rwa [show (w.alloc (.cells #[.int .i64 k, .string i, .string n, .string l, .string u, .int .i64 d, .int .i64 v, .iface xt xv] 30)).heap.size = w.heap.size + 1 by simp] at h
    have HA := hidIn hx0
    have HR := hidIn hx1
    have HBV : Hid (Below w.heap.size w ((w.alloc (.cells #[.int .i64 k, .string i, .string n, .string l, .string u, .int .i64 d, .int .i64 v, .iface xt xv] 30)).alloc (.cells #[.int .i64 0, .string ⟨#[]⟩, .string ⟨#[]⟩, .string ⟨#[]⟩, .string ⟨#[]⟩, .int .i64 0, .int .i64 0, .int .i64 0, .string ⟨#[]⟩, .int .i64 0, .slice none 0 0] 35))) := below_alloc (below_alloc (Below.refl _ _) _) _
    have HVZ : Hid (w.heap.size + 1 < ((w.alloc (.cells #[.int .i64 k, .string i, .string n, .string l, .string u, .int .i64 d, .int .i64 v, .iface xt xv] 30)).alloc (.cells #[.int .i64 0, .string ⟨#[]⟩, .string ⟨#[]⟩, .string ⟨#[]⟩, .string ⟨#[]⟩, .int .i64 0, .int .i64 0, .int .i64 0, .string ⟨#[]⟩, .int .i64 0, .slice none 0 0] 35)).heap.size) := by unfold Hid; simp
    clear hx0 hx1
    go_enter Tryz.func37, Tryz.ntmps37
    go_wp2_with fail
    generalize (w.alloc (.cells #[.int .i64 k, .string i, .string n, .string l, .string u, .int .i64 d, .int .i64 v, .iface xt xv] 30)).alloc (.cells #[.int .i64 0, .string ⟨#[]⟩, .string ⟨#[]⟩, .string ⟨#[]⟩, .string ⟨#[]⟩, .int .i64 0, .int .i64 0, .int .i64 0, .string ⟨#[]⟩, .int .i64 0, .slice none 0 0] 35) = V at *
    refine Mx.wp_region_mix (fun W => W.heap[w.heap.size]? = some (.cells #[.int .i64 k, .string i, .string n, .string l, .string u, .int .i64 d, .int .i64 v, .iface xt xv] 30)) [(0, false), (1, false), (2, false), (3, false), (4, false), (5, false), (6, false), (7, false), (8, false), (9, false), (10, false), (11, false), (12, false), (13, false), (14, false), (15, false), (16, true), (17, true), (18, true)] (by kernel_rfl) (by kernel_rfl) HA.out ?_ (by kernel_rfl)
    simp only [List.map_cons, List.map_nil, List.getD_cons_zero, List.getD_cons_succ]
    generalize hops : (#[_, _, _, _, _, _, _, _, _, _, _, _, _, _, _, _, _, _, _] : Array Oper) = ops
    clear hops
    refine Mx.m_pure (.pointer (some ⟨w.heap.size, 0, none⟩)) (Mx.wanted_none rfl) (fun W hW => ?_) ?_
    · go_simp
    simp only [Act.put, List.setIfInBounds_toArray, List.set_cons_zero, List.set_cons_succ]
    refine Mx.m_pure (.int .i64 k) (Mx.wanted_none rfl) (fun W hW => ?_) ?_
    · have x := cell_of_row _ _ 0 _ _ _ hW
      go_simp
    simp only [Act.put, List.setIfInBounds_toArray, List.set_cons_zero, List.set_cons_succ]
    refine Mx.m_pure (.pointer (some ⟨w.heap.size, 1, none⟩)) (Mx.wanted_none rfl) (fun W hW => ?_) ?_
    · go_simp
    simp only [Act.put, List.setIfInBounds_toArray, List.set_cons_zero, List.set_cons_succ]
    refine Mx.m_pure (.string i) (Mx.wanted_none rfl) (fun W hW => ?_) ?_
    · have x := cell_of_row _ _ 1 _ _ _ hW
      go_simp
    simp only [Act.put, List.setIfInBounds_toArray, List.set_cons_zero, List.set_cons_succ]
    refine Mx.m_pure (.pointer (some ⟨w.heap.size, 2, none⟩)) (Mx.wanted_none rfl) (fun W hW => ?_) ?_
    · go_simp
    simp only [Act.put, List.setIfInBounds_toArray, List.set_cons_zero, List.set_cons_succ]
    refine Mx.m_pure (.string n) (Mx.wanted_none rfl) (fun W hW => ?_) ?_
    · have x := cell_of_row _ _ 2 _ _ _ hW
      go_simp
    simp only [Act.put, List.setIfInBounds_toArray, List.set_cons_zero, List.set_cons_succ]
    refine Mx.m_pure (.pointer (some ⟨w.heap.size, 3, none⟩)) (Mx.wanted_none rfl) (fun W hW => ?_) ?_
    · go_simp
    simp only [Act.put, List.setIfInBounds_toArray, List.set_cons_zero, List.set_cons_succ]
    refine Mx.m_pure (.string l) (Mx.wanted_none rfl) (fun W hW => ?_) ?_
    · have x := cell_of_row _ _ 3 _ _ _ hW
      go_simp
    simp only [Act.put, List.setIfInBounds_toArray, List.set_cons_zero, List.set_cons_succ]
    refine Mx.m_pure (.pointer (some ⟨w.heap.size, 4, none⟩)) (Mx.wanted_none rfl) (fun W hW => ?_) ?_
    · go_simp
    simp only [Act.put, List.setIfInBounds_toArray, List.set_cons_zero, List.set_cons_succ]
    refine Mx.m_pure (.string u) (Mx.wanted_none rfl) (fun W hW => ?_) ?_
    · have x := cell_of_row _ _ 4 _ _ _ hW
      go_simp
    simp only [Act.put, List.setIfInBounds_toArray, List.set_cons_zero, List.set_cons_succ]
    refine Mx.m_pure (.pointer (some ⟨w.heap.size, 5, none⟩)) (Mx.wanted_none rfl) (fun W hW => ?_) ?_
    · go_simp
    simp only [Act.put, List.setIfInBounds_toArray, List.set_cons_zero, List.set_cons_succ]
    refine Mx.m_pure (.int .i64 d) (Mx.wanted_none rfl) (fun W hW => ?_) ?_
    · have x := cell_of_row _ _ 5 _ _ _ hW
      go_simp
    simp only [Act.put, List.setIfInBounds_toArray, List.set_cons_zero, List.set_cons_succ]
    refine Mx.m_pure (.pointer (some ⟨w.heap.size, 6, none⟩)) (Mx.wanted_none rfl) (fun W hW => ?_) ?_
    · go_simp
    simp only [Act.put, List.setIfInBounds_toArray, List.set_cons_zero, List.set_cons_succ]
    refine Mx.m_pure (.int .i64 v) (Mx.wanted_none rfl) (fun W hW => ?_) ?_
    · have x := cell_of_row _ _ 6 _ _ _ hW
      go_simp
    simp only [Act.put, List.setIfInBounds_toArray, List.set_cons_zero, List.set_cons_succ]
    refine Mx.m_pure (.pointer (some ⟨w.heap.size, 7, none⟩)) (Mx.wanted_none rfl) (fun W hW => ?_) ?_
    · go_simp
    simp only [Act.put, List.setIfInBounds_toArray, List.set_cons_zero, List.set_cons_succ]
    refine Mx.m_pure (.iface xt xv) (Mx.wanted_none rfl) (fun W hW => ?_) ?_
    · have x := cell_of_row _ _ 7 _ _ _ hW
      go_simp
    simp only [Act.put, List.setIfInBounds_toArray, List.set_cons_zero, List.set_cons_succ]
    refine Mx.m_call 65 #[.iface xt xv] (Mx.wanted_none rfl) ?_ ?_
    · go_simp
    refine (HPL.out V.drew).mono ?_
    rintro e w2 ⟨ka, kc, rfl, ht, hb⟩
    have HTI := hidIn ht
    have HB2 := hidIn (HBV.out.trans ((show Below V.heap.size V w2 from ⟨hb.os, hb.tape, hb.output, hb.size, hb.block⟩).mono HBV.out.size))
    have HA2 : Hid (w2.heap[w.heap.size]? = some (.cells #[.int .i64 k, .string i, .string n, .string l, .string u, .int .i64 d, .int .i64 v, .iface xt xv] 30)) := (hb.block _ (Array.getElem?_eq_some_iff.1 HA.out).1).trans HA.out
    have HR2 : Hid (w2.heap[w.heap.size + 1]? = some (.cells #[.int .i64 0, .string ⟨#[]⟩, .string ⟨#[]⟩, .string ⟨#[]⟩, .string ⟨#[]⟩, .int .i64 0, .int .i64 0, .int .i64 0, .string ⟨#[]⟩, .int .i64 0, .slice none 0 0] 35)) := (hb.block _ (Array.getElem?_eq_some_iff.1 HR.out).1).trans HR.out
    refine ⟨_, rfl, HA2.out, ?_⟩
    clear hb ht
    simp only [Act.put, List.setIfInBounds_toArray, List.set_cons_zero, List.set_cons_succ]
    refine Mx.m_run (.agg #[.int .i64 k, .string i, .string n, .string l, .string u, .int .i64 d, .int .i64 v, .int .i64 tk, .string ts, .int .i64 tn, .slice ka kl kc]) (Mx.wanted_none rfl) (w' := w2) ?_ HA2.out ?_
    · go_simp
    simp only [Act.put, List.setIfInBounds_toArray, List.set_cons_zero, List.set_cons_succ]
    refine m_skip11 (Mx.wanted_none rfl) (store_row_run 35 (.tmp 2) (.tmp 20) rfl (w.heap.size + 1) #[.int .i64 k, .string i, .string n, .string l, .string u, .int .i64 d, .int .i64 v, .int .i64 tk, .string ts, .int .i64 tn, .slice ka kl kc] rfl rfl _ _ HR2.out infoE11 rfl (by first | rfl | simp [Value.oneCell'])) ((setRow_other _ _ _ _ (by omega)).trans HA2.out) ?_
    refine Mx.m_nil (fun _ => ?_)
    simp only [Act.put]
    go_wp2_with fail
    refine bodyPost_ret (results_cell_row rfl _ _ (w.heap.size + 1) 35 #[.int .i64 k, .string i, .string n, .string l, .string u, .int .i64 d, .int .i64 v, .int .i64 tk, .string ts, .int .i64 tn, .slice ka kl kc] (0, 0) _ rfl (setRow_heap _ _ _ _ _ _ HR2.out) Tryz.underlying35 rfl infoE11) rfl ?_
    exact ⟨_, rfl, ⟨ka, kc, rfl, trow11 HTI.out _ HVZ.out (by have := HVZ.out; show w.heap.size ≤ V.heap.size; omega)⟩, row_below HB2.out (by omega) _⟩

end Go.Proofs.YtkioolbjmcpjpaaGreatDoor.Ev
namespace Go.Proofs.YtkioolbjmcpjpaaGreatDoor
open Go.RowKit
set_option linter.unusedVariables false

/-- What becomes of a tree that is spoilt itself. -/
def spoilHead (q : Nat) (v : Int) (s : ByteArray) (t : T) : T :=
  if q = 0 then .mk 0 ⟨#[]⟩ 0 [] else if q = 1 then .mk t.kind (cutTo s 20) t.n t.k else if q = 2 then .mk t.kind t.s v t.k
  else if q = 3 then (if 11 ≤ t.kind then .mk 1 ⟨#[]⟩ 0 [] else .mk 11 ⟨#[]⟩ 1 []) else t
mutual
/-- A tree that is spoilt at a place, and what is left of the place's number. -/
def spoilT (q : Nat) (v : Int) (s : ByteArray) : T → Int → T × Int
  | .mk kind s0 n k, a => if a = 0 then (spoilHead q v s (.mk kind s0 n k), -1) else (.mk kind s0 n (spoilL q v s k (a - 1)).1, (spoilL q v s k (a - 1)).2)
def spoilL (q : Nat) (v : Int) (s : ByteArray) : List T → Int → List T × Int
  | [], a => ([], a)
  | t :: l, a => if 0 ≤ a then ((spoilT q v s t a).1 :: (spoilL q v s l (spoilT q v s t a).2).1, (spoilL q v s l (spoilT q v s t a).2).2) else (t :: l, a)
end
theorem spoilL_snoc (q : Nat) (v : Int) (s : ByteArray) (t : T) (l : List T) : ∀ a : Int, spoilL q v s (l ++ [t]) a = if 0 ≤ (spoilL q v s l a).2 then ((spoilL q v s l a).1 ++ [(spoilT q v s t (spoilL q v s l a).2).1], (spoilT q v s t (spoilL q v s l a).2).2) else ((spoilL q v s l a).1 ++ [t], (spoilL q v s l a).2) := by
  induction l with
  | nil => intro a; simp only [List.nil_append, spoilL]; by_cases h : 0 ≤ a <;> simp [h]
  | cons x l ih =>
    intro a
    simp only [List.cons_append, spoilL]
    by_cases h : 0 ≤ a
    · simp only [if_pos h]
      rw [ih]
      split <;> rfl
    · simp only [if_neg h, List.cons_append]
theorem spoilL_len (q : Nat) (v : Int) (s : ByteArray) (l : List T) : ∀ a, (spoilL q v s l a).1.length = l.length := by
  induction l with
  | nil => intro a; simp [spoilL]
  | cons x l ih => intro a; simp only [spoilL]; split <;> simp [ih]
theorem spoilT_bd (q : Nat) (v : Int) (s : ByteArray) (t : T) : ∀ a, 0 ≤ a → -1 ≤ (spoilT q v s t a).2 ∧ (spoilT q v s t a).2 ≤ a := by
  induction t using T.ind with
  | _ kind s0 n k ih =>
    have hL : ∀ a, -1 ≤ a → -1 ≤ (spoilL q v s k a).2 ∧ (spoilL q v s k a).2 ≤ a := by
      induction k with
      | nil => intro a h; simp only [spoilL]; omega
      | cons x l ihl =>
        intro a h
        simp only [spoilL]
        split
        · rename_i h0
          have h1 := ih x (by simp) a h0
          have h2 := ihl (fun t ht => ih t (by simp [ht])) (spoilT q v s x a).2 h1.1
          simp only
          omega
        · simp only; omega
    intro a h
    unfold spoilT
    split
    · simp only; omega
    · have := hL (a - 1) (by omega)
      simp only
      omega
theorem spoilL_bd (q : Nat) (v : Int) (s : ByteArray) (l : List T) : ∀ a, -1 ≤ a → -1 ≤ (spoilL q v s l a).2 ∧ (spoilL q v s l a).2 ≤ a := by
  induction l with
  | nil => intro a h; simp only [spoilL]; omega
  | cons x l ihl =>
    intro a h
    simp only [spoilL]
    split
    · rename_i h0
      have h1 := spoilT_bd q v s x a h0
      have h2 := ihl (spoilT q v s x a).2 h1.1
      simp only
      omega
    · simp only; omega
theorem head_kind (q : Nat) (v : Int) (s : ByteArray) (t : T) : (spoilHead q v s t).kind = t.kind ∧ (spoilHead q v s t).k = t.k ∨ ((spoilHead q v s t).kind = 0 ∨ (spoilHead q v s t).kind = 1 ∨ (spoilHead q v s t).kind = 11) ∧ (spoilHead q v s t).k = [] := by
  unfold spoilHead
  split
  · exact .inr ⟨.inl rfl, rfl⟩
  · split
    · exact .inl ⟨rfl, rfl⟩
    · split
      · exact .inl ⟨rfl, rfl⟩
      · split
        · split
          · exact .inr ⟨.inr (.inl rfl), rfl⟩
          · exact .inr ⟨.inr (.inr rfl), rfl⟩
        · exact .inl ⟨rfl, rfl⟩
theorem head_s (q : Nat) (v : Int) (s : ByteArray) (t : T) (h : t.s.size ≤ 2147483648) : (spoilHead q v s t).s.size ≤ 2147483648 := by
  have he : (⟨#[]⟩ : ByteArray).size ≤ 2147483648 := by decide
  unfold spoilHead
  split
  · exact he
  · split
    · have := cutTo_size s 20
      show (cutTo s 20).size ≤ _
      omega
    · split
      · exact h
      · split
        · split
          · exact he
          · exact he
        · exact h
theorem head_n (q : Nat) (v : Int) (s : ByteArray) (t : T) (hv : -9223372036854775808 ≤ v ∧ v ≤ 9223372036854775807) (h : -9223372036854775808 ≤ t.n ∧ t.n ≤ 9223372036854775807) : -9223372036854775808 ≤ (spoilHead q v s t).n ∧ (spoilHead q v s t).n ≤ 9223372036854775807 := by
  unfold spoilHead
  split
  · exact ⟨by decide, by decide⟩
  · split
    · exact h
    · split
      · exact hv
      · split
        · split
          · exact ⟨by decide, by decide⟩
          · exact ⟨by decide, by decide⟩
        · exact h
theorem shaped_iff (t : T) : t.Shaped ↔ (t.kind = 13 ∨ t.kind = 15 ∨ t.kind = 16 → t.k.length = 2) ∧ (t.kind = 14 → t.k.length = 1) ∧ (t.kind = 13 ∨ t.kind = 14 ∨ t.kind = 15 ∨ t.kind = 16 ∨ t.k = []) ∧ -9223372036854775808 ≤ t.n ∧ t.n ≤ 9223372036854775807 ∧ t.s.size ≤ 2147483648 ∧ ShapedL t.k := by
  cases t
  unfold T.Shaped
  exact Iff.rfl
theorem shapedL_of : ∀ {l : List T}, (∀ t ∈ l, t.Shaped) → ShapedL l := by
  intro l
  induction l with
  | nil => intro _; unfold ShapedL; trivial
  | cons x l ih => intro h; unfold ShapedL; exact ⟨h x (by simp), ih (fun t ht => h t (by simp [ht]))⟩
theorem spoilL_all {P : T → Prop} (q : Nat) (v : Int) (s : ByteArray) (l : List T) (h : ∀ t ∈ l, P t ∧ ∀ a, P (spoilT q v s t a).1) : ∀ a, ∀ t ∈ (spoilL q v s l a).1, P t := by
  induction l with
  | nil => intro a t ht; simp [spoilL] at ht
  | cons x l ih =>
    intro a t ht
    simp only [spoilL] at ht
    split at ht
    · simp only [List.mem_cons] at ht
      rcases ht with rfl | ht
      · exact (h x (by simp)).2 a
      · exact ih (fun t ht => h t (by simp [ht])) _ t ht
    · exact (h t ht).1
theorem spoil_shaped (q : Nat) (v : Int) (s : ByteArray) (hv : -9223372036854775808 ≤ v ∧ v ≤ 9223372036854775807) (t : T) : t.Shaped → ∀ a, (spoilT q v s t a).1.Shaped := by
  induction t using T.ind with
  | _ kind s0 n k ih =>
    intro h a
    have h' := (shaped_iff _).1 h
    obtain ⟨h2, h1, h3, hn1, hn2, hs, hk⟩ := h'
    unfold spoilT
    split
    · rw [shaped_iff]
      simp only
      have hs' := head_s q v s (.mk kind s0 n k) hs
      have hn' := head_n q v s (.mk kind s0 n k) hv ⟨hn1, hn2⟩
      rcases head_kind q v s (.mk kind s0 n k) with ⟨e1, e2⟩ | ⟨e1, e2⟩
      · rw [e1, e2]; exact ⟨h2, h1, h3, hn'.1, hn'.2, hs', hk⟩
      · rw [e2]; exact ⟨fun h => by omega, fun h => by omega, .inr (.inr (.inr (.inr rfl))), hn'.1, hn'.2, hs', by unfold ShapedL; trivial⟩
    · rw [shaped_iff]
      have hl := spoilL_len q v s k (a - 1)
      simp only [T.kind, T.k, T.s, T.n] at *
      refine ⟨fun h => by rw [hl]; exact h2 h, fun h => by rw [hl]; exact h1 h, ?_, hn1, hn2, hs, shapedL_of (spoilL_all q v s k (fun t ht => ⟨shapedL_mem hk t ht, ih t ht (shapedL_mem hk t ht)⟩) _)⟩
      rcases h3 with h | h | h | h | h
      · exact .inl h
      · exact .inr (.inl h)
      · exact .inr (.inr (.inl h))
      · exact .inr (.inr (.inr (.inl h)))
      · refine .inr (.inr (.inr (.inr ?_)))
        subst h
        simp [spoilL]
theorem head_cnt (q : Nat) (v : Int) (s : ByteArray) (t : T) : (spoilHead q v s t).cnt ≤ t.cnt := by
  have h1 : 1 ≤ t.cnt := by cases t; unfold T.cnt; omega
  unfold spoilHead
  split
  · simp [T.cnt, cntL]; exact h1
  · split
    · cases t; simp [T.cnt, T.k]
    · split
      · cases t; simp [T.cnt, T.k]
      · split
        · split
          · simp [T.cnt, cntL]; exact h1
          · simp [T.cnt, cntL]; exact h1
        · exact Nat.le_refl _
theorem spoil_cnt (q : Nat) (v : Int) (s : ByteArray) (t : T) : ∀ a, (spoilT q v s t a).1.cnt ≤ t.cnt := by
  induction t using T.ind with
  | _ kind s0 n k ih =>
    have hL : ∀ a, cntL (spoilL q v s k a).1 ≤ cntL k := by
      induction k with
      | nil => intro a; simp [spoilL]
      | cons x l ihl =>
        intro a
        simp only [spoilL]
        split
        · have h1 := ih x (by simp) a
          have h2 := ihl (fun t ht => ih t (by simp [ht])) (spoilT q v s x a).2
          simp only [cntL]
          omega
        · exact Nat.le_refl _
    intro a
    unfold spoilT
    split
    · exact head_cnt q v s _
    · have := hL (a - 1)
      simp only [T.cnt]
      omega
theorem obsL_len (l : List T) : (obsL l).length = l.length := by
  induction l with
  | nil => rfl
  | cons x l ih => simp [obsL, ih]
theorem obsOf_nodes (t : T) : (obsOf t).nodes ≤ t.cnt := by
  induction t using T.ind with
  | _ kind s n k ih =>
    unfold obsOf T.cnt
    split
    · simp [O.nodes]
    · split
      · simp [O.nodes]
      · match k, ih with
        | [], _ => simp [obsL, O.nodes]
        | [a], ih =>
          have h1 := ih a (by simp)
          simp only [obsL, cntL]
          split
          · simp only [O.nodes]; omega
          · simp [O.nodes]
        | [a, b], ih =>
          have h1 := ih a (by simp)
          have h2 := ih b (by simp)
          simp only [obsL, cntL]
          split
          · simp only [O.nodes]; omega
          · split
            · simp only [O.nodes]; omega
            · split
              · simp only [O.nodes]; omega
              · simp [O.nodes]
        | a :: b :: c :: l, _ => simp [obsL, O.nodes]

end Go.Proofs.YtkioolbjmcpjpaaGreatDoor
namespace Go.Proofs.YtkioolbjmcpjpaaGreatDoor
open Go.RowKit
set_option linter.unusedVariables false

def OddPostC (w : World) (e : Ending) (w' : World) : Prop := ∃ c : C, e = .returned c.val ∧ c.Ok ∧ c.weight ≤ 10 ∧ Below w.heap.size w w'
theorem strangeC_of (t : TypeId) (x : Value) (h0 : t ≠ 40) (h1 : t ≠ 97) (h2 : t ≠ 99) (h3 : t ≠ 101) (h4 : t ≠ 103) (h5 : t ≠ 107) (h6 : t ≠ 109) (h7 : t ≠ 111) : (C.odd (.iface t x)).Ok := .inr ⟨t, x, rfl, h0, h1, h2, h3, h4, h5, h6, h7⟩

set_option maxHeartbeats 2000000 in
set_option maxRecDepth 100000 in
theorem oddC_any (n : Int) (w : World) (h1 : -9223372036854775808 ≤ n) (h2 : n ≤ 9223372036854775807) : Calls Tryz.prog 40 #[.int .i64 n] w (OddPostC w) := by
  obtain ⟨q, hq⟩ : ∃ q : Nat, n % 9 = q := ⟨(n % 9).toNat, by omega⟩
  have hq9 : q = 0 ∨ q = 1 ∨ q = 2 ∨ q = 3 ∨ q = 4 ∨ q = 5 ∨ q = 6 ∨ q = 7 ∨ q = 8 := by omega
  have hmm := @run_makeMap Tryz.prog
  go_enter Tryz.func40, Tryz.ntmps40
  go_wp2_with fail
  refine calls_same (within_any _ 9 _ (by omega) (by omega) h1 h2) ?_
  rw [hq]
  clear h1 h2 hq
  rcases hq9 with rfl | rfl | rfl | rfl | rfl | rfl | rfl | rfl | rfl
  all_goals
    go_wp2_with fail
    go_ret
    first
      | exact ⟨.odd .nilIface, rfl, .inl rfl, by simp [C.weight], by repeat first | exact Below.refl _ _ | refine below_alloc ?_ _⟩
      | exact ⟨.odd (.iface _ _), rfl, strangeC_of _ _ (by decide) (by decide) (by decide) (by decide) (by decide) (by decide) (by decide) (by decide), by simp [C.weight], by repeat first | exact Below.refl _ _ | refine below_alloc ?_ _⟩
theorem termOf_weight (t : T) (h : SC t) : (termOf t).weight ≤ 2 * t.cnt := by
  induction h with
  | leaf kind s n k h hs =>
    unfold termOf T.cnt
    split
    · simp only [C.weight]; omega
    · split
      · simp only [C.weight]; omega
      · split <;> first | omega | (simp only [C.weight]; omega)
  | give s n a ha iha => show (C.give (termOf a)).weight ≤ _; simp only [C.weight, T.cnt, cntL] at *; omega
  | and s n a b ha hb iha ihb => show (C.and (termOf a) (termOf b)).weight ≤ _; simp only [C.weight, T.cnt, cntL] at *; omega
  | or s n a b hs ha hb iha ihb => show (C.or s (termOf a) (termOf b)).weight ≤ _; simp only [C.weight, T.cnt, cntL] at *; omega
  | scale s n o a ho ha iha => have := obsOf_nodes o; show (C.scale (obsOf o) (termOf a)).weight ≤ _; simp only [C.weight, T.cnt, cntL] at *; omega
  | when s n a hn ha iha => show (C.when n (termOf a)).weight ≤ _; simp only [C.weight, T.cnt, cntL] at *; omega
  | iff s n o a b ho ha hb iha ihb => have := obsOf_nodes o; show (C.iff (obsOf o) (termOf a) (termOf b)).weight ≤ _; simp only [C.weight, T.cnt, cntL] at *; omega

end Go.Proofs.YtkioolbjmcpjpaaGreatDoor
namespace Go.Proofs.YtkioolbjmcpjpaaGreatDoor
open Go.RowKit
set_option linter.unusedVariables false

theorem infoTT : (Tryz.prog.info? 33).map (fun i => (i.zero, i.size, i.bytes)) = some (some (.agg zeroT), 4, 56) := by kernel_rfl
/-- A tree stands wherever the old blocks and the new ones are as they were. -/
def Spread (W0 : World) (B : Nat) (w : World) (t : T) (v : Value) : Prop := ∀ X : World, (∀ b o c, (b < W0.heap.size ∨ B ≤ b) → w.cell? ⟨b, o, none⟩ = some c → X.cell? ⟨b, o, none⟩ = some c) → TIn X 0 t v
theorem Spread.here {W0 w : World} {B : Nat} {t : T} {v : Value} (h : Spread W0 B w t v) : TIn w 0 t v := h w (fun _ _ _ _ h => h)
theorem spread_old {W0 w : World} {B : Nat} {t : T} {v : Value} (h : TIn W0 0 t v) (hb : Below W0.heap.size W0 w) : Spread W0 B w t v :=
  fun X hX => h.kept (Nat.le_refl _) (fun b o c _ hc => hX b o c (.inl (World.block_lt_of_cell? W0 _ hc)) ((hb.cell (p := ⟨b, o, none⟩) (World.block_lt_of_cell? W0 _ hc)).trans hc))
theorem spread_leaf {W0 w : World} {B : Nat} (kind : Int) (s : ByteArray) (n : Int) : Spread W0 B w (.mk kind s n []) (.agg #[.int .i64 kind, .string s, .int .i64 n, .slice none 0 0]) := fun X _ => tin_leaf X 0 kind s n
def SpoilPost (W0 w : World) (r : T × Int) (e : Ending) (w' : World) : Prop :=
  ∃ ka kc, e = .returned (.tuple #[.agg (four r.1 ka kc), .int .i64 r.2]) ∧ Spread W0 w.heap.size w' r.1 (.agg (four r.1 ka kc)) ∧ Below w.heap.size w w'
theorem tin_parts {X : World} {t : T} {a : Option Addr} {cap : Nat} (h : TIn X 0 t (.agg #[.int .i64 t.kind, .string t.s, .int .i64 t.n, .slice a t.k.length cap])) (kind : Int) (s : ByteArray) (n : Int) : TIn X 0 (.mk kind s n t.k) (.agg #[.int .i64 kind, .string s, .int .i64 n, .slice a t.k.length cap]) := by
  obtain ⟨a', cap', e, h4, h5, h6⟩ := h
  simp at e
  obtain ⟨rfl, rfl⟩ := e
  exact ⟨a, cap, rfl, h4, h5, h6⟩

/-- The cells of trees, one behind another. -/
def CellsAt (cur : Array Value) (j : Nat) (t : T) (ka : Option Addr) (kc : Nat) : Prop := cur[j * 4]? = some (.int .i64 t.kind) ∧ cur[j * 4 + 1]? = some (.string t.s) ∧ cur[j * 4 + 2]? = some (.int .i64 t.n) ∧ cur[j * 4 + 3]? = some (.slice ka t.k.length kc)
/-- A row of trees in block R: each stands wherever the old blocks and those behind R are as they were. -/
def RowIn (W0 : World) (R : Nat) (w : World) (cur : Array Value) (l : List T) : Prop := ∀ j t, l[j]? = some t → ∃ ka kc, CellsAt cur j t ka kc ∧ Spread W0 (R + 1) w t (.agg (four t ka kc))
theorem Spread.next {W0 w w' : World} {B : Nat} {t : T} {v : Value} (h : Spread W0 B w t v) (hc : ∀ b o c, (b < W0.heap.size ∨ B ≤ b) → w.cell? ⟨b, o, none⟩ = some c → w'.cell? ⟨b, o, none⟩ = some c) : Spread W0 B w' t v :=
  fun X hX => h X (fun b o c hb hw => hX b o c hb (hc b o c hb hw))
theorem Spread.low {W0 w : World} {B B' : Nat} {t : T} {v : Value} (h : Spread W0 B w t v) (hB : B' ≤ B) : Spread W0 B' w t v :=
  fun X hX => h X (fun b o c hb hw => hX b o c (by omega) hw)
theorem RowIn.next {W0 w w' : World} {R : Nat} {cur : Array Value} {l : List T} (h : RowIn W0 R w cur l) (hc : ∀ b o c, b ≠ R → w.cell? ⟨b, o, none⟩ = some c → w'.cell? ⟨b, o, none⟩ = some c) (hR : W0.heap.size ≤ R) : RowIn W0 R w' cur l := by
  intro j t hj
  obtain ⟨ka, kc, h1, h2⟩ := h j t hj
  exact ⟨ka, kc, h1, h2.next (fun b o c hb hw => hc b o c (by omega) hw)⟩
def put4 (cur : Array Value) (i : Nat) (a b c d : Value) : Array Value := (((cur.setIfInBounds (i * 4) a).setIfInBounds (i * 4 + 1) b).setIfInBounds (i * 4 + 2) c).setIfInBounds (i * 4 + 3) d
theorem put4_same (cur : Array Value) (i : Nat) (a b c d : Value) (h : i * 4 + 3 < cur.size) : (put4 cur i a b c d)[i * 4]? = some a ∧ (put4 cur i a b c d)[i * 4 + 1]? = some b ∧ (put4 cur i a b c d)[i * 4 + 2]? = some c ∧ (put4 cur i a b c d)[i * 4 + 3]? = some d := by
  unfold put4
  refine ⟨?_, ?_, ?_, ?_⟩ <;> simp [Array.getElem?_setIfInBounds] <;> omega
theorem put4_other (cur : Array Value) (i j : Nat) (a b c d : Value) (h : j ≠ i) (x : Nat) (hx : x < 4) : (put4 cur i a b c d)[j * 4 + x]? = cur[j * 4 + x]? := by
  unfold put4
  rw [Array.getElem?_setIfInBounds_ne (by omega), Array.getElem?_setIfInBounds_ne (by omega), Array.getElem?_setIfInBounds_ne (by omega), Array.getElem?_setIfInBounds_ne (by omega)]
theorem RowIn.put {W0 w : World} {R : Nat} {cur : Array Value} {l : List T} {i : Nat} {x t : T} {ka : Option Addr} {kc : Nat} (h : RowIn W0 R w cur l) (hi : l[i]? = some x) (hc : i * 4 + 3 < cur.size) (ht : Spread W0 (R + 1) w t (.agg (four t ka kc))) : RowIn W0 R w (put4 cur i (.int .i64 t.kind) (.string t.s) (.int .i64 t.n) (.slice ka t.k.length kc)) (l.set i t) := by
  intro j u hj
  by_cases hji : j = i
  · subst hji
    have hl := (List.getElem?_eq_some_iff.1 hi).1
    rw [List.getElem?_set_self hl] at hj
    injection hj with hj
    subst hj
    exact ⟨ka, kc, put4_same cur j _ _ _ _ hc, ht⟩
  · rw [List.getElem?_set_ne (fun e => hji e.symm)] at hj
    obtain ⟨kb, kd, h1, h2⟩ := h j u hj
    refine ⟨kb, kd, ?_, h2⟩
    obtain ⟨c0, c1, c2, c3⟩ := h1
    exact ⟨(put4_other cur i j _ _ _ _ hji 0 (by omega)).trans c0, (put4_other cur i j _ _ _ _ hji 1 (by omega)).trans c1, (put4_other cur i j _ _ _ _ hji 2 (by omega)).trans c2, (put4_other cur i j _ _ _ _ hji 3 (by omega)).trans c3⟩
/-- The cells of parts that lie in memory. -/
def rowCells (l : List T) (f : Nat → Option Addr × Nat) : Nat → List Value
  | i => match l with
    | [] => []
    | t :: r => .int .i64 t.kind :: .string t.s :: .int .i64 t.n :: .slice (f i).1 t.k.length (f i).2 :: rowCells r f (i + 1)
theorem rowCells_len (f : Nat → Option Addr × Nat) (l : List T) : ∀ i, (rowCells l f i).length = l.length * 4 := by
  induction l with
  | nil => intro i; simp [rowCells]
  | cons t l ih => intro i; simp only [rowCells, List.length_cons, ih]; omega
theorem rowCells_get (f : Nat → Option Addr × Nat) (l : List T) : ∀ i j t, l[j]? = some t → (rowCells l f i)[j * 4]? = some (.int .i64 t.kind) ∧ (rowCells l f i)[j * 4 + 1]? = some (.string t.s) ∧ (rowCells l f i)[j * 4 + 2]? = some (.int .i64 t.n) ∧ (rowCells l f i)[j * 4 + 3]? = some (.slice (f (i + j)).1 t.k.length (f (i + j)).2) := by
  induction l with
  | nil => intro i j t h; simp at h
  | cons u l ih =>
    intro i j t h
    cases j with
    | zero => simp at h; subst h; simp [rowCells]
    | succ j =>
      simp at h
      have := ih (i + 1) j t h
      simp only [rowCells]
      rw [show (j + 1) * 4 = j * 4 + 1 + 1 + 1 + 1 by omega, show i + (j + 1) = i + 1 + j by omega]
      simpa using this
theorem rowCells_one (f : Nat → Option Addr × Nat) (l : List T) : ∀ i, ∀ u ∈ rowCells l f i, u.oneCell' = true := by
  induction l with
  | nil => intro i u hu; simp [rowCells] at hu
  | cons t l ih =>
    intro i u hu
    simp only [rowCells, List.mem_cons] at hu
    rcases hu with rfl | rfl | rfl | rfl | hu
    · rfl
    · rfl
    · rfl
    · rfl
    · exact ih (i + 1) u hu
theorem kat_row {w : World} {l : List T} {b o : Nat} (h : KAt w 0 l (some ⟨b, o, none⟩) 0) : ∃ f : Nat → Option Addr × Nat, (∀ j t, l[j]? = some t → TIn w 0 t (.agg (four t (f j).1 (f j).2))) ∧ ∀ (j : Nat) (u : Value), (rowCells l f 0)[j]? = some u → w.cell? ((⟨b, o, none⟩ : Addr).add j) = some u := by
  have hx : ∀ j, ∃ p : Option Addr × Nat, ∀ t, l[j]? = some t → w.cell? ⟨b, o + j * 4, none⟩ = some (.int .i64 t.kind) ∧ w.cell? ⟨b, o + j * 4 + 1, none⟩ = some (.string t.s) ∧ w.cell? ⟨b, o + j * 4 + 2, none⟩ = some (.int .i64 t.n) ∧ w.cell? ⟨b, o + j * 4 + 3, none⟩ = some (.slice p.1 t.k.length p.2) ∧ TIn w 0 t (.agg (four t p.1 p.2)) := by
    intro j
    cases hj : l[j]? with
    | none => exact ⟨(none, 0), fun t ht => by cases ht⟩
    | some t =>
      obtain ⟨b', o', ka, kc, e, c0, c1, c2, c3, ht⟩ := h.cells hj
      injection e with e
      injection e with e1 e2
      subst e1 e2
      exact ⟨(ka, kc), fun t' ht' => by injection ht' with ht'; subst ht'; exact ⟨c0, c1, c2, c3, ht⟩⟩
  refine ⟨fun j => Classical.choose (hx j), fun j t hj => ((Classical.choose_spec (hx j)) t hj).2.2.2.2, ?_⟩
  intro j u hu
  have hlen := (List.getElem?_eq_some_iff.1 hu).1
  rw [rowCells_len] at hlen
  obtain ⟨q, r, hr, rfl⟩ : ∃ q r, r < 4 ∧ j = q * 4 + r := ⟨j / 4, j % 4, Nat.mod_lt _ (by omega), by omega⟩
  obtain ⟨t, ht⟩ : ∃ t, l[q]? = some t := ⟨_, List.getElem?_eq_getElem (by omega)⟩
  have hg := rowCells_get (fun j => Classical.choose (hx j)) l 0 q t ht
  have hs := (Classical.choose_spec (hx q)) t ht
  rw [Nat.zero_add] at hg
  rw [Go.WideShapes.add_plain, ← Nat.add_assoc]
  have h4 : r = 0 ∨ r = 1 ∨ r = 2 ∨ r = 3 := by omega
  rcases h4 with rfl | rfl | rfl | rfl
  · rw [Nat.add_zero] at hu ⊢; rw [hg.1] at hu; injection hu with hu; subst hu; exact hs.1
  · rw [hg.2.1] at hu; injection hu with hu; subst hu; exact hs.2.1
  · rw [hg.2.2.1] at hu; injection hu with hu; subst hu; exact hs.2.2.1
  · rw [hg.2.2.2] at hu; injection hu with hu; subst hu; exact hs.2.2.2.1

end Go.Proofs.YtkioolbjmcpjpaaGreatDoor
namespace Go.Proofs.YtkioolbjmcpjpaaGreatDoor
open Go.RowKit
set_option linter.unusedVariables false

theorem len_cnt (l : List T) : l.length ≤ cntL l := by
  induction l with
  | nil => simp
  | cons t l ih => have h1 : 1 ≤ t.cnt := by cases t; unfold T.cnt; omega
                   simp only [cntL, List.length_cons]; omega
theorem cell_set4 {W : World} {R i : Nat} {a b c d : Value} {k o : Nat} (h : k ≠ R) : ((((W.setCell ⟨R, i, none⟩ a).setCell ⟨R, i + 1, none⟩ b).setCell ⟨R, i + 2, none⟩ c).setCell ⟨R, i + 3, none⟩ d).cell? ⟨k, o, none⟩ = W.cell? ⟨k, o, none⟩ := by
  rw [World.cell?_setCell_other _ _ _ _ (by intro e; injection e with e; exact h e.symm), World.cell?_setCell_other _ _ _ _ (by intro e; injection e with e; exact h e.symm), World.cell?_setCell_other _ _ _ _ (by intro e; injection e with e; exact h e.symm), World.cell?_setCell_other _ _ _ _ (by intro e; injection e with e; exact h e.symm)]
theorem blk_put4 {W : World} {R ty : Nat} {cur : Array Value} (h : Blk W R ty cur) (i : Nat) (a b c d : Value) : Blk ((((W.setCell ⟨R, i * 4, none⟩ a).setCell ⟨R, i * 4 + 1, none⟩ b).setCell ⟨R, i * 4 + 2, none⟩ c).setCell ⟨R, i * 4 + 3, none⟩ d) R ty (put4 cur i a b c d) :=
  (((h.set _ a).set _ b).set _ c).set _ d
theorem put4_size (cur : Array Value) (i : Nat) (a b c d : Value) : (put4 cur i a b c d).size = cur.size := by simp [put4]
/-- What stands in the row behind so many rounds. -/
def rowAt (q : Nat) (v : Int) (s : ByteArray) (k : List T) (a : Int) (i : Nat) : List T := (spoilL q v s (k.take i) a).1 ++ k.drop i
theorem rowAt_get (q : Nat) (v : Int) (s : ByteArray) (k : List T) (a : Int) (i : Nat) (hi : i < k.length) : (rowAt q v s k a i)[i]? = k[i]? := by
  have hl := spoilL_len q v s (k.take i) a
  rw [List.length_take, Nat.min_eq_left (by omega)] at hl
  unfold rowAt
  rw [List.getElem?_append_right (by omega), hl, Nat.sub_self, List.getElem?_drop, Nat.add_zero]
theorem rowAt_len (q : Nat) (v : Int) (s : ByteArray) (k : List T) (a : Int) (i : Nat) : (rowAt q v s k a i).length = k.length := by
  have hl := spoilL_len q v s (k.take i) a
  unfold rowAt
  rw [List.length_append, hl, ← List.length_append, List.take_append_drop]
theorem rowAt_next (q : Nat) (v : Int) (s : ByteArray) (k : List T) (a : Int) (i : Nat) (t : T) (ht : k[i]? = some t) : rowAt q v s k a (i + 1) = (if 0 ≤ (spoilL q v s (k.take i) a).2 then (rowAt q v s k a i).set i (spoilT q v s t (spoilL q v s (k.take i) a).2).1 else rowAt q v s k a i) ∧ (spoilL q v s (k.take (i + 1)) a).2 = if 0 ≤ (spoilL q v s (k.take i) a).2 then (spoilT q v s t (spoilL q v s (k.take i) a).2).2 else (spoilL q v s (k.take i) a).2 := by
  have hi := (List.getElem?_eq_some_iff.1 ht).1
  have hl := spoilL_len q v s (k.take i) a
  rw [List.length_take, Nat.min_eq_left (by omega)] at hl
  have hd : k.drop i = t :: k.drop (i + 1) := by
    rw [List.drop_eq_getElem_cons hi]
    congr 1
    exact (List.getElem?_eq_some_iff.1 ht).2
  unfold rowAt
  rw [take_more _ _ _ ht, spoilL_snoc, hd]
  split
  · simp only [List.append_assoc, List.singleton_append]
    rw [List.set_append_right _ _ (by omega), hl, Nat.sub_self, List.set_cons_zero]
    simp
  · simp

/-- Parts that are as they were from a place on. -/
def OldIn (W0 : World) (cur : Array Value) (k : List T) (i : Nat) : Prop := ∀ j t, i ≤ j → k[j]? = some t → ∃ ka kc, CellsAt cur j t ka kc ∧ TIn W0 0 t (.agg (four t ka kc))
theorem OldIn.put {W0 : World} {cur : Array Value} {k : List T} {i : Nat} (h : OldIn W0 cur k i) (a b c d : Value) : OldIn W0 (put4 cur i a b c d) k (i + 1) := by
  intro j t hj ht
  obtain ⟨ka, kc, ⟨c0, c1, c2, c3⟩, h2⟩ := h j t (by omega) ht
  exact ⟨ka, kc, ⟨(put4_other cur i j _ _ _ _ (by omega) 0 (by omega)).trans c0, (put4_other cur i j _ _ _ _ (by omega) 1 (by omega)).trans c1, (put4_other cur i j _ _ _ _ (by omega) 2 (by omega)).trans c2, (put4_other cur i j _ _ _ _ (by omega) 3 (by omega)).trans c3⟩, h2⟩
/-- A copy of a tree's parts. -/
structure KidsRow (W0 w w' : World) (ro : Option Addr) (c2 R : Nat) (cur : Array Value) (k : List T) : Prop where
  cap : k.length ≤ c2 ∧ c2 ≤ 9223372036854775807
  at_ : k ≠ [] → ro = some ⟨R, 0, none⟩ ∧ Blk w' R 33 cur ∧ k.length * 4 ≤ cur.size
  base : w.heap.size ≤ R
  row : RowIn W0 R w' cur k
  old : OldIn W0 cur k 0
  below : Below w.heap.size w w'
theorem run_append_nil (w : World) (ty cap : Nat) : (Builtin.append_ #[31, 31] ty #[.slice none 0 0, .slice none 0 cap]).run Tryz.prog w = .ok (.slice none 0 0) w := by
  obtain ⟨i0, hi, hz0, hz1, hz2⟩ := info_parts infoTT
  simp [Builtin.append_, run_underlying Tryz.underlying31, sizeOf, typeInfo, hi, Builtin.lenOf, Builtin.firstCells]
theorem wpList_append_kids {ops : Array Oper} {rest : List Oper} {o : Oper} {a : Act} {Q : Exit → Act → World → Prop} (w : World) (hgd : o.guard = none) (s x : Operand)
    (ho : o.op = .call { callee := .builtin .append, args := #[s, x], argTypes := #[31, 31] })
    (hs : a.eval s = .slice none 0 0) (k : List T) (ao : Option Addr) (cap : Nat) (hx : a.eval x = .slice ao k.length cap) (W0 : World) (hK : KAt W0 0 k ao 0) (hb : Below W0.heap.size W0 w) (hkl : k.length ≤ 1000000)
    (h : ∀ ro c2 R cur w', KidsRow W0 w w' ro c2 R cur k → wpList Tryz.prog ops Q rest (a.put o.dst (.slice ro k.length c2)) w') : wpList Tryz.prog ops Q (o :: rest) a w := by
  obtain ⟨i0, hi, hz0, hz1, hz2⟩ := info_parts infoTT
  cases ao with
  | none =>
    have hk : k = [] := by
      cases k with
      | nil => rfl
      | cons t l => exfalso; unfold KAt at hK; obtain ⟨⟨b, o, e, _⟩, _⟩ := hK; cases e
    subst hk
    refine wpList_plain hgd fun K hKK => ?_
    have hrun := run_append_nil w o.type cap
    have hk2 := h none 0 w.heap.size #[] w ⟨⟨Nat.le_refl _, by simp⟩, fun hn => absurd rfl hn, Nat.le_refl _, fun j t hj => by simp at hj, fun j t _ hj => by simp at hj, Below.refl _ _⟩
    unfold Oper.wp
    simp at hx
    simp [execOp, ho, resolve, invoke, builtin, hs, hx, hrun, Result.andThen]
    exact hKK _ _ hk2
  | some ad =>
    obtain ⟨f, hT, hC⟩ : ∃ f : Nat → Option Addr × Nat, (∀ j t, k[j]? = some t → TIn W0 0 t (.agg (four t (f j).1 (f j).2))) ∧ ∀ (j : Nat) (u : Value), (rowCells k f 0)[j]? = some u → W0.cell? (ad.add j) = some u := by
      cases k with
      | nil => exact ⟨fun _ => (none, 0), fun j t hj => by simp at hj, fun j u hj => by simp [rowCells] at hj⟩
      | cons t l =>
        have hK2 := hK
        unfold KAt at hK2
        obtain ⟨⟨b, o, e, _⟩, _⟩ := hK2
        injection e with e
        subst e
        exact kat_row hK
    refine wpList_append_own_at w hgd s x 31 ho w.heap.size 33 i0 (.agg zeroT) 4 56 Tryz.underlying31 hi hz0 hz1 hz2 rfl (by decide) _ _ _ hs (World.ownsRow_nil _ _ _ _) ad k.length cap (rowCells k f 0) hx (rowCells_len f k 0) ?_ (rowCells_one f k 0) (by unfold maxLen; omega) (by omega) (Nat.le_refl _) ?_
    · intro j u hj
      have hc := hC j u hj
      exact (hb.cell (World.block_lt_of_cell? W0 _ hc)).trans hc
    · intro v' w' hown hgrow _ _
      have hbl : Below w.heap.size w w' := (Below.refl _ _).grown hgrow (Nat.le_refl _) (fun k hk => by simp [Value.ownBlock] at hk)
      simp only [Nat.zero_add, List.nil_append] at hown
      rcases hown.2 with ⟨rfl, h0⟩ | ⟨g, c2, cur, rfl, hg, hG, hn, hm, hz, ht⟩
      · have hk : k = [] := List.length_eq_zero_iff.1 h0
        subst hk
        exact h none 0 w.heap.size #[] w' ⟨⟨Nat.le_refl _, by simp⟩, fun hn => absurd rfl hn, Nat.le_refl _, fun j t hj => by simp at hj, fun j t _ hj => by simp at hj, hbl⟩
      · have hcells : ∀ j t, k[j]? = some t → CellsAt cur j t (f j).1 (f j).2 := by
          intro j t hj
          have hjl := (List.getElem?_eq_some_iff.1 hj).1
          have hgt := rowCells_get f k 0 j t hj
          have hcur : ∀ m, m < k.length * 4 → cur[m]? = (rowCells k f 0)[m]? := by
            intro m hm
            rw [← ht, List.getElem?_take, if_pos hm, Array.getElem?_toList]
          rw [Nat.zero_add] at hgt
          exact ⟨(hcur _ (by omega)).trans hgt.1, (hcur _ (by omega)).trans hgt.2.1, (hcur _ (by omega)).trans hgt.2.2.1, (hcur _ (by omega)).trans hgt.2.2.2⟩
        exact h _ c2 g cur w' ⟨⟨hn, by unfold maxLen at hm; omega⟩, fun _ => ⟨rfl, hG, by omega⟩, hg, fun j t hj => ⟨(f j).1, (f j).2, hcells j t hj, spread_old (hT j t hj) (hb.trans (hbl.mono hb.size))⟩, fun j t _ hj => ⟨(f j).1, (f j).2, hcells j t hj, hT j t hj⟩, hbl⟩

end Go.Proofs.YtkioolbjmcpjpaaGreatDoor
namespace Go.Proofs.YtkioolbjmcpjpaaGreatDoor
open Go.RowKit
set_option linter.unusedVariables false

def SpoiltPost (W0 w : World) (t : T) (q : Nat) (v : Int) (s : ByteArray) (e : Ending) (w' : World) : Prop :=
  ∃ a ka kc, e = .returned (.agg (four (spoilT q v s t a).1 ka kc)) ∧ Spread W0 w.heap.size w' (spoilT q v s t a).1 (.agg (four (spoilT q v s t a).1 ka kc)) ∧ Below w.heap.size w w'

end Go.Proofs.YtkioolbjmcpjpaaGreatDoor
namespace Go.Proofs.YtkioolbjmcpjpaaGreatDoor
open Go.RowKit
set_option linter.unusedVariables false

def OddPost (w : World) (e : Ending) (w' : World) : Prop := ∃ o : O, e = .returned o.val ∧ o.Ok ∧ (o = .const 1 ∨ ∃ v, o = .odd v) ∧ Below w.heap.size w w'
theorem strange_of (t : TypeId) (x : Value) (h0 : t ≠ 155) (h1 : t ≠ 164) (h2 : t ≠ 166) (h3 : t ≠ 168) (h4 : t ≠ 169) (h5 : t ≠ 170) : (O.odd (.iface t x)).Ok := .inr ⟨t, x, rfl, h0, h1, h2, h3, h4, h5⟩

set_option maxHeartbeats 2000000 in
set_option maxRecDepth 100000 in
theorem odd_any (n : Int) (w : World) (h1 : -9223372036854775808 ≤ n) (h2 : n ≤ 9223372036854775807) : Calls Tryz.prog 40 #[.int .i64 n] w (OddPost w) := by
  obtain ⟨q, hq⟩ : ∃ q : Nat, n % 9 = q := ⟨(n % 9).toNat, by omega⟩
  have hq9 : q = 0 ∨ q = 1 ∨ q = 2 ∨ q = 3 ∨ q = 4 ∨ q = 5 ∨ q = 6 ∨ q = 7 ∨ q = 8 := by omega
  have hmm := @run_makeMap Tryz.prog
  go_enter Tryz.func40, Tryz.ntmps40
  go_wp2_with fail
  refine calls_same (within_any _ 9 _ (by omega) (by omega) h1 h2) ?_
  rw [hq]
  clear h1 h2 hq
  rcases hq9 with rfl | rfl | rfl | rfl | rfl | rfl | rfl | rfl | rfl
  all_goals
    go_wp2_with fail
    go_ret
    first
      | exact ⟨.odd .nilIface, rfl, .inl rfl, .inr ⟨_, rfl⟩, by repeat first | exact Below.refl _ _ | refine below_alloc ?_ _⟩
      | exact ⟨.const 1, rfl, by simp [O.Ok], .inl rfl, by repeat first | exact Below.refl _ _ | refine below_alloc ?_ _⟩
      | exact ⟨.odd (.iface _ _), rfl, strange_of _ _ (by decide) (by decide) (by decide) (by decide) (by decide) (by decide), .inr ⟨_, rfl⟩, by repeat first | exact Below.refl _ _ | refine below_alloc ?_ _⟩

end Go.Proofs.YtkioolbjmcpjpaaGreatDoor
namespace Go.Proofs.YtkioolbjmcpjpaaGreatDoor
open Go.RowKit
set_option linter.unusedVariables false

def SomePost (w : World) (e : Ending) (w' : World) : Prop :=
  ∃ (o : O) (ka : Option Addr) (kc : Nat), e = .returned (.tuple #[o.val, .agg #[.int .i64 (plain o).kind, .string (plain o).s, .int .i64 (plain o).n, .slice ka (plain o).k.length kc]]) ∧ o.Ok ∧ o.nodes ≤ 1000 ∧ TIn w' w.heap.size (plain o) (.agg (four (plain o) ka kc)) ∧ Below w.heap.size w w'
theorem tdiv_in (a b : Int) (hb : 2 ≤ b) (h1 : -9223372036854775808 ≤ a) (h2 : a ≤ 9223372036854775807) : -9223372036854775808 ≤ a.tdiv b ∧ a.tdiv b ≤ 9223372036854775807 := by
  by_cases h : 0 ≤ a
  · have h3 := Int.tdiv_nonneg h (by omega : 0 ≤ b)
    have h4 : a.tdiv b ≤ a := Int.tdiv_le_self b h
    omega
  · have h3 := Int.tdiv_nonneg (by omega : 0 ≤ -a) (by omega : 0 ≤ b)
    have h4 : (-a).tdiv b ≤ -a := Int.tdiv_le_self b (by omega)
    rw [Int.neg_tdiv] at h3 h4
    omega
/-- A slot, and a struct's cell, as results. -/
theorem results_slot_cell {P : Program} {fn : Func} {p q : Tmp} {ty : TypeId} (h : fn.results = #[.tmp q, .cell p ty]) (tmps : Array Value) (w : World) (g : Nat) (t : TypeId) (cs : Array Value) (fr : Nat × Nat) (d : TypeDesc)
    (hp : tmps.getD p undef = .pointer (some ⟨g, 0, none⟩)) (hg : w.heap[g]? = some (.cells cs t fr))
    (hu : P.underlying ty = some d) (hd : (match d with | .struct _ | .array _ _ => true | _ => false) = true) (hi : (P.info? ty).map (·.size) = some cs.size) :
    (results fn tmps).run P w = .ok (.tuple #[tmps.getD q undef, .agg cs]) w := by
  have hp' : tmps[p]?.getD undef = .pointer (some ⟨g, 0, none⟩) := by simpa using hp
  simp [results, h, hp', asAddr, run_loadVar_row w g t ty cs fr d hg hu hd hi]

end Go.Proofs.YtkioolbjmcpjpaaGreatDoor
namespace Go.Proofs.YtkioolbjmcpjpaaGreatDoor.Ev
open Go.RowKit
set_option linter.unusedVariables false

theorem alloc_2e (w : World) (a b c : Obj) : (((w.alloc a).alloc b).alloc c).heap[w.heap.size + 2]? = some c := by
  have h := heap_alloc_new ((w.alloc a).alloc b) c
  rwa [show ((w.alloc a).alloc b).heap.size = w.heap.size + 2 by simp] at h
/-- Where the event stands while fields of it are turned: its block, the two results' blocks, and its tree below. -/
structure SmSt (w : World) (M : Nat) (x : Array Value) (W : World) : Prop where
  p : W.heap[w.heap.size + 1]? = some (.cells #[.int .i64 0, .string ⟨#[]⟩, .string ⟨#[]⟩, .string ⟨#[]⟩, .string ⟨#[]⟩, .int .i64 0, .int .i64 0, .nilIface] 30)
  r : W.heap[w.heap.size + 2]? = some (.cells zero11 35)
  e : W.heap[M]? = some (.cells x 35)
  b : Below w.heap.size w W
  m : w.heap.size + 3 ≤ M
theorem SmSt.set {w W : World} {M : Nat} {x : Array Value} (h : SmSt w M x W) (j : Nat) (v : Value) : SmSt w M (x.setIfInBounds j v) (W.setCell ⟨M, j, none⟩ v) :=
  ⟨(heap_setCell_other _ ⟨M, j, none⟩ _ v (by have := h.m; show w.heap.size + 1 ≠ M; omega)).trans h.p, (heap_setCell_other _ ⟨M, j, none⟩ _ v (by have := h.m; show w.heap.size + 2 ≠ M; omega)).trans h.r, heap_setCell_same _ M j _ _ v h.e, h.b.setCell (show w.heap.size ≤ M by have := h.m; omega) v, h.m⟩
theorem SmSt.below {w W W' : World} {M : Nat} {x : Array Value} (h : SmSt w M x W) (hb : Below W.heap.size W W') : SmSt w M x W' :=
  ⟨(hb.block _ (Array.getElem?_eq_some_iff.1 h.p).1).trans h.p, (hb.block _ (Array.getElem?_eq_some_iff.1 h.r).1).trans h.r, (hb.block _ (Array.getElem?_eq_some_iff.1 h.e).1).trans h.e, h.b.trans (hb.mono h.b.size), h.m⟩
theorem cells8e {w : World} {B t : Nat} {a b c d e f g h : Value} (hh : w.heap[B]? = some (.cells #[a, b, c, d, e, f, g, h] t)) : w.cell? ⟨B, 0, none⟩ = some a ∧ w.cell? ⟨B, 1, none⟩ = some b ∧ w.cell? ⟨B, 2, none⟩ = some c ∧ w.cell? ⟨B, 3, none⟩ = some d ∧ w.cell? ⟨B, 4, none⟩ = some e ∧ w.cell? ⟨B, 5, none⟩ = some f ∧ w.cell? ⟨B, 6, none⟩ = some g ∧ w.cell? ⟨B, 7, none⟩ = some h :=
  ⟨cell_of_row _ _ 0 _ _ _ hh, cell_of_row _ _ 1 _ _ _ hh, cell_of_row _ _ 2 _ _ _ hh, cell_of_row _ _ 3 _ _ _ hh, cell_of_row _ _ 4 _ _ _ hh, cell_of_row _ _ 5 _ _ _ hh, cell_of_row _ _ 6 _ _ _ hh, cell_of_row _ _ 7 _ _ _ hh⟩
def OddV (w : World) (e : Ending) (w' : World) : Prop := ∃ v : Value, e = .returned v ∧ (C.odd v).Ok ∧ Below w.heap.size w w'
set_option maxHeartbeats 2000000 in
set_option maxRecDepth 100000 in
theorem oddV_any (n : Int) (w : World) (h1 : -9223372036854775808 ≤ n) (h2 : n ≤ 9223372036854775807) : Calls Tryz.prog 40 #[.int .i64 n] w (OddV w) := by
  obtain ⟨q, hq⟩ : ∃ q : Nat, n % 9 = q := ⟨(n % 9).toNat, by omega⟩
  have hq9 : q = 0 ∨ q = 1 ∨ q = 2 ∨ q = 3 ∨ q = 4 ∨ q = 5 ∨ q = 6 ∨ q = 7 ∨ q = 8 := by omega
  have hmm := @run_makeMap Tryz.prog
  go_enter Tryz.func40, Tryz.ntmps40
  go_wp2_with fail
  refine calls_same (within_any _ 9 _ (by omega) (by omega) h1 h2) ?_
  rw [hq]
  clear h1 h2 hq
  rcases hq9 with rfl | rfl | rfl | rfl | rfl | rfl | rfl | rfl | rfl
  all_goals
    go_wp2_with fail
    go_ret
    first
      | exact ⟨.nilIface, rfl, .inl rfl, by repeat first | exact Below.refl _ _ | refine below_alloc ?_ _⟩
      | exact ⟨.iface _ _, rfl, strangeC_of _ _ (by decide) (by decide) (by decide) (by decide) (by decide) (by decide) (by decide) (by decide), by repeat first | exact Below.refl _ _ | refine below_alloc ?_ _⟩
structure Ev.Turned (e : Ev) : Prop where
  ok : e.Ok
  i : e.i.size ≤ 1000
  n : e.n.size ≤ 1000
  l : e.l.size ≤ 1000
  u : e.u.size ≤ 1000
  w : e.t.weight ≤ 1000
theorem made_with {e : Ev} (h : e.Made) {k d v : Int} {i n l u : ByteArray} (hk : -9223372036854775808 ≤ k ∧ k ≤ 9223372036854775807) (hd : -9223372036854775808 ≤ d ∧ d ≤ 9223372036854775807) (hv : -9223372036854775808 ≤ v ∧ v ≤ 9223372036854775807) (hi : i.size ≤ 1000) (hn : n.size ≤ 1000) (hl : l.size ≤ 1000) (hu : u.size ≤ 1000) : (Ev.mk k i n l u d v e.t).Made :=
  ⟨⟨hk.1, hk.2, hd.1, hd.2, hv.1, hv.2, Nat.le_trans hi (by decide), Nat.le_trans hn (by decide), Nat.le_trans hl (by decide), Nat.le_trans hu (by decide), h.ok.t, h.ok.w⟩, hi, hn, hl, hu, h.t⟩
def SmEnd (w : World) (M : Nat) (W : World) : Prop := ∃ (e : Ev) (ka : Option Addr) (kc : Nat), e.Made ∧ SmSt w M (e.rcs ka kc) W ∧ TIn W 0 (plainC e.t) (.agg (four (plainC e.t) ka kc))

theorem results_cct {P : Program} {fn : Func} {p q s : Tmp} {ty tz : TypeId} (h : fn.results = #[.cell p ty, .cell q tz, .tmp s]) (tmps : Array Value) (w : World) (g g2 : Nat) (t t2 : TypeId) (cs cs2 : Array Value) (fr fr2 : Nat × Nat) (d d2 : TypeDesc)
    (hp : tmps.getD p undef = .pointer (some ⟨g, 0, none⟩)) (hg : w.heap[g]? = some (.cells cs t fr))
    (hu : P.underlying ty = some d) (hd : (match d with | .struct _ | .array _ _ => true | _ => false) = true) (hi : (P.info? ty).map (·.size) = some cs.size)
    (hp2 : tmps.getD q undef = .pointer (some ⟨g2, 0, none⟩)) (hg2 : w.heap[g2]? = some (.cells cs2 t2 fr2))
    (hu2 : P.underlying tz = some d2) (hd2 : (match d2 with | .struct _ | .array _ _ => true | _ => false) = true) (hi2 : (P.info? tz).map (·.size) = some cs2.size) :
    (results fn tmps).run P w = .ok (.tuple #[.agg cs, .agg cs2, tmps.getD s undef]) w := by
  have hp' : tmps[p]?.getD undef = .pointer (some ⟨g, 0, none⟩) := by simpa using hp
  have hp2' : tmps[q]?.getD undef = .pointer (some ⟨g2, 0, none⟩) := by simpa using hp2
  simp [results, h, hp', hp2', asAddr, run_loadVar_row w g t ty cs fr d hg hu hd hi, run_loadVar_row w g2 t2 tz cs2 fr2 d2 hg2 hu2 hd2 hi2]
set_option maxHeartbeats 16000000 in
set_option maxRecDepth 100000 in
theorem some11_any (c : Cm) (field vv : Int) (s : ByteArray) (odd : Int) (w : World) (hc : c.In w) (hf1 : -9223372036854775808 ≤ field) (hf2 : field ≤ 9223372036854775807) (hv1 : -9223372036854775808 ≤ vv) (hv2 : vv ≤ 9223372036854775807) (hs : s.size ≤ maxLen) (ho1 : -9223372036854775808 ≤ odd) (ho2 : odd ≤ 9223372036854775807) :
    Calls Tryz.prog 8 #[.agg c.cs, .int .i64 field, .int .i64 vv, .string s, .int .i64 odd] w fun x w' => ∃ (e : Ev) (r : Value) (is : Bool), x = .returned (.tuple #[e.val, r, .bool is]) ∧ e.Turned ∧ RIn w' 0 e r ∧ (is = false → e.t = none' ∨ e.t.whole) ∧ (is = true → nilB e.t = false ∧ plainC e.t = .mk 0 ⟨#[]⟩ 0 []) ∧ (is = true → odd.tmod 11 = 10) ∧ Below w.heap.size w w' := by
  have HDO := hidIn (fun (W : World) (h : Below w.heap.size w W) => do_any c W ⟨hc.k1, hc.k2, hc.a1, hc.a2, hc.b1, hc.b2, hc.d1, hc.d2, hc.v1, hc.v2, hc.s, hc.p.below h⟩)
  have HWF := hidIn (fun W : World => within_any field 20 W (by omega) (by omega) hf1 hf2)
  have HW9 := hidIn (fun W : World => within_any vv 9 W (by omega) (by omega) hv1 hv2)
  have HTX := hidIn (fun W : World => text_any s 16 W hs (by omega))
  have HV1 := hidIn hv1
  have HV2 := hidIn hv2
  clear hc hf1 hf2 hs
  unfold Cm.cs DoPost RIn at HDO
  unfold Cm.cs
  go_enter Tryz.func8, Tryz.ntmps8
  go_wp2_with fail
  rw [show w.heap.size + 1 + 1 = w.heap.size + 2 from rfl]
  have HVB : Hid (Below w.heap.size w (((w.alloc (.cells #[.int .i64 c.k, .int .i64 c.a, .int .i64 c.b, .int .i64 c.d, .int .i64 c.v, .string c.s, .slice c.p.na c.p.nl c.p.nc, .slice c.p.wa c.p.wl c.p.wc] 27)).alloc (.cells #[.int .i64 0, .string ⟨#[]⟩, .string ⟨#[]⟩, .string ⟨#[]⟩, .string ⟨#[]⟩, .int .i64 0, .int .i64 0, .nilIface] 30)).alloc (.cells #[.int .i64 0, .string ⟨#[]⟩, .string ⟨#[]⟩, .string ⟨#[]⟩, .string ⟨#[]⟩, .int .i64 0, .int .i64 0, .int .i64 0, .string ⟨#[]⟩, .int .i64 0, .slice none 0 0] 35))) := below_alloc (below_alloc (below_alloc (Below.refl _ _) _) _) _
  have HVP : Hid ((((w.alloc (.cells #[.int .i64 c.k, .int .i64 c.a, .int .i64 c.b, .int .i64 c.d, .int .i64 c.v, .string c.s, .slice c.p.na c.p.nl c.p.nc, .slice c.p.wa c.p.wl c.p.wc] 27)).alloc (.cells #[.int .i64 0, .string ⟨#[]⟩, .string ⟨#[]⟩, .string ⟨#[]⟩, .string ⟨#[]⟩, .int .i64 0, .int .i64 0, .nilIface] 30)).alloc (.cells #[.int .i64 0, .string ⟨#[]⟩, .string ⟨#[]⟩, .string ⟨#[]⟩, .string ⟨#[]⟩, .int .i64 0, .int .i64 0, .int .i64 0, .string ⟨#[]⟩, .int .i64 0, .slice none 0 0] 35)).heap[w.heap.size + 1]? = some (.cells #[.int .i64 0, .string ⟨#[]⟩, .string ⟨#[]⟩, .string ⟨#[]⟩, .string ⟨#[]⟩, .int .i64 0, .int .i64 0, .nilIface] 30)) := by
    refine heap_keeps ?_ _
    have h := heap_alloc_new (w.alloc (.cells #[.int .i64 c.k, .int .i64 c.a, .int .i64 c.b, .int .i64 c.d, .int .i64 c.v, .string c.s, .slice c.p.na c.p.nl c.p.nc, .slice c.p.wa c.p.wl c.p.wc] 27)) (.cells #[.int .i64 0, .string ⟨#[]⟩, .string ⟨#[]⟩, .string ⟨#[]⟩, .string ⟨#[]⟩, .int .i64 0, .int .i64 0, .nilIface] 30)
    rwa [show (w.alloc (.cells #[.int .i64 c.k, .int .i64 c.a, .int .i64 c.b, .int .i64 c.d, .int .i64 c.v, .string c.s, .slice c.p.na c.p.nl c.p.nc, .slice c.p.wa c.p.wl c.p.wc] 27)).heap.size = w.heap.size + 1 by simp] at h
  have HVR : Hid ((((w.alloc (.cells #[.int .i64 c.k, .int .i64 c.a, .int .i64 c.b, .int .i64 c.d, .int .i64 c.v, .string c.s, .slice c.p.na c.p.nl c.p.nc, .slice c.p.wa c.p.wl c.p.wc] 27)).alloc (.cells #[.int .i64 0, .string ⟨#[]⟩, .string ⟨#[]⟩, .string ⟨#[]⟩, .string ⟨#[]⟩, .int .i64 0, .int .i64 0, .nilIface] 30)).alloc (.cells #[.int .i64 0, .string ⟨#[]⟩, .string ⟨#[]⟩, .string ⟨#[]⟩, .string ⟨#[]⟩, .int .i64 0, .int .i64 0, .int .i64 0, .string ⟨#[]⟩, .int .i64 0, .slice none 0 0] 35)).heap[w.heap.size + 2]? = some (.cells zero11 35)) := alloc_2e _ _ _ _
  have HVZ : Hid ((((w.alloc (.cells #[.int .i64 c.k, .int .i64 c.a, .int .i64 c.b, .int .i64 c.d, .int .i64 c.v, .string c.s, .slice c.p.na c.p.nl c.p.nc, .slice c.p.wa c.p.wl c.p.wc] 27)).alloc (.cells #[.int .i64 0, .string ⟨#[]⟩, .string ⟨#[]⟩, .string ⟨#[]⟩, .string ⟨#[]⟩, .int .i64 0, .int .i64 0, .nilIface] 30)).alloc (.cells #[.int .i64 0, .string ⟨#[]⟩, .string ⟨#[]⟩, .string ⟨#[]⟩, .string ⟨#[]⟩, .int .i64 0, .int .i64 0, .int .i64 0, .string ⟨#[]⟩, .int .i64 0, .slice none 0 0] 35)).heap.size = w.heap.size + 3) := by unfold Hid; simp
  generalize ((w.alloc (.cells #[.int .i64 c.k, .int .i64 c.a, .int .i64 c.b, .int .i64 c.d, .int .i64 c.v, .string c.s, .slice c.p.na c.p.nl c.p.nc, .slice c.p.wa c.p.wl c.p.wc] 27)).alloc (.cells #[.int .i64 0, .string ⟨#[]⟩, .string ⟨#[]⟩, .string ⟨#[]⟩, .string ⟨#[]⟩, .int .i64 0, .int .i64 0, .nilIface] 30)).alloc (.cells #[.int .i64 0, .string ⟨#[]⟩, .string ⟨#[]⟩, .string ⟨#[]⟩, .string ⟨#[]⟩, .int .i64 0, .int .i64 0, .int .i64 0, .string ⟨#[]⟩, .int .i64 0, .slice none 0 0] 35) = V at *
  refine (HDO.out V HVB.out).mono ?_
  rintro e w1 ⟨e1, v1, rfl, hm, ⟨ka, kc, rfl, ht⟩, hb⟩
  obtain ⟨k, i, n, l, u, d, v, t⟩ := e1
  simp only at ht hm ⊢
  have HM := hidIn hm
  have HTI := hidIn ht
  have HSM : Hid (∀ x : Array Value, SmSt w w1.heap.size x (w1.alloc (.cells x 35))) := fun x =>
    ⟨heap_keeps ((hb.block _ (Array.getElem?_eq_some_iff.1 HVP.out).1).trans HVP.out) _, heap_keeps ((hb.block _ (Array.getElem?_eq_some_iff.1 HVR.out).1).trans HVR.out) _, heap_alloc_new _ _, below_alloc (HVB.out.trans (hb.mono HVB.out.size)) _, by have h1 := hb.size; have h2 := HVZ.out; omega⟩
  clear hm ht hb HDO
  go_wp2_with fail
  refine calls_same (HWF.out _) ?_
  obtain ⟨q, hq⟩ : ∃ q : Nat, field % 20 = q := ⟨(field % 20).toNat, by omega⟩
  rw [hq]
  clear hq HWF
  go_upto_block 0 with fail
  go_cut [20] (fun s20 wx => SmEnd w w1.heap.size wx)
  case first =>
    have f0 : ∀ j, (w1.alloc (.cells #[.int .i64 k, .string i, .string n, .string l, .string u, .int .i64 d, .int .i64 v, .int .i64 (plainC t).kind, .string (plainC t).s, .int .i64 (plainC t).n, .slice ka (plainC t).k.length kc] 35)).frozen? ⟨w1.heap.size, j, none⟩ = false := fun j => frozen_of_row _ _ _ _ _ (HSM.out _).e
    rcases (by omega : q = 0 ∨ q = 1 ∨ q = 2 ∨ q = 3 ∨ q = 4 ∨ q = 5 ∨ q = 6 ∨ 7 ≤ q) with hq | hq | hq | hq | hq | hq | hq | hq
    · have b0 : ((q : Int) == 0) = true := by subst hq; rfl
      clear hq
      go_wp2_with fail
      refine calls_same (HW9.out _) ?_
      go_wp2_with fail
      go_meet
      case rel => exact ⟨⟨vv % 9, i, n, l, u, d, v, t⟩, ka, kc, made_with HM.out (by omega) ⟨HM.out.ok.d1, HM.out.ok.d2⟩ ⟨HM.out.ok.v1, HM.out.ok.v2⟩ HM.out.i HM.out.n HM.out.l HM.out.u, HSM.out _, TIn.below HTI.out (below_alloc (Below.refl _ _) _)⟩
    · have b0 : ((q : Int) == 0) = false := by rw [beq_eq_false_iff_ne]; omega
      have b1 : ((q : Int) == 1) = true := by subst hq; rfl
      clear hq
      go_wp2_with fail
      refine calls_same (HTX.out _) ?_
      go_wp2_with fail
      go_meet
      case rel => exact ⟨⟨k, cutTo s 16, n, l, u, d, v, t⟩, ka, kc, made_with HM.out ⟨HM.out.ok.k1, HM.out.ok.k2⟩ ⟨HM.out.ok.d1, HM.out.ok.d2⟩ ⟨HM.out.ok.v1, HM.out.ok.v2⟩ (Nat.le_trans (cutTo_size _ _) (by omega)) HM.out.n HM.out.l HM.out.u, HSM.out _, TIn.below HTI.out (below_alloc (Below.refl _ _) _)⟩
    · have b0 : ((q : Int) == 0) = false := by rw [beq_eq_false_iff_ne]; omega
      have b1 : ((q : Int) == 1) = false := by rw [beq_eq_false_iff_ne]; omega
      have b2 : ((q : Int) == 2) = true := by subst hq; rfl
      clear hq
      go_wp2_with fail
      refine calls_same (HTX.out _) ?_
      go_wp2_with fail
      go_meet
      case rel => exact ⟨⟨k, i, cutTo s 16, l, u, d, v, t⟩, ka, kc, made_with HM.out ⟨HM.out.ok.k1, HM.out.ok.k2⟩ ⟨HM.out.ok.d1, HM.out.ok.d2⟩ ⟨HM.out.ok.v1, HM.out.ok.v2⟩ HM.out.i (Nat.le_trans (cutTo_size _ _) (by omega)) HM.out.l HM.out.u, HSM.out _, TIn.below HTI.out (below_alloc (Below.refl _ _) _)⟩
    · have b0 : ((q : Int) == 0) = false := by rw [beq_eq_false_iff_ne]; omega
      have b1 : ((q : Int) == 1) = false := by rw [beq_eq_false_iff_ne]; omega
      have b2 : ((q : Int) == 2) = false := by rw [beq_eq_false_iff_ne]; omega
      have b3 : ((q : Int) == 3) = true := by subst hq; rfl
      clear hq
      go_wp2_with fail
      refine calls_same (HTX.out _) ?_
      go_wp2_with fail
      go_meet
      case rel => exact ⟨⟨k, i, n, cutTo s 16, u, d, v, t⟩, ka, kc, made_with HM.out ⟨HM.out.ok.k1, HM.out.ok.k2⟩ ⟨HM.out.ok.d1, HM.out.ok.d2⟩ ⟨HM.out.ok.v1, HM.out.ok.v2⟩ HM.out.i HM.out.n (Nat.le_trans (cutTo_size _ _) (by omega)) HM.out.u, HSM.out _, TIn.below HTI.out (below_alloc (Below.refl _ _) _)⟩
    · have b0 : ((q : Int) == 0) = false := by rw [beq_eq_false_iff_ne]; omega
      have b1 : ((q : Int) == 1) = false := by rw [beq_eq_false_iff_ne]; omega
      have b2 : ((q : Int) == 2) = false := by rw [beq_eq_false_iff_ne]; omega
      have b3 : ((q : Int) == 3) = false := by rw [beq_eq_false_iff_ne]; omega
      have b4 : ((q : Int) == 4) = true := by subst hq; rfl
      clear hq
      go_wp2_with fail
      refine calls_same (HTX.out _) ?_
      go_wp2_with fail
      go_meet
      case rel => exact ⟨⟨k, i, n, l, cutTo s 16, d, v, t⟩, ka, kc, made_with HM.out ⟨HM.out.ok.k1, HM.out.ok.k2⟩ ⟨HM.out.ok.d1, HM.out.ok.d2⟩ ⟨HM.out.ok.v1, HM.out.ok.v2⟩ HM.out.i HM.out.n HM.out.l (Nat.le_trans (cutTo_size _ _) (by omega)), HSM.out _, TIn.below HTI.out (below_alloc (Below.refl _ _) _)⟩
    · have b0 : ((q : Int) == 0) = false := by rw [beq_eq_false_iff_ne]; omega
      have b1 : ((q : Int) == 1) = false := by rw [beq_eq_false_iff_ne]; omega
      have b2 : ((q : Int) == 2) = false := by rw [beq_eq_false_iff_ne]; omega
      have b3 : ((q : Int) == 3) = false := by rw [beq_eq_false_iff_ne]; omega
      have b4 : ((q : Int) == 4) = false := by rw [beq_eq_false_iff_ne]; omega
      have b5 : ((q : Int) == 5) = true := by subst hq; rfl
      clear hq
      go_wp2_with fail
      go_meet
      case rel => exact ⟨⟨k, i, n, l, u, vv, v, t⟩, ka, kc, made_with HM.out ⟨HM.out.ok.k1, HM.out.ok.k2⟩ ⟨HV1.out, HV2.out⟩ ⟨HM.out.ok.v1, HM.out.ok.v2⟩ HM.out.i HM.out.n HM.out.l HM.out.u, HSM.out _, TIn.below HTI.out (below_alloc (Below.refl _ _) _)⟩
    · have b0 : ((q : Int) == 0) = false := by rw [beq_eq_false_iff_ne]; omega
      have b1 : ((q : Int) == 1) = false := by rw [beq_eq_false_iff_ne]; omega
      have b2 : ((q : Int) == 2) = false := by rw [beq_eq_false_iff_ne]; omega
      have b3 : ((q : Int) == 3) = false := by rw [beq_eq_false_iff_ne]; omega
      have b4 : ((q : Int) == 4) = false := by rw [beq_eq_false_iff_ne]; omega
      have b5 : ((q : Int) == 5) = false := by rw [beq_eq_false_iff_ne]; omega
      have b6 : ((q : Int) == 6) = true := by subst hq; rfl
      clear hq
      go_wp2_with fail
      go_meet
      case rel => exact ⟨⟨k, i, n, l, u, d, vv, t⟩, ka, kc, made_with HM.out ⟨HM.out.ok.k1, HM.out.ok.k2⟩ ⟨HM.out.ok.d1, HM.out.ok.d2⟩ ⟨HV1.out, HV2.out⟩ HM.out.i HM.out.n HM.out.l HM.out.u, HSM.out _, TIn.below HTI.out (below_alloc (Below.refl _ _) _)⟩
    · have b0 : ((q : Int) == 0) = false := by rw [beq_eq_false_iff_ne]; omega
      have b1 : ((q : Int) == 1) = false := by rw [beq_eq_false_iff_ne]; omega
      have b2 : ((q : Int) == 2) = false := by rw [beq_eq_false_iff_ne]; omega
      have b3 : ((q : Int) == 3) = false := by rw [beq_eq_false_iff_ne]; omega
      have b4 : ((q : Int) == 4) = false := by rw [beq_eq_false_iff_ne]; omega
      have b5 : ((q : Int) == 5) = false := by rw [beq_eq_false_iff_ne]; omega
      have b6 : ((q : Int) == 6) = false := by rw [beq_eq_false_iff_ne]; omega
      clear hq
      go_wp2_with fail
      go_meet
      case rel => exact ⟨⟨k, i, n, l, u, d, v, t⟩, ka, kc, HM.out, HSM.out _, TIn.below HTI.out (below_alloc (Below.refl _ _) _)⟩
  case rest =>
    obtain ⟨e2, ka2, kc2, hm, hsm, ht⟩ := hcut
    generalize wc = w2 at *
    have HM2 := hidIn hm
    have HTI2 := hidIn ht
    have HBK := hidIn (back_any e2 (by rcases hm.t with h | h; exact .inl h; exact .inr h.1) w2 _ ⟨ka2, kc2, rfl, ht⟩)
    obtain ⟨nb, -, hv⟩ := nil_runs e2.t hm.ok.t
    obtain ⟨k2, i2, n2, l2, u2, d2, v2, t2⟩ := e2
    have HS2 := hidIn hsm
    clear hm ht hsm HM HTI HSM
    unfold Ev.val Ev.cs at HBK
    simp only at HBK hv
    generalize htv : t2.val = tv at *
    have HTV := hidIn htv
    clear htv
    have HC := HS2.out.e
    unfold Ev.rcs at HC
    simp only at HC
    have y0 := cell_of_row _ _ 0 _ _ _ HC
    have y1 := cell_of_row _ _ 1 _ _ _ HC
    have y2 := cell_of_row _ _ 2 _ _ _ HC
    have y3 := cell_of_row _ _ 3 _ _ _ HC
    have y4 := cell_of_row _ _ 4 _ _ _ HC
    have y5 := cell_of_row _ _ 5 _ _ _ HC
    have y6 := cell_of_row _ _ 6 _ _ _ HC
    have y7 := cell_of_row _ _ 7 _ _ _ HC
    have y8 := cell_of_row _ _ 8 _ _ _ HC
    have y9 := cell_of_row _ _ 9 _ _ _ HC
    have y10 := cell_of_row _ _ 10 _ _ _ HC
    go_wp2_with fail
    refine HBK.out.mono ?_
    rintro e w3 ⟨rfl, hb3⟩
    clear y0 y1 y2 y3 y4 y5 y6 y7 y8 y9 y10 HC
    rcases hv with ⟨-, rfl⟩ | ⟨-, xt, xv, rfl⟩
    · have HS3 : Hid (SmSt w w1.heap.size (Ev.rcs ⟨k2, i2, n2, l2, u2, d2, v2, t2⟩ ka2 kc2) w3) := HS2.out.below hb3
      clear hb3
      cases hod : (odd.tmod 11 == 10)
      · go_upto_region 22 with fail
        have HEV := hidIn (event_any ⟨k2, i2, n2, l2, u2, d2, v2, t2⟩ HM2.out.ok.t)
        unfold Ev.val Ev.cs RIn at HEV
        simp only at HEV
        rw [HTV.out] at HEV
        have HP9 : Hid ((w3.alloc (.cells #[.int .i64 k2, .string i2, .string n2, .string l2, .string u2, .int .i64 d2, .int .i64 v2, .nilIface] 30)).heap[w.heap.size + 1]? = some (.cells #[.int .i64 0, .string ⟨#[]⟩, .string ⟨#[]⟩, .string ⟨#[]⟩, .string ⟨#[]⟩, .int .i64 0, .int .i64 0, .nilIface] 30)) := heap_keeps HS3.out.p _
        have HR9 : Hid ((w3.alloc (.cells #[.int .i64 k2, .string i2, .string n2, .string l2, .string u2, .int .i64 d2, .int .i64 v2, .nilIface] 30)).heap[w.heap.size + 2]? = some (.cells zero11 35)) := heap_keeps HS3.out.r _
        have HA : Hid ((w3.alloc (.cells #[.int .i64 k2, .string i2, .string n2, .string l2, .string u2, .int .i64 d2, .int .i64 v2, .nilIface] 30)).heap[w3.heap.size]? = some (.cells #[.int .i64 k2, .string i2, .string n2, .string l2, .string u2, .int .i64 d2, .int .i64 v2, .nilIface] 30)) := heap_alloc_new _ _
        have HB9 : Hid (Below w.heap.size w (w3.alloc (.cells #[.int .i64 k2, .string i2, .string n2, .string l2, .string u2, .int .i64 d2, .int .i64 v2, .nilIface] 30))) := below_alloc HS3.out.b _
        have HNB : Hid (w3.heap.size ≠ w.heap.size + 1 ∧ w3.heap.size ≠ w.heap.size + 2) := by have h1 := (Array.getElem?_eq_some_iff.1 HS3.out.e).1; have h2 := HS3.out.m; exact ⟨by omega, by omega⟩
        have HZ9 : Hid (w.heap.size + 3 ≤ (w3.alloc (.cells #[.int .i64 k2, .string i2, .string n2, .string l2, .string u2, .int .i64 d2, .int .i64 v2, .nilIface] 30)).heap.size) := by have h1 := (Array.getElem?_eq_some_iff.1 HS3.out.e).1; have h2 := HS3.out.m; unfold Hid; simp; omega
        generalize w3.alloc (.cells #[.int .i64 k2, .string i2, .string n2, .string l2, .string u2, .int .i64 d2, .int .i64 v2, .nilIface] 30) = W9 at *
        refine Mx.wp_region_mix (fun W => W.heap[w3.heap.size]? = some (.cells #[.int .i64 k2, .string i2, .string n2, .string l2, .string u2, .int .i64 d2, .int .i64 v2, .nilIface] 30)) [(0, false), (1, false), (3, false), (2, true), (4, true), (5, true), (6, true)] (by kernel_rfl) (by kernel_rfl) HA.out ?_ (by kernel_rfl)
        simp only [List.map_cons, List.map_nil, List.getD_cons_zero, List.getD_cons_succ]
        generalize hops : (#[_, _, _, _, _, _, _] : Array Oper) = ops
        clear hops
        refine Mx.m_pure (.agg #[.int .i64 k2, .string i2, .string n2, .string l2, .string u2, .int .i64 d2, .int .i64 v2, .nilIface]) (Mx.wanted_none rfl) (fun W hW => ?_) ?_
        · obtain ⟨z0, z1, z2, z3, z4, z5, z6, z7⟩ := cells8e hW
          go_simp
        simp only [Act.put, List.setIfInBounds_toArray, List.set_cons_zero, List.set_cons_succ]
        refine Mx.m_pure (.agg #[.int .i64 k2, .string i2, .string n2, .string l2, .string u2, .int .i64 d2, .int .i64 v2, .nilIface]) (Mx.wanted_none rfl) (fun W hW => ?_) ?_
        · obtain ⟨z0, z1, z2, z3, z4, z5, z6, z7⟩ := cells8e hW
          go_simp
        simp only [Act.put, List.setIfInBounds_toArray, List.set_cons_zero, List.set_cons_succ]
        refine Mx.m_pure (.bool false) (Mx.wanted_none rfl) (fun W hW => ?_) ?_
        · go_simp
        simp only [Act.put, List.setIfInBounds_toArray, List.set_cons_zero, List.set_cons_succ]
        refine Mx.m_call 37 #[.agg #[.int .i64 k2, .string i2, .string n2, .string l2, .string u2, .int .i64 d2, .int .i64 v2, .nilIface]] (Mx.wanted_none rfl) ?_ ?_
        · go_simp
        refine (HEV.out W9.drew).mono ?_
        rintro e w4 ⟨r4, rfl, ⟨ka4, kc4, rfl, ht4⟩, hb4⟩
        have HT4 := hidIn ht4
        have HB4 := hidIn (HB9.out.trans ((show Below W9.heap.size W9 w4 from ⟨hb4.os, hb4.tape, hb4.output, hb4.size, hb4.block⟩).mono HB9.out.size))
        have HA4 : Hid (w4.heap[w3.heap.size]? = some (.cells #[.int .i64 k2, .string i2, .string n2, .string l2, .string u2, .int .i64 d2, .int .i64 v2, .nilIface] 30)) := (hb4.block _ (Array.getElem?_eq_some_iff.1 HA.out).1).trans HA.out
        have HP4 : Hid (w4.heap[w.heap.size + 1]? = some (.cells #[.int .i64 0, .string ⟨#[]⟩, .string ⟨#[]⟩, .string ⟨#[]⟩, .string ⟨#[]⟩, .int .i64 0, .int .i64 0, .nilIface] 30)) := (hb4.block _ (Array.getElem?_eq_some_iff.1 HP9.out).1).trans HP9.out
        have HR4 : Hid (w4.heap[w.heap.size + 2]? = some (.cells zero11 35)) := (hb4.block _ (Array.getElem?_eq_some_iff.1 HR9.out).1).trans HR9.out
        clear ht4 hb4
        refine ⟨_, rfl, HA4.out, ?_⟩
        simp only [Act.put, List.setIfInBounds_toArray, List.set_cons_zero, List.set_cons_succ]
        refine m_skip11 (Mx.wanted_none rfl) (store_row_run 30 (.tmp 10) (.tmp 65) rfl (w.heap.size + 1) #[.int .i64 k2, .string i2, .string n2, .string l2, .string u2, .int .i64 d2, .int .i64 v2, .nilIface] rfl rfl _ _ HP4.out infoA rfl (by first | rfl | simp [Value.oneCell'])) ((setRow_other _ _ _ _ HNB.out.1).trans HA4.out) ?_
        simp only [Act.put]
        refine m_skip11 (Mx.wanted_none rfl) (store_row_run 35 (.tmp 11) (.tmp 67) rfl (w.heap.size + 2) _ rfl rfl _ _ ((setRow_other _ _ _ _ (by omega)).trans HR4.out) infoE rfl (by first | rfl | simp [Value.oneCell'])) ((setRow_other _ _ _ _ HNB.out.2).trans ((setRow_other _ _ _ _ HNB.out.1).trans HA4.out)) ?_
        simp only [Act.put]
        refine Mx.m_run (w' := (w4.setRow (w.heap.size + 1) #[.int .i64 k2, .string i2, .string n2, .string l2, .string u2, .int .i64 d2, .int .i64 v2, .nilIface]).setRow (w.heap.size + 2) #[.int .i64 k2, .string i2, .string n2, .string l2, .string u2, .int .i64 d2, .int .i64 v2, .int .i64 (plainC t2).kind, .string (plainC t2).s, .int .i64 (plainC t2).n, .slice ka4 (plainC t2).k.length kc4]) (.bool false) (Mx.wanted_none rfl) ?_ ((setRow_other _ _ _ _ HNB.out.2).trans ((setRow_other _ _ _ _ HNB.out.1).trans HA4.out)) ?_
        · go_simp
        simp only [Act.put, List.setIfInBounds_toArray, List.set_cons_zero, List.set_cons_succ]
        refine Mx.m_nil (fun _ => ?_)
        go_wp2_with fail
        refine bodyPost_ret (results_cct rfl _ _ (w.heap.size + 1) (w.heap.size + 2) 30 35 #[.int .i64 k2, .string i2, .string n2, .string l2, .string u2, .int .i64 d2, .int .i64 v2, .nilIface] _ (0, 0) (0, 0) _ _ rfl ((setRow_other _ _ _ _ (by omega)).trans (setRow_heap _ _ _ _ _ _ HP4.out)) Tryz.underlying30 rfl infoA rfl (setRow_heap _ _ _ _ _ _ ((setRow_other _ _ _ _ (by omega)).trans HR4.out)) Tryz.underlying35 rfl infoE) rfl ?_
        exact ⟨⟨k2, i2, n2, l2, u2, d2, v2, t2⟩, _, false, by rw [show (Ev.mk k2 i2 n2 l2 u2 d2 v2 t2).val = .agg #[.int .i64 k2, .string i2, .string n2, .string l2, .string u2, .int .i64 d2, .int .i64 v2, .nilIface] from by unfold Ev.val Ev.cs; simp only; rw [HTV.out]]; rfl, ⟨HM2.out.ok, HM2.out.i, HM2.out.n, HM2.out.l, HM2.out.u, by rcases HM2.out.t with h | h; (rw [h]; decide); exact Nat.le_trans h.2 (by omega)⟩, ⟨ka4, kc4, rfl, trow11 (trow11 HT4.out _ (show w.heap.size + 1 < W9.heap.size by have := HZ9.out; omega) (Nat.le_refl _)) _ (show w.heap.size + 2 < W9.heap.size by have := HZ9.out; omega) (Nat.zero_le _)⟩, (fun _ => by rcases HM2.out.t with h | h; exact .inl h; exact .inr h.1), (fun h => by cases h), (fun h => by cases h), row_below (row_below HB4.out (by omega) _) (by omega) _⟩
      · have hdv := tdiv_in odd 11 (by omega) ho1 ho2
        have hwr : IntKind.i64.wrap (odd.tdiv 11) = odd.tdiv 11 := wrap_small _ hdv.1 hdv.2
        have HOD := hidIn (fun W => oddV_any (odd.tdiv 11) W hdv.1 hdv.2)
        clear hdv
        have HW4 : Hid (Below w.heap.size w (w3.alloc (.cells #[.int .i64 k2, .string i2, .string n2, .string l2, .string u2, .int .i64 d2, .int .i64 v2, .nilIface] 30))) := below_alloc HS3.out.b _
        have HP4 : Hid ((w3.alloc (.cells #[.int .i64 k2, .string i2, .string n2, .string l2, .string u2, .int .i64 d2, .int .i64 v2, .nilIface] 30)).heap[w.heap.size + 1]? = some (.cells #[.int .i64 0, .string ⟨#[]⟩, .string ⟨#[]⟩, .string ⟨#[]⟩, .string ⟨#[]⟩, .int .i64 0, .int .i64 0, .nilIface] 30)) := heap_keeps HS3.out.p _
        have HR4 : Hid ((w3.alloc (.cells #[.int .i64 k2, .string i2, .string n2, .string l2, .string u2, .int .i64 d2, .int .i64 v2, .nilIface] 30)).heap[w.heap.size + 2]? = some (.cells zero11 35)) := heap_keeps HS3.out.r _
        have HE4 : Hid ((w3.alloc (.cells #[.int .i64 k2, .string i2, .string n2, .string l2, .string u2, .int .i64 d2, .int .i64 v2, .nilIface] 30)).heap[w3.heap.size]? = some (.cells #[.int .i64 k2, .string i2, .string n2, .string l2, .string u2, .int .i64 d2, .int .i64 v2, .nilIface] 30)) := heap_alloc_new _ _
        have HZ4 : Hid (w.heap.size + 3 ≤ w3.heap.size) := by have h1 := (Array.getElem?_eq_some_iff.1 HS3.out.e).1; have h2 := HS3.out.m; unfold Hid; omega
        go_wp2_with fail
        generalize w3.alloc (.cells #[.int .i64 k2, .string i2, .string n2, .string l2, .string u2, .int .i64 d2, .int .i64 v2, .nilIface] 30) = w4 at *
        refine (HOD.out w4).mono ?_
        rintro e w5 ⟨ov, rfl, hov, hb5⟩
        have HOV := hidIn hov
        have HP5 : Hid (w5.heap[w.heap.size + 1]? = some (.cells #[.int .i64 0, .string ⟨#[]⟩, .string ⟨#[]⟩, .string ⟨#[]⟩, .string ⟨#[]⟩, .int .i64 0, .int .i64 0, .nilIface] 30)) := (hb5.block _ (Array.getElem?_eq_some_iff.1 HP4.out).1).trans HP4.out
        have HR5 : Hid (w5.heap[w.heap.size + 2]? = some (.cells zero11 35)) := (hb5.block _ (Array.getElem?_eq_some_iff.1 HR4.out).1).trans HR4.out
        have HE5 : Hid (w5.heap[w3.heap.size]? = some (.cells #[.int .i64 k2, .string i2, .string n2, .string l2, .string u2, .int .i64 d2, .int .i64 v2, .nilIface] 30)) := (hb5.block _ (Array.getElem?_eq_some_iff.1 HE4.out).1).trans HE4.out
        have HB5 := hidIn (HW4.out.trans (hb5.mono HW4.out.size))
        have HZ5 : Hid (w3.heap.size < w5.heap.size) := (Array.getElem?_eq_some_iff.1 HE5.out).1
        clear hb5 HW4 HP4 HR4 HE4 HOD hwr
        have ff : w5.frozen? ⟨w3.heap.size, 7, none⟩ = false := frozen_of_row _ _ _ _ _ HE5.out
        have fc := cell_of_row _ _ 7 _ _ _ HE5.out
        rcases hov with rfl | ⟨ot, ox, rfl, hno⟩
        · go_upto_region 22 with fail
          have HEV := hidIn (event_any ⟨k2, i2, n2, l2, u2, d2, v2, (.odd (.nilIface))⟩ HOV.out)
          unfold Ev.val Ev.cs RIn at HEV
          simp only at HEV
          have HP9 : Hid ((w5.setCell ⟨w3.heap.size, 7, none⟩ (.nilIface)).heap[w.heap.size + 1]? = some (.cells #[.int .i64 0, .string ⟨#[]⟩, .string ⟨#[]⟩, .string ⟨#[]⟩, .string ⟨#[]⟩, .int .i64 0, .int .i64 0, .nilIface] 30)) := (heap_setCell_other _ ⟨w3.heap.size, 7, none⟩ _ _ (by have := HZ4.out; show w.heap.size + 1 ≠ w3.heap.size; omega)).trans HP5.out
          have HR9 : Hid ((w5.setCell ⟨w3.heap.size, 7, none⟩ (.nilIface)).heap[w.heap.size + 2]? = some (.cells zero11 35)) := (heap_setCell_other _ ⟨w3.heap.size, 7, none⟩ _ _ (by have := HZ4.out; show w.heap.size + 2 ≠ w3.heap.size; omega)).trans HR5.out
          have HA : Hid ((w5.setCell ⟨w3.heap.size, 7, none⟩ (.nilIface)).heap[w3.heap.size]? = some (.cells #[.int .i64 k2, .string i2, .string n2, .string l2, .string u2, .int .i64 d2, .int .i64 v2, .nilIface] 30)) := heap_setCell_same _ w3.heap.size 7 _ _ _ HE5.out
          have HB9 : Hid (Below w.heap.size w (w5.setCell ⟨w3.heap.size, 7, none⟩ (.nilIface))) := HB5.out.setCell (show w.heap.size ≤ w3.heap.size by have := HZ4.out; omega) _
          have HNB : Hid (w3.heap.size ≠ w.heap.size + 1 ∧ w3.heap.size ≠ w.heap.size + 2) := by have := HZ4.out; exact ⟨by omega, by omega⟩
          have HZ9 : Hid (w.heap.size + 3 ≤ (w5.setCell ⟨w3.heap.size, 7, none⟩ (.nilIface)).heap.size) := by have h1 := HZ4.out; have h2 := HZ5.out; unfold Hid; rw [World.size_setCell]; omega
          generalize w5.setCell ⟨w3.heap.size, 7, none⟩ (.nilIface) = W9 at *
          refine Mx.wp_region_mix (fun W => W.heap[w3.heap.size]? = some (.cells #[.int .i64 k2, .string i2, .string n2, .string l2, .string u2, .int .i64 d2, .int .i64 v2, .nilIface] 30)) [(0, false), (1, false), (3, false), (2, true), (4, true), (5, true), (6, true)] (by kernel_rfl) (by kernel_rfl) HA.out ?_ (by kernel_rfl)
          simp only [List.map_cons, List.map_nil, List.getD_cons_zero, List.getD_cons_succ]
          generalize hops : (#[_, _, _, _, _, _, _] : Array Oper) = ops
          clear hops
          refine Mx.m_pure (.agg #[.int .i64 k2, .string i2, .string n2, .string l2, .string u2, .int .i64 d2, .int .i64 v2, .nilIface]) (Mx.wanted_none rfl) (fun W hW => ?_) ?_
          · obtain ⟨z0, z1, z2, z3, z4, z5, z6, z7⟩ := cells8e hW
            go_simp
          simp only [Act.put, List.setIfInBounds_toArray, List.set_cons_zero, List.set_cons_succ]
          refine Mx.m_pure (.agg #[.int .i64 k2, .string i2, .string n2, .string l2, .string u2, .int .i64 d2, .int .i64 v2, .nilIface]) (Mx.wanted_none rfl) (fun W hW => ?_) ?_
          · obtain ⟨z0, z1, z2, z3, z4, z5, z6, z7⟩ := cells8e hW
            go_simp
          simp only [Act.put, List.setIfInBounds_toArray, List.set_cons_zero, List.set_cons_succ]
          refine Mx.m_pure (.bool false) (Mx.wanted_none rfl) (fun W hW => ?_) ?_
          · go_simp
          simp only [Act.put, List.setIfInBounds_toArray, List.set_cons_zero, List.set_cons_succ]
          refine Mx.m_call 37 #[.agg #[.int .i64 k2, .string i2, .string n2, .string l2, .string u2, .int .i64 d2, .int .i64 v2, .nilIface]] (Mx.wanted_none rfl) ?_ ?_
          · go_simp
          refine (HEV.out W9.drew).mono ?_
          rintro e w4 ⟨r4, rfl, ⟨ka4, kc4, rfl, ht4⟩, hb4⟩
          have HT4 := hidIn ht4
          have HB4 := hidIn (HB9.out.trans ((show Below W9.heap.size W9 w4 from ⟨hb4.os, hb4.tape, hb4.output, hb4.size, hb4.block⟩).mono HB9.out.size))
          have HA4 : Hid (w4.heap[w3.heap.size]? = some (.cells #[.int .i64 k2, .string i2, .string n2, .string l2, .string u2, .int .i64 d2, .int .i64 v2, .nilIface] 30)) := (hb4.block _ (Array.getElem?_eq_some_iff.1 HA.out).1).trans HA.out
          have HP4 : Hid (w4.heap[w.heap.size + 1]? = some (.cells #[.int .i64 0, .string ⟨#[]⟩, .string ⟨#[]⟩, .string ⟨#[]⟩, .string ⟨#[]⟩, .int .i64 0, .int .i64 0, .nilIface] 30)) := (hb4.block _ (Array.getElem?_eq_some_iff.1 HP9.out).1).trans HP9.out
          have HR4 : Hid (w4.heap[w.heap.size + 2]? = some (.cells zero11 35)) := (hb4.block _ (Array.getElem?_eq_some_iff.1 HR9.out).1).trans HR9.out
          clear ht4 hb4
          refine ⟨_, rfl, HA4.out, ?_⟩
          simp only [Act.put, List.setIfInBounds_toArray, List.set_cons_zero, List.set_cons_succ]
          refine m_skip11 (Mx.wanted_none rfl) (store_row_run 30 (.tmp 10) (.tmp 65) rfl (w.heap.size + 1) #[.int .i64 k2, .string i2, .string n2, .string l2, .string u2, .int .i64 d2, .int .i64 v2, .nilIface] rfl rfl _ _ HP4.out infoA rfl (by first | rfl | simp [Value.oneCell'])) ((setRow_other _ _ _ _ HNB.out.1).trans HA4.out) ?_
          simp only [Act.put]
          refine m_skip11 (Mx.wanted_none rfl) (store_row_run 35 (.tmp 11) (.tmp 67) rfl (w.heap.size + 2) _ rfl rfl _ _ ((setRow_other _ _ _ _ (by omega)).trans HR4.out) infoE rfl (by first | rfl | simp [Value.oneCell'])) ((setRow_other _ _ _ _ HNB.out.2).trans ((setRow_other _ _ _ _ HNB.out.1).trans HA4.out)) ?_
          simp only [Act.put]
          refine Mx.m_run (w' := (w4.setRow (w.heap.size + 1) #[.int .i64 k2, .string i2, .string n2, .string l2, .string u2, .int .i64 d2, .int .i64 v2, .nilIface]).setRow (w.heap.size + 2) #[.int .i64 k2, .string i2, .string n2, .string l2, .string u2, .int .i64 d2, .int .i64 v2, .int .i64 (plainC (.odd (.nilIface))).kind, .string (plainC (.odd (.nilIface))).s, .int .i64 (plainC (.odd (.nilIface))).n, .slice ka4 (plainC (.odd (.nilIface))).k.length kc4]) (.bool false) (Mx.wanted_none rfl) ?_ ((setRow_other _ _ _ _ HNB.out.2).trans ((setRow_other _ _ _ _ HNB.out.1).trans HA4.out)) ?_
          · go_simp
          simp only [Act.put, List.setIfInBounds_toArray, List.set_cons_zero, List.set_cons_succ]
          refine Mx.m_nil (fun _ => ?_)
          go_wp2_with fail
          refine bodyPost_ret (results_cct rfl _ _ (w.heap.size + 1) (w.heap.size + 2) 30 35 #[.int .i64 k2, .string i2, .string n2, .string l2, .string u2, .int .i64 d2, .int .i64 v2, .nilIface] _ (0, 0) (0, 0) _ _ rfl ((setRow_other _ _ _ _ (by omega)).trans (setRow_heap _ _ _ _ _ _ HP4.out)) Tryz.underlying30 rfl infoA rfl (setRow_heap _ _ _ _ _ _ ((setRow_other _ _ _ _ (by omega)).trans HR4.out)) Tryz.underlying35 rfl infoE) rfl ?_
          exact ⟨⟨k2, i2, n2, l2, u2, d2, v2, (.odd (.nilIface))⟩, _, false, rfl, ⟨⟨HM2.out.ok.k1, HM2.out.ok.k2, HM2.out.ok.d1, HM2.out.ok.d2, HM2.out.ok.v1, HM2.out.ok.v2, HM2.out.ok.i, HM2.out.ok.n, HM2.out.ok.l, HM2.out.ok.u, HOV.out, (by show (1 : Nat) ≤ 1000000; omega)⟩, HM2.out.i, HM2.out.n, HM2.out.l, HM2.out.u, (by show (1 : Nat) ≤ 1000; omega)⟩, ⟨ka4, kc4, rfl, trow11 (trow11 HT4.out _ (show w.heap.size + 1 < W9.heap.size by have := HZ9.out; omega) (Nat.le_refl _)) _ (show w.heap.size + 2 < W9.heap.size by have := HZ9.out; omega) (Nat.zero_le _)⟩, (fun _ => .inl rfl), (fun h => by cases h), (fun h => by cases h), row_below (row_below HB4.out (by omega) _) (by omega) _⟩
        · go_upto_region 22 with fail
          have HEV := hidIn (event_any ⟨k2, i2, n2, l2, u2, d2, v2, (.odd (.iface ot ox))⟩ HOV.out)
          unfold Ev.val Ev.cs RIn at HEV
          simp only at HEV
          have HP9 : Hid ((w5.setCell ⟨w3.heap.size, 7, none⟩ (.iface ot ox)).heap[w.heap.size + 1]? = some (.cells #[.int .i64 0, .string ⟨#[]⟩, .string ⟨#[]⟩, .string ⟨#[]⟩, .string ⟨#[]⟩, .int .i64 0, .int .i64 0, .nilIface] 30)) := (heap_setCell_other _ ⟨w3.heap.size, 7, none⟩ _ _ (by have := HZ4.out; show w.heap.size + 1 ≠ w3.heap.size; omega)).trans HP5.out
          have HR9 : Hid ((w5.setCell ⟨w3.heap.size, 7, none⟩ (.iface ot ox)).heap[w.heap.size + 2]? = some (.cells zero11 35)) := (heap_setCell_other _ ⟨w3.heap.size, 7, none⟩ _ _ (by have := HZ4.out; show w.heap.size + 2 ≠ w3.heap.size; omega)).trans HR5.out
          have HA : Hid ((w5.setCell ⟨w3.heap.size, 7, none⟩ (.iface ot ox)).heap[w3.heap.size]? = some (.cells #[.int .i64 k2, .string i2, .string n2, .string l2, .string u2, .int .i64 d2, .int .i64 v2, .iface ot ox] 30)) := heap_setCell_same _ w3.heap.size 7 _ _ _ HE5.out
          have HB9 : Hid (Below w.heap.size w (w5.setCell ⟨w3.heap.size, 7, none⟩ (.iface ot ox))) := HB5.out.setCell (show w.heap.size ≤ w3.heap.size by have := HZ4.out; omega) _
          have HNB : Hid (w3.heap.size ≠ w.heap.size + 1 ∧ w3.heap.size ≠ w.heap.size + 2) := by have := HZ4.out; exact ⟨by omega, by omega⟩
          have HZ9 : Hid (w.heap.size + 3 ≤ (w5.setCell ⟨w3.heap.size, 7, none⟩ (.iface ot ox)).heap.size) := by have h1 := HZ4.out; have h2 := HZ5.out; unfold Hid; rw [World.size_setCell]; omega
          generalize w5.setCell ⟨w3.heap.size, 7, none⟩ (.iface ot ox) = W9 at *
          refine Mx.wp_region_mix (fun W => W.heap[w3.heap.size]? = some (.cells #[.int .i64 k2, .string i2, .string n2, .string l2, .string u2, .int .i64 d2, .int .i64 v2, .iface ot ox] 30)) [(0, false), (1, false), (3, false), (2, true), (4, true), (5, true), (6, true)] (by kernel_rfl) (by kernel_rfl) HA.out ?_ (by kernel_rfl)
          simp only [List.map_cons, List.map_nil, List.getD_cons_zero, List.getD_cons_succ]
          generalize hops : (#[_, _, _, _, _, _, _] : Array Oper) = ops
          clear hops
          refine Mx.m_pure (.agg #[.int .i64 k2, .string i2, .string n2, .string l2, .string u2, .int .i64 d2, .int .i64 v2, .iface ot ox]) (Mx.wanted_none rfl) (fun W hW => ?_) ?_
          · obtain ⟨z0, z1, z2, z3, z4, z5, z6, z7⟩ := cells8e hW
            go_simp
          simp only [Act.put, List.setIfInBounds_toArray, List.set_cons_zero, List.set_cons_succ]
          refine Mx.m_pure (.agg #[.int .i64 k2, .string i2, .string n2, .string l2, .string u2, .int .i64 d2, .int .i64 v2, .iface ot ox]) (Mx.wanted_none rfl) (fun W hW => ?_) ?_
          · obtain ⟨z0, z1, z2, z3, z4, z5, z6, z7⟩ := cells8e hW
            go_simp
          simp only [Act.put, List.setIfInBounds_toArray, List.set_cons_zero, List.set_cons_succ]
          refine Mx.m_pure (.bool true) (Mx.wanted_none rfl) (fun W hW => ?_) ?_
          · go_simp
          simp only [Act.put, List.setIfInBounds_toArray, List.set_cons_zero, List.set_cons_succ]
          refine Mx.m_call 37 #[.agg #[.int .i64 k2, .string i2, .string n2, .string l2, .string u2, .int .i64 d2, .int .i64 v2, .iface ot ox]] (Mx.wanted_none rfl) ?_ ?_
          · go_simp
          refine (HEV.out W9.drew).mono ?_
          rintro e w4 ⟨r4, rfl, ⟨ka4, kc4, rfl, ht4⟩, hb4⟩
          have HT4 := hidIn ht4
          have HB4 := hidIn (HB9.out.trans ((show Below W9.heap.size W9 w4 from ⟨hb4.os, hb4.tape, hb4.output, hb4.size, hb4.block⟩).mono HB9.out.size))
          have HA4 : Hid (w4.heap[w3.heap.size]? = some (.cells #[.int .i64 k2, .string i2, .string n2, .string l2, .string u2, .int .i64 d2, .int .i64 v2, .iface ot ox] 30)) := (hb4.block _ (Array.getElem?_eq_some_iff.1 HA.out).1).trans HA.out
          have HP4 : Hid (w4.heap[w.heap.size + 1]? = some (.cells #[.int .i64 0, .string ⟨#[]⟩, .string ⟨#[]⟩, .string ⟨#[]⟩, .string ⟨#[]⟩, .int .i64 0, .int .i64 0, .nilIface] 30)) := (hb4.block _ (Array.getElem?_eq_some_iff.1 HP9.out).1).trans HP9.out
          have HR4 : Hid (w4.heap[w.heap.size + 2]? = some (.cells zero11 35)) := (hb4.block _ (Array.getElem?_eq_some_iff.1 HR9.out).1).trans HR9.out
          clear ht4 hb4
          refine ⟨_, rfl, HA4.out, ?_⟩
          simp only [Act.put, List.setIfInBounds_toArray, List.set_cons_zero, List.set_cons_succ]
          refine m_skip11 (Mx.wanted_none rfl) (store_row_run 30 (.tmp 10) (.tmp 65) rfl (w.heap.size + 1) #[.int .i64 k2, .string i2, .string n2, .string l2, .string u2, .int .i64 d2, .int .i64 v2, .iface ot ox] rfl rfl _ _ HP4.out infoA rfl (by first | rfl | simp [Value.oneCell'])) ((setRow_other _ _ _ _ HNB.out.1).trans HA4.out) ?_
          simp only [Act.put]
          refine m_skip11 (Mx.wanted_none rfl) (store_row_run 35 (.tmp 11) (.tmp 67) rfl (w.heap.size + 2) _ rfl rfl _ _ ((setRow_other _ _ _ _ (by omega)).trans HR4.out) infoE rfl (by first | rfl | simp [Value.oneCell'])) ((setRow_other _ _ _ _ HNB.out.2).trans ((setRow_other _ _ _ _ HNB.out.1).trans HA4.out)) ?_
          simp only [Act.put]
          refine Mx.m_run (w' := (w4.setRow (w.heap.size + 1) #[.int .i64 k2, .string i2, .string n2, .string l2, .string u2, .int .i64 d2, .int .i64 v2, .iface ot ox]).setRow (w.heap.size + 2) #[.int .i64 k2, .string i2, .string n2, .string l2, .string u2, .int .i64 d2, .int .i64 v2, .int .i64 (plainC (.odd (.iface ot ox))).kind, .string (plainC (.odd (.iface ot ox))).s, .int .i64 (plainC (.odd (.iface ot ox))).n, .slice ka4 (plainC (.odd (.iface ot ox))).k.length kc4]) (.bool true) (Mx.wanted_none rfl) ?_ ((setRow_other _ _ _ _ HNB.out.2).trans ((setRow_other _ _ _ _ HNB.out.1).trans HA4.out)) ?_
          · go_simp
          simp only [Act.put, List.setIfInBounds_toArray, List.set_cons_zero, List.set_cons_succ]
          refine Mx.m_nil (fun _ => ?_)
          go_wp2_with fail
          refine bodyPost_ret (results_cct rfl _ _ (w.heap.size + 1) (w.heap.size + 2) 30 35 #[.int .i64 k2, .string i2, .string n2, .string l2, .string u2, .int .i64 d2, .int .i64 v2, .iface ot ox] _ (0, 0) (0, 0) _ _ rfl ((setRow_other _ _ _ _ (by omega)).trans (setRow_heap _ _ _ _ _ _ HP4.out)) Tryz.underlying30 rfl infoA rfl (setRow_heap _ _ _ _ _ _ ((setRow_other _ _ _ _ (by omega)).trans HR4.out)) Tryz.underlying35 rfl infoE) rfl ?_
          exact ⟨⟨k2, i2, n2, l2, u2, d2, v2, (.odd (.iface ot ox))⟩, _, true, rfl, ⟨⟨HM2.out.ok.k1, HM2.out.ok.k2, HM2.out.ok.d1, HM2.out.ok.d2, HM2.out.ok.v1, HM2.out.ok.v2, HM2.out.ok.i, HM2.out.ok.n, HM2.out.ok.l, HM2.out.ok.u, HOV.out, (by show (1 : Nat) ≤ 1000000; omega)⟩, HM2.out.i, HM2.out.n, HM2.out.l, HM2.out.u, (by show (1 : Nat) ≤ 1000; omega)⟩, ⟨ka4, kc4, rfl, trow11 (trow11 HT4.out _ (show w.heap.size + 1 < W9.heap.size by have := HZ9.out; omega) (Nat.le_refl _)) _ (show w.heap.size + 2 < W9.heap.size by have := HZ9.out; omega) (Nat.zero_le _)⟩, (fun h => by cases h), (fun _ => ⟨rfl, rfl⟩), (fun _ => by simpa using hod), row_below (row_below HB4.out (by omega) _) (by omega) _⟩
    · have HS3 : Hid (SmSt w w1.heap.size (Ev.rcs ⟨k2, i2, n2, l2, u2, d2, v2, t2⟩ ka2 kc2) w3) := HS2.out.below hb3
      clear hb3
      cases hod : (odd.tmod 11 == 10)
      · go_upto_region 22 with fail
        have HEV := hidIn (event_any ⟨k2, i2, n2, l2, u2, d2, v2, t2⟩ HM2.out.ok.t)
        unfold Ev.val Ev.cs RIn at HEV
        simp only at HEV
        rw [HTV.out] at HEV
        have HP9 : Hid ((w3.alloc (.cells #[.int .i64 k2, .string i2, .string n2, .string l2, .string u2, .int .i64 d2, .int .i64 v2, .iface xt xv] 30)).heap[w.heap.size + 1]? = some (.cells #[.int .i64 0, .string ⟨#[]⟩, .string ⟨#[]⟩, .string ⟨#[]⟩, .string ⟨#[]⟩, .int .i64 0, .int .i64 0, .nilIface] 30)) := heap_keeps HS3.out.p _
        have HR9 : Hid ((w3.alloc (.cells #[.int .i64 k2, .string i2, .string n2, .string l2, .string u2, .int .i64 d2, .int .i64 v2, .iface xt xv] 30)).heap[w.heap.size + 2]? = some (.cells zero11 35)) := heap_keeps HS3.out.r _
        have HA : Hid ((w3.alloc (.cells #[.int .i64 k2, .string i2, .string n2, .string l2, .string u2, .int .i64 d2, .int .i64 v2, .iface xt xv] 30)).heap[w3.heap.size]? = some (.cells #[.int .i64 k2, .string i2, .string n2, .string l2, .string u2, .int .i64 d2, .int .i64 v2, .iface xt xv] 30)) := heap_alloc_new _ _
        have HB9 : Hid (Below w.heap.size w (w3.alloc (.cells #[.int .i64 k2, .string i2, .string n2, .string l2, .string u2, .int .i64 d2, .int .i64 v2, .iface xt xv] 30))) := below_alloc HS3.out.b _
        have HNB : Hid (w3.heap.size ≠ w.heap.size + 1 ∧ w3.heap.size ≠ w.heap.size + 2) := by have h1 := (Array.getElem?_eq_some_iff.1 HS3.out.e).1; have h2 := HS3.out.m; exact ⟨by omega, by omega⟩
        have HZ9 : Hid (w.heap.size + 3 ≤ (w3.alloc (.cells #[.int .i64 k2, .string i2, .string n2, .string l2, .string u2, .int .i64 d2, .int .i64 v2, .iface xt xv] 30)).heap.size) := by have h1 := (Array.getElem?_eq_some_iff.1 HS3.out.e).1; have h2 := HS3.out.m; unfold Hid; simp; omega
        generalize w3.alloc (.cells #[.int .i64 k2, .string i2, .string n2, .string l2, .string u2, .int .i64 d2, .int .i64 v2, .iface xt xv] 30) = W9 at *
        refine Mx.wp_region_mix (fun W => W.heap[w3.heap.size]? = some (.cells #[.int .i64 k2, .string i2, .string n2, .string l2, .string u2, .int .i64 d2, .int .i64 v2, .iface xt xv] 30)) [(0, false), (1, false), (3, false), (2, true), (4, true), (5, true), (6, true)] (by kernel_rfl) (by kernel_rfl) HA.out ?_ (by kernel_rfl)
        simp only [List.map_cons, List.map_nil, List.getD_cons_zero, List.getD_cons_succ]
        generalize hops : (#[_, _, _, _, _, _, _] : Array Oper) = ops
        clear hops
        refine Mx.m_pure (.agg #[.int .i64 k2, .string i2, .string n2, .string l2, .string u2, .int .i64 d2, .int .i64 v2, .iface xt xv]) (Mx.wanted_none rfl) (fun W hW => ?_) ?_
        · obtain ⟨z0, z1, z2, z3, z4, z5, z6, z7⟩ := cells8e hW
          go_simp
        simp only [Act.put, List.setIfInBounds_toArray, List.set_cons_zero, List.set_cons_succ]
        refine Mx.m_pure (.agg #[.int .i64 k2, .string i2, .string n2, .string l2, .string u2, .int .i64 d2, .int .i64 v2, .iface xt xv]) (Mx.wanted_none rfl) (fun W hW => ?_) ?_
        · obtain ⟨z0, z1, z2, z3, z4, z5, z6, z7⟩ := cells8e hW
          go_simp
        simp only [Act.put, List.setIfInBounds_toArray, List.set_cons_zero, List.set_cons_succ]
        refine Mx.m_pure (.bool false) (Mx.wanted_none rfl) (fun W hW => ?_) ?_
        · go_simp
        simp only [Act.put, List.setIfInBounds_toArray, List.set_cons_zero, List.set_cons_succ]
        refine Mx.m_call 37 #[.agg #[.int .i64 k2, .string i2, .string n2, .string l2, .string u2, .int .i64 d2, .int .i64 v2, .iface xt xv]] (Mx.wanted_none rfl) ?_ ?_
        · go_simp
        refine (HEV.out W9.drew).mono ?_
        rintro e w4 ⟨r4, rfl, ⟨ka4, kc4, rfl, ht4⟩, hb4⟩
        have HT4 := hidIn ht4
        have HB4 := hidIn (HB9.out.trans ((show Below W9.heap.size W9 w4 from ⟨hb4.os, hb4.tape, hb4.output, hb4.size, hb4.block⟩).mono HB9.out.size))
        have HA4 : Hid (w4.heap[w3.heap.size]? = some (.cells #[.int .i64 k2, .string i2, .string n2, .string l2, .string u2, .int .i64 d2, .int .i64 v2, .iface xt xv] 30)) := (hb4.block _ (Array.getElem?_eq_some_iff.1 HA.out).1).trans HA.out
        have HP4 : Hid (w4.heap[w.heap.size + 1]? = some (.cells #[.int .i64 0, .string ⟨#[]⟩, .string ⟨#[]⟩, .string ⟨#[]⟩, .string ⟨#[]⟩, .int .i64 0, .int .i64 0, .nilIface] 30)) := (hb4.block _ (Array.getElem?_eq_some_iff.1 HP9.out).1).trans HP9.out
        have HR4 : Hid (w4.heap[w.heap.size + 2]? = some (.cells zero11 35)) := (hb4.block _ (Array.getElem?_eq_some_iff.1 HR9.out).1).trans HR9.out
        clear ht4 hb4
        refine ⟨_, rfl, HA4.out, ?_⟩
        simp only [Act.put, List.setIfInBounds_toArray, List.set_cons_zero, List.set_cons_succ]
        refine m_skip11 (Mx.wanted_none rfl) (store_row_run 30 (.tmp 10) (.tmp 65) rfl (w.heap.size + 1) #[.int .i64 k2, .string i2, .string n2, .string l2, .string u2, .int .i64 d2, .int .i64 v2, .iface xt xv] rfl rfl _ _ HP4.out infoA rfl (by first | rfl | simp [Value.oneCell'])) ((setRow_other _ _ _ _ HNB.out.1).trans HA4.out) ?_
        simp only [Act.put]
        refine m_skip11 (Mx.wanted_none rfl) (store_row_run 35 (.tmp 11) (.tmp 67) rfl (w.heap.size + 2) _ rfl rfl _ _ ((setRow_other _ _ _ _ (by omega)).trans HR4.out) infoE rfl (by first | rfl | simp [Value.oneCell'])) ((setRow_other _ _ _ _ HNB.out.2).trans ((setRow_other _ _ _ _ HNB.out.1).trans HA4.out)) ?_
        simp only [Act.put]
        refine Mx.m_run (w' := (w4.setRow (w.heap.size + 1) #[.int .i64 k2, .string i2, .string n2, .string l2, .string u2, .int .i64 d2, .int .i64 v2, .iface xt xv]).setRow (w.heap.size + 2) #[.int .i64 k2, .string i2, .string n2, .string l2, .string u2, .int .i64 d2, .int .i64 v2, .int .i64 (plainC t2).kind, .string (plainC t2).s, .int .i64 (plainC t2).n, .slice ka4 (plainC t2).k.length kc4]) (.bool false) (Mx.wanted_none rfl) ?_ ((setRow_other _ _ _ _ HNB.out.2).trans ((setRow_other _ _ _ _ HNB.out.1).trans HA4.out)) ?_
        · go_simp
        simp only [Act.put, List.setIfInBounds_toArray, List.set_cons_zero, List.set_cons_succ]
        refine Mx.m_nil (fun _ => ?_)
        go_wp2_with fail
        refine bodyPost_ret (results_cct rfl _ _ (w.heap.size + 1) (w.heap.size + 2) 30 35 #[.int .i64 k2, .string i2, .string n2, .string l2, .string u2, .int .i64 d2, .int .i64 v2, .iface xt xv] _ (0, 0) (0, 0) _ _ rfl ((setRow_other _ _ _ _ (by omega)).trans (setRow_heap _ _ _ _ _ _ HP4.out)) Tryz.underlying30 rfl infoA rfl (setRow_heap _ _ _ _ _ _ ((setRow_other _ _ _ _ (by omega)).trans HR4.out)) Tryz.underlying35 rfl infoE) rfl ?_
        exact ⟨⟨k2, i2, n2, l2, u2, d2, v2, t2⟩, _, false, by rw [show (Ev.mk k2 i2 n2 l2 u2 d2 v2 t2).val = .agg #[.int .i64 k2, .string i2, .string n2, .string l2, .string u2, .int .i64 d2, .int .i64 v2, .iface xt xv] from by unfold Ev.val Ev.cs; simp only; rw [HTV.out]]; rfl, ⟨HM2.out.ok, HM2.out.i, HM2.out.n, HM2.out.l, HM2.out.u, by rcases HM2.out.t with h | h; (rw [h]; decide); exact Nat.le_trans h.2 (by omega)⟩, ⟨ka4, kc4, rfl, trow11 (trow11 HT4.out _ (show w.heap.size + 1 < W9.heap.size by have := HZ9.out; omega) (Nat.le_refl _)) _ (show w.heap.size + 2 < W9.heap.size by have := HZ9.out; omega) (Nat.zero_le _)⟩, (fun _ => by rcases HM2.out.t with h | h; exact .inl h; exact .inr h.1), (fun h => by cases h), (fun h => by cases h), row_below (row_below HB4.out (by omega) _) (by omega) _⟩
      · have hdv := tdiv_in odd 11 (by omega) ho1 ho2
        have hwr : IntKind.i64.wrap (odd.tdiv 11) = odd.tdiv 11 := wrap_small _ hdv.1 hdv.2
        have HOD := hidIn (fun W => oddV_any (odd.tdiv 11) W hdv.1 hdv.2)
        clear hdv
        have HW4 : Hid (Below w.heap.size w (w3.alloc (.cells #[.int .i64 k2, .string i2, .string n2, .string l2, .string u2, .int .i64 d2, .int .i64 v2, .iface xt xv] 30))) := below_alloc HS3.out.b _
        have HP4 : Hid ((w3.alloc (.cells #[.int .i64 k2, .string i2, .string n2, .string l2, .string u2, .int .i64 d2, .int .i64 v2, .iface xt xv] 30)).heap[w.heap.size + 1]? = some (.cells #[.int .i64 0, .string ⟨#[]⟩, .string ⟨#[]⟩, .string ⟨#[]⟩, .string ⟨#[]⟩, .int .i64 0, .int .i64 0, .nilIface] 30)) := heap_keeps HS3.out.p _
        have HR4 : Hid ((w3.alloc (.cells #[.int .i64 k2, .string i2, .string n2, .string l2, .string u2, .int .i64 d2, .int .i64 v2, .iface xt xv] 30)).heap[w.heap.size + 2]? = some (.cells zero11 35)) := heap_keeps HS3.out.r _
        have HE4 : Hid ((w3.alloc (.cells #[.int .i64 k2, .string i2, .string n2, .string l2, .string u2, .int .i64 d2, .int .i64 v2, .iface xt xv] 30)).heap[w3.heap.size]? = some (.cells #[.int .i64 k2, .string i2, .string n2, .string l2, .string u2, .int .i64 d2, .int .i64 v2, .iface xt xv] 30)) := heap_alloc_new _ _
        have HZ4 : Hid (w.heap.size + 3 ≤ w3.heap.size) := by have h1 := (Array.getElem?_eq_some_iff.1 HS3.out.e).1; have h2 := HS3.out.m; unfold Hid; omega
        go_wp2_with fail
        generalize w3.alloc (.cells #[.int .i64 k2, .string i2, .string n2, .string l2, .string u2, .int .i64 d2, .int .i64 v2, .iface xt xv] 30) = w4 at *
        refine (HOD.out w4).mono ?_
        rintro e w5 ⟨ov, rfl, hov, hb5⟩
        have HOV := hidIn hov
        have HP5 : Hid (w5.heap[w.heap.size + 1]? = some (.cells #[.int .i64 0, .string ⟨#[]⟩, .string ⟨#[]⟩, .string ⟨#[]⟩, .string ⟨#[]⟩, .int .i64 0, .int .i64 0, .nilIface] 30)) := (hb5.block _ (Array.getElem?_eq_some_iff.1 HP4.out).1).trans HP4.out
        have HR5 : Hid (w5.heap[w.heap.size + 2]? = some (.cells zero11 35)) := (hb5.block _ (Array.getElem?_eq_some_iff.1 HR4.out).1).trans HR4.out
        have HE5 : Hid (w5.heap[w3.heap.size]? = some (.cells #[.int .i64 k2, .string i2, .string n2, .string l2, .string u2, .int .i64 d2, .int .i64 v2, .iface xt xv] 30)) := (hb5.block _ (Array.getElem?_eq_some_iff.1 HE4.out).1).trans HE4.out
        have HB5 := hidIn (HW4.out.trans (hb5.mono HW4.out.size))
        have HZ5 : Hid (w3.heap.size < w5.heap.size) := (Array.getElem?_eq_some_iff.1 HE5.out).1
        clear hb5 HW4 HP4 HR4 HE4 HOD hwr
        have ff : w5.frozen? ⟨w3.heap.size, 7, none⟩ = false := frozen_of_row _ _ _ _ _ HE5.out
        have fc := cell_of_row _ _ 7 _ _ _ HE5.out
        rcases hov with rfl | ⟨ot, ox, rfl, hno⟩
        · go_upto_region 22 with fail
          have HEV := hidIn (event_any ⟨k2, i2, n2, l2, u2, d2, v2, (.odd (.nilIface))⟩ HOV.out)
          unfold Ev.val Ev.cs RIn at HEV
          simp only at HEV
          have HP9 : Hid ((w5.setCell ⟨w3.heap.size, 7, none⟩ (.nilIface)).heap[w.heap.size + 1]? = some (.cells #[.int .i64 0, .string ⟨#[]⟩, .string ⟨#[]⟩, .string ⟨#[]⟩, .string ⟨#[]⟩, .int .i64 0, .int .i64 0, .nilIface] 30)) := (heap_setCell_other _ ⟨w3.heap.size, 7, none⟩ _ _ (by have := HZ4.out; show w.heap.size + 1 ≠ w3.heap.size; omega)).trans HP5.out
          have HR9 : Hid ((w5.setCell ⟨w3.heap.size, 7, none⟩ (.nilIface)).heap[w.heap.size + 2]? = some (.cells zero11 35)) := (heap_setCell_other _ ⟨w3.heap.size, 7, none⟩ _ _ (by have := HZ4.out; show w.heap.size + 2 ≠ w3.heap.size; omega)).trans HR5.out
          have HA : Hid ((w5.setCell ⟨w3.heap.size, 7, none⟩ (.nilIface)).heap[w3.heap.size]? = some (.cells #[.int .i64 k2, .string i2, .string n2, .string l2, .string u2, .int .i64 d2, .int .i64 v2, .nilIface] 30)) := heap_setCell_same _ w3.heap.size 7 _ _ _ HE5.out
          have HB9 : Hid (Below w.heap.size w (w5.setCell ⟨w3.heap.size, 7, none⟩ (.nilIface))) := HB5.out.setCell (show w.heap.size ≤ w3.heap.size by have := HZ4.out; omega) _
          have HNB : Hid (w3.heap.size ≠ w.heap.size + 1 ∧ w3.heap.size ≠ w.heap.size + 2) := by have := HZ4.out; exact ⟨by omega, by omega⟩
          have HZ9 : Hid (w.heap.size + 3 ≤ (w5.setCell ⟨w3.heap.size, 7, none⟩ (.nilIface)).heap.size) := by have h1 := HZ4.out; have h2 := HZ5.out; unfold Hid; rw [World.size_setCell]; omega
          generalize w5.setCell ⟨w3.heap.size, 7, none⟩ (.nilIface) = W9 at *
          refine Mx.wp_region_mix (fun W => W.heap[w3.heap.size]? = some (.cells #[.int .i64 k2, .string i2, .string n2, .string l2, .string u2, .int .i64 d2, .int .i64 v2, .nilIface] 30)) [(0, false), (1, false), (3, false), (2, true), (4, true), (5, true), (6, true)] (by kernel_rfl) (by kernel_rfl) HA.out ?_ (by kernel_rfl)
          simp only [List.map_cons, List.map_nil, List.getD_cons_zero, List.getD_cons_succ]
          generalize hops : (#[_, _, _, _, _, _, _] : Array Oper) = ops
          clear hops
          refine Mx.m_pure (.agg #[.int .i64 k2, .string i2, .string n2, .string l2, .string u2, .int .i64 d2, .int .i64 v2, .nilIface]) (Mx.wanted_none rfl) (fun W hW => ?_) ?_
          · obtain ⟨z0, z1, z2, z3, z4, z5, z6, z7⟩ := cells8e hW
            go_simp
          simp only [Act.put, List.setIfInBounds_toArray, List.set_cons_zero, List.set_cons_succ]
          refine Mx.m_pure (.agg #[.int .i64 k2, .string i2, .string n2, .string l2, .string u2, .int .i64 d2, .int .i64 v2, .nilIface]) (Mx.wanted_none rfl) (fun W hW => ?_) ?_
          · obtain ⟨z0, z1, z2, z3, z4, z5, z6, z7⟩ := cells8e hW
            go_simp
          simp only [Act.put, List.setIfInBounds_toArray, List.set_cons_zero, List.set_cons_succ]
          refine Mx.m_pure (.bool false) (Mx.wanted_none rfl) (fun W hW => ?_) ?_
          · go_simp
          simp only [Act.put, List.setIfInBounds_toArray, List.set_cons_zero, List.set_cons_succ]
          refine Mx.m_call 37 #[.agg #[.int .i64 k2, .string i2, .string n2, .string l2, .string u2, .int .i64 d2, .int .i64 v2, .nilIface]] (Mx.wanted_none rfl) ?_ ?_
          · go_simp
          refine (HEV.out W9.drew).mono ?_
          rintro e w4 ⟨r4, rfl, ⟨ka4, kc4, rfl, ht4⟩, hb4⟩
          have HT4 := hidIn ht4
          have HB4 := hidIn (HB9.out.trans ((show Below W9.heap.size W9 w4 from ⟨hb4.os, hb4.tape, hb4.output, hb4.size, hb4.block⟩).mono HB9.out.size))
          have HA4 : Hid (w4.heap[w3.heap.size]? = some (.cells #[.int .i64 k2, .string i2, .string n2, .string l2, .string u2, .int .i64 d2, .int .i64 v2, .nilIface] 30)) := (hb4.block _ (Array.getElem?_eq_some_iff.1 HA.out).1).trans HA.out
          have HP4 : Hid (w4.heap[w.heap.size + 1]? = some (.cells #[.int .i64 0, .string ⟨#[]⟩, .string ⟨#[]⟩, .string ⟨#[]⟩, .string ⟨#[]⟩, .int .i64 0, .int .i64 0, .nilIface] 30)) := (hb4.block _ (Array.getElem?_eq_some_iff.1 HP9.out).1).trans HP9.out
          have HR4 : Hid (w4.heap[w.heap.size + 2]? = some (.cells zero11 35)) := (hb4.block _ (Array.getElem?_eq_some_iff.1 HR9.out).1).trans HR9.out
          clear ht4 hb4
          refine ⟨_, rfl, HA4.out, ?_⟩
          simp only [Act.put, List.setIfInBounds_toArray, List.set_cons_zero, List.set_cons_succ]
          refine m_skip11 (Mx.wanted_none rfl) (store_row_run 30 (.tmp 10) (.tmp 65) rfl (w.heap.size + 1) #[.int .i64 k2, .string i2, .string n2, .string l2, .string u2, .int .i64 d2, .int .i64 v2, .nilIface] rfl rfl _ _ HP4.out infoA rfl (by first | rfl | simp [Value.oneCell'])) ((setRow_other _ _ _ _ HNB.out.1).trans HA4.out) ?_
          simp only [Act.put]
          refine m_skip11 (Mx.wanted_none rfl) (store_row_run 35 (.tmp 11) (.tmp 67) rfl (w.heap.size + 2) _ rfl rfl _ _ ((setRow_other _ _ _ _ (by omega)).trans HR4.out) infoE rfl (by first | rfl | simp [Value.oneCell'])) ((setRow_other _ _ _ _ HNB.out.2).trans ((setRow_other _ _ _ _ HNB.out.1).trans HA4.out)) ?_
          simp only [Act.put]
          refine Mx.m_run (w' := (w4.setRow (w.heap.size + 1) #[.int .i64 k2, .string i2, .string n2, .string l2, .string u2, .int .i64 d2, .int .i64 v2, .nilIface]).setRow (w.heap.size + 2) #[.int .i64 k2, .string i2, .string n2, .string l2, .string u2, .int .i64 d2, .int .i64 v2, .int .i64 (plainC (.odd (.nilIface))).kind, .string (plainC (.odd (.nilIface))).s, .int .i64 (plainC (.odd (.nilIface))).n, .slice ka4 (plainC (.odd (.nilIface))).k.length kc4]) (.bool false) (Mx.wanted_none rfl) ?_ ((setRow_other _ _ _ _ HNB.out.2).trans ((setRow_other _ _ _ _ HNB.out.1).trans HA4.out)) ?_
          · go_simp
          simp only [Act.put, List.setIfInBounds_toArray, List.set_cons_zero, List.set_cons_succ]
          refine Mx.m_nil (fun _ => ?_)
          go_wp2_with fail
          refine bodyPost_ret (results_cct rfl _ _ (w.heap.size + 1) (w.heap.size + 2) 30 35 #[.int .i64 k2, .string i2, .string n2, .string l2, .string u2, .int .i64 d2, .int .i64 v2, .nilIface] _ (0, 0) (0, 0) _ _ rfl ((setRow_other _ _ _ _ (by omega)).trans (setRow_heap _ _ _ _ _ _ HP4.out)) Tryz.underlying30 rfl infoA rfl (setRow_heap _ _ _ _ _ _ ((setRow_other _ _ _ _ (by omega)).trans HR4.out)) Tryz.underlying35 rfl infoE) rfl ?_
          exact ⟨⟨k2, i2, n2, l2, u2, d2, v2, (.odd (.nilIface))⟩, _, false, rfl, ⟨⟨HM2.out.ok.k1, HM2.out.ok.k2, HM2.out.ok.d1, HM2.out.ok.d2, HM2.out.ok.v1, HM2.out.ok.v2, HM2.out.ok.i, HM2.out.ok.n, HM2.out.ok.l, HM2.out.ok.u, HOV.out, (by show (1 : Nat) ≤ 1000000; omega)⟩, HM2.out.i, HM2.out.n, HM2.out.l, HM2.out.u, (by show (1 : Nat) ≤ 1000; omega)⟩, ⟨ka4, kc4, rfl, trow11 (trow11 HT4.out _ (show w.heap.size + 1 < W9.heap.size by have := HZ9.out; omega) (Nat.le_refl _)) _ (show w.heap.size + 2 < W9.heap.size by have := HZ9.out; omega) (Nat.zero_le _)⟩, (fun _ => .inl rfl), (fun h => by cases h), (fun h => by cases h), row_below (row_below HB4.out (by omega) _) (by omega) _⟩
        · go_upto_region 22 with fail
          have HEV := hidIn (event_any ⟨k2, i2, n2, l2, u2, d2, v2, (.odd (.iface ot ox))⟩ HOV.out)
          unfold Ev.val Ev.cs RIn at HEV
          simp only at HEV
          have HP9 : Hid ((w5.setCell ⟨w3.heap.size, 7, none⟩ (.iface ot ox)).heap[w.heap.size + 1]? = some (.cells #[.int .i64 0, .string ⟨#[]⟩, .string ⟨#[]⟩, .string ⟨#[]⟩, .string ⟨#[]⟩, .int .i64 0, .int .i64 0, .nilIface] 30)) := (heap_setCell_other _ ⟨w3.heap.size, 7, none⟩ _ _ (by have := HZ4.out; show w.heap.size + 1 ≠ w3.heap.size; omega)).trans HP5.out
          have HR9 : Hid ((w5.setCell ⟨w3.heap.size, 7, none⟩ (.iface ot ox)).heap[w.heap.size + 2]? = some (.cells zero11 35)) := (heap_setCell_other _ ⟨w3.heap.size, 7, none⟩ _ _ (by have := HZ4.out; show w.heap.size + 2 ≠ w3.heap.size; omega)).trans HR5.out
          have HA : Hid ((w5.setCell ⟨w3.heap.size, 7, none⟩ (.iface ot ox)).heap[w3.heap.size]? = some (.cells #[.int .i64 k2, .string i2, .string n2, .string l2, .string u2, .int .i64 d2, .int .i64 v2, .iface ot ox] 30)) := heap_setCell_same _ w3.heap.size 7 _ _ _ HE5.out
          have HB9 : Hid (Below w.heap.size w (w5.setCell ⟨w3.heap.size, 7, none⟩ (.iface ot ox))) := HB5.out.setCell (show w.heap.size ≤ w3.heap.size by have := HZ4.out; omega) _
          have HNB : Hid (w3.heap.size ≠ w.heap.size + 1 ∧ w3.heap.size ≠ w.heap.size + 2) := by have := HZ4.out; exact ⟨by omega, by omega⟩
          have HZ9 : Hid (w.heap.size + 3 ≤ (w5.setCell ⟨w3.heap.size, 7, none⟩ (.iface ot ox)).heap.size) := by have h1 := HZ4.out; have h2 := HZ5.out; unfold Hid; rw [World.size_setCell]; omega
          generalize w5.setCell ⟨w3.heap.size, 7, none⟩ (.iface ot ox) = W9 at *
          refine Mx.wp_region_mix (fun W => W.heap[w3.heap.size]? = some (.cells #[.int .i64 k2, .string i2, .string n2, .string l2, .string u2, .int .i64 d2, .int .i64 v2, .iface ot ox] 30)) [(0, false), (1, false), (3, false), (2, true), (4, true), (5, true), (6, true)] (by kernel_rfl) (by kernel_rfl) HA.out ?_ (by kernel_rfl)
          simp only [List.map_cons, List.map_nil, List.getD_cons_zero, List.getD_cons_succ]
          generalize hops : (#[_, _, _, _, _, _, _] : Array Oper) = ops
          clear hops
          refine Mx.m_pure (.agg #[.int .i64 k2, .string i2, .string n2, .string l2, .string u2, .int .i64 d2, .int .i64 v2, .iface ot ox]) (Mx.wanted_none rfl) (fun W hW => ?_) ?_
          · obtain ⟨z0, z1, z2, z3, z4, z5, z6, z7⟩ := cells8e hW
            go_simp
          simp only [Act.put, List.setIfInBounds_toArray, List.set_cons_zero, List.set_cons_succ]
          refine Mx.m_pure (.agg #[.int .i64 k2, .string i2, .string n2, .string l2, .string u2, .int .i64 d2, .int .i64 v2, .iface ot ox]) (Mx.wanted_none rfl) (fun W hW => ?_) ?_
          · obtain ⟨z0, z1, z2, z3, z4, z5, z6, z7⟩ := cells8e hW
            go_simp
          simp only [Act.put, List.setIfInBounds_toArray, List.set_cons_zero, List.set_cons_succ]
          refine Mx.m_pure (.bool true) (Mx.wanted_none rfl) (fun W hW => ?_) ?_
          · go_simp
          simp only [Act.put, List.setIfInBounds_toArray, List.set_cons_zero, List.set_cons_succ]
          refine Mx.m_call 37 #[.agg #[.int .i64 k2, .string i2, .string n2, .string l2, .string u2, .int .i64 d2, .int .i64 v2, .iface ot ox]] (Mx.wanted_none rfl) ?_ ?_
          · go_simp
          refine (HEV.out W9.drew).mono ?_
          rintro e w4 ⟨r4, rfl, ⟨ka4, kc4, rfl, ht4⟩, hb4⟩
          have HT4 := hidIn ht4
          have HB4 := hidIn (HB9.out.trans ((show Below W9.heap.size W9 w4 from ⟨hb4.os, hb4.tape, hb4.output, hb4.size, hb4.block⟩).mono HB9.out.size))
          have HA4 : Hid (w4.heap[w3.heap.size]? = some (.cells #[.int .i64 k2, .string i2, .string n2, .string l2, .string u2, .int .i64 d2, .int .i64 v2, .iface ot ox] 30)) := (hb4.block _ (Array.getElem?_eq_some_iff.1 HA.out).1).trans HA.out
          have HP4 : Hid (w4.heap[w.heap.size + 1]? = some (.cells #[.int .i64 0, .string ⟨#[]⟩, .string ⟨#[]⟩, .string ⟨#[]⟩, .string ⟨#[]⟩, .int .i64 0, .int .i64 0, .nilIface] 30)) := (hb4.block _ (Array.getElem?_eq_some_iff.1 HP9.out).1).trans HP9.out
          have HR4 : Hid (w4.heap[w.heap.size + 2]? = some (.cells zero11 35)) := (hb4.block _ (Array.getElem?_eq_some_iff.1 HR9.out).1).trans HR9.out
          clear ht4 hb4
          refine ⟨_, rfl, HA4.out, ?_⟩
          simp only [Act.put, List.setIfInBounds_toArray, List.set_cons_zero, List.set_cons_succ]
          refine m_skip11 (Mx.wanted_none rfl) (store_row_run 30 (.tmp 10) (.tmp 65) rfl (w.heap.size + 1) #[.int .i64 k2, .string i2, .string n2, .string l2, .string u2, .int .i64 d2, .int .i64 v2, .iface ot ox] rfl rfl _ _ HP4.out infoA rfl (by first | rfl | simp [Value.oneCell'])) ((setRow_other _ _ _ _ HNB.out.1).trans HA4.out) ?_
          simp only [Act.put]
          refine m_skip11 (Mx.wanted_none rfl) (store_row_run 35 (.tmp 11) (.tmp 67) rfl (w.heap.size + 2) _ rfl rfl _ _ ((setRow_other _ _ _ _ (by omega)).trans HR4.out) infoE rfl (by first | rfl | simp [Value.oneCell'])) ((setRow_other _ _ _ _ HNB.out.2).trans ((setRow_other _ _ _ _ HNB.out.1).trans HA4.out)) ?_
          simp only [Act.put]
          refine Mx.m_run (w' := (w4.setRow (w.heap.size + 1) #[.int .i64 k2, .string i2, .string n2, .string l2, .string u2, .int .i64 d2, .int .i64 v2, .iface ot ox]).setRow (w.heap.size + 2) #[.int .i64 k2, .string i2, .string n2, .string l2, .string u2, .int .i64 d2, .int .i64 v2, .int .i64 (plainC (.odd (.iface ot ox))).kind, .string (plainC (.odd (.iface ot ox))).s, .int .i64 (plainC (.odd (.iface ot ox))).n, .slice ka4 (plainC (.odd (.iface ot ox))).k.length kc4]) (.bool true) (Mx.wanted_none rfl) ?_ ((setRow_other _ _ _ _ HNB.out.2).trans ((setRow_other _ _ _ _ HNB.out.1).trans HA4.out)) ?_
          · go_simp
          simp only [Act.put, List.setIfInBounds_toArray, List.set_cons_zero, List.set_cons_succ]
          refine Mx.m_nil (fun _ => ?_)
          go_wp2_with fail
          refine bodyPost_ret (results_cct rfl _ _ (w.heap.size + 1) (w.heap.size + 2) 30 35 #[.int .i64 k2, .string i2, .string n2, .string l2, .string u2, .int .i64 d2, .int .i64 v2, .iface ot ox] _ (0, 0) (0, 0) _ _ rfl ((setRow_other _ _ _ _ (by omega)).trans (setRow_heap _ _ _ _ _ _ HP4.out)) Tryz.underlying30 rfl infoA rfl (setRow_heap _ _ _ _ _ _ ((setRow_other _ _ _ _ (by omega)).trans HR4.out)) Tryz.underlying35 rfl infoE) rfl ?_
          exact ⟨⟨k2, i2, n2, l2, u2, d2, v2, (.odd (.iface ot ox))⟩, _, true, rfl, ⟨⟨HM2.out.ok.k1, HM2.out.ok.k2, HM2.out.ok.d1, HM2.out.ok.d2, HM2.out.ok.v1, HM2.out.ok.v2, HM2.out.ok.i, HM2.out.ok.n, HM2.out.ok.l, HM2.out.ok.u, HOV.out, (by show (1 : Nat) ≤ 1000000; omega)⟩, HM2.out.i, HM2.out.n, HM2.out.l, HM2.out.u, (by show (1 : Nat) ≤ 1000; omega)⟩, ⟨ka4, kc4, rfl, trow11 (trow11 HT4.out _ (show w.heap.size + 1 < W9.heap.size by have := HZ9.out; omega) (Nat.le_refl _)) _ (show w.heap.size + 2 < W9.heap.size by have := HZ9.out; omega) (Nat.zero_le _)⟩, (fun h => by cases h), (fun _ => ⟨rfl, rfl⟩), (fun _ => by simpa using hod), row_below (row_below HB4.out (by omega) _) (by omega) _⟩

end Go.Proofs.YtkioolbjmcpjpaaGreatDoor.Ev
namespace Go.Proofs.YtkioolbjmcpjpaaGreatDoor.Ev
open Go.RowKit
set_option linter.unusedVariables false

theorem Cm.In.below {w w' : World} {c : Cm} (h : c.In w) (hb : Below w.heap.size w w') : c.In w' := ⟨h.k1, h.k2, h.a1, h.a2, h.b1, h.b2, h.d1, h.d2, h.v1, h.v2, h.s, h.p.below hb⟩
def xS : ByteArray := ⟨#[120]⟩
/-- An event, one thing of it turned. -/
def Ev.turn (e : Ev) (q : Nat) : Ev :=
  if q = 0 then { e with k := IntKind.i64.wrap (e.k + 1) } else if q = 1 then { e with i := e.i ++ xS } else if q = 2 then { e with n := e.n ++ xS } else if q = 3 then { e with l := e.l ++ xS } else if q = 4 then { e with u := e.u ++ xS }
  else if q = 5 then { e with d := bits .xor .i64 e.d 1 } else if q = 6 then { e with v := bits .xor .i64 e.v 1 } else { e with t := if nilB e.t = true then .zero else none' }
theorem wrap64i (n : Int) : IntKind.i64.wrap n = (BitVec.ofInt 64 n).toInt := by
  rw [BitVec.toInt_ofInt]
  simp only [IntKind.wrap, IntKind.bits, IntKind.signed, Int.bmod_def, Bool.true_and]
  split <;> split <;> rename_i a b <;> simp at a <;> omega
theorem xor_one (n : Int) (h1 : -9223372036854775808 ≤ n) (h2 : n ≤ 9223372036854775807) : bits .xor .i64 n 1 ≠ n ∧ -9223372036854775808 ≤ bits .xor .i64 n 1 ∧ bits .xor .i64 n 1 ≤ 9223372036854775807 := by
  have e : bits .xor .i64 n 1 = (BitVec.ofInt 64 n ^^^ 1#64).toInt := by
    show IntKind.i64.wrap ((BitVec.ofInt 64 n ^^^ BitVec.ofInt 64 1).toNat : Int) = _
    rw [wrap64i]
    congr 1
    apply BitVec.eq_of_toNat_eq
    rw [BitVec.toNat_ofInt]
    have := (BitVec.ofInt 64 n ^^^ BitVec.ofInt 64 1).isLt
    show ((((BitVec.ofInt 64 n ^^^ BitVec.ofInt 64 1).toNat : Nat) : Int) % ((2 ^ 64 : Nat) : Int)).toNat = (BitVec.ofInt 64 n ^^^ 1#64).toNat
    rw [show BitVec.ofInt 64 1 = 1#64 from rfl] at this ⊢
    omega
  have hn : n = (BitVec.ofInt 64 n).toInt := by
    rw [BitVec.toInt_ofInt, Int.bmod_def]
    split <;> omega
  rw [e]
  have h3 := BitVec.toInt_lt (x := BitVec.ofInt 64 n ^^^ 1#64)
  have h4 := BitVec.le_toInt (BitVec.ofInt 64 n ^^^ 1#64)
  refine ⟨fun h => ?_, by omega, by omega⟩
  rw [hn] at h
  rw [← hn] at h
  have h5 : BitVec.ofInt 64 n ^^^ 1#64 = BitVec.ofInt 64 n := BitVec.eq_of_toInt_eq (by rw [← hn]; exact h)
  have h6 := congrArg (fun b => BitVec.ofInt 64 n ^^^ b) h5
  simp [← BitVec.xor_assoc] at h6
theorem wrap_next (n : Int) (h1 : -9223372036854775808 ≤ n) (h2 : n ≤ 9223372036854775807) : IntKind.i64.wrap (n + 1) ≠ n ∧ -9223372036854775808 ≤ IntKind.i64.wrap (n + 1) ∧ IntKind.i64.wrap (n + 1) ≤ 9223372036854775807 := by
  rw [wrap64i, BitVec.toInt_ofInt, Int.bmod_def]
  split <;> omega
theorem app_ne (s : ByteArray) : (s ++ xS).toList ≠ s.toList := by
  rw [ByteArray.toList_eq, ByteArray.toList_eq]
  intro h
  have := congrArg List.length h
  simp [xS] at this
theorem same_self (e : Ev) (ht : e.t = none' ∨ e.t.whole) : sameE e e = true := by
  have h : sameTm e.t e.t = true := by
    rcases ht with h | h
    · rw [h]; rfl
    · unfold sameTm
      rw [whole_sameC _ h]
      simp
  unfold sameE
  simp [h]
theorem turn_tm (t : C) (hok : t.Ok) : sameTm t (if nilB t = true then .zero else none') = false ∧ sameTm (if nilB t = true then .zero else none') t = false := by
  cases t with
  | odd v =>
    rcases hok with rfl | ⟨x, y, rfl, _⟩
    · exact ⟨rfl, rfl⟩
    · exact ⟨rfl, rfl⟩
  | _ => exact ⟨rfl, rfl⟩
theorem same_turn (e : Ev) (hok : e.Ok) (q : Nat) (hq : q < 8) : sameE e (e.turn q) = false ∧ sameE (e.turn q) e = false := by
  have h1 := turn_tm e.t hok.t
  have hk := (wrap_next e.k hok.k1 hok.k2).1
  have hd := (xor_one e.d hok.d1 hok.d2).1
  have hv := (xor_one e.v hok.v1 hok.v2).1
  rcases (by omega : q = 0 ∨ q = 1 ∨ q = 2 ∨ q = 3 ∨ q = 4 ∨ q = 5 ∨ q = 6 ∨ q = 7) with rfl | rfl | rfl | rfl | rfl | rfl | rfl | rfl
  · rw [show e.turn 0 = { e with k := IntKind.i64.wrap (e.k + 1) } from rfl]
    have : (e.k == IntKind.i64.wrap (e.k + 1)) = false ∧ (IntKind.i64.wrap (e.k + 1) == e.k) = false := ⟨by rw [beq_eq_false_iff_ne]; exact fun h => hk h.symm, by rw [beq_eq_false_iff_ne]; exact hk⟩
    simp only [sameE, this, Bool.false_and, and_self]
  · rw [show e.turn 1 = { e with i := e.i ++ xS } from rfl]
    have : (e.i.toList == (e.i ++ xS).toList) = false ∧ ((e.i ++ xS).toList == e.i.toList) = false := ⟨by rw [beq_eq_false_iff_ne]; exact fun h => app_ne _ h.symm, by rw [beq_eq_false_iff_ne]; exact app_ne _⟩
    simp only [sameE, this, Bool.and_false, Bool.false_and, and_self]
  · rw [show e.turn 2 = { e with n := e.n ++ xS } from rfl]
    have : (e.n.toList == (e.n ++ xS).toList) = false ∧ ((e.n ++ xS).toList == e.n.toList) = false := ⟨by rw [beq_eq_false_iff_ne]; exact fun h => app_ne _ h.symm, by rw [beq_eq_false_iff_ne]; exact app_ne _⟩
    simp only [sameE, this, Bool.and_false, Bool.false_and, and_self]
  · rw [show e.turn 3 = { e with l := e.l ++ xS } from rfl]
    have : (e.l.toList == (e.l ++ xS).toList) = false ∧ ((e.l ++ xS).toList == e.l.toList) = false := ⟨by rw [beq_eq_false_iff_ne]; exact fun h => app_ne _ h.symm, by rw [beq_eq_false_iff_ne]; exact app_ne _⟩
    simp only [sameE, this, Bool.and_false, Bool.false_and, and_self]
  · rw [show e.turn 4 = { e with u := e.u ++ xS } from rfl]
    have : (e.u.toList == (e.u ++ xS).toList) = false ∧ ((e.u ++ xS).toList == e.u.toList) = false := ⟨by rw [beq_eq_false_iff_ne]; exact fun h => app_ne _ h.symm, by rw [beq_eq_false_iff_ne]; exact app_ne _⟩
    simp only [sameE, this, Bool.and_false, Bool.false_and, and_self]
  · rw [show e.turn 5 = { e with d := bits .xor .i64 e.d 1 } from rfl]
    have : (e.d == bits .xor .i64 e.d 1) = false ∧ (bits .xor .i64 e.d 1 == e.d) = false := ⟨by rw [beq_eq_false_iff_ne]; exact fun h => hd h.symm, by rw [beq_eq_false_iff_ne]; exact hd⟩
    simp only [sameE, this, Bool.and_false, Bool.false_and, and_self]
  · rw [show e.turn 6 = { e with v := bits .xor .i64 e.v 1 } from rfl]
    have : (e.v == bits .xor .i64 e.v 1) = false ∧ (bits .xor .i64 e.v 1 == e.v) = false := ⟨by rw [beq_eq_false_iff_ne]; exact fun h => hv h.symm, by rw [beq_eq_false_iff_ne]; exact hv⟩
    simp only [sameE, this, Bool.and_false, Bool.false_and, and_self]
  · have h2 : e.turn 7 = { e with t := if nilB e.t = true then .zero else none' } := rfl
    rw [h2]
    simp only [sameE, h1]
    simp
theorem turn_ok (e : Ev) (h : e.Turned) (q : Nat) : (e.turn q).Ok := by
  have hok := h.ok
  have hk := (wrap_next e.k hok.k1 hok.k2).2
  have hd := (xor_one e.d hok.d1 hok.d2).2
  have hv := (xor_one e.v hok.v1 hok.v2).2
  have ap : ∀ s : ByteArray, s.size ≤ 1000 → (s ++ xS).size ≤ maxLen := fun s hs => by rw [ByteArray.size_append]; have : xS.size = 1 := rfl; unfold maxLen; omega
  unfold Ev.turn
  split
  · exact ⟨hk.1, hk.2, hok.d1, hok.d2, hok.v1, hok.v2, hok.i, hok.n, hok.l, hok.u, hok.t, hok.w⟩
  split
  · exact ⟨hok.k1, hok.k2, hok.d1, hok.d2, hok.v1, hok.v2, ap _ h.i, hok.n, hok.l, hok.u, hok.t, hok.w⟩
  split
  · exact ⟨hok.k1, hok.k2, hok.d1, hok.d2, hok.v1, hok.v2, hok.i, ap _ h.n, hok.l, hok.u, hok.t, hok.w⟩
  split
  · exact ⟨hok.k1, hok.k2, hok.d1, hok.d2, hok.v1, hok.v2, hok.i, hok.n, ap _ h.l, hok.u, hok.t, hok.w⟩
  split
  · exact ⟨hok.k1, hok.k2, hok.d1, hok.d2, hok.v1, hok.v2, hok.i, hok.n, hok.l, ap _ h.u, hok.t, hok.w⟩
  split
  · exact ⟨hok.k1, hok.k2, hd.1, hd.2, hok.v1, hok.v2, hok.i, hok.n, hok.l, hok.u, hok.t, hok.w⟩
  split
  · exact ⟨hok.k1, hok.k2, hok.d1, hok.d2, hv.1, hv.2, hok.i, hok.n, hok.l, hok.u, hok.t, hok.w⟩
  · refine ⟨hok.k1, hok.k2, hok.d1, hok.d2, hok.v1, hok.v2, hok.i, hok.n, hok.l, hok.u, ?_, ?_⟩
    · show C.Ok (if nilB e.t = true then .zero else none')
      split
      · trivial
      · exact none_ok
    · show (if nilB e.t = true then C.zero else none').weight ≤ 1000000
      split <;> decide

set_option maxHeartbeats 8000000 in
set_option maxRecDepth 100000 in
theorem evSame_walk (c : Cm) (which : Int) (w : World) (hc : c.In w) (h1 : -9223372036854775808 ≤ which) (h2 : which ≤ 9223372036854775807) (htab : TabW w) : Calls Tryz.prog 3 #[.agg c.cs, .int .i64 which] w fun e w' => e = .returned (.bool true) ∧ Below w.heap.size w w' := by
  have HSM := hidIn (fun (W : World) (hW : Below w.heap.size w W) => some11_any c 99 0 ⟨#[]⟩ 0 W (hc.below hW) (by omega) (by omega) (by omega) (by omega) (by decide) (by omega) (by omega))
  have HWI := hidIn (fun W => within_any which 9 W (by omega) (by omega) h1 h2)
  obtain ⟨q, hq⟩ : ∃ q : Nat, which % 9 = q := ⟨(which % 9).toNat, by omega⟩
  have hq9 : q < 9 := by omega
  rw [hq] at HWI
  have HT := hidIn htab
  clear hc h1 h2 htab hq
  unfold Cm.cs at HSM ⊢
  go_enter Tryz.func3, Tryz.ntmps3
  go_wp2_with fail
  have HBV := hidIn (below_alloc (Below.refl w.heap.size w) (.cells #[.int .i64 c.k, .int .i64 c.a, .int .i64 c.b, .int .i64 c.d, .int .i64 c.v, .string c.s, .slice c.p.na c.p.nl c.p.nc, .slice c.p.wa c.p.wl c.p.wc] 27))
  generalize w.alloc (.cells #[.int .i64 c.k, .int .i64 c.a, .int .i64 c.b, .int .i64 c.d, .int .i64 c.v, .string c.s, .slice c.p.na c.p.nl c.p.nc, .slice c.p.wa c.p.wl c.p.wc] 27) = V at *
  refine (HSM.out V HBV.out).mono ?_
  rintro e w1 ⟨x, r, is, rfl, hturn, hrin, h0, -, hodd, hb⟩
  obtain rfl : is = false := by
    cases is
    · rfl
    · exact absurd (hodd rfl) (by decide)
  have HB1 := hidIn (HBV.out.trans (hb.mono HBV.out.size))
  have HTU := hidIn hturn
  have HSF := hidIn (same_self x (h0 rfl))
  obtain ⟨ka, kc, rfl, -⟩ := hrin
  clear h0 hodd hb hturn HSM HBV
  have HSA := hidIn (fun (y : Ev) (hy : y.Ok) W => same_any x y HTU.out.ok hy W)
  have HSB := hidIn (fun (y : Ev) (hy : y.Ok) W => same_any y x hy HTU.out.ok W)
  have HTN := hidIn (fun q (hq : q < 8) => same_turn x HTU.out.ok q hq)
  have HTO := hidIn (fun q => turn_ok x HTU.out q)
  obtain ⟨nb, hnb, hv⟩ := nil_runs x.t HTU.out.ok.t
  have one := x.t.one' HTU.out.ok.t
  unfold Ev.val Ev.cs
  have o1 := one.cells
  have o2 := one.one
  have o3 := one.store
  have o4 := one.cells
  simp only [Value.cells] at o4
  go_upto_region 3 with fail
  have HX5 : Hid ((((w1.alloc (.cells #[.int .i64 x.k, .string x.i, .string x.n, .string x.l, .string x.u, .int .i64 x.d, .int .i64 x.v, x.t.val] 30)).alloc (.cells #[.int .i64 x.k, .string x.i, .string x.n, .string x.l, .string x.u, .int .i64 x.d, .int .i64 x.v, .int .i64 (plainC x.t).kind, .string (plainC x.t).s, .int .i64 (plainC x.t).n, .slice ka (plainC x.t).k.length kc] 35)).alloc (.cells #[.int .i64 x.k, .string x.i, .string x.n, .string x.l, .string x.u, .int .i64 x.d, .int .i64 x.v, x.t.val] 30)).heap[w1.heap.size]? = some (.cells #[.int .i64 x.k, .string x.i, .string x.n, .string x.l, .string x.u, .int .i64 x.d, .int .i64 x.v, x.t.val] 30)) := heap_keeps (heap_keeps (heap_alloc_new _ _) _) _
  have HX8 : Hid ((((w1.alloc (.cells #[.int .i64 x.k, .string x.i, .string x.n, .string x.l, .string x.u, .int .i64 x.d, .int .i64 x.v, x.t.val] 30)).alloc (.cells #[.int .i64 x.k, .string x.i, .string x.n, .string x.l, .string x.u, .int .i64 x.d, .int .i64 x.v, .int .i64 (plainC x.t).kind, .string (plainC x.t).s, .int .i64 (plainC x.t).n, .slice ka (plainC x.t).k.length kc] 35)).alloc (.cells #[.int .i64 x.k, .string x.i, .string x.n, .string x.l, .string x.u, .int .i64 x.d, .int .i64 x.v, x.t.val] 30)).heap[w1.heap.size + 2]? = some (.cells #[.int .i64 x.k, .string x.i, .string x.n, .string x.l, .string x.u, .int .i64 x.d, .int .i64 x.v, x.t.val] 30)) := alloc_2e _ _ _ _
  have HB3 : Hid (Below w.heap.size w (((w1.alloc (.cells #[.int .i64 x.k, .string x.i, .string x.n, .string x.l, .string x.u, .int .i64 x.d, .int .i64 x.v, x.t.val] 30)).alloc (.cells #[.int .i64 x.k, .string x.i, .string x.n, .string x.l, .string x.u, .int .i64 x.d, .int .i64 x.v, .int .i64 (plainC x.t).kind, .string (plainC x.t).s, .int .i64 (plainC x.t).n, .slice ka (plainC x.t).k.length kc] 35)).alloc (.cells #[.int .i64 x.k, .string x.i, .string x.n, .string x.l, .string x.u, .int .i64 x.d, .int .i64 x.v, x.t.val] 30))) := below_alloc (below_alloc (below_alloc HB1.out _) _) _
  have HN : Hid (w.heap.size ≤ w1.heap.size) := HB1.out.size
  try rw [show w1.heap.size + 1 + 1 = w1.heap.size + 2 from rfl]
  generalize ((w1.alloc (.cells #[.int .i64 x.k, .string x.i, .string x.n, .string x.l, .string x.u, .int .i64 x.d, .int .i64 x.v, x.t.val] 30)).alloc (.cells #[.int .i64 x.k, .string x.i, .string x.n, .string x.l, .string x.u, .int .i64 x.d, .int .i64 x.v, .int .i64 (plainC x.t).kind, .string (plainC x.t).s, .int .i64 (plainC x.t).n, .slice ka (plainC x.t).k.length kc] 35)).alloc (.cells #[.int .i64 x.k, .string x.i, .string x.n, .string x.l, .string x.u, .int .i64 x.d, .int .i64 x.v, x.t.val] 30) = W3 at *
  clear HB1
  go_wp2_with fail
  refine calls_same (HWI.out W3) ?_
  have fz : ∀ j, W3.frozen? ⟨w1.heap.size + 2, j, none⟩ = false := fun j => frozen_of_row _ _ _ _ _ HX8.out
  have y0 : W3.cell? ⟨w1.heap.size + 2, 0, none⟩ = some (.int .i64 x.k) := cell_of_row _ _ 0 _ _ _ HX8.out
  have y1 : W3.cell? ⟨w1.heap.size + 2, 1, none⟩ = some (.string x.i) := cell_of_row _ _ 1 _ _ _ HX8.out
  have y2 : W3.cell? ⟨w1.heap.size + 2, 2, none⟩ = some (.string x.n) := cell_of_row _ _ 2 _ _ _ HX8.out
  have y3 : W3.cell? ⟨w1.heap.size + 2, 3, none⟩ = some (.string x.l) := cell_of_row _ _ 3 _ _ _ HX8.out
  have y4 : W3.cell? ⟨w1.heap.size + 2, 4, none⟩ = some (.string x.u) := cell_of_row _ _ 4 _ _ _ HX8.out
  have y5 : W3.cell? ⟨w1.heap.size + 2, 5, none⟩ = some (.int .i64 x.d) := cell_of_row _ _ 5 _ _ _ HX8.out
  have y6 : W3.cell? ⟨w1.heap.size + 2, 6, none⟩ = some (.int .i64 x.v) := cell_of_row _ _ 6 _ _ _ HX8.out
  have y7 : W3.cell? ⟨w1.heap.size + 2, 7, none⟩ = some (x.t.val) := cell_of_row _ _ 7 _ _ _ HX8.out
  have x1 : x.i.size ≤ 1000 := HTU.out.i
  have x2 : x.n.size ≤ 1000 := HTU.out.n
  have x3 : x.l.size ≤ 1000 := HTU.out.l
  have x4 : x.u.size ≤ 1000 := HTU.out.u
  have xs : xS.size = 1 := rfl
  have hxS : (⟨#[120]⟩ : ByteArray) = xS := rfl
  rcases (by omega : q = 0 ∨ q = 1 ∨ q = 2 ∨ q = 3 ∨ q = 4 ∨ q = 5 ∨ q = 6 ∨ q = 7 ∨ q = 8) with rfl | rfl | rfl | rfl | rfl | rfl | rfl | rfl | rfl
  · have HS1 : Hid (∀ W, Calls Tryz.prog 10 #[.agg #[.int .i64 x.k, .string x.i, .string x.n, .string x.l, .string x.u, .int .i64 x.d, .int .i64 x.v, x.t.val], .agg #[.int .i64 (IntKind.i64.wrap (x.k + 1)), .string x.i, .string x.n, .string x.l, .string x.u, .int .i64 x.d, .int .i64 x.v, x.t.val]] W fun r w' => r = .returned (.bool false) ∧ Below W.heap.size W w') := fun W => by
      have h := HSA.out (x.turn 0) (HTO.out 0) W
      rw [(HTN.out 0 (by omega)).1] at h
      exact h
    have HS2 : Hid (∀ W, Calls Tryz.prog 10 #[.agg #[.int .i64 (IntKind.i64.wrap (x.k + 1)), .string x.i, .string x.n, .string x.l, .string x.u, .int .i64 x.d, .int .i64 x.v, x.t.val], .agg #[.int .i64 x.k, .string x.i, .string x.n, .string x.l, .string x.u, .int .i64 x.d, .int .i64 x.v, x.t.val]] W fun r w' => r = .returned (.bool false) ∧ Below W.heap.size W w') := fun W => by
      have h := HSB.out (x.turn 0) (HTO.out 0) W
      rw [(HTN.out 0 (by omega)).2] at h
      exact h
    obtain ⟨nv, hnv⟩ : ∃ nv, IntKind.i64.wrap (x.k + 1) = nv := ⟨_, rfl⟩
    rw [hnv] at HS1 HS2
    clear HSA HSB HTN HTO HSF
    go_upto_region 23 with fail
    have HY5 : Hid ((W3.setCell ⟨w1.heap.size + 2, 0, none⟩ (.int .i64 nv)).heap[w1.heap.size]? = some (.cells #[.int .i64 x.k, .string x.i, .string x.n, .string x.l, .string x.u, .int .i64 x.d, .int .i64 x.v, x.t.val] 30)) := (heap_setCell_other _ ⟨w1.heap.size + 2, 0, none⟩ _ _ (by show w1.heap.size ≠ w1.heap.size + 2; omega)).trans HX5.out
    have HY8 : Hid ((W3.setCell ⟨w1.heap.size + 2, 0, none⟩ (.int .i64 nv)).heap[w1.heap.size + 2]? = some (.cells #[.int .i64 nv, .string x.i, .string x.n, .string x.l, .string x.u, .int .i64 x.d, .int .i64 x.v, x.t.val] 30)) := heap_setCell_same _ (w1.heap.size + 2) 0 _ _ _ HX8.out
    have HB4 : Hid (Below w.heap.size w (W3.setCell ⟨w1.heap.size + 2, 0, none⟩ (.int .i64 nv))) := HB3.out.setCell (show w.heap.size ≤ w1.heap.size + 2 by have := HN.out; omega) _
    generalize W3.setCell ⟨w1.heap.size + 2, 0, none⟩ (.int .i64 nv) = W4 at *
    clear fz y0 y1 y2 y3 y4 y5 y6 y7 HX5 HX8 HB3
    go_wp2_with (first | (refine wpList_load_row rfl 30 (.tmp 5) rfl (w1.heap.size) rfl _ _ _ _ HY5.out Tryz.underlying30 rfl infoA ?_) | (refine wpList_load_row rfl 30 (.tmp 8) rfl (w1.heap.size + 2) rfl _ _ _ _ HY8.out Tryz.underlying30 rfl infoA ?_))
    refine (HS1.out W4).mono ?_
    rintro e w5 ⟨rfl, hb5⟩
    have HZ5 := hidIn ((hb5.block _ (Array.getElem?_eq_some_iff.1 HY5.out).1).trans HY5.out)
    have HZ8 := hidIn ((hb5.block _ (Array.getElem?_eq_some_iff.1 HY8.out).1).trans HY8.out)
    have HB5 := hidIn (HB4.out.trans (hb5.mono HB4.out.size))
    clear hb5 HY5 HY8
    obtain ⟨c0, c1, c2, c3, c4, c5, c6, c7⟩ := cells8e HZ5.out
    obtain ⟨g0, g1, g2, g3, g4, g5, g6, g7⟩ := cells8e HZ8.out
    clear HZ5 HZ8
    go_wp2_with fail
    clear c0 c1 c2 c3 c4 c5 c6 c7 g0 g1 g2 g3 g4 g5 g6 g7
    refine (HS2.out w5).mono ?_
    rintro e w6 ⟨rfl, hb6⟩
    have HB6 := hidIn (HB5.out.trans (hb6.mono HB5.out.size))
    clear hb6
    go_wp2_with fail
    refine (wakes11_any w6 (tabW_below HT.out HB6.out)).mono ?_
    rintro e w7 ⟨rfl, hb7⟩
    have HB7 := hidIn (HB6.out.trans (hb7.mono HB6.out.size))
    clear hb7
    go_wp2_with fail
    go_ret
    exact ⟨rfl, HB7.out⟩
  · have HS1 : Hid (∀ W, Calls Tryz.prog 10 #[.agg #[.int .i64 x.k, .string x.i, .string x.n, .string x.l, .string x.u, .int .i64 x.d, .int .i64 x.v, x.t.val], .agg #[.int .i64 x.k, .string (x.i ++ xS), .string x.n, .string x.l, .string x.u, .int .i64 x.d, .int .i64 x.v, x.t.val]] W fun r w' => r = .returned (.bool false) ∧ Below W.heap.size W w') := fun W => by
      have h := HSA.out (x.turn 1) (HTO.out 1) W
      rw [(HTN.out 1 (by omega)).1] at h
      exact h
    have HS2 : Hid (∀ W, Calls Tryz.prog 10 #[.agg #[.int .i64 x.k, .string (x.i ++ xS), .string x.n, .string x.l, .string x.u, .int .i64 x.d, .int .i64 x.v, x.t.val], .agg #[.int .i64 x.k, .string x.i, .string x.n, .string x.l, .string x.u, .int .i64 x.d, .int .i64 x.v, x.t.val]] W fun r w' => r = .returned (.bool false) ∧ Below W.heap.size W w') := fun W => by
      have h := HSB.out (x.turn 1) (HTO.out 1) W
      rw [(HTN.out 1 (by omega)).2] at h
      exact h
    clear HSA HSB HTN HTO HSF
    go_upto_region 23 with fail
    try rw [hxS]
    have HY5 : Hid ((W3.setCell ⟨w1.heap.size + 2, 1, none⟩ (.string (x.i ++ xS))).heap[w1.heap.size]? = some (.cells #[.int .i64 x.k, .string x.i, .string x.n, .string x.l, .string x.u, .int .i64 x.d, .int .i64 x.v, x.t.val] 30)) := (heap_setCell_other _ ⟨w1.heap.size + 2, 1, none⟩ _ _ (by show w1.heap.size ≠ w1.heap.size + 2; omega)).trans HX5.out
    have HY8 : Hid ((W3.setCell ⟨w1.heap.size + 2, 1, none⟩ (.string (x.i ++ xS))).heap[w1.heap.size + 2]? = some (.cells #[.int .i64 x.k, .string (x.i ++ xS), .string x.n, .string x.l, .string x.u, .int .i64 x.d, .int .i64 x.v, x.t.val] 30)) := heap_setCell_same _ (w1.heap.size + 2) 1 _ _ _ HX8.out
    have HB4 : Hid (Below w.heap.size w (W3.setCell ⟨w1.heap.size + 2, 1, none⟩ (.string (x.i ++ xS)))) := HB3.out.setCell (show w.heap.size ≤ w1.heap.size + 2 by have := HN.out; omega) _
    generalize W3.setCell ⟨w1.heap.size + 2, 1, none⟩ (.string (x.i ++ xS)) = W4 at *
    clear fz y0 y1 y2 y3 y4 y5 y6 y7 HX5 HX8 HB3
    go_wp2_with (first | (refine wpList_load_row rfl 30 (.tmp 5) rfl (w1.heap.size) rfl _ _ _ _ HY5.out Tryz.underlying30 rfl infoA ?_) | (refine wpList_load_row rfl 30 (.tmp 8) rfl (w1.heap.size + 2) rfl _ _ _ _ HY8.out Tryz.underlying30 rfl infoA ?_))
    refine (HS1.out W4).mono ?_
    rintro e w5 ⟨rfl, hb5⟩
    have HZ5 := hidIn ((hb5.block _ (Array.getElem?_eq_some_iff.1 HY5.out).1).trans HY5.out)
    have HZ8 := hidIn ((hb5.block _ (Array.getElem?_eq_some_iff.1 HY8.out).1).trans HY8.out)
    have HB5 := hidIn (HB4.out.trans (hb5.mono HB4.out.size))
    clear hb5 HY5 HY8
    obtain ⟨c0, c1, c2, c3, c4, c5, c6, c7⟩ := cells8e HZ5.out
    obtain ⟨g0, g1, g2, g3, g4, g5, g6, g7⟩ := cells8e HZ8.out
    clear HZ5 HZ8
    go_wp2_with fail
    clear c0 c1 c2 c3 c4 c5 c6 c7 g0 g1 g2 g3 g4 g5 g6 g7
    refine (HS2.out w5).mono ?_
    rintro e w6 ⟨rfl, hb6⟩
    have HB6 := hidIn (HB5.out.trans (hb6.mono HB5.out.size))
    clear hb6
    go_wp2_with fail
    refine (wakes11_any w6 (tabW_below HT.out HB6.out)).mono ?_
    rintro e w7 ⟨rfl, hb7⟩
    have HB7 := hidIn (HB6.out.trans (hb7.mono HB6.out.size))
    clear hb7
    go_wp2_with fail
    go_ret
    exact ⟨rfl, HB7.out⟩
  · have HS1 : Hid (∀ W, Calls Tryz.prog 10 #[.agg #[.int .i64 x.k, .string x.i, .string x.n, .string x.l, .string x.u, .int .i64 x.d, .int .i64 x.v, x.t.val], .agg #[.int .i64 x.k, .string x.i, .string (x.n ++ xS), .string x.l, .string x.u, .int .i64 x.d, .int .i64 x.v, x.t.val]] W fun r w' => r = .returned (.bool false) ∧ Below W.heap.size W w') := fun W => by
      have h := HSA.out (x.turn 2) (HTO.out 2) W
      rw [(HTN.out 2 (by omega)).1] at h
      exact h
    have HS2 : Hid (∀ W, Calls Tryz.prog 10 #[.agg #[.int .i64 x.k, .string x.i, .string (x.n ++ xS), .string x.l, .string x.u, .int .i64 x.d, .int .i64 x.v, x.t.val], .agg #[.int .i64 x.k, .string x.i, .string x.n, .string x.l, .string x.u, .int .i64 x.d, .int .i64 x.v, x.t.val]] W fun r w' => r = .returned (.bool false) ∧ Below W.heap.size W w') := fun W => by
      have h := HSB.out (x.turn 2) (HTO.out 2) W
      rw [(HTN.out 2 (by omega)).2] at h
      exact h
    clear HSA HSB HTN HTO HSF
    go_upto_region 23 with fail
    try rw [hxS]
    have HY5 : Hid ((W3.setCell ⟨w1.heap.size + 2, 2, none⟩ (.string (x.n ++ xS))).heap[w1.heap.size]? = some (.cells #[.int .i64 x.k, .string x.i, .string x.n, .string x.l, .string x.u, .int .i64 x.d, .int .i64 x.v, x.t.val] 30)) := (heap_setCell_other _ ⟨w1.heap.size + 2, 2, none⟩ _ _ (by show w1.heap.size ≠ w1.heap.size + 2; omega)).trans HX5.out
    have HY8 : Hid ((W3.setCell ⟨w1.heap.size + 2, 2, none⟩ (.string (x.n ++ xS))).heap[w1.heap.size + 2]? = some (.cells #[.int .i64 x.k, .string x.i, .string (x.n ++ xS), .string x.l, .string x.u, .int .i64 x.d, .int .i64 x.v, x.t.val] 30)) := heap_setCell_same _ (w1.heap.size + 2) 2 _ _ _ HX8.out
    have HB4 : Hid (Below w.heap.size w (W3.setCell ⟨w1.heap.size + 2, 2, none⟩ (.string (x.n ++ xS)))) := HB3.out.setCell (show w.heap.size ≤ w1.heap.size + 2 by have := HN.out; omega) _
    generalize W3.setCell ⟨w1.heap.size + 2, 2, none⟩ (.string (x.n ++ xS)) = W4 at *
    clear fz y0 y1 y2 y3 y4 y5 y6 y7 HX5 HX8 HB3
    go_wp2_with (first | (refine wpList_load_row rfl 30 (.tmp 5) rfl (w1.heap.size) rfl _ _ _ _ HY5.out Tryz.underlying30 rfl infoA ?_) | (refine wpList_load_row rfl 30 (.tmp 8) rfl (w1.heap.size + 2) rfl _ _ _ _ HY8.out Tryz.underlying30 rfl infoA ?_))
    refine (HS1.out W4).mono ?_
    rintro e w5 ⟨rfl, hb5⟩
    have HZ5 := hidIn ((hb5.block _ (Array.getElem?_eq_some_iff.1 HY5.out).1).trans HY5.out)
    have HZ8 := hidIn ((hb5.block _ (Array.getElem?_eq_some_iff.1 HY8.out).1).trans HY8.out)
    have HB5 := hidIn (HB4.out.trans (hb5.mono HB4.out.size))
    clear hb5 HY5 HY8
    obtain ⟨c0, c1, c2, c3, c4, c5, c6, c7⟩ := cells8e HZ5.out
    obtain ⟨g0, g1, g2, g3, g4, g5, g6, g7⟩ := cells8e HZ8.out
    clear HZ5 HZ8
    go_wp2_with fail
    clear c0 c1 c2 c3 c4 c5 c6 c7 g0 g1 g2 g3 g4 g5 g6 g7
    refine (HS2.out w5).mono ?_
    rintro e w6 ⟨rfl, hb6⟩
    have HB6 := hidIn (HB5.out.trans (hb6.mono HB5.out.size))
    clear hb6
    go_wp2_with fail
    refine (wakes11_any w6 (tabW_below HT.out HB6.out)).mono ?_
    rintro e w7 ⟨rfl, hb7⟩
    have HB7 := hidIn (HB6.out.trans (hb7.mono HB6.out.size))
    clear hb7
    go_wp2_with fail
    go_ret
    exact ⟨rfl, HB7.out⟩
  · have HS1 : Hid (∀ W, Calls Tryz.prog 10 #[.agg #[.int .i64 x.k, .string x.i, .string x.n, .string x.l, .string x.u, .int .i64 x.d, .int .i64 x.v, x.t.val], .agg #[.int .i64 x.k, .string x.i, .string x.n, .string (x.l ++ xS), .string x.u, .int .i64 x.d, .int .i64 x.v, x.t.val]] W fun r w' => r = .returned (.bool false) ∧ Below W.heap.size W w') := fun W => by
      have h := HSA.out (x.turn 3) (HTO.out 3) W
      rw [(HTN.out 3 (by omega)).1] at h
      exact h
    have HS2 : Hid (∀ W, Calls Tryz.prog 10 #[.agg #[.int .i64 x.k, .string x.i, .string x.n, .string (x.l ++ xS), .string x.u, .int .i64 x.d, .int .i64 x.v, x.t.val], .agg #[.int .i64 x.k, .string x.i, .string x.n, .string x.l, .string x.u, .int .i64 x.d, .int .i64 x.v, x.t.val]] W fun r w' => r = .returned (.bool false) ∧ Below W.heap.size W w') := fun W => by
      have h := HSB.out (x.turn 3) (HTO.out 3) W
      rw [(HTN.out 3 (by omega)).2] at h
      exact h
    clear HSA HSB HTN HTO HSF
    go_upto_region 23 with fail
    try rw [hxS]
    have HY5 : Hid ((W3.setCell ⟨w1.heap.size + 2, 3, none⟩ (.string (x.l ++ xS))).heap[w1.heap.size]? = some (.cells #[.int .i64 x.k, .string x.i, .string x.n, .string x.l, .string x.u, .int .i64 x.d, .int .i64 x.v, x.t.val] 30)) := (heap_setCell_other _ ⟨w1.heap.size + 2, 3, none⟩ _ _ (by show w1.heap.size ≠ w1.heap.size + 2; omega)).trans HX5.out
    have HY8 : Hid ((W3.setCell ⟨w1.heap.size + 2, 3, none⟩ (.string (x.l ++ xS))).heap[w1.heap.size + 2]? = some (.cells #[.int .i64 x.k, .string x.i, .string x.n, .string (x.l ++ xS), .string x.u, .int .i64 x.d, .int .i64 x.v, x.t.val] 30)) := heap_setCell_same _ (w1.heap.size + 2) 3 _ _ _ HX8.out
    have HB4 : Hid (Below w.heap.size w (W3.setCell ⟨w1.heap.size + 2, 3, none⟩ (.string (x.l ++ xS)))) := HB3.out.setCell (show w.heap.size ≤ w1.heap.size + 2 by have := HN.out; omega) _
    generalize W3.setCell ⟨w1.heap.size + 2, 3, none⟩ (.string (x.l ++ xS)) = W4 at *
    clear fz y0 y1 y2 y3 y4 y5 y6 y7 HX5 HX8 HB3
    go_wp2_with (first | (refine wpList_load_row rfl 30 (.tmp 5) rfl (w1.heap.size) rfl _ _ _ _ HY5.out Tryz.underlying30 rfl infoA ?_) | (refine wpList_load_row rfl 30 (.tmp 8) rfl (w1.heap.size + 2) rfl _ _ _ _ HY8.out Tryz.underlying30 rfl infoA ?_))
    refine (HS1.out W4).mono ?_
    rintro e w5 ⟨rfl, hb5⟩
    have HZ5 := hidIn ((hb5.block _ (Array.getElem?_eq_some_iff.1 HY5.out).1).trans HY5.out)
    have HZ8 := hidIn ((hb5.block _ (Array.getElem?_eq_some_iff.1 HY8.out).1).trans HY8.out)
    have HB5 := hidIn (HB4.out.trans (hb5.mono HB4.out.size))
    clear hb5 HY5 HY8
    obtain ⟨c0, c1, c2, c3, c4, c5, c6, c7⟩ := cells8e HZ5.out
    obtain ⟨g0, g1, g2, g3, g4, g5, g6, g7⟩ := cells8e HZ8.out
    clear HZ5 HZ8
    go_wp2_with fail
    clear c0 c1 c2 c3 c4 c5 c6 c7 g0 g1 g2 g3 g4 g5 g6 g7
    refine (HS2.out w5).mono ?_
    rintro e w6 ⟨rfl, hb6⟩
    have HB6 := hidIn (HB5.out.trans (hb6.mono HB5.out.size))
    clear hb6
    go_wp2_with fail
    refine (wakes11_any w6 (tabW_below HT.out HB6.out)).mono ?_
    rintro e w7 ⟨rfl, hb7⟩
    have HB7 := hidIn (HB6.out.trans (hb7.mono HB6.out.size))
    clear hb7
    go_wp2_with fail
    go_ret
    exact ⟨rfl, HB7.out⟩
  · have HS1 : Hid (∀ W, Calls Tryz.prog 10 #[.agg #[.int .i64 x.k, .string x.i, .string x.n, .string x.l, .string x.u, .int .i64 x.d, .int .i64 x.v, x.t.val], .agg #[.int .i64 x.k, .string x.i, .string x.n, .string x.l, .string (x.u ++ xS), .int .i64 x.d, .int .i64 x.v, x.t.val]] W fun r w' => r = .returned (.bool false) ∧ Below W.heap.size W w') := fun W => by
      have h := HSA.out (x.turn 4) (HTO.out 4) W
      rw [(HTN.out 4 (by omega)).1] at h
      exact h
    have HS2 : Hid (∀ W, Calls Tryz.prog 10 #[.agg #[.int .i64 x.k, .string x.i, .string x.n, .string x.l, .string (x.u ++ xS), .int .i64 x.d, .int .i64 x.v, x.t.val], .agg #[.int .i64 x.k, .string x.i, .string x.n, .string x.l, .string x.u, .int .i64 x.d, .int .i64 x.v, x.t.val]] W fun r w' => r = .returned (.bool false) ∧ Below W.heap.size W w') := fun W => by
      have h := HSB.out (x.turn 4) (HTO.out 4) W
      rw [(HTN.out 4 (by omega)).2] at h
      exact h
    clear HSA HSB HTN HTO HSF
    go_upto_region 23 with fail
    try rw [hxS]
    have HY5 : Hid ((W3.setCell ⟨w1.heap.size + 2, 4, none⟩ (.string (x.u ++ xS))).heap[w1.heap.size]? = some (.cells #[.int .i64 x.k, .string x.i, .string x.n, .string x.l, .string x.u, .int .i64 x.d, .int .i64 x.v, x.t.val] 30)) := (heap_setCell_other _ ⟨w1.heap.size + 2, 4, none⟩ _ _ (by show w1.heap.size ≠ w1.heap.size + 2; omega)).trans HX5.out
    have HY8 : Hid ((W3.setCell ⟨w1.heap.size + 2, 4, none⟩ (.string (x.u ++ xS))).heap[w1.heap.size + 2]? = some (.cells #[.int .i64 x.k, .string x.i, .string x.n, .string x.l, .string (x.u ++ xS), .int .i64 x.d, .int .i64 x.v, x.t.val] 30)) := heap_setCell_same _ (w1.heap.size + 2) 4 _ _ _ HX8.out
    have HB4 : Hid (Below w.heap.size w (W3.setCell ⟨w1.heap.size + 2, 4, none⟩ (.string (x.u ++ xS)))) := HB3.out.setCell (show w.heap.size ≤ w1.heap.size + 2 by have := HN.out; omega) _
    generalize W3.setCell ⟨w1.heap.size + 2, 4, none⟩ (.string (x.u ++ xS)) = W4 at *
    clear fz y0 y1 y2 y3 y4 y5 y6 y7 HX5 HX8 HB3
    go_wp2_with (first | (refine wpList_load_row rfl 30 (.tmp 5) rfl (w1.heap.size) rfl _ _ _ _ HY5.out Tryz.underlying30 rfl infoA ?_) | (refine wpList_load_row rfl 30 (.tmp 8) rfl (w1.heap.size + 2) rfl _ _ _ _ HY8.out Tryz.underlying30 rfl infoA ?_))
    refine (HS1.out W4).mono ?_
    rintro e w5 ⟨rfl, hb5⟩
    have HZ5 := hidIn ((hb5.block _ (Array.getElem?_eq_some_iff.1 HY5.out).1).trans HY5.out)
    have HZ8 := hidIn ((hb5.block _ (Array.getElem?_eq_some_iff.1 HY8.out).1).trans HY8.out)
    have HB5 := hidIn (HB4.out.trans (hb5.mono HB4.out.size))
    clear hb5 HY5 HY8
    obtain ⟨c0, c1, c2, c3, c4, c5, c6, c7⟩ := cells8e HZ5.out
    obtain ⟨g0, g1, g2, g3, g4, g5, g6, g7⟩ := cells8e HZ8.out
    clear HZ5 HZ8
    go_wp2_with fail
    clear c0 c1 c2 c3 c4 c5 c6 c7 g0 g1 g2 g3 g4 g5 g6 g7
    refine (HS2.out w5).mono ?_
    rintro e w6 ⟨rfl, hb6⟩
    have HB6 := hidIn (HB5.out.trans (hb6.mono HB5.out.size))
    clear hb6
    go_wp2_with fail
    refine (wakes11_any w6 (tabW_below HT.out HB6.out)).mono ?_
    rintro e w7 ⟨rfl, hb7⟩
    have HB7 := hidIn (HB6.out.trans (hb7.mono HB6.out.size))
    clear hb7
    go_wp2_with fail
    go_ret
    exact ⟨rfl, HB7.out⟩
  · have HS1 : Hid (∀ W, Calls Tryz.prog 10 #[.agg #[.int .i64 x.k, .string x.i, .string x.n, .string x.l, .string x.u, .int .i64 x.d, .int .i64 x.v, x.t.val], .agg #[.int .i64 x.k, .string x.i, .string x.n, .string x.l, .string x.u, .int .i64 (bits .xor .i64 x.d 1), .int .i64 x.v, x.t.val]] W fun r w' => r = .returned (.bool false) ∧ Below W.heap.size W w') := fun W => by
      have h := HSA.out (x.turn 5) (HTO.out 5) W
      rw [(HTN.out 5 (by omega)).1] at h
      exact h
    have HS2 : Hid (∀ W, Calls Tryz.prog 10 #[.agg #[.int .i64 x.k, .string x.i, .string x.n, .string x.l, .string x.u, .int .i64 (bits .xor .i64 x.d 1), .int .i64 x.v, x.t.val], .agg #[.int .i64 x.k, .string x.i, .string x.n, .string x.l, .string x.u, .int .i64 x.d, .int .i64 x.v, x.t.val]] W fun r w' => r = .returned (.bool false) ∧ Below W.heap.size W w') := fun W => by
      have h := HSB.out (x.turn 5) (HTO.out 5) W
      rw [(HTN.out 5 (by omega)).2] at h
      exact h
    obtain ⟨nv, hnv⟩ : ∃ nv, bits .xor .i64 x.d 1 = nv := ⟨_, rfl⟩
    rw [hnv] at HS1 HS2
    clear HSA HSB HTN HTO HSF
    go_upto_region 23 with fail
    have HY5 : Hid ((W3.setCell ⟨w1.heap.size + 2, 5, none⟩ (.int .i64 nv)).heap[w1.heap.size]? = some (.cells #[.int .i64 x.k, .string x.i, .string x.n, .string x.l, .string x.u, .int .i64 x.d, .int .i64 x.v, x.t.val] 30)) := (heap_setCell_other _ ⟨w1.heap.size + 2, 5, none⟩ _ _ (by show w1.heap.size ≠ w1.heap.size + 2; omega)).trans HX5.out
    have HY8 : Hid ((W3.setCell ⟨w1.heap.size + 2, 5, none⟩ (.int .i64 nv)).heap[w1.heap.size + 2]? = some (.cells #[.int .i64 x.k, .string x.i, .string x.n, .string x.l, .string x.u, .int .i64 nv, .int .i64 x.v, x.t.val] 30)) := heap_setCell_same _ (w1.heap.size + 2) 5 _ _ _ HX8.out
    have HB4 : Hid (Below w.heap.size w (W3.setCell ⟨w1.heap.size + 2, 5, none⟩ (.int .i64 nv))) := HB3.out.setCell (show w.heap.size ≤ w1.heap.size + 2 by have := HN.out; omega) _
    generalize W3.setCell ⟨w1.heap.size + 2, 5, none⟩ (.int .i64 nv) = W4 at *
    clear fz y0 y1 y2 y3 y4 y5 y6 y7 HX5 HX8 HB3
    go_wp2_with (first | (refine wpList_load_row rfl 30 (.tmp 5) rfl (w1.heap.size) rfl _ _ _ _ HY5.out Tryz.underlying30 rfl infoA ?_) | (refine wpList_load_row rfl 30 (.tmp 8) rfl (w1.heap.size + 2) rfl _ _ _ _ HY8.out Tryz.underlying30 rfl infoA ?_))
    refine (HS1.out W4).mono ?_
    rintro e w5 ⟨rfl, hb5⟩
    have HZ5 := hidIn ((hb5.block _ (Array.getElem?_eq_some_iff.1 HY5.out).1).trans HY5.out)
    have HZ8 := hidIn ((hb5.block _ (Array.getElem?_eq_some_iff.1 HY8.out).1).trans HY8.out)
    have HB5 := hidIn (HB4.out.trans (hb5.mono HB4.out.size))
    clear hb5 HY5 HY8
    obtain ⟨c0, c1, c2, c3, c4, c5, c6, c7⟩ := cells8e HZ5.out
    obtain ⟨g0, g1, g2, g3, g4, g5, g6, g7⟩ := cells8e HZ8.out
    clear HZ5 HZ8
    go_wp2_with fail
    clear c0 c1 c2 c3 c4 c5 c6 c7 g0 g1 g2 g3 g4 g5 g6 g7
    refine (HS2.out w5).mono ?_
    rintro e w6 ⟨rfl, hb6⟩
    have HB6 := hidIn (HB5.out.trans (hb6.mono HB5.out.size))
    clear hb6
    go_wp2_with fail
    refine (wakes11_any w6 (tabW_below HT.out HB6.out)).mono ?_
    rintro e w7 ⟨rfl, hb7⟩
    have HB7 := hidIn (HB6.out.trans (hb7.mono HB6.out.size))
    clear hb7
    go_wp2_with fail
    go_ret
    exact ⟨rfl, HB7.out⟩
  · have HS1 : Hid (∀ W, Calls Tryz.prog 10 #[.agg #[.int .i64 x.k, .string x.i, .string x.n, .string x.l, .string x.u, .int .i64 x.d, .int .i64 x.v, x.t.val], .agg #[.int .i64 x.k, .string x.i, .string x.n, .string x.l, .string x.u, .int .i64 x.d, .int .i64 (bits .xor .i64 x.v 1), x.t.val]] W fun r w' => r = .returned (.bool false) ∧ Below W.heap.size W w') := fun W => by
      have h := HSA.out (x.turn 6) (HTO.out 6) W
      rw [(HTN.out 6 (by omega)).1] at h
      exact h
    have HS2 : Hid (∀ W, Calls Tryz.prog 10 #[.agg #[.int .i64 x.k, .string x.i, .string x.n, .string x.l, .string x.u, .int .i64 x.d, .int .i64 (bits .xor .i64 x.v 1), x.t.val], .agg #[.int .i64 x.k, .string x.i, .string x.n, .string x.l, .string x.u, .int .i64 x.d, .int .i64 x.v, x.t.val]] W fun r w' => r = .returned (.bool false) ∧ Below W.heap.size W w') := fun W => by
      have h := HSB.out (x.turn 6) (HTO.out 6) W
      rw [(HTN.out 6 (by omega)).2] at h
      exact h
    obtain ⟨nv, hnv⟩ : ∃ nv, bits .xor .i64 x.v 1 = nv := ⟨_, rfl⟩
    rw [hnv] at HS1 HS2
    clear HSA HSB HTN HTO HSF
    go_upto_region 23 with fail
    have HY5 : Hid ((W3.setCell ⟨w1.heap.size + 2, 6, none⟩ (.int .i64 nv)).heap[w1.heap.size]? = some (.cells #[.int .i64 x.k, .string x.i, .string x.n, .string x.l, .string x.u, .int .i64 x.d, .int .i64 x.v, x.t.val] 30)) := (heap_setCell_other _ ⟨w1.heap.size + 2, 6, none⟩ _ _ (by show w1.heap.size ≠ w1.heap.size + 2; omega)).trans HX5.out
    have HY8 : Hid ((W3.setCell ⟨w1.heap.size + 2, 6, none⟩ (.int .i64 nv)).heap[w1.heap.size + 2]? = some (.cells #[.int .i64 x.k, .string x.i, .string x.n, .string x.l, .string x.u, .int .i64 x.d, .int .i64 nv, x.t.val] 30)) := heap_setCell_same _ (w1.heap.size + 2) 6 _ _ _ HX8.out
    have HB4 : Hid (Below w.heap.size w (W3.setCell ⟨w1.heap.size + 2, 6, none⟩ (.int .i64 nv))) := HB3.out.setCell (show w.heap.size ≤ w1.heap.size + 2 by have := HN.out; omega) _
    generalize W3.setCell ⟨w1.heap.size + 2, 6, none⟩ (.int .i64 nv) = W4 at *
    clear fz y0 y1 y2 y3 y4 y5 y6 y7 HX5 HX8 HB3
    go_wp2_with (first | (refine wpList_load_row rfl 30 (.tmp 5) rfl (w1.heap.size) rfl _ _ _ _ HY5.out Tryz.underlying30 rfl infoA ?_) | (refine wpList_load_row rfl 30 (.tmp 8) rfl (w1.heap.size + 2) rfl _ _ _ _ HY8.out Tryz.underlying30 rfl infoA ?_))
    refine (HS1.out W4).mono ?_
    rintro e w5 ⟨rfl, hb5⟩
    have HZ5 := hidIn ((hb5.block _ (Array.getElem?_eq_some_iff.1 HY5.out).1).trans HY5.out)
    have HZ8 := hidIn ((hb5.block _ (Array.getElem?_eq_some_iff.1 HY8.out).1).trans HY8.out)
    have HB5 := hidIn (HB4.out.trans (hb5.mono HB4.out.size))
    clear hb5 HY5 HY8
    obtain ⟨c0, c1, c2, c3, c4, c5, c6, c7⟩ := cells8e HZ5.out
    obtain ⟨g0, g1, g2, g3, g4, g5, g6, g7⟩ := cells8e HZ8.out
    clear HZ5 HZ8
    go_wp2_with fail
    clear c0 c1 c2 c3 c4 c5 c6 c7 g0 g1 g2 g3 g4 g5 g6 g7
    refine (HS2.out w5).mono ?_
    rintro e w6 ⟨rfl, hb6⟩
    have HB6 := hidIn (HB5.out.trans (hb6.mono HB5.out.size))
    clear hb6
    go_wp2_with fail
    refine (wakes11_any w6 (tabW_below HT.out HB6.out)).mono ?_
    rintro e w7 ⟨rfl, hb7⟩
    have HB7 := hidIn (HB6.out.trans (hb7.mono HB6.out.size))
    clear hb7
    go_wp2_with fail
    go_ret
    exact ⟨rfl, HB7.out⟩
  · rcases hv with ⟨hnb1, hv⟩ | ⟨hnb1, xa, xb, hv⟩
    · have HS1 : Hid (∀ W, Calls Tryz.prog 10 #[.agg #[.int .i64 x.k, .string x.i, .string x.n, .string x.l, .string x.u, .int .i64 x.d, .int .i64 x.v, x.t.val], .agg #[.int .i64 x.k, .string x.i, .string x.n, .string x.l, .string x.u, .int .i64 x.d, .int .i64 x.v, .iface 40 (.agg #[])]] W fun r w' => r = .returned (.bool false) ∧ Below W.heap.size W w') := fun W => by
        have h := HSA.out (x.turn 7) (HTO.out 7) W
        rw [(HTN.out 7 (by omega)).1] at h
        have e7 : (x.turn 7).t.val = .iface 40 (.agg #[]) := by show (if nilB x.t = true then C.zero else none').val = _; rw [hnb, hnb1]; rfl
        have e8 : (x.turn 7).val = .agg #[.int .i64 x.k, .string x.i, .string x.n, .string x.l, .string x.u, .int .i64 x.d, .int .i64 x.v, .iface 40 (.agg #[])] := by unfold Ev.val Ev.cs; rw [e7]; rfl
        rw [e8] at h
        exact h
      have HS2 : Hid (∀ W, Calls Tryz.prog 10 #[.agg #[.int .i64 x.k, .string x.i, .string x.n, .string x.l, .string x.u, .int .i64 x.d, .int .i64 x.v, .iface 40 (.agg #[])], .agg #[.int .i64 x.k, .string x.i, .string x.n, .string x.l, .string x.u, .int .i64 x.d, .int .i64 x.v, x.t.val]] W fun r w' => r = .returned (.bool false) ∧ Below W.heap.size W w') := fun W => by
        have h := HSB.out (x.turn 7) (HTO.out 7) W
        rw [(HTN.out 7 (by omega)).2] at h
        have e7 : (x.turn 7).t.val = .iface 40 (.agg #[]) := by show (if nilB x.t = true then C.zero else none').val = _; rw [hnb, hnb1]; rfl
        have e8 : (x.turn 7).val = .agg #[.int .i64 x.k, .string x.i, .string x.n, .string x.l, .string x.u, .int .i64 x.d, .int .i64 x.v, .iface 40 (.agg #[])] := by unfold Ev.val Ev.cs; rw [e7]; rfl
        rw [e8] at h
        exact h
      have hnn : ∀ W, Sem.run Tryz.prog (Op.equalIn 9999 28 .nilIface .nilIface) W = .ok true W := eq_nils 9998
      rw [hv] at y7 HX5 HX8 HS1 HS2 ⊢
      clear HSA HSB HTN HTO HSF o1 o2 o3 o4 one
      go_upto_region 23 with fail
      have HY5 : Hid ((W3.setCell ⟨w1.heap.size + 2, 7, none⟩ (.iface 40 (.agg #[]))).heap[w1.heap.size]? = some (.cells #[.int .i64 x.k, .string x.i, .string x.n, .string x.l, .string x.u, .int .i64 x.d, .int .i64 x.v, .nilIface] 30)) := (heap_setCell_other _ ⟨w1.heap.size + 2, 7, none⟩ _ _ (by show w1.heap.size ≠ w1.heap.size + 2; omega)).trans HX5.out
      have HY8 : Hid ((W3.setCell ⟨w1.heap.size + 2, 7, none⟩ (.iface 40 (.agg #[]))).heap[w1.heap.size + 2]? = some (.cells #[.int .i64 x.k, .string x.i, .string x.n, .string x.l, .string x.u, .int .i64 x.d, .int .i64 x.v, .iface 40 (.agg #[])] 30)) := heap_setCell_same _ (w1.heap.size + 2) 7 _ _ _ HX8.out
      have HB4 : Hid (Below w.heap.size w (W3.setCell ⟨w1.heap.size + 2, 7, none⟩ (.iface 40 (.agg #[])))) := HB3.out.setCell (show w.heap.size ≤ w1.heap.size + 2 by have := HN.out; omega) _
      generalize W3.setCell ⟨w1.heap.size + 2, 7, none⟩ (.iface 40 (.agg #[])) = W4 at *
      clear fz y0 y1 y2 y3 y4 y5 y6 y7 HX5 HX8 HB3
      go_wp2_with (first | (refine wpList_load_row rfl 30 (.tmp 5) rfl (w1.heap.size) rfl _ _ _ _ HY5.out Tryz.underlying30 rfl infoA ?_) | (refine wpList_load_row rfl 30 (.tmp 8) rfl (w1.heap.size + 2) rfl _ _ _ _ HY8.out Tryz.underlying30 rfl infoA ?_))
      refine (HS1.out W4).mono ?_
      rintro e w5 ⟨rfl, hb5⟩
      have HZ5 := hidIn ((hb5.block _ (Array.getElem?_eq_some_iff.1 HY5.out).1).trans HY5.out)
      have HZ8 := hidIn ((hb5.block _ (Array.getElem?_eq_some_iff.1 HY8.out).1).trans HY8.out)
      have HB5 := hidIn (HB4.out.trans (hb5.mono HB4.out.size))
      clear hb5 HY5 HY8
      obtain ⟨c0, c1, c2, c3, c4, c5, c6, c7⟩ := cells8e HZ5.out
      obtain ⟨g0, g1, g2, g3, g4, g5, g6, g7⟩ := cells8e HZ8.out
      clear HZ5 HZ8
      go_wp2_with fail
      clear c0 c1 c2 c3 c4 c5 c6 c7 g0 g1 g2 g3 g4 g5 g6 g7
      refine (HS2.out w5).mono ?_
      rintro e w6 ⟨rfl, hb6⟩
      have HB6 := hidIn (HB5.out.trans (hb6.mono HB5.out.size))
      clear hb6
      go_wp2_with fail
      refine (wakes11_any w6 (tabW_below HT.out HB6.out)).mono ?_
      rintro e w7 ⟨rfl, hb7⟩
      have HB7 := hidIn (HB6.out.trans (hb7.mono HB6.out.size))
      clear hb7
      go_wp2_with fail
      go_ret
      exact ⟨rfl, HB7.out⟩
    · have HS1 : Hid (∀ W, Calls Tryz.prog 10 #[.agg #[.int .i64 x.k, .string x.i, .string x.n, .string x.l, .string x.u, .int .i64 x.d, .int .i64 x.v, x.t.val], .agg #[.int .i64 x.k, .string x.i, .string x.n, .string x.l, .string x.u, .int .i64 x.d, .int .i64 x.v, .nilIface]] W fun r w' => r = .returned (.bool false) ∧ Below W.heap.size W w') := fun W => by
        have h := HSA.out (x.turn 7) (HTO.out 7) W
        rw [(HTN.out 7 (by omega)).1] at h
        have e7 : (x.turn 7).t.val = .nilIface := by show (if nilB x.t = true then C.zero else none').val = _; rw [hnb, hnb1]; rfl
        have e8 : (x.turn 7).val = .agg #[.int .i64 x.k, .string x.i, .string x.n, .string x.l, .string x.u, .int .i64 x.d, .int .i64 x.v, .nilIface] := by unfold Ev.val Ev.cs; rw [e7]; rfl
        rw [e8] at h
        exact h
      have HS2 : Hid (∀ W, Calls Tryz.prog 10 #[.agg #[.int .i64 x.k, .string x.i, .string x.n, .string x.l, .string x.u, .int .i64 x.d, .int .i64 x.v, .nilIface], .agg #[.int .i64 x.k, .string x.i, .string x.n, .string x.l, .string x.u, .int .i64 x.d, .int .i64 x.v, x.t.val]] W fun r w' => r = .returned (.bool false) ∧ Below W.heap.size W w') := fun W => by
        have h := HSB.out (x.turn 7) (HTO.out 7) W
        rw [(HTN.out 7 (by omega)).2] at h
        have e7 : (x.turn 7).t.val = .nilIface := by show (if nilB x.t = true then C.zero else none').val = _; rw [hnb, hnb1]; rfl
        have e8 : (x.turn 7).val = .agg #[.int .i64 x.k, .string x.i, .string x.n, .string x.l, .string x.u, .int .i64 x.d, .int .i64 x.v, .nilIface] := by unfold Ev.val Ev.cs; rw [e7]; rfl
        rw [e8] at h
        exact h
      rw [hv] at y7 HX5 HX8 HS1 HS2 ⊢
      clear HSA HSB HTN HTO HSF o1 o2 o3 o4 one
      go_upto_region 23 with fail
      have HY5 : Hid ((W3.setCell ⟨w1.heap.size + 2, 7, none⟩ (.nilIface)).heap[w1.heap.size]? = some (.cells #[.int .i64 x.k, .string x.i, .string x.n, .string x.l, .string x.u, .int .i64 x.d, .int .i64 x.v, .iface xa xb] 30)) := (heap_setCell_other _ ⟨w1.heap.size + 2, 7, none⟩ _ _ (by show w1.heap.size ≠ w1.heap.size + 2; omega)).trans HX5.out
      have HY8 : Hid ((W3.setCell ⟨w1.heap.size + 2, 7, none⟩ (.nilIface)).heap[w1.heap.size + 2]? = some (.cells #[.int .i64 x.k, .string x.i, .string x.n, .string x.l, .string x.u, .int .i64 x.d, .int .i64 x.v, .nilIface] 30)) := heap_setCell_same _ (w1.heap.size + 2) 7 _ _ _ HX8.out
      have HB4 : Hid (Below w.heap.size w (W3.setCell ⟨w1.heap.size + 2, 7, none⟩ (.nilIface))) := HB3.out.setCell (show w.heap.size ≤ w1.heap.size + 2 by have := HN.out; omega) _
      generalize W3.setCell ⟨w1.heap.size + 2, 7, none⟩ (.nilIface) = W4 at *
      clear fz y0 y1 y2 y3 y4 y5 y6 y7 HX5 HX8 HB3
      go_wp2_with (first | (refine wpList_load_row rfl 30 (.tmp 5) rfl (w1.heap.size) rfl _ _ _ _ HY5.out Tryz.underlying30 rfl infoA ?_) | (refine wpList_load_row rfl 30 (.tmp 8) rfl (w1.heap.size + 2) rfl _ _ _ _ HY8.out Tryz.underlying30 rfl infoA ?_))
      refine (HS1.out W4).mono ?_
      rintro e w5 ⟨rfl, hb5⟩
      have HZ5 := hidIn ((hb5.block _ (Array.getElem?_eq_some_iff.1 HY5.out).1).trans HY5.out)
      have HZ8 := hidIn ((hb5.block _ (Array.getElem?_eq_some_iff.1 HY8.out).1).trans HY8.out)
      have HB5 := hidIn (HB4.out.trans (hb5.mono HB4.out.size))
      clear hb5 HY5 HY8
      obtain ⟨c0, c1, c2, c3, c4, c5, c6, c7⟩ := cells8e HZ5.out
      obtain ⟨g0, g1, g2, g3, g4, g5, g6, g7⟩ := cells8e HZ8.out
      clear HZ5 HZ8
      go_wp2_with fail
      clear c0 c1 c2 c3 c4 c5 c6 c7 g0 g1 g2 g3 g4 g5 g6 g7
      refine (HS2.out w5).mono ?_
      rintro e w6 ⟨rfl, hb6⟩
      have HB6 := hidIn (HB5.out.trans (hb6.mono HB5.out.size))
      clear hb6
      go_wp2_with fail
      refine (wakes11_any w6 (tabW_below HT.out HB6.out)).mono ?_
      rintro e w7 ⟨rfl, hb7⟩
      have HB7 := hidIn (HB6.out.trans (hb7.mono HB6.out.size))
      clear hb7
      go_wp2_with fail
      go_ret
      exact ⟨rfl, HB7.out⟩
  · have HS1 : Hid (∀ W, Calls Tryz.prog 10 #[.agg #[.int .i64 x.k, .string x.i, .string x.n, .string x.l, .string x.u, .int .i64 x.d, .int .i64 x.v, x.t.val], .agg #[.int .i64 x.k, .string x.i, .string x.n, .string x.l, .string x.u, .int .i64 x.d, .int .i64 x.v, x.t.val]] W fun r w' => r = .returned (.bool true) ∧ Below W.heap.size W w') := fun W => by
      have h := HSA.out x HTU.out.ok W
      rw [HSF.out] at h
      exact h
    have HS2 := HS1
    clear HSA HSB HTN HTO HSF
    go_upto_region 4 with fail
    have HY5 : Hid ((W3).heap[w1.heap.size]? = some (.cells #[.int .i64 x.k, .string x.i, .string x.n, .string x.l, .string x.u, .int .i64 x.d, .int .i64 x.v, x.t.val] 30)) := HX5.out
    have HY8 : Hid ((W3).heap[w1.heap.size + 2]? = some (.cells #[.int .i64 x.k, .string x.i, .string x.n, .string x.l, .string x.u, .int .i64 x.d, .int .i64 x.v, x.t.val] 30)) := HX8.out
    have HB4 : Hid (Below w.heap.size w (W3)) := HB3.out
    obtain ⟨W4, hW4⟩ : ∃ y, y = W3 := ⟨_, rfl⟩
    subst hW4
    clear fz y0 y1 y2 y3 y4 y5 y6 y7 HX5 HX8 HB3
    go_wp2_with (first | (refine wpList_load_row rfl 30 (.tmp 5) rfl (w1.heap.size) rfl _ _ _ _ HY5.out Tryz.underlying30 rfl infoA ?_) | (refine wpList_load_row rfl 30 (.tmp 8) rfl (w1.heap.size + 2) rfl _ _ _ _ HY8.out Tryz.underlying30 rfl infoA ?_))
    refine (HS1.out W4).mono ?_
    rintro e w5 ⟨rfl, hb5⟩
    have HZ5 := hidIn ((hb5.block _ (Array.getElem?_eq_some_iff.1 HY5.out).1).trans HY5.out)
    have HZ8 := hidIn ((hb5.block _ (Array.getElem?_eq_some_iff.1 HY8.out).1).trans HY8.out)
    have HB5 := hidIn (HB4.out.trans (hb5.mono HB4.out.size))
    clear hb5 HY5 HY8
    obtain ⟨c0, c1, c2, c3, c4, c5, c6, c7⟩ := cells8e HZ5.out
    obtain ⟨g0, g1, g2, g3, g4, g5, g6, g7⟩ := cells8e HZ8.out
    clear HZ5 HZ8
    go_wp2_with fail
    clear c0 c1 c2 c3 c4 c5 c6 c7 g0 g1 g2 g3 g4 g5 g6 g7
    refine (HS2.out w5).mono ?_
    rintro e w6 ⟨rfl, hb6⟩
    have HB6 := hidIn (HB5.out.trans (hb6.mono HB5.out.size))
    clear hb6
    go_wp2_with fail
    refine (wakes11_any w6 (tabW_below HT.out HB6.out)).mono ?_
    rintro e w7 ⟨rfl, hb7⟩
    have HB7 := hidIn (HB6.out.trans (hb7.mono HB6.out.size))
    clear hb7
    go_wp2_with fail
    go_ret
    exact ⟨rfl, HB7.out⟩

end Go.Proofs.YtkioolbjmcpjpaaGreatDoor.Ev
namespace Go.Proofs.YtkioolbjmcpjpaaGreatDoor.Ev
open Go.ChangeShapes Go.WideShapes Go.ChangeAt Go.RowKit
set_option linter.unusedVariables false

theorem cellsCmd : Tryz.prog.cellsOf 27 = 8 := by kernel_rfl
theorem cellsInt : Tryz.prog.cellsOf 3 = 1 := by kernel_rfl
theorem cellsStr : Tryz.prog.cellsOf 9 = 1 := by kernel_rfl
theorem cellsIs : Tryz.prog.cellsOf 22 = 1 := by kernel_rfl
theorem cellsSs : Tryz.prog.cellsOf 23 = 1 := by kernel_rfl
set_option maxRecDepth 100000 in
theorem planC_open {H : Type} {enc : TypeId × Value → H} {W : World} {n : Nat} {v0 v1 : Value} {x : DataW H × List MemPlace} (h : DataW.trod enc Tryz.prog W 0 (fun _ => true) true n 25 [v0, v1] = some x) : ∃ p : Pl, v0 = .slice p.na p.nl p.nc ∧ v1 = .slice p.wa p.wl p.wc ∧ PlanIn W p := by
  obtain ⟨xs, k, hk, hxy, hlen, hxl, hf⟩ := DataW.trod_struct Tryz.underlying25 h
  have hx2 : xs.length = 2 := hxl
  match xs, hx2 with
  | [y0, y1], _ =>
    have g0 := hf 0 _ rfl
    have g1 := hf 1 _ rfl
    simp [cellsIs, cellsSs] at g0 g1
    obtain ⟨a, l, c, f, rfl, h1, h2⟩ := ints_open g0
    obtain ⟨a', l', c', f', rfl, h3, h4⟩ := strs_open g1
    exact ⟨⟨a, l, c, f, a', l', c', f'⟩, rfl, rfl, h1, h3, h2, h4⟩
set_option maxRecDepth 100000 in
theorem cmd_trod {H : Type} {enc : TypeId × Value → H} {W : World} {n : Nat} {cs : List Value} {x : DataW H × List MemPlace} (h : DataW.trod enc Tryz.prog W 0 (fun _ => true) true n 27 cs = some x) : ∃ c : Cm, cs = c.cs.toList ∧ c.In W := by
  obtain ⟨xs, k, hk, hxy, hlen, hxl, hf⟩ := DataW.trod_struct Tryz.underlying27 h
  rw [cellsCmd] at hlen
  match cs, hlen with
  | [v0, v1, v2, v3, v4, v5, v6, v7], _ =>
    have hx7 : xs.length = 7 := hxl
    match xs, hx7 with
    | [y0, y1, y2, y3, y4, y5, y6], _ =>
      have g0 := hf 0 _ rfl
      have g1 := hf 1 _ rfl
      have g2 := hf 2 _ rfl
      have g3 := hf 3 _ rfl
      have g4 := hf 4 _ rfl
      have g5 := hf 5 _ rfl
      have g6 := hf 6 _ rfl
      simp [cellsInt, cellsStr, cellsPlan] at g0 g1 g2 g3 g4 g5 g6
      obtain ⟨k, e0, _, w0⟩ := DataW.trod_int Tryz.underlying3 g0
      obtain ⟨a, e1, _, w1⟩ := DataW.trod_int Tryz.underlying3 g1
      obtain ⟨b, e2, _, w2⟩ := DataW.trod_int Tryz.underlying3 g2
      obtain ⟨d, e3, _, w3⟩ := DataW.trod_int Tryz.underlying3 g3
      obtain ⟨v, e4, _, w4⟩ := DataW.trod_int Tryz.underlying3 g4
      obtain ⟨s, e5, _, w5⟩ := DataW.trod_string Tryz.underlying9 g5
      obtain ⟨p, rfl, rfl, hp⟩ := planC_open g6
      simp only [List.cons.injEq, and_true] at e0 e1 e2 e3 e4 e5
      subst e0 e1 e2 e3 e4 e5
      have b0 := plan_int_bd w0
      have b1 := plan_int_bd w1
      have b2 := plan_int_bd w2
      have b3 := plan_int_bd w3
      have b4 := plan_int_bd w4
      exact ⟨⟨k, a, b, d, v, s, p⟩, rfl, b0.1, b0.2, b1.1, b1.2, b2.1, b2.2, b3.1, b3.2, b4.1, b4.2, w5, hp⟩
set_option maxRecDepth 100000 in
theorem cmd_open {H : Type} {enc : TypeId × Value → H} {W : World} {b0 : Nat} {v : Value} {d : DataW H} {ps : List MemPlace} (hv : Value.okWide Tryz.prog W .any b0 27 v) (h : DataW.Trod enc Tryz.prog W 0 (fun _ => true) true 27 v d ps) : ∃ c : Cm, v = .agg c.cs ∧ c.In W := by
  obtain ⟨cs, rfl, hsz⟩ := okWide_struct Tryz.underlying27 hv
  obtain ⟨fuel, hf⟩ := h
  obtain ⟨c, hc, hin⟩ := cmd_trod hf
  refine ⟨c, ?_, hin⟩
  have : cs = c.cs := by
    apply Array.ext'
    simpa [Value.cells] using hc
  rw [this]

end Go.Proofs.YtkioolbjmcpjpaaGreatDoor.Ev
