/- A contract as a tree: Or. -/
import Derived.Test.YtngjlkdpplmpaaaPlainC1
import Derived.Test.YtngjlkdpplmpaaaGrowI
namespace Go.Proofs.Ytngjlkdpplmpaaa
open Go.RowKit
set_option linter.unusedVariables false

set_option maxHeartbeats 1000000 in
set_option maxRecDepth 100000 in
theorem two_raw (kind : Int) (t u : T) (ka la : Option Addr) (kc lc : Nat) (w : World) :
    Calls Try.prog 56 #[.int .i64 kind, .agg #[.int .i64 t.kind, .string t.s, .int .i64 t.n, .slice ka t.k.length kc], .agg #[.int .i64 u.kind, .string u.s, .int .i64 u.n, .slice la u.k.length lc]] w fun e w' => ∃ b, e = .returned (.agg #[.int .i64 kind, .string ⟨#[]⟩, .int .i64 0, .slice (some ⟨b, 0, none⟩) 2 2]) ∧ w.heap.size ≤ b ∧ Blk w' b 72 (eight t ka kc u la lc) ∧ Up w w' := by
  go_enter Try.func56, Try.ntmps56
  go_wp2_with fail
  refine bodyPost_ret (results_cell_row rfl _ _ (w.heap.size + 1 + 1) 72 #[.int .i64 kind, .string ⟨#[]⟩, .int .i64 0, .slice (some ⟨w.heap.size + 1 + 1 + 1, 0, none⟩) 2 2] (0, 0) _ rfl ?blk Try.underlying72 rfl infoT) rfl ?post
  case blk => exact blk_keep (blk_new (by simp)) _
  case post => exact ⟨_, rfl, by omega, blk_new (by simp), below_alloc (below_alloc (below_alloc (below_alloc (Below.refl _ _) _) _) _) _⟩
theorem cell_nine {W : World} {R g : Nat} {a b c d e a' b' c' d' : Value} {k o : Nat} (h1 : k ≠ g) (h2 : k ≠ R) : (((((((((W.setCell ⟨g, 0, none⟩ a).setCell ⟨g, 1, none⟩ b).setCell ⟨g, 2, none⟩ c).setCell ⟨g, 3, none⟩ d).setCell ⟨g, 1, none⟩ e).setCell ⟨R, 0, none⟩ a').setCell ⟨R, 1, none⟩ b').setCell ⟨R, 2, none⟩ c').setCell ⟨R, 3, none⟩ d').cell? ⟨k, o, none⟩ = W.cell? ⟨k, o, none⟩ := by
  rw [set4_cell' h2, World.cell?_setCell_other _ _ _ _ (by intro e; injection e with e; exact h1 e.symm), set4_cell' h1]
/-- A tree that was made in these blocks. -/
def treeI (B : Nat) (t : T) (v : Value) (I : Nat × Nat) (w : World) : Prop := ∃ ka kc, v = .agg #[.int .i64 t.kind, .string t.s, .int .i64 t.n, .slice ka t.k.length kc] ∧ B ≤ I.1 ∧ ∀ X : World, (∀ b o c, I.1 ≤ b → b < I.2 → w.cell? ⟨b, o, none⟩ = some c → X.cell? ⟨b, o, none⟩ = some c) → TIn X I.1 t (.agg (four t ka kc))
theorem treeI_stays (B : Nat) (t : T) : ∀ u I w w', Up w w' → treeI B t u I w → treeI B t u I w' := fun u I w w' h ⟨ka, kc, e, hB, ht⟩ => ⟨ka, kc, e, hB, fun X hX => ht X (fun b o c h1 h2 hc => hX b o c h1 h2 ((Below.cell h (p := ⟨b, o, none⟩) (World.block_lt_of_cell? w _ hc)).trans hc))⟩
theorem treeI_made {B : Nat} {w w' : World} {t : T} {ka : Option Addr} {kc : Nat} (hB : B ≤ w.heap.size) (ht : TIn w' w.heap.size t (.agg (four t ka kc))) : treeI B t (.agg #[.int .i64 t.kind, .string t.s, .int .i64 t.n, .slice ka t.k.length kc]) (w.heap.size, w'.heap.size) w' :=
  ⟨ka, kc, rfl, hB, fun X hX => ht.kept (Nat.le_refl _) (fun b o c hb hc => hX b o c hb (World.block_lt_of_cell? w' _ hc) hc)⟩
/-- The row of two trees. -/
def rowI (B : Nat) (ta tb : T) (r : List Value) (v : Value) (I : Nat × Nat) (w : World) : Prop := ∃ ka kc la lc b, r = [.agg #[.int .i64 ta.kind, .string ta.s, .int .i64 ta.n, .slice ka ta.k.length kc], .agg #[.int .i64 tb.kind, .string tb.s, .int .i64 tb.n, .slice la tb.k.length lc]] ∧ v = .agg #[.int .i64 5, .string ⟨#[]⟩, .int .i64 0, .slice (some ⟨b, 0, none⟩) 2 2] ∧ B ≤ b ∧ I.1 ≤ b ∧ b < I.2 ∧ Blk w b 72 (eight ta ka kc tb la lc)
theorem rowI_stays (B : Nat) (ta tb : T) (r : List Value) : ∀ u I w w', Up w w' → rowI B ta tb r u I w → rowI B ta tb r u I w' := fun u I w w' h ⟨ka, kc, la, lc, b, e1, e2, h0, h1, h2, hb⟩ => ⟨ka, kc, la, lc, b, e1, e2, h0, h1, h2, hb.below h hb.lt⟩
/-- A struct of its own, empty. -/
def zeroI (B : Nat) (v : Value) (I : Nat × Nat) (w : World) : Prop := v = .pointer (some ⟨I.1, 0, none⟩) ∧ B ≤ I.1 ∧ I.1 < I.2 ∧ Blk w I.1 72 zeroT
theorem zeroI_stays (B : Nat) : ∀ u I w w', Up w w' → zeroI B u I w → zeroI B u I w' := fun u I w w' h ⟨e, h1, h2, hb⟩ => ⟨e, h1, h2, hb.below h hb.lt⟩
set_option maxHeartbeats 1000000 in
set_option maxRecDepth 100000 in
theorem plainC_or (s : ByteArray) (l r : C) (q1 : One' l.val) (q2 : One' r.val) (ih1 : MakesC l) (ih2 : MakesC r) : MakesC (.or s l r) := by
  intro w
  have a0 := fun v xT w => notZero 32 v xT w (by decide)
  have a1 := fun v xT w => notOne 32 v xT w (by decide)
  have a2 := fun v xT w => notGive 32 v xT w (by decide)
  have a3 := fun v xT w => notAnd 32 v xT w (by decide)
  have a4 := fun v xT w => isOr v xT w
  have hs1 := q1.store
  have cv1 := q1.cells
  have mv1 := q1.cells
  unfold Value.cells at mv1
  have hs2 := q2.store
  have cv2 := q2.cells
  have mv2 := q2.cells
  unfold Value.cells at mv2
  unfold C.val
  clear q1 q2
  go_enter Try.func34, Try.ntmps34
  go_wp2_with fail
  obtain ⟨W, hW⟩ : ∃ W, W = (w.alloc (.cells #[.int .i64 0, .string ⟨#[]⟩, .int .i64 0, .slice none 0 0] 72)).alloc (.cells #[.string s, l.val, r.val] 32) := ⟨_, rfl⟩
  have HB : Hid (Below w.heap.size w W) := by rw [hW]; exact below_alloc (below_alloc (Below.refl _ _) _) _
  have HZ : Hid (Blk W w.heap.size 72 zeroT) := by rw [hW]; exact blk_keep (blk_new rfl) _
  have HX : Hid (Blk W (w.heap.size + 1) 32 #[.string s, l.val, r.val]) := by rw [hW]; exact blk_new (by simp)
  have HWS : Hid (W.heap.size = w.heap.size + 2) := by unfold Hid; rw [hW]; simp
  rw [← hW]
  clear hW
  have HI1 : Hid (∀ w, Calls Try.prog 34 #[l.val] w (TreePost w (plainC l))) := ih1
  have HI2 : Hid (∀ w, Calls Try.prog 34 #[r.val] w (TreePost w (plainC r))) := ih2
  have HPL : Hid (plainC (.or s l r) = .mk 5 s 0 [plainC l, plainC r]) := rfl
  have HF : Hid (∀ w', Below W.heap.size W w' → w'.cell? ⟨w.heap.size + 1, 0, none⟩ = some (.string s) ∧ w'.cell? ⟨w.heap.size + 1, 1, none⟩ = some l.val ∧ w'.cell? ⟨w.heap.size + 1, 2, none⟩ = some r.val) := fun w' hw' => ⟨(HX.out.below hw' HX.out.lt).cell 0, (HX.out.below hw' HX.out.lt).cell 1, (HX.out.below hw' HX.out.lt).cell 2⟩
  clear ih1 ih2
  generalize l.val = va at *
  generalize r.val = vb at *
  generalize plainC l = ta at *
  generalize plainC r = tb at *
  clear hs1 cv1 mv1 hs2 cv2 mv2 a0 a1 a2 a3 a4
  refine Ivl.wp_region_growI (l := [_, _, _, _, _, _, _, _]) (fun w' => Below W.heap.size W w') Up (Ivl.modes [fun _ => Ivl.one (.pointer (some ⟨w.heap.size + 1, 1, none⟩)), fun _ => Ivl.one va, fun _ => Ivl.loose (treeI W.heap.size ta), fun _ => Ivl.one (.pointer (some ⟨w.heap.size + 1, 2, none⟩)), fun _ => Ivl.one vb, fun _ => Ivl.loose (treeI W.heap.size tb), fun r => Ivl.loose (rowI W.heap.size ta tb r), fun _ => Ivl.loose (zeroI W.heap.size)]) (by kernel_rfl) rfl (by kernel_rfl) (by kernel_rfl) (fun _ _ h => Below.size h) (up_class _) (below_drew (Below.refl _ _)) ?_
  generalize hops : (#[_, _, _, _, _, _, _, _, _] : Array Oper) = ops
  clear hops
  refine Ivl.g_runs (.pointer (some ⟨w.heap.size + 1, 1, none⟩)) Up.refl rfl (wanted_none rfl) (fun w' hw' => ?_) ?_
  · go_simp
  simp only [Act.put, List.setIfInBounds_toArray, List.set_cons_zero, List.set_cons_succ]
  refine Ivl.g_runs (va) Up.refl rfl (wanted_none rfl) (fun w' hw' => ?_) ?_
  · obtain ⟨y0, y1, y2⟩ := HF.out w' hw'
    go_simp
  simp only [Act.put, List.setIfInBounds_toArray, List.set_cons_zero, List.set_cons_succ]
  refine Ivl.g_loose 34 #[va] (treeI W.heap.size ta) rfl (treeI_stays _ _) (wanted_none rfl) (fun w' hw' => ?_) (fun w' hw' hk => ?_) (fun u46 => ?_)
  · go_simp
  · refine (HI1.out w').mono ?_
    rintro e w3 ⟨ka, kc, rfl, ht, hb⟩
    exact ⟨_, rfl, hb, treeI_made hw'.size ht⟩
  simp only [Act.put, List.setIfInBounds_toArray, List.set_cons_zero, List.set_cons_succ]
  refine Ivl.g_runs (.pointer (some ⟨w.heap.size + 1, 2, none⟩)) Up.refl rfl (wanted_none rfl) (fun w' hw' => ?_) ?_
  · go_simp
  simp only [Act.put, List.setIfInBounds_toArray, List.set_cons_zero, List.set_cons_succ]
  refine Ivl.g_runs (vb) Up.refl rfl (wanted_none rfl) (fun w' hw' => ?_) ?_
  · obtain ⟨y0, y1, y2⟩ := HF.out w' hw'
    go_simp
  simp only [Act.put, List.setIfInBounds_toArray, List.set_cons_zero, List.set_cons_succ]
  refine Ivl.g_loose 34 #[vb] (treeI W.heap.size tb) rfl (treeI_stays _ _) (wanted_none rfl) (fun w' hw' => ?_) (fun w' hw' hk => ?_) (fun u49 => ?_)
  · go_simp
  · refine (HI2.out w').mono ?_
    rintro e w3 ⟨ka, kc, rfl, ht, hb⟩
    exact ⟨_, rfl, hb, treeI_made hw'.size ht⟩
  simp only [Act.put, List.setIfInBounds_toArray, List.set_cons_zero, List.set_cons_succ]
  refine Ivl.g_loose 56 #[.int .i64 5, u46, u49] (rowI W.heap.size ta tb [u46, u49]) rfl (rowI_stays _ _ _ _) (wanted_none rfl) (fun w' hw' => ?_) (fun w' hw' hk => ?_) (fun u50 => ?_)
  · go_simp
  · obtain ⟨_, ka, kc, rfl, _, _⟩ : ∃ I, treeI W.heap.size ta u46 I w' := hk 46 (looks_at (by simp [Op.operands, Call.operands]))
    obtain ⟨_, la, lc, rfl, _, _⟩ : ∃ I, treeI W.heap.size tb u49 I w' := hk 49 (looks_at (by simp [Op.operands, Call.operands]))
    refine (two_raw 5 ta tb ka la kc lc w').mono ?_
    rintro e w3 ⟨b, rfl, hbb, hblk, hb⟩
    exact ⟨_, rfl, hb, ka, kc, la, lc, b, rfl, rfl, Nat.le_trans hw'.size hbb, hbb, hblk.lt, hblk⟩
  simp only [Act.put, List.setIfInBounds_toArray, List.set_cons_zero, List.set_cons_succ]
  refine Ivl.g_makes (zeroI W.heap.size) rfl (zeroI_stays _) (wanted_none rfl) (fun w' hw' hk => ?_) (fun u8 => ?_)
  · refine ⟨.pointer (some ⟨w'.heap.size, 0, none⟩), w'.alloc (.cells zeroT 72), ?_, below_alloc (Below.refl _ _) _, rfl, hw'.size, ?_, blk_new rfl⟩
    · unfold zeroT
      go_simp
    · show w'.heap.size < (w'.alloc _).heap.size
      rw [World.size_alloc]
      exact Nat.lt_succ_self _
  simp only [Act.put, List.setIfInBounds_toArray, List.set_cons_zero, List.set_cons_succ]
  refine Ivl.g_nil ?_
  intro I w9 hw9 hk9 hA
  obtain ⟨ka, kc, e46, b46, t46⟩ : treeI W.heap.size ta u46 (I 46) w9 := hk9 46
  obtain ⟨la, lc, e49, b49, t49⟩ : treeI W.heap.size tb u49 (I 49) w9 := hk9 49
  obtain ⟨ka', kc', la', lc', b, e50, f50, b0, b1, b2, hblk⟩ : rowI W.heap.size ta tb [u46, u49] u50 (I 50) w9 := hk9 50
  obtain ⟨f8, b8, c8, hz8⟩ : zeroI W.heap.size u8 (I 8) w9 := hk9 8
  have d1 := hA.2 46 8 (by decide)
  have d2 := hA.2 49 8 (by decide)
  have d3 := hA.2 50 8 (by decide)
  have d4 := hA.2 46 50 (by decide)
  rw [e46, e49] at e50
  simp only [List.cons.injEq, Value.agg.injEq, and_true] at e50
  have hka : ka' = ka ∧ kc' = kc ∧ la' = la ∧ lc' = lc := by
    obtain ⟨h1, h2⟩ := e50
    simp at h1 h2
    exact ⟨h1.1.symm, h1.2.symm, h2.1.symm, h2.2.symm⟩
  obtain ⟨rfl, rfl, rfl, rfl⟩ := hka
  subst f50 f8 e46 e49
  have hws := HWS.out
  generalize hg : (I 8).1 = g at *
  have ng0 : ¬ g = w.heap.size := by omega
  have ng1 : ¬ g = w.heap.size + 1 := by omega
  have ng2 : ¬ w.heap.size = g := by omega
  have ng3 : ¬ w.heap.size + 1 = g := by omega
  obtain ⟨⟨g0, g1, g2, g3⟩, k0, k1, k2, k3⟩ := blk_zero hz8
  have hz9 := HZ.out.below hw9 HZ.out.lt
  obtain ⟨⟨z0, z1, z2, z3⟩, f0, f1, f2, f3⟩ := blk_zero hz9
  obtain ⟨y0, _, _⟩ := HF.out w9 hw9
  have HZ9 := hidIn hz9
  have HZ8 := hidIn hz8
  have HB9 := hidIn hw9
  have HT46 := hidIn t46
  have HT49 := hidIn t49
  have HBLK := hidIn hblk
  have HNUM : Hid (W.heap.size ≤ (I 46).1 ∧ W.heap.size ≤ (I 49).1 ∧ (I 50).1 ≤ b ∧ b < (I 50).2 ∧ W.heap.size ≤ g ∧ ((I 46).2 ≤ g ∨ g < (I 46).1) ∧ ((I 49).2 ≤ g ∨ g < (I 49).1) ∧ ((I 50).2 ≤ g ∨ g < (I 50).1)) := ⟨b46, b49, b1, b2, b8, by omega, by omega, by omega⟩
  have HBL : Hid (W.heap.size ≤ b) := b0
  have HG := hidIn hws
  clear hz8 hz9 hw9 t46 t49 hblk hk9 hA d1 d2 d3 d4 b46 b49 b0 b1 b2 b8 c8 e50 hws hg
  go_upto_region 17 with fail
  obtain ⟨w10, h10⟩ : ∃ y, y = (((w9.setCell ⟨g, 0, none⟩ (.int .i64 5)).setCell ⟨g, 1, none⟩ (.string ⟨#[]⟩)).setCell ⟨g, 2, none⟩ (.int .i64 0)).setCell ⟨g, 3, none⟩ (.slice (some ⟨b, 0, none⟩) 2 2) := ⟨_, rfl⟩
  have hg10 : Blk w10 g 72 #[.int .i64 5, .string ⟨#[]⟩, .int .i64 0, .slice (some ⟨b, 0, none⟩) 2 2] := by rw [h10]; exact blk_set4' HZ8.out _ _ _ _
  have hr10 : Blk w10 w.heap.size 72 zeroT := by rw [h10]; exact blk_other (blk_other (blk_other (blk_other HZ9.out ng2 _ _) ng2 _ _) ng2 _ _) ng2 _ _
  have HC10 : Hid (∀ k x, k ≠ g → w10.cell? ⟨k, x, none⟩ = w9.cell? ⟨k, x, none⟩) := by intro k x hk; rw [h10]; exact set4_cell' hk
  have HB10 : Hid (Below w.heap.size w w10) := by
    have hbw : Below w.heap.size w w9 := HB.out.trans (HB9.out.mono HB.out.size)
    have hws := HG.out
    obtain ⟨m1, m2, m3, m4, m5, m6, m7, m8⟩ := HNUM.out
    rw [h10]
    exact below_set (below_set (below_set (below_set hbw (by omega) _ _) (by omega) _ _) (by omega) _ _) (by omega) _ _
  have HBLK10 : Hid (Blk w10 b 72 (eight ta ka' kc' tb la' lc')) := by
    obtain ⟨m1, m2, m3, m4, m5, m6, m7, m8⟩ := HNUM.out
    rw [h10]
    exact blk_other (blk_other (blk_other (blk_other HBLK.out (by omega) _ _) (by omega) _ _) (by omega) _ _) (by omega) _ _
  rw [← h10]
  have y10 : w10.cell? ⟨w.heap.size + 1, 0, none⟩ = some (.string s) := (HC10.out _ _ ng3).trans y0
  clear h10 g0 g1 g2 g3 k0 k1 k2 k3 z0 z1 z2 z3 f0 f1 f2 f3 y0
  have g0 : w10.cell? ⟨g, 0, none⟩ = some (.int .i64 5) := hg10.cell 0
  have g1 : w10.cell? ⟨g, 1, none⟩ = some (.string ⟨#[]⟩) := hg10.cell 1
  have g2 : w10.cell? ⟨g, 2, none⟩ = some (.int .i64 0) := hg10.cell 2
  have g3 : w10.cell? ⟨g, 3, none⟩ = some (.slice (some ⟨b, 0, none⟩) 2 2) := hg10.cell 3
  have k1 := hg10.frozen 1
  obtain ⟨⟨z0, z1, z2, z3⟩, f0, f1, f2, f3⟩ := blk_zero hr10
  have HR10 := hidIn hr10
  clear hg10 hr10
  go_wp2_with fail
  refine bodyPost_ret (results_cell_row rfl _ _ w.heap.size 72 #[.int .i64 5, .string s, .int .i64 0, .slice (some ⟨b, 0, none⟩) 2 2] (0, 0) _ rfl ?blk Try.underlying72 rfl infoT) rfl ?post
  case blk => change Blk _ _ _ _; (with_reducible refine blk_set4' ?_ _ _ _ _); (repeat first | with_reducible exact HR10.out | with_reducible refine blk_other ?_ ng2 _ _)
  case post =>
    have hws := HG.out
    obtain ⟨m1, m2, m3, m4, m5, m6, m7, m8⟩ := HNUM.out
    have m9 := HBL.out
    rw [HPL.out]
    have hcl : ∀ k x c, k ≠ g → k ≠ w.heap.size → w9.cell? ⟨k, x, none⟩ = some c → ((((((w10.setCell ⟨g, 1, none⟩ (.string s)).setCell ⟨w.heap.size, 0, none⟩ (.int .i64 5)).setCell ⟨w.heap.size, 1, none⟩ (.string s)).setCell ⟨w.heap.size, 2, none⟩ (.int .i64 0)).setCell ⟨w.heap.size, 3, none⟩ (.slice (some ⟨b, 0, none⟩) 2 2)).cell? ⟨k, x, none⟩) = some c := by
      intro k x c h1 h2 hc
      rw [set4_cell' h2, World.cell?_setCell_other _ _ _ _ (by intro e; injection e with e; exact h1 e.symm), HC10.out k x h1]
      exact hc
    refine ⟨some ⟨b, 0, none⟩, 2, rfl, ⟨some ⟨b, 0, none⟩, 2, rfl, Nat.le_refl _, by omega, kat_two ((HT46.out _ (fun k x c h1 h2 hc => ?_)).low (by omega)) ((HT49.out _ (fun k x c h1 h2 hc => ?_)).low (by omega)) (by omega) ?_⟩, ?_⟩
    · exact hcl k x c (by omega) (by omega) hc
    · exact hcl k x c (by omega) (by omega) hc
    · (repeat first | with_reducible exact HBLK10.out | with_reducible refine blk_other ?_ (by omega) _ _)
    · (repeat first | with_reducible exact HB10.out | with_reducible refine below_set ?_ (by omega) _ _)

end Go.Proofs.Ytngjlkdpplmpaaa
