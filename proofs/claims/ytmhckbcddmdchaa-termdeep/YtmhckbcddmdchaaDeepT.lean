/- The walk of the statement TermDeep. -/
import Derived.Test.YtmhckbcddmdchaaDeepA
import Derived.Test.YtmhckbcddmdchaaGrow
import Derived.Test.YtmhckbcddmdchaaTermCheck
namespace Go.Proofs.Ytmhckbcddmdchaa
open Go.RowKit
set_option linter.unusedVariables false

/-- The list of what may not be. -/
def rowF (v : Value) (w : World) : Prop := ∃ g, v = .slice (some ⟨g, 0, none⟩) 7 7 ∧ Blk w g 46 badL
theorem rowF_stays : ∀ u w w', Up w w' → rowF u w → rowF u w' := fun u w w' h ⟨g, e, hg⟩ => ⟨g, e, hg.below h hg.lt⟩
def cellF (c : Nat) (v : Value) (w : World) : Prop := ∃ g, v = .pointer (some ⟨g, c, none⟩) ∧ Blk w g 46 badL
theorem cellF_stays (c : Nat) : ∀ u w w', Up w w' → cellF c u w → cellF c u w' := fun u w w' h ⟨g, e, hg⟩ => ⟨g, e, hg.below h hg.lt⟩

set_option maxHeartbeats 8000000 in
set_option maxRecDepth 100000 in
theorem termDeep_walk (p : Pl) (n which : Int) (w : World) (hp : PlanIn w p) (h1 : -9223372036854775808 ≤ n) (h2 : n ≤ 9223372036854775807) (h3 : -9223372036854775808 ≤ which) (h4 : which ≤ 9223372036854775807) :
    Calls Try.prog 5 #[planV p, .int .i64 n, .int .i64 which] w fun e w' => e = .returned (.bool true) ∧ Below w.heap.size w w' := by
  have HP := hidIn hp
  obtain ⟨m, hm⟩ : ∃ m : Nat, n % 5 = m := ⟨(n % 5).toNat, by omega⟩
  obtain ⟨c, hc⟩ : ∃ c : Nat, which % 7 = c := ⟨(which % 7).toNat, by omega⟩
  have hm5 : m < 5 := by omega
  have hc7 : c < 7 := by omega
  have hc7' : (c : Int) < 7 := by omega
  have HM := hidIn hm
  have HC := hidIn hc
  unfold planV
  clear hp hm hc
  go_enter Try.func5, Try.ntmps5
  go_upto_region 3 with fail
  refine calls_same (within_any _ 5 _ (by omega) (by omega) h1 h2) ?_
  rw [HM.out]
  go_upto_region 3 with fail
  obtain ⟨W, hW⟩ : ∃ W, W = (w.alloc (.cells #[.slice p.na p.nl p.nc, .slice p.wa p.wl p.wc] 25)).alloc (.cells #[] 56) := ⟨_, rfl⟩
  have HB : Hid (Below w.heap.size w W) := by rw [hW]; exact below_alloc (below_alloc (Below.refl _ _) _) _
  have HBP : Hid (Blk W w.heap.size 25 #[.slice p.na p.nl p.nc, .slice p.wa p.wl p.wc]) := by rw [hW]; exact blk_keep (blk_new rfl) _
  have HBZ : Hid (Blk W (w.heap.size + 1) 56 #[]) := by rw [hW]; exact blk_new (by simp)
  have HPW := hidIn (HP.out.below HB.out)
  have HZ : Hid (∀ w', Below W.heap.size W w' → w'.heap[w.heap.size + 1]? = some (.cells #[] 56 (0, 0))) := fun w' hw' => HBZ.out.below hw' HBZ.out.lt
  rw [← hW]
  clear hW HP
  refine wp_region_grow (fun w' => Below W.heap.size W w') Up (modes [one (.agg #[.string ⟨#[85]⟩]), one (.iface 58 (.agg #[.string ⟨#[85]⟩])), one (.agg #[]), one (.iface 56 (.agg #[])), one (.agg #[.int .i64 (-1), .iface 56 (.agg #[])]), one (.iface 60 (.agg #[.int .i64 (-1), .iface 56 (.agg #[])])), one (.agg #[]), one (.iface 56 (.agg #[])), one (.agg #[.nilIface, .iface 56 (.agg #[])]), one (.iface 62 (.agg #[.nilIface, .iface 56 (.agg #[])])), one (.agg #[.string ⟨#[]⟩]), one (.iface 64 (.agg #[.string ⟨#[]⟩])), one (.agg #[]), one (.iface 56 (.agg #[])), one (.agg #[]), one (.iface 56 (.agg #[])), one (.agg #[.iface 64 (.agg #[.string ⟨#[]⟩]), .iface 56 (.agg #[]), .iface 56 (.agg #[])]), one (.iface 66 (.agg #[.iface 64 (.agg #[.string ⟨#[]⟩]), .iface 56 (.agg #[]), .iface 56 (.agg #[])])), one (.agg #[]), one (.iface 56 (.agg #[])), one (.agg #[]), one (.iface 56 (.agg #[])), one (.agg #[.string ⟨#[49]⟩, .iface 56 (.agg #[]), .iface 56 (.agg #[])]), one (.iface 68 (.agg #[.string ⟨#[49]⟩, .iface 56 (.agg #[]), .iface 56 (.agg #[])])), one (.agg #[.nilIface]), one (.iface 70 (.agg #[.nilIface])), loose (rowF), one (.int .i64 which), one (.int .i64 (c : Int)), loose (cellF c), one ((badC c).val), one ((badC c).val)]) (by kernel_rfl) (by kernel_rfl) (up_class _) (below_drew (Below.refl _ _)) ?_
  generalize hops : (#[_, _, _, _, _, _, _, _, _, _, _, _, _, _, _, _, _, _, _, _, _, _, _, _, _, _, _, _, _, _, _, _] : Array Oper) = ops
  clear hops
  refine g_runs (.agg #[.string ⟨#[85]⟩]) grow_end Up.refl rfl (wanted_none rfl) (by intro d hd w; cases hd; exact trivial) (fun w' hw' => ?_) ?_
  · go_simp
  simp only [Act.put, List.setIfInBounds_toArray, List.set_cons_zero, List.set_cons_succ]
  refine g_runs (.iface 58 (.agg #[.string ⟨#[85]⟩])) grow_end Up.refl rfl (wanted_none rfl) (by intro d hd w; cases hd; exact trivial) (fun w' hw' => ?_) ?_
  · go_simp
  simp only [Act.put, List.setIfInBounds_toArray, List.set_cons_zero, List.set_cons_succ]
  refine g_runs (.agg #[]) grow_end Up.refl rfl (wanted_none rfl) (by intro d hd w; cases hd; exact trivial) (fun w' hw' => ?_) ?_
  · have hz := HZ.out w' hw'
    go_simp
  simp only [Act.put, List.setIfInBounds_toArray, List.set_cons_zero, List.set_cons_succ]
  refine g_runs (.iface 56 (.agg #[])) grow_end Up.refl rfl (wanted_none rfl) (by intro d hd w; cases hd; exact trivial) (fun w' hw' => ?_) ?_
  · go_simp
  simp only [Act.put, List.setIfInBounds_toArray, List.set_cons_zero, List.set_cons_succ]
  refine g_runs (.agg #[.int .i64 (-1), .iface 56 (.agg #[])]) grow_end Up.refl rfl (wanted_none rfl) (by intro d hd w; cases hd; exact trivial) (fun w' hw' => ?_) ?_
  · go_simp
  simp only [Act.put, List.setIfInBounds_toArray, List.set_cons_zero, List.set_cons_succ]
  refine g_runs (.iface 60 (.agg #[.int .i64 (-1), .iface 56 (.agg #[])])) grow_end Up.refl rfl (wanted_none rfl) (by intro d hd w; cases hd; exact trivial) (fun w' hw' => ?_) ?_
  · go_simp
  simp only [Act.put, List.setIfInBounds_toArray, List.set_cons_zero, List.set_cons_succ]
  refine g_runs (.agg #[]) grow_end Up.refl rfl (wanted_none rfl) (by intro d hd w; cases hd; exact trivial) (fun w' hw' => ?_) ?_
  · have hz := HZ.out w' hw'
    go_simp
  simp only [Act.put, List.setIfInBounds_toArray, List.set_cons_zero, List.set_cons_succ]
  refine g_runs (.iface 56 (.agg #[])) grow_end Up.refl rfl (wanted_none rfl) (by intro d hd w; cases hd; exact trivial) (fun w' hw' => ?_) ?_
  · go_simp
  simp only [Act.put, List.setIfInBounds_toArray, List.set_cons_zero, List.set_cons_succ]
  refine g_runs (.agg #[.nilIface, .iface 56 (.agg #[])]) grow_end Up.refl rfl (wanted_none rfl) (by intro d hd w; cases hd; exact trivial) (fun w' hw' => ?_) ?_
  · go_simp
  simp only [Act.put, List.setIfInBounds_toArray, List.set_cons_zero, List.set_cons_succ]
  refine g_runs (.iface 62 (.agg #[.nilIface, .iface 56 (.agg #[])])) grow_end Up.refl rfl (wanted_none rfl) (by intro d hd w; cases hd; exact trivial) (fun w' hw' => ?_) ?_
  · go_simp
  simp only [Act.put, List.setIfInBounds_toArray, List.set_cons_zero, List.set_cons_succ]
  refine g_runs (.agg #[.string ⟨#[]⟩]) grow_end Up.refl rfl (wanted_none rfl) (by intro d hd w; cases hd; exact trivial) (fun w' hw' => ?_) ?_
  · go_simp
  simp only [Act.put, List.setIfInBounds_toArray, List.set_cons_zero, List.set_cons_succ]
  refine g_runs (.iface 64 (.agg #[.string ⟨#[]⟩])) grow_end Up.refl rfl (wanted_none rfl) (by intro d hd w; cases hd; exact trivial) (fun w' hw' => ?_) ?_
  · go_simp
  simp only [Act.put, List.setIfInBounds_toArray, List.set_cons_zero, List.set_cons_succ]
  refine g_runs (.agg #[]) grow_end Up.refl rfl (wanted_none rfl) (by intro d hd w; cases hd; exact trivial) (fun w' hw' => ?_) ?_
  · have hz := HZ.out w' hw'
    go_simp
  simp only [Act.put, List.setIfInBounds_toArray, List.set_cons_zero, List.set_cons_succ]
  refine g_runs (.iface 56 (.agg #[])) grow_end Up.refl rfl (wanted_none rfl) (by intro d hd w; cases hd; exact trivial) (fun w' hw' => ?_) ?_
  · go_simp
  simp only [Act.put, List.setIfInBounds_toArray, List.set_cons_zero, List.set_cons_succ]
  refine g_runs (.agg #[]) grow_end Up.refl rfl (wanted_none rfl) (by intro d hd w; cases hd; exact trivial) (fun w' hw' => ?_) ?_
  · have hz := HZ.out w' hw'
    go_simp
  simp only [Act.put, List.setIfInBounds_toArray, List.set_cons_zero, List.set_cons_succ]
  refine g_runs (.iface 56 (.agg #[])) grow_end Up.refl rfl (wanted_none rfl) (by intro d hd w; cases hd; exact trivial) (fun w' hw' => ?_) ?_
  · go_simp
  simp only [Act.put, List.setIfInBounds_toArray, List.set_cons_zero, List.set_cons_succ]
  refine g_runs (.agg #[.iface 64 (.agg #[.string ⟨#[]⟩]), .iface 56 (.agg #[]), .iface 56 (.agg #[])]) grow_end Up.refl rfl (wanted_none rfl) (by intro d hd w; cases hd; exact trivial) (fun w' hw' => ?_) ?_
  · go_simp
  simp only [Act.put, List.setIfInBounds_toArray, List.set_cons_zero, List.set_cons_succ]
  refine g_runs (.iface 66 (.agg #[.iface 64 (.agg #[.string ⟨#[]⟩]), .iface 56 (.agg #[]), .iface 56 (.agg #[])])) grow_end Up.refl rfl (wanted_none rfl) (by intro d hd w; cases hd; exact trivial) (fun w' hw' => ?_) ?_
  · go_simp
  simp only [Act.put, List.setIfInBounds_toArray, List.set_cons_zero, List.set_cons_succ]
  refine g_runs (.agg #[]) grow_end Up.refl rfl (wanted_none rfl) (by intro d hd w; cases hd; exact trivial) (fun w' hw' => ?_) ?_
  · have hz := HZ.out w' hw'
    go_simp
  simp only [Act.put, List.setIfInBounds_toArray, List.set_cons_zero, List.set_cons_succ]
  refine g_runs (.iface 56 (.agg #[])) grow_end Up.refl rfl (wanted_none rfl) (by intro d hd w; cases hd; exact trivial) (fun w' hw' => ?_) ?_
  · go_simp
  simp only [Act.put, List.setIfInBounds_toArray, List.set_cons_zero, List.set_cons_succ]
  refine g_runs (.agg #[]) grow_end Up.refl rfl (wanted_none rfl) (by intro d hd w; cases hd; exact trivial) (fun w' hw' => ?_) ?_
  · have hz := HZ.out w' hw'
    go_simp
  simp only [Act.put, List.setIfInBounds_toArray, List.set_cons_zero, List.set_cons_succ]
  refine g_runs (.iface 56 (.agg #[])) grow_end Up.refl rfl (wanted_none rfl) (by intro d hd w; cases hd; exact trivial) (fun w' hw' => ?_) ?_
  · go_simp
  simp only [Act.put, List.setIfInBounds_toArray, List.set_cons_zero, List.set_cons_succ]
  refine g_runs (.agg #[.string ⟨#[49]⟩, .iface 56 (.agg #[]), .iface 56 (.agg #[])]) grow_end Up.refl rfl (wanted_none rfl) (by intro d hd w; cases hd; exact trivial) (fun w' hw' => ?_) ?_
  · go_simp
  simp only [Act.put, List.setIfInBounds_toArray, List.set_cons_zero, List.set_cons_succ]
  refine g_runs (.iface 68 (.agg #[.string ⟨#[49]⟩, .iface 56 (.agg #[]), .iface 56 (.agg #[])])) grow_end Up.refl rfl (wanted_none rfl) (by intro d hd w; cases hd; exact trivial) (fun w' hw' => ?_) ?_
  · go_simp
  simp only [Act.put, List.setIfInBounds_toArray, List.set_cons_zero, List.set_cons_succ]
  refine g_runs (.agg #[.nilIface]) grow_end Up.refl rfl (wanted_none rfl) (by intro d hd w; cases hd; exact trivial) (fun w' hw' => ?_) ?_
  · go_simp
  simp only [Act.put, List.setIfInBounds_toArray, List.set_cons_zero, List.set_cons_succ]
  refine g_runs (.iface 70 (.agg #[.nilIface])) grow_end Up.refl rfl (wanted_none rfl) (by intro d hd w; cases hd; exact trivial) (fun w' hw' => ?_) ?_
  · go_simp
  simp only [Act.put, List.setIfInBounds_toArray, List.set_cons_zero, List.set_cons_succ]
  refine g_makes (rowF) rfl rowF_stays (wanted_none rfl) (fun w' hw' hk => ?_) (fun u45 => ?_)
  · refine ⟨.slice (some ⟨w'.heap.size, 0, none⟩) 7 7, w'.alloc (.cells badL 46), ?_, below_alloc (Below.refl _ _) _, ⟨_, rfl, blk_new rfl⟩⟩
    unfold badL
    go_simp
  simp only [Act.put, List.setIfInBounds_toArray, List.set_cons_zero, List.set_cons_succ]
  refine g_runs (.int .i64 which) grow_end Up.refl rfl (wanted_none rfl) (by intro d hd w; cases hd; exact trivial) (fun w' hw' => ?_) ?_
  · go_simp
  simp only [Act.put, List.setIfInBounds_toArray, List.set_cons_zero, List.set_cons_succ]
  refine g_calls 27 #[.int .i64 which, .int .i64 7] (.int .i64 (c : Int)) grow_end rfl (wanted_none rfl) (by intro d hd w; cases hd; exact trivial) (fun w' hw' => ?_) (fun w' hw' hk => ?_) ?_
  · go_simp
  · refine calls_same (within_any _ 7 _ (by omega) (by omega) h3 h4) ?_
    exact ⟨by rw [HC.out], Up.refl _⟩
  simp only [Act.put, List.setIfInBounds_toArray, List.set_cons_zero, List.set_cons_succ]
  refine g_makes (cellF c) rfl (cellF_stays c) (wanted_none rfl) (fun w' hw' hk => ?_) (fun u48 => ?_)
  · obtain ⟨g, rfl, hg⟩ : rowF u45 w' := hk 45 (looks_at (by simp [Op.operands]))
    refine ⟨.pointer (some ⟨g, c, none⟩), w', ?_, Up.refl _, ⟨g, rfl, hg⟩⟩
    go_simp
  simp only [Act.put, List.setIfInBounds_toArray, List.set_cons_zero, List.set_cons_succ]
  refine g_knows ((badC c).val) grow_end Up.refl rfl (wanted_none rfl) (by intro d hd w; cases hd; exact trivial) (fun w' hw' hk => ?_) ?_
  · obtain ⟨g, rfl, hg⟩ : cellF c u48 w' := hk 48 (looks_at (by simp [Op.operands]))
    have hcell : w'.cell? ⟨g, c, none⟩ = some (badC c).val := (hg.cell c).trans (badL_get c hc7)
    go_simp
  simp only [Act.put, List.setIfInBounds_toArray, List.set_cons_zero, List.set_cons_succ]
  refine g_runs ((badC c).val) grow_end Up.refl rfl (wanted_none rfl) (by intro d hd w; cases hd; exact trivial) (fun w' hw' => ?_) ?_
  · go_simp
  simp only [Act.put, List.setIfInBounds_toArray, List.set_cons_zero, List.set_cons_succ]
  refine g_nil ?_
  intro w9 hw9 _
  have HW9 := hidIn hw9
  have HB9 := hidIn (HB.out.trans (hw9.mono HB.out.size))
  have hp9 := HBP.out.below hw9 HBP.out.lt
  have c0 : w9.cell? ⟨w.heap.size, 0, none⟩ = some (.slice p.na p.nl p.nc) := hp9.cell 0
  have c1 : w9.cell? ⟨w.heap.size, 1, none⟩ = some (.slice p.wa p.wl p.wc) := hp9.cell 1
  have HPI := hidIn (HPW.out.below hw9)
  clear hw9 hp9
  go_wp2_with fail
  refine (right_any p w9 HPI.out).mono ?_
  rintro e wA ⟨vA, rfl, htA, hbA⟩
  have HBA := hidIn hbA
  have HTA := hidIn htA
  have HWH := hidIn (rightP_whole p)
  have HWT := hidIn (rightP_weight p)
  clear htA hbA c0 c1
  go_wp2_with fail
  refine (termP_any (rightP p) HWH.out wA vA _ HTA.out).mono ?_
  rintro e wB ⟨rfl, hbB⟩
  have HBB := hidIn (HB9.out.trans ((HBA.out.trans (hbB.mono HBA.out.size)).mono HB9.out.size))
  have HZB : Hid (∀ w', Below wB.heap.size wB w' → w'.heap[w.heap.size + 1]? = some (.cells #[] 56 (0, 0))) := by
    have h9 := HBZ.out.below HW9.out HBZ.out.lt
    have hA := h9.below HBA.out h9.lt
    have hB := hA.below hbB hA.lt
    exact fun w' hw' => hB.below hw' hB.lt
  have HOX := hidIn (cwhole_ok _ HWH.out)
  clear hbB HTA HBA HPI HPW HBP HB HZ HBZ HB9 HW9
  generalize rightP p = x at *
  have hz := HZB.out wB (Below.refl _ _)
  have qx := x.one' HOX.out
  have qb := (badC c).one' (badC_ok c hc7)
  have cvx := qx.cells
  have mvx := qx.cells
  unfold Value.cells at mvx
  have HQX := hidIn qx
  clear qx qb
  go_wp2_with fail
  go_loopw [13, 11, 12] (fun s13 s11 s12 wr => ∃ i : Nat, i ≤ m ∧ s13 = .int .i64 i ∧ s11 = (tD x (badC c) i).val ∧ s12 = (tD .zero twQ i).val ∧ Below wB.heap.size wB wr) (fun s13 _ _ _ => m - (intOf s13).toNat)
  case atStart => exact ⟨0, by omega, rfl, rfl, rfl, Below.refl _ _⟩
  case round =>
    obtain ⟨i, hi, rfl, rfl, rfl, hbr⟩ := hrel
    have HBR := hidIn hbr
    have hzr := HZB.out wr hbr
    have hzr' : wr.drew.heap[w.heap.size + 1]? = some (.cells #[] 56 (0, 0)) := hzr
    have ht := (tD x (badC c) i).one' (tD_ok x _ HOX.out (badC_ok c hc7) i (by omega))
    have hu := (tD .zero twQ i).one' (tD_ok .zero twQ trivial ⟨orQ_ok, orQ_ok⟩ i (by omega))
    have ct := ht.cells
    have mt := ht.cells
    unfold Value.cells at mt
    have cu := hu.cells
    have mu := hu.cells
    unfold Value.cells at mu
    clear ht hu hbr
    by_cases hlt : i < m
    · have hlt' : (i : Int) < (m : Int) := by omega
      have h4 : i = 0 ∨ i = 1 ∨ i = 2 ∨ i = 3 := by omega
      have HN1 : Hid ((tD x (badC c) (i + 1)) = if i % 3 = 0 then .give (tD x (badC c) i) else if i % 3 = 1 then .and x (tD x (badC c) i) else .when i (tD x (badC c) i)) := rfl
      have HN2 : Hid ((tD .zero twQ (i + 1)) = if i % 3 = 0 then .give (tD .zero twQ i) else if i % 3 = 1 then .and .zero (tD .zero twQ i) else .when i (tD .zero twQ i)) := rfl
      have hv1 : Hid (∀ t : C, (C.give t).val = .iface 70 (.agg #[t.val]) ∧ (C.and x t).val = .iface 74 (.agg #[x.val, t.val]) ∧ (C.and .zero t).val = .iface 74 (.agg #[.iface 56 (.agg #[]), t.val]) ∧ (C.when i t).val = .iface 60 (.agg #[.int .i64 i, t.val])) := fun t => ⟨rfl, rfl, rfl, rfl⟩
      generalize tD x (badC c) i = tt at *
      generalize tD .zero twQ i = uu at *
      have hmod : (i : Int).tmod 3 = ((i % 3 : Nat) : Int) := rfl
      rcases h4 with rfl | rfl | rfl | rfl
      · go_wp2_with fail
        go_roundw
        case rel => exact ⟨1, by omega, by go_num, by rw [HN1.out]; rfl, by rw [HN2.out]; rfl, HBR.out⟩
        case measure => simp [intOf]; omega
      · go_wp2_with fail
        go_quiet (fail)
        go_wp2_with fail
        go_roundw
        case rel => exact ⟨2, by omega, by go_num, by rw [HN1.out]; rfl, by rw [HN2.out]; rfl, below_drewN HBR.out _⟩
        case measure => simp [intOf]; omega
      · go_wp2_with fail
        go_roundw
        case rel => exact ⟨3, by omega, by go_num, by rw [HN1.out]; rfl, by rw [HN2.out]; rfl, HBR.out⟩
        case measure => simp [intOf]; omega
      · go_wp2_with fail
        go_roundw
        case rel => exact ⟨4, by omega, by go_num, by rw [HN1.out]; rfl, by rw [HN2.out]; rfl, HBR.out⟩
        case measure => simp [intOf]; omega
    · have hle : i = m := by omega
      subst hle
      have HCT : Hid (chkC (tD x (badC c) i) = 2) := by unfold Hid chkC; rw [if_neg (by rw [tD_form x _ (badC_form c hc7)]; simp)]
      have HCU := hidIn (uD_chk i hm5)
      have HOT := hidIn (tD_ok x _ HOX.out (badC_ok c hc7) i (by omega))
      have HOU := hidIn (tD_ok .zero twQ trivial ⟨orQ_ok, orQ_ok⟩ i (by omega))
      have HWTT : Hid ((tD x (badC c) i).weight ≤ 1000000) := by have h1 := tD_weight x (badC c) HWT.out (by have := badC_weight c hc7; omega) i (by omega); show _ ≤ _; omega
      have HWTU : Hid ((tD .zero twQ i).weight ≤ 1000000) := by have h1 := tD_weight .zero twQ (by decide) (by decide) i (by omega); show _ ≤ _; omega
      generalize tD x (badC c) i = tt at *
      generalize tD .zero twQ i = uu at *
      obtain ⟨wL, hwL⟩ : ∃ y, y = wr := ⟨_, rfl⟩
      subst hwL
      go_wp2_with fail
      go_loopw [15, 14] (fun s15 s14 wr => ∃ j : Nat, j ≤ 12 ∧ s15 = .int .i64 j ∧ s14 = (longQ j).val ∧ wr = wL) (fun s15 _ _ => 12 - (intOf s15).toNat)
      case atStart => exact ⟨0, by omega, rfl, rfl, rfl⟩
      case round =>
        obtain ⟨j, hj, rfl, rfl, hwr⟩ := hrel
        subst hwr
        have hl := (longQ j).one' (longQ_ok j)
        have cl := hl.cells
        have ml := hl.cells
        unfold Value.cells at ml
        clear hl
        by_cases hjl : j < 12
        · have hjl' : (j : Int) < 12 := by omega
          go_wp2_with fail
          go_roundw
          case rel => exact ⟨j + 1, by omega, by go_num, rfl, trivial⟩
          case measure => simp [intOf]; omega
        · have hje : j = 12 := by omega
          subst hje
          have HOQ : Hid ((C.and twQ (longQ 12)).Ok) := ⟨⟨orQ_ok, orQ_ok⟩, longQ_ok 12⟩
          have HOB : Hid ((C.and (longQ 12) (badC c)).Ok) := ⟨longQ_ok 12, badC_ok c hc7⟩
          have HWQ : Hid ((C.and twQ (longQ 12)).weight ≤ 1000000) := by show _ ≤ _; decide
          have HWB : Hid ((C.and (longQ 12) (badC c)).weight ≤ 1000000) := by have h1 := badC_weight c hc7; have h2 := longQ_weight 12; simp only [C.weight]; show _ ≤ _; omega
          have HCQ := hidIn long_chk
          have HCB : Hid (chkC (.and (longQ 12) (badC c)) = 2) := by unfold Hid chkC; rw [if_neg (by simp [formC, badC_form c hc7])]
          have HV1 : Hid ((C.and twQ (longQ 12)).val = .iface 74 (.agg #[twQ.val, (longQ 12).val])) := rfl
          have HV2 : Hid ((C.and (longQ 12) (badC c)).val = .iface 74 (.agg #[(longQ 12).val, (badC c).val])) := rfl
          have qb := (badC c).one' (badC_ok c hc7)
          have cb := qb.cells
          have mb := qb.cells
          unfold Value.cells at mb
          clear qb
          generalize longQ 12 = lq at *
          go_wp2_with fail
          refine (checkT_any tt HOT.out HWTT.out _).mono ?_
          rintro e w1 ⟨rfl, hb1⟩
          rw [HCT.out]
          have HK1 := hidIn (HBR.out.trans (hb1.mono HBR.out.size))
          clear hb1
          go_wp2_with fail
          refine (checkT_any uu HOU.out HWTU.out _).mono ?_
          rintro e w2 ⟨rfl, hb2⟩
          rw [HCU.out]
          have HK2 := hidIn (HK1.out.trans (hb2.mono HK1.out.size))
          clear hb2
          go_wp2_with fail
          refine (checkT_any (.and twQ lq) HOQ.out HWQ.out _).mono ?_
          rintro e w3 ⟨rfl, hb3⟩
          rw [HCQ.out]
          have HK3 := hidIn (HK2.out.trans (hb3.mono HK2.out.size))
          clear hb3
          go_wp2_with fail
          refine (checkT_any (.and lq (badC c)) HOB.out HWB.out _).mono ?_
          rintro e w4 ⟨rfl, hb4⟩
          rw [HCB.out]
          have HK4 := hidIn (HK3.out.trans (hb4.mono HK3.out.size))
          clear hb4
          go_wp2_with fail
          refine (wakesT_any _).mono ?_
          rintro e w5 ⟨rfl, hb5⟩
          go_wp2_with fail
          go_ret
          exact ⟨rfl, HBB.out.trans ((HK4.out.trans (hb5.mono HK4.out.size)).mono HBB.out.size)⟩

end Go.Proofs.Ytmhckbcddmdchaa
