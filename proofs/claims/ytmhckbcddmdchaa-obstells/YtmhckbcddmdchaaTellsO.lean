/- The walk of the statement ObsTells. -/
import Derived.Test.YtmhckbcddmdchaaSome4
import Derived.Test.YtmhckbcddmdchaaBridgeO
import Derived.Test.YtmhckbcddmdchaaGrow
import Derived.Test.YtmhckbcddmdchaaKeep
namespace Go.Proofs.Ytmhckbcddmdchaa
open Go.RowKit
set_option linter.unusedVariables false

/-- A number and its tree, in memory. -/
structure Pair (w wx : World) (b : Nat) (o : O) (ka : Option Addr) (kc : Nat) : Prop where
  ok : o.Ok
  nodes : o.nodes ≤ 1000
  blk : Blk wx b 29 #[.int .i64 (plain o).kind, .string (plain o).s, .int .i64 (plain o).n, .slice ka (plain o).k.length kc]
  tin : TIn wx 0 (plain o) (.agg (four (plain o) ka kc))

/-- A list of the names of a number, of somebody's own. -/
def namF (o : O) (v : Value) (w : World) : Prop := ∃ B, w.ownsRow B 9 1 v o.names.length (strCells o.names)
theorem namF_stays (o : O) : ∀ u w w', Up w w' → namF o u w → namF o u w' := fun u w w' h ⟨B, hB⟩ => ⟨B, ownsRow_below hB h⟩

set_option maxHeartbeats 8000000 in
set_option maxRecDepth 100000 in
theorem obsTells_walk (p q : Pl) (at' what v : Int) (s : ByteArray) (odd : Int) (same : Bool) (w : World) (hp : PlanIn w p) (hq : PlanIn w q) (ha1 : -9223372036854775808 ≤ at') (ha2 : at' ≤ 9223372036854775807) (hw1 : -9223372036854775808 ≤ what) (hw2 : what ≤ 9223372036854775807) (hv1 : -9223372036854775808 ≤ v) (hv2 : v ≤ 9223372036854775807) (hs : s.size ≤ 140737488351232) (ho1 : -9223372036854775808 ≤ odd) (ho2 : odd ≤ 9223372036854775807) :
    Calls Try.prog 3 #[planV p, planV q, .int .i64 at', .int .i64 what, .int .i64 v, .string s, .int .i64 odd, .bool same] w fun e w' => e = .returned (.bool true) ∧ Below w.heap.size w w' := by
  have HP := hidIn hp
  have HQ := hidIn hq
  have HSS : Hid (s.size ≤ maxLen) := by unfold Hid maxLen; omega
  clear hp hq hs
  have HC1 : Hid (∀ W, PlanIn W p → Calls Try.prog 6 #[.agg #[.slice p.na p.nl p.nc, .slice p.wa p.wl p.wc], .int .i64 at', .int .i64 what, .int .i64 v, .string s, .int .i64 odd] W (SomePost W)) := fun W hW => some4_any p at' what v s odd W hW ha1 ha2 hw1 hw2 hv1 hv2 HSS.out ho1 ho2
  have HC2 : Hid (∀ W, PlanIn W q → Calls Try.prog 6 #[.agg #[.slice q.na q.nl q.nc, .slice q.wa q.wl q.wc], .int .i64 0, .int .i64 1, .int .i64 0, .string ⟨#[]⟩, .int .i64 0] W (SomePost W)) := fun W hW => some4_any q 0 1 0 ⟨#[]⟩ 0 W hW (by omega) (by omega) (by omega) (by omega) (by omega) (by omega) (by unfold maxLen; decide) (by omega) (by omega)
  clear ha1 ha2 hw1 hw2 hv1 hv2 ho1 ho2 HSS
  unfold planV
  go_enter Try.func3, Try.ntmps3
  go_upto_region 1 with fail
  obtain ⟨W, hW⟩ : ∃ W, W = (w.alloc (.cells #[.slice p.na p.nl p.nc, .slice p.wa p.wl p.wc] 25)).alloc (.cells #[.slice q.na q.nl q.nc, .slice q.wa q.wl q.wc] 25) := ⟨_, rfl⟩
  have HB : Hid (Below w.heap.size w W) := by rw [hW]; exact below_alloc (below_alloc (Below.refl _ _) _) _
  have HBP : Hid (Blk W w.heap.size 25 #[.slice p.na p.nl p.nc, .slice p.wa p.wl p.wc]) := by rw [hW]; exact blk_keep (blk_new rfl) _
  have HBQ : Hid (Blk W (w.heap.size + 1) 25 #[.slice q.na q.nl q.nc, .slice q.wa q.wl q.wc]) := by rw [hW]; exact blk_new (by simp)
  have c0 : W.cell? ⟨w.heap.size, 0, none⟩ = some (.slice p.na p.nl p.nc) := HBP.out.cell 0
  have c1 : W.cell? ⟨w.heap.size, 1, none⟩ = some (.slice p.wa p.wl p.wc) := HBP.out.cell 1
  have HPW := hidIn (HP.out.below HB.out)
  have HQW := hidIn (HQ.out.below HB.out)
  rw [← hW]
  clear hW HP HQ
  go_upto_region 2 with fail
  refine (HC1.out W HPW.out).mono ?_
  rintro e w1 ⟨o, ka, kc, rfl, hok1, hn1, ht1, hb1⟩
  have HOK1 := hidIn hok1
  have HN1 := hidIn hn1
  have HT1 := hidIn ht1
  have HB1 := hidIn hb1
  have hbq := HBQ.out.below hb1 HBQ.out.lt
  have d0 : w1.cell? ⟨w.heap.size + 1, 0, none⟩ = some (.slice q.na q.nl q.nc) := hbq.cell 0
  have d1 : w1.cell? ⟨w.heap.size + 1, 1, none⟩ = some (.slice q.wa q.wl q.wc) := hbq.cell 1
  have HQ1 := hidIn (HQW.out.below hb1)
  have hlq := hbq.lt
  clear hok1 hn1 ht1 hb1 hbq c0 c1
  go_upto_region 2 with fail
  obtain ⟨W2, hW2⟩ : ∃ W2, W2 = w1.alloc (.cells #[.int .i64 (plain o).kind, .string (plain o).s, .int .i64 (plain o).n, .slice ka (plain o).k.length kc] 29) := ⟨_, rfl⟩
  have HBW2 : Hid (Below w1.heap.size w1 W2) := by rw [hW2]; exact below_alloc (Below.refl _ _) _
  have HP18 : Hid (Blk W2 w1.heap.size 29 #[.int .i64 (plain o).kind, .string (plain o).s, .int .i64 (plain o).n, .slice ka (plain o).k.length kc]) := by rw [hW2]; exact blk_new rfl
  have e0 : W2.cell? ⟨w.heap.size + 1, 0, none⟩ = some (.slice q.na q.nl q.nc) := (HBW2.out.cell (p := ⟨w.heap.size + 1, 0, none⟩) hlq).trans d0
  have e1 : W2.cell? ⟨w.heap.size + 1, 1, none⟩ = some (.slice q.wa q.wl q.wc) := (HBW2.out.cell (p := ⟨w.heap.size + 1, 1, none⟩) hlq).trans d1
  have HQ2 := hidIn (HQ1.out.below HBW2.out)
  rw [← hW2]
  clear hW2 d0 d1 hlq
  go_upto_if 40 with fail
  refine (HC2.out W2 HQ2.out).mono ?_
  rintro e w3 ⟨x0, la0, lc0, rfl, hok3, hn3, ht3, hb3⟩
  have HOK3 := hidIn hok3
  have HN3 := hidIn hn3
  have HT3 := hidIn ht3
  have HB3 := hidIn hb3
  clear hok3 hn3 ht3 hb3 e0 e1
  go_upto_if 40 with fail
  obtain ⟨W4, hW4⟩ : ∃ W4, W4 = w3.alloc (.cells #[.int .i64 (plain x0).kind, .string (plain x0).s, .int .i64 (plain x0).n, .slice la0 (plain x0).k.length lc0] 29) := ⟨_, rfl⟩
  have HBW4 : Hid (Below w3.heap.size w3 W4) := by rw [hW4]; exact below_alloc (Below.refl _ _) _
  have HP20 : Hid (Blk W4 w3.heap.size 29 #[.int .i64 (plain x0).kind, .string (plain x0).s, .int .i64 (plain x0).n, .slice la0 (plain x0).k.length lc0]) := by rw [hW4]; exact blk_new rfl
  have hP18 : Blk W4 w1.heap.size 29 #[.int .i64 (plain o).kind, .string (plain o).s, .int .i64 (plain o).n, .slice ka (plain o).k.length kc] := by
    have h3 := HP18.out.below HB3.out HP18.out.lt
    exact h3.below HBW4.out h3.lt
  have HP18W := hidIn hP18
  have HW4 : Hid (Below w1.heap.size w1 W4) := HBW2.out.trans ((HB3.out.trans (HBW4.out.mono HB3.out.size)).mono HBW2.out.size)
  have HW : Hid (Below w.heap.size w W4) := HB.out.trans ((HB1.out.trans (HW4.out.mono HB1.out.size)).mono HB.out.size)
  rw [← hW4]
  clear hW4
  have c0 : W4.cell? ⟨w1.heap.size, 0, none⟩ = some (.int .i64 (plain o).kind) := hP18.cell 0
  have c1 : W4.cell? ⟨w1.heap.size, 1, none⟩ = some (.string (plain o).s) := hP18.cell 1
  have c2 : W4.cell? ⟨w1.heap.size, 2, none⟩ = some (.int .i64 (plain o).n) := hP18.cell 2
  have c3 : W4.cell? ⟨w1.heap.size, 3, none⟩ = some (.slice ka (plain o).k.length kc) := hP18.cell 3
  clear hP18 HC1 HC2
  have HT1W : Hid (∀ X, Below w1.heap.size w1 X → TIn X 0 (plain o) (.agg (four (plain o) ka kc))) := fun X hX => (HT1.out.below hX).low (Nat.zero_le _)
  have HNE : Hid (w1.heap.size < w3.heap.size) := by have h1 := HP18.out.lt; have h2 := HB3.out.size; show _ < _; omega
  have HLW : Hid (w.heap.size ≤ w1.heap.size) := Nat.le_trans HB.out.size HB1.out.size
  go_cut [19] (fun s19 wx => ∃ x la lc, s19 = x.val ∧ Pair w wx w1.heap.size o ka kc ∧ Pair w wx w3.heap.size x la lc ∧ Below w.heap.size w wx)
  case first =>
    cases same with
    | false =>
      go_wp2_with fail
      go_meet
      case rel => exact ⟨x0, la0, lc0, rfl, ⟨HOK1.out, HN1.out, HP18W.out, HT1W.out _ HW4.out⟩, ⟨HOK3.out, HN3.out, HP20.out, (HT3.out.below HBW4.out).low (Nat.zero_le _)⟩, HW.out⟩
    | true =>
      have HCO : Hid (∀ X, Below W4.heap.size W4 X → Calls Try.prog 7 #[.agg #[.int .i64 (plain o).kind, .string (plain o).s, .int .i64 (plain o).n, .slice ka (plain o).k.length kc]] X (fun e w5 => e = .returned (obsOf (plain o)).val ∧ Below W4.heap.size W4 w5)) := by
        intro X hX
        refine (obsT_any (plain o) (shaped_plain o HOK1.out) X _ ((HT1W.out W4 HW4.out).below hX)).mono ?_
        rintro e w5 ⟨rfl, hb5⟩
        exact ⟨rfl, hX.trans (hb5.mono hX.size)⟩
      have HXO := hidIn (obsOf_ok (plain o) (shaped_plain o HOK1.out))
      have HXN : Hid ((obsOf (plain o)).nodes ≤ 1000) := by
        have h1 := plain_nodes (obsOf (plain o))
        rw [plain_back, plain_nodes] at h1
        have := HN1.out
        show _ ≤ _
        omega
      have HXB : Hid (plain (obsOf (plain o)) = plain o) := plain_back o
      generalize obsOf (plain o) = x at *
      go_wp2_with fail
      go_region_with (go_at_call 7; refine (HCO.out _ (by first | with_reducible exact below_drew (Below.refl _ _) | with_reducible exact Below.refl _ _)).mono ?_; rintro e w5 ⟨rfl, hb5⟩; have h18 := HP18W.out.below hb5 HP18W.out.lt; have h20 := HP20.out.below hb5 HP20.out.lt; have d0 : w5.cell? ⟨w1.heap.size, 0, none⟩ = some (.int .i64 (plain o).kind) := h18.cell 0; have d1 : w5.cell? ⟨w1.heap.size, 1, none⟩ = some (.string (plain o).s) := h18.cell 1; have d2 : w5.cell? ⟨w1.heap.size, 2, none⟩ = some (.int .i64 (plain o).n) := h18.cell 2; have d3 : w5.cell? ⟨w1.heap.size, 3, none⟩ = some (.slice ka (plain o).k.length kc) := h18.cell 3; have g0 : w5.cell? ⟨w3.heap.size, 0, none⟩ = some (.int .i64 (plain x0).kind) := h20.cell 0; have g1 : w5.cell? ⟨w3.heap.size, 1, none⟩ = some (.string (plain x0).s) := h20.cell 1; have g2 : w5.cell? ⟨w3.heap.size, 2, none⟩ = some (.int .i64 (plain x0).n) := h20.cell 2; have g3 : w5.cell? ⟨w3.heap.size, 3, none⟩ = some (.slice la0 (plain x0).k.length lc0) := h20.cell 3; have f0 := h20.frozen 0; have f1 := h20.frozen 1; have f2 := h20.frozen 2; have f3 := h20.frozen 3; have H18 := hidIn h18; have H20 := hidIn h20; have HB5 := hidIn hb5; clear h18 h20 hb5)
      all_goals
        go_wp2_with fail
        go_meet
        case rel =>
          have hne := HNE.out
          have hlw := HLW.out
          have hs3 : w1.heap.size ≤ w3.heap.size := by omega
          have hB15 : Below w1.heap.size w1 w5 := HW4.out.trans (HB5.out.mono HW4.out.size)
          have hBw5 : Below w.heap.size w w5 := HW.out.trans (HB5.out.mono HW.out.size)
          have hF1 := (((hB15.setCell (p := ⟨w3.heap.size, 0, none⟩) hs3 (.int .i64 (plain o).kind)).setCell (p := ⟨w3.heap.size, 1, none⟩) hs3 (.string (plain o).s)).setCell (p := ⟨w3.heap.size, 2, none⟩) hs3 (.int .i64 (plain o).n)).setCell (p := ⟨w3.heap.size, 3, none⟩) hs3 (.slice ka (plain o).k.length kc)
          have hF2 := (((hBw5.setCell (p := ⟨w3.heap.size, 0, none⟩) (Nat.le_trans hlw hs3) (.int .i64 (plain o).kind)).setCell (p := ⟨w3.heap.size, 1, none⟩) (Nat.le_trans hlw hs3) (.string (plain o).s)).setCell (p := ⟨w3.heap.size, 2, none⟩) (Nat.le_trans hlw hs3) (.int .i64 (plain o).n)).setCell (p := ⟨w3.heap.size, 3, none⟩) (Nat.le_trans hlw hs3) (.slice ka (plain o).k.length kc)
          refine ⟨x, ka, kc, rfl, ⟨HOK1.out, HN1.out, ?_, HT1W.out _ hF1⟩, ⟨HXO.out, HXN.out, ?_, ?_⟩, hF2⟩
          · exact blk_other (blk_other (blk_other (blk_other H18.out (by omega) _ _) (by omega) _ _) (by omega) _ _) (by omega) _ _
          · rw [HXB.out]
            exact set4_blk H20.out _ _ _ _
          · rw [HXB.out]
            exact HT1W.out _ hF1
  case rest =>
    obtain ⟨x, la, lc, rfl, hpo, hpx, hbc⟩ := hcut
    have HPO := hidIn hpo
    have HPX := hidIn hpx
    have HBC := hidIn hbc
    clear hpo hpx hbc c0 c1 c2 c3 HP18W HP20 HBW4 HT3 HB3 HN3 HOK3 HW HW4 HT1W HNE HQ2 HP18 HBW2 HT1 HB1 HOK1 HN1 HQ1 HQW HPW HBP HBQ HB
    have HLO := hidIn HPO.out.blk.lt
    have HLX := hidIn HPX.out.blk.lt
    go_wp2_with fail
    refine (size_any o HPO.out.ok (by have := HPO.out.nodes; omega) wc).mono ?_
    rintro e w5 ⟨rfl, hb5⟩
    have HB5 := hidIn hb5
    have h18 := HPO.out.blk.below hb5 HLO.out
    have d0 : w5.cell? ⟨w1.heap.size, 0, none⟩ = some (.int .i64 (plain o).kind) := h18.cell 0
    have d1 : w5.cell? ⟨w1.heap.size, 1, none⟩ = some (.string (plain o).s) := h18.cell 1
    have d2 : w5.cell? ⟨w1.heap.size, 2, none⟩ = some (.int .i64 (plain o).n) := h18.cell 2
    have d3 : w5.cell? ⟨w1.heap.size, 3, none⟩ = some (.slice ka (plain o).k.length kc) := h18.cell 3
    clear h18 hb5
    go_wp2_with fail
    refine (refSize_any (plain o) w5 _ (HPO.out.tin.below HB5.out) (by rw [plain_nodes]; have := HPO.out.nodes; omega)).mono ?_
    rw [plain_nodes, plain_depth]
    rintro e w6 ⟨rfl, hb6⟩
    have HB6 : Hid (Below wc.heap.size wc w6) := HB5.out.trans (hb6.mono HB5.out.size)
    clear hb6 d0 d1 d2 d3
    have HF : Hid (∀ w', Below w6.heap.size w6 w' → (w'.cell? ⟨w1.heap.size, 0, none⟩ = some (.int .i64 (plain o).kind) ∧ w'.cell? ⟨w1.heap.size, 1, none⟩ = some (.string (plain o).s) ∧ w'.cell? ⟨w1.heap.size, 2, none⟩ = some (.int .i64 (plain o).n) ∧ w'.cell? ⟨w1.heap.size, 3, none⟩ = some (.slice ka (plain o).k.length kc)) ∧ (w'.cell? ⟨w3.heap.size, 0, none⟩ = some (.int .i64 (plain x).kind) ∧ w'.cell? ⟨w3.heap.size, 1, none⟩ = some (.string (plain x).s) ∧ w'.cell? ⟨w3.heap.size, 2, none⟩ = some (.int .i64 (plain x).n) ∧ w'.cell? ⟨w3.heap.size, 3, none⟩ = some (.slice la (plain x).k.length lc))) := by
      intro w' hw'
      have hb := HB6.out.trans (hw'.mono HB6.out.size)
      have h1 := HPO.out.blk.below hb HLO.out
      have h2 := HPX.out.blk.below hb HLX.out
      exact ⟨⟨h1.cell 0, h1.cell 1, h1.cell 2, h1.cell 3⟩, h2.cell 0, h2.cell 1, h2.cell 2, h2.cell 3⟩
    have HTO : Hid (∀ w', Below w6.heap.size w6 w' → TIn w' 0 (plain o) (.agg (four (plain o) ka kc)) ∧ TIn w' 0 (plain x) (.agg (four (plain x) la lc))) := fun w' hw' => by
      have hb := HB6.out.trans (hw'.mono HB6.out.size)
      exact ⟨HPO.out.tin.below hb, HPX.out.tin.below hb⟩
    have hno : (plain o).cnt ≤ 999990 := by have h1 := plain_cnt o; have h2 := HPO.out.nodes; omega
    have hn6 : o.nodes ≤ 1000000 := by have := HPO.out.nodes; omega
    have KO : Hid ((∀ w', Calls Try.prog 10 #[o.val] w' fun e w'' => e = .returned (.int .i64 (chk o)) ∧ Below w'.heap.size w' w'') ∧ (∀ w', Below w6.heap.size w6 w' → Calls Try.prog 11 #[.agg #[.int .i64 (plain o).kind, .string (plain o).s, .int .i64 (plain o).n, .slice ka (plain o).k.length kc], .bool true] w' fun e w'' => e = .returned (.int .i64 (chk o)) ∧ Below w'.heap.size w' w'') ∧ True) := by
      refine ⟨fun w' => check_any o HPO.out.ok hn6 w', fun w' hw' => ?_, trivial⟩
      have h := refCheck_any (plain o) (plain_sized o HPO.out.ok) hno (by rw [plain_nodes]; exact hn6) true w' _ (HTO.out w' hw').1
      rw [plain_chk] at h
      exact h
    have KN : Hid ((∀ w', Calls Try.prog 13 #[o.val] w' fun e w'' => ∃ v, e = .returned v ∧ w''.ownsRow w'.heap.size 9 1 v o.names.length (strCells o.names) ∧ Below w'.heap.size w' w'') ∧ (∀ w', Below w6.heap.size w6 w' → Calls Try.prog 14 #[.agg #[.int .i64 (plain o).kind, .string (plain o).s, .int .i64 (plain o).n, .slice ka (plain o).k.length kc]] w' fun e w'' => ∃ v, e = .returned v ∧ w''.ownsRow w'.heap.size 9 1 v o.names.length (strCells o.names) ∧ Below w'.heap.size w' w'')) := by
      refine ⟨fun w' => names_any o HPO.out.ok hn6 w', fun w' hw' => ?_⟩
      have h := refNames_any (plain o) hno w' _ (HTO.out w' hw').1
      rw [plain_names] at h
      exact h
    have KS : Hid ((∀ w', Calls Try.prog 15 #[o.val, x.val] w' fun e w'' => e = .returned (.bool (sameO o x)) ∧ Below w'.heap.size w' w'') ∧ (∀ w', Calls Try.prog 15 #[x.val, o.val] w' fun e w'' => e = .returned (.bool (sameO o x)) ∧ Below w'.heap.size w' w'') ∧ (∀ w', Below w6.heap.size w6 w' → Calls Try.prog 16 #[.agg #[.int .i64 (plain o).kind, .string (plain o).s, .int .i64 (plain o).n, .slice ka (plain o).k.length kc], .agg #[.int .i64 (plain x).kind, .string (plain x).s, .int .i64 (plain x).n, .slice la (plain x).k.length lc]] w' fun e w'' => e = .returned (.bool (sameO o x)) ∧ Below w'.heap.size w' w'')) := by
      refine ⟨fun w' => same_any o HPO.out.ok x HPX.out.ok w', fun w' => ?_, fun w' hw' => ?_⟩
      · have h := same_any x HPX.out.ok o HPO.out.ok w'
        rw [sameO_comm x o] at h
        exact h
      · have h := refSame_any (plain o) (plain x) w' _ _ (HTO.out w' hw').1 (HTO.out w' hw').2
        rw [plain_same] at h
        exact h
    clear HPO HPX HTO HB5 hno hn6 HLO HLX
    go_wp2_with fail
    refine wp_region_grow (fun w' => Below w6.heap.size w6 w') Up (modes [one (.int .i64 (o.nodes : Int)), one (.int .i64 (o.nodes : Int)), one (.bool true), one (.bool true), one (.int .i64 (o.depth : Int)), one (.int .i64 (o.depth : Int)), one (.bool true), one (.bool true), one (.bool true), one (o.val), one (.int .i64 (chk o)), one (.agg #[.int .i64 (plain o).kind, .string (plain o).s, .int .i64 (plain o).n, .slice ka (plain o).k.length kc]), one (.int .i64 (chk o)), one (.bool true), one (.bool true), one (.bool true), one (o.val), loose (namF o), one (.agg #[.int .i64 (plain o).kind, .string (plain o).s, .int .i64 (plain o).n, .slice ka (plain o).k.length kc]), loose (namF o), one (.bool true), one (.bool true), one (.bool true), one (o.val), one (x.val), one (.bool (sameO o x)), one (.agg #[.int .i64 (plain o).kind, .string (plain o).s, .int .i64 (plain o).n, .slice ka (plain o).k.length kc]), one (.agg #[.int .i64 (plain x).kind, .string (plain x).s, .int .i64 (plain x).n, .slice la (plain x).k.length lc]), one (.bool (sameO o x)), one (.bool true), one (.bool true), one (.bool true), one (x.val), one (o.val), one (.bool (sameO o x)), one (o.val), one (x.val), one (.bool (sameO o x)), one (.bool true), one (.bool true), one (.bool true), one (.bool true), one (.bool true), one (.bool true)]) (by kernel_rfl) (by kernel_rfl) (up_class _) (below_drew (Below.refl _ _)) ?_
    generalize hops : (#[_, _, _, _, _, _, _, _, _, _, _, _, _, _, _, _, _, _, _, _, _, _, _, _, _, _, _, _, _, _, _, _, _, _, _, _, _, _, _, _, _, _, _, _] : Array Oper) = ops
    have HD3 : Hid ((ops[3]?).bind (·.dst) = some 57) := by rw [← hops]; exact rfl
    have HD8 : Hid ((ops[8]?).bind (·.dst) = some 62) := by rw [← hops]; exact rfl
    have HD15 : Hid ((ops[15]?).bind (·.dst) = some 69) := by rw [← hops]; exact rfl
    have HD22 : Hid ((ops[22]?).bind (·.dst) = some 76) := by rw [← hops]; exact rfl
    have HD31 : Hid ((ops[31]?).bind (·.dst) = some 85) := by rw [← hops]; exact rfl
    have HD40 : Hid ((ops[40]?).bind (·.dst) = some 94) := by rw [← hops]; exact rfl
    clear hops
    refine g_runs (.int .i64 (o.nodes : Int)) grow_end Up.refl rfl (wanted_none rfl) (by intro d hd w; cases hd; exact trivial) (fun w' hw' => ?_) ?_
    · go_simp
    simp only [Act.put, List.setIfInBounds_toArray, List.set_cons_zero, List.set_cons_succ]
    refine g_runs (.int .i64 (o.nodes : Int)) grow_end Up.refl rfl (wanted_none rfl) (by intro d hd w; cases hd; exact trivial) (fun w' hw' => ?_) ?_
    · go_simp
    simp only [Act.put, List.setIfInBounds_toArray, List.set_cons_zero, List.set_cons_succ]
    refine g_runs (.bool true) grow_end Up.refl rfl (wanted_none rfl) (by intro d hd w; cases hd; exact trivial) (fun w' hw' => ?_) ?_
    · go_simp
    simp only [Act.put, List.setIfInBounds_toArray, List.set_cons_zero, List.set_cons_succ]
    refine g_runs (.bool true) grow_end Up.refl rfl (wanted_none rfl) (by intro d hd w; cases hd; exact trivial) (fun w' hw' => ?_) ?_
    · go_simp
    simp only [Act.put, List.setIfInBounds_toArray, List.set_cons_zero, List.set_cons_succ]
    refine g_runs (.int .i64 (o.depth : Int)) grow_end Up.refl rfl (wanted_met 3 57 true rfl HD3.out rfl) (by intro d hd w; cases hd; exact trivial) (fun w' hw' => ?_) ?_
    · go_simp
    simp only [Act.put, List.setIfInBounds_toArray, List.set_cons_zero, List.set_cons_succ]
    refine g_runs (.int .i64 (o.depth : Int)) grow_end Up.refl rfl (wanted_met 3 57 true rfl HD3.out rfl) (by intro d hd w; cases hd; exact trivial) (fun w' hw' => ?_) ?_
    · go_simp
    simp only [Act.put, List.setIfInBounds_toArray, List.set_cons_zero, List.set_cons_succ]
    refine g_runs (.bool true) grow_end Up.refl rfl (wanted_met 3 57 true rfl HD3.out rfl) (by intro d hd w; cases hd; exact trivial) (fun w' hw' => ?_) ?_
    · go_simp
    simp only [Act.put, List.setIfInBounds_toArray, List.set_cons_zero, List.set_cons_succ]
    refine g_runs (.bool true) grow_end Up.refl rfl (wanted_none rfl) (by intro d hd w; cases hd; exact trivial) (fun w' hw' => ?_) ?_
    · go_simp
    simp only [Act.put, List.setIfInBounds_toArray, List.set_cons_zero, List.set_cons_succ]
    refine g_runs (.bool true) grow_end Up.refl rfl (wanted_none rfl) (by intro d hd w; cases hd; exact trivial) (fun w' hw' => ?_) ?_
    · go_simp
    simp only [Act.put, List.setIfInBounds_toArray, List.set_cons_zero, List.set_cons_succ]
    refine g_runs (o.val) grow_end Up.refl rfl (wanted_met 8 62 true rfl HD8.out rfl) (by intro d hd w; cases hd; exact trivial) (fun w' hw' => ?_) ?_
    · go_simp
    simp only [Act.put, List.setIfInBounds_toArray, List.set_cons_zero, List.set_cons_succ]
    refine g_calls 10 #[o.val] (.int .i64 (chk o)) grow_end rfl (wanted_met 8 62 true rfl HD8.out rfl) (by intro d hd w; cases hd; exact trivial) (fun w' hw' => ?_) (fun w' hw' hk => ?_) ?_
    · go_simp
    · refine (KO.out.1 w').mono ?_
      rintro e w3 ⟨rfl, hb3⟩
      exact ⟨rfl, hb3⟩
    simp only [Act.put, List.setIfInBounds_toArray, List.set_cons_zero, List.set_cons_succ]
    refine g_runs (.agg #[.int .i64 (plain o).kind, .string (plain o).s, .int .i64 (plain o).n, .slice ka (plain o).k.length kc]) grow_end Up.refl rfl (wanted_met 8 62 true rfl HD8.out rfl) (by intro d hd w; cases hd; exact trivial) (fun w' hw' => ?_) ?_
    · obtain ⟨⟨f0, f1, f2, f3⟩, f4, f5, f6, f7⟩ := HF.out w' hw'
      go_simp
    simp only [Act.put, List.setIfInBounds_toArray, List.set_cons_zero, List.set_cons_succ]
    refine g_calls 11 #[.agg #[.int .i64 (plain o).kind, .string (plain o).s, .int .i64 (plain o).n, .slice ka (plain o).k.length kc], .bool true] (.int .i64 (chk o)) grow_end rfl (wanted_met 8 62 true rfl HD8.out rfl) (by intro d hd w; cases hd; exact trivial) (fun w' hw' => ?_) (fun w' hw' hk => ?_) ?_
    · go_simp
    · refine (KO.out.2.1 w' hw').mono ?_
      rintro e w3 ⟨rfl, hb3⟩
      exact ⟨rfl, hb3⟩
    simp only [Act.put, List.setIfInBounds_toArray, List.set_cons_zero, List.set_cons_succ]
    refine g_runs (.bool true) grow_end Up.refl rfl (wanted_met 8 62 true rfl HD8.out rfl) (by intro d hd w; cases hd; exact trivial) (fun w' hw' => ?_) ?_
    · go_simp
    simp only [Act.put, List.setIfInBounds_toArray, List.set_cons_zero, List.set_cons_succ]
    refine g_runs (.bool true) grow_end Up.refl rfl (wanted_none rfl) (by intro d hd w; cases hd; exact trivial) (fun w' hw' => ?_) ?_
    · go_simp
    simp only [Act.put, List.setIfInBounds_toArray, List.set_cons_zero, List.set_cons_succ]
    refine g_runs (.bool true) grow_end Up.refl rfl (wanted_none rfl) (by intro d hd w; cases hd; exact trivial) (fun w' hw' => ?_) ?_
    · go_simp
    simp only [Act.put, List.setIfInBounds_toArray, List.set_cons_zero, List.set_cons_succ]
    refine g_runs (o.val) grow_end Up.refl rfl (wanted_met 15 69 true rfl HD15.out rfl) (by intro d hd w; cases hd; exact trivial) (fun w' hw' => ?_) ?_
    · go_simp
    simp only [Act.put, List.setIfInBounds_toArray, List.set_cons_zero, List.set_cons_succ]
    refine g_loose 13 #[o.val] (namF o) rfl (namF_stays o) (wanted_met 15 69 true rfl HD15.out rfl) (fun w' hw' => ?_) (fun w' hw' => ?_) (fun u71 => ?_)
    · go_simp
    · refine (KN.out.1 w').mono ?_
      rintro e w3 ⟨v3, rfl, h3, hb3⟩
      exact ⟨v3, rfl, hb3, ⟨_, h3⟩⟩
    simp only [Act.put, List.setIfInBounds_toArray, List.set_cons_zero, List.set_cons_succ]
    refine g_runs (.agg #[.int .i64 (plain o).kind, .string (plain o).s, .int .i64 (plain o).n, .slice ka (plain o).k.length kc]) grow_end Up.refl rfl (wanted_met 15 69 true rfl HD15.out rfl) (by intro d hd w; cases hd; exact trivial) (fun w' hw' => ?_) ?_
    · obtain ⟨⟨f0, f1, f2, f3⟩, f4, f5, f6, f7⟩ := HF.out w' hw'
      go_simp
    simp only [Act.put, List.setIfInBounds_toArray, List.set_cons_zero, List.set_cons_succ]
    refine g_loose 14 #[.agg #[.int .i64 (plain o).kind, .string (plain o).s, .int .i64 (plain o).n, .slice ka (plain o).k.length kc]] (namF o) rfl (namF_stays o) (wanted_met 15 69 true rfl HD15.out rfl) (fun w' hw' => ?_) (fun w' hw' => ?_) (fun u73 => ?_)
    · go_simp
    · refine (KN.out.2 w' hw').mono ?_
      rintro e w3 ⟨v3, rfl, h3, hb3⟩
      exact ⟨v3, rfl, hb3, ⟨_, h3⟩⟩
    simp only [Act.put, List.setIfInBounds_toArray, List.set_cons_zero, List.set_cons_succ]
    refine g_calls 12 #[u71, u73] (.bool true) grow_end rfl (wanted_met 15 69 true rfl HD15.out rfl) (by intro d hd w; cases hd; exact trivial) (fun w' hw' => ?_) (fun w' hw' hk => ?_) ?_
    · go_simp
    · obtain ⟨B1, h71⟩ : namF o u71 w' := hk 71 (looks_at (by simp [Op.operands, Call.operands]))
      obtain ⟨B2, h73⟩ : namF o u73 w' := hk 73 (looks_at (by simp [Op.operands, Call.operands]))
      exact sameStr_any o.names u71 u73 B1 B2 w' h71 h73
    simp only [Act.put, List.setIfInBounds_toArray, List.set_cons_zero, List.set_cons_succ]
    refine g_runs (.bool true) grow_end Up.refl rfl (wanted_none rfl) (by intro d hd w; cases hd; exact trivial) (fun w' hw' => ?_) ?_
    · go_simp
    simp only [Act.put, List.setIfInBounds_toArray, List.set_cons_zero, List.set_cons_succ]
    refine g_runs (.bool true) grow_end Up.refl rfl (wanted_none rfl) (by intro d hd w; cases hd; exact trivial) (fun w' hw' => ?_) ?_
    · go_simp
    simp only [Act.put, List.setIfInBounds_toArray, List.set_cons_zero, List.set_cons_succ]
    refine g_runs (o.val) grow_end Up.refl rfl (wanted_met 22 76 true rfl HD22.out rfl) (by intro d hd w; cases hd; exact trivial) (fun w' hw' => ?_) ?_
    · go_simp
    simp only [Act.put, List.setIfInBounds_toArray, List.set_cons_zero, List.set_cons_succ]
    refine g_runs (x.val) grow_end Up.refl rfl (wanted_met 22 76 true rfl HD22.out rfl) (by intro d hd w; cases hd; exact trivial) (fun w' hw' => ?_) ?_
    · go_simp
    simp only [Act.put, List.setIfInBounds_toArray, List.set_cons_zero, List.set_cons_succ]
    refine g_calls 15 #[o.val, x.val] (.bool (sameO o x)) grow_end rfl (wanted_met 22 76 true rfl HD22.out rfl) (by intro d hd w; cases hd; exact trivial) (fun w' hw' => ?_) (fun w' hw' hk => ?_) ?_
    · go_simp
    · refine (KS.out.1 w').mono ?_
      rintro e w3 ⟨rfl, hb3⟩
      exact ⟨rfl, hb3⟩
    simp only [Act.put, List.setIfInBounds_toArray, List.set_cons_zero, List.set_cons_succ]
    refine g_runs (.agg #[.int .i64 (plain o).kind, .string (plain o).s, .int .i64 (plain o).n, .slice ka (plain o).k.length kc]) grow_end Up.refl rfl (wanted_met 22 76 true rfl HD22.out rfl) (by intro d hd w; cases hd; exact trivial) (fun w' hw' => ?_) ?_
    · obtain ⟨⟨f0, f1, f2, f3⟩, f4, f5, f6, f7⟩ := HF.out w' hw'
      go_simp
    simp only [Act.put, List.setIfInBounds_toArray, List.set_cons_zero, List.set_cons_succ]
    refine g_runs (.agg #[.int .i64 (plain x).kind, .string (plain x).s, .int .i64 (plain x).n, .slice la (plain x).k.length lc]) grow_end Up.refl rfl (wanted_met 22 76 true rfl HD22.out rfl) (by intro d hd w; cases hd; exact trivial) (fun w' hw' => ?_) ?_
    · obtain ⟨⟨f0, f1, f2, f3⟩, f4, f5, f6, f7⟩ := HF.out w' hw'
      go_simp
    simp only [Act.put, List.setIfInBounds_toArray, List.set_cons_zero, List.set_cons_succ]
    refine g_calls 16 #[.agg #[.int .i64 (plain o).kind, .string (plain o).s, .int .i64 (plain o).n, .slice ka (plain o).k.length kc], .agg #[.int .i64 (plain x).kind, .string (plain x).s, .int .i64 (plain x).n, .slice la (plain x).k.length lc]] (.bool (sameO o x)) grow_end rfl (wanted_met 22 76 true rfl HD22.out rfl) (by intro d hd w; cases hd; exact trivial) (fun w' hw' => ?_) (fun w' hw' hk => ?_) ?_
    · go_simp
    · refine (KS.out.2.2 w' hw').mono ?_
      rintro e w3 ⟨rfl, hb3⟩
      exact ⟨rfl, hb3⟩
    simp only [Act.put, List.setIfInBounds_toArray, List.set_cons_zero, List.set_cons_succ]
    refine g_runs (.bool true) grow_end Up.refl rfl (wanted_met 22 76 true rfl HD22.out rfl) (by intro d hd w; cases hd; exact trivial) (fun w' hw' => ?_) ?_
    · go_simp
    simp only [Act.put, List.setIfInBounds_toArray, List.set_cons_zero, List.set_cons_succ]
    refine g_runs (.bool true) grow_end Up.refl rfl (wanted_none rfl) (by intro d hd w; cases hd; exact trivial) (fun w' hw' => ?_) ?_
    · go_simp
    simp only [Act.put, List.setIfInBounds_toArray, List.set_cons_zero, List.set_cons_succ]
    refine g_runs (.bool true) grow_end Up.refl rfl (wanted_none rfl) (by intro d hd w; cases hd; exact trivial) (fun w' hw' => ?_) ?_
    · go_simp
    simp only [Act.put, List.setIfInBounds_toArray, List.set_cons_zero, List.set_cons_succ]
    refine g_runs (x.val) grow_end Up.refl rfl (wanted_met 31 85 true rfl HD31.out rfl) (by intro d hd w; cases hd; exact trivial) (fun w' hw' => ?_) ?_
    · go_simp
    simp only [Act.put, List.setIfInBounds_toArray, List.set_cons_zero, List.set_cons_succ]
    refine g_runs (o.val) grow_end Up.refl rfl (wanted_met 31 85 true rfl HD31.out rfl) (by intro d hd w; cases hd; exact trivial) (fun w' hw' => ?_) ?_
    · go_simp
    simp only [Act.put, List.setIfInBounds_toArray, List.set_cons_zero, List.set_cons_succ]
    refine g_calls 15 #[x.val, o.val] (.bool (sameO o x)) grow_end rfl (wanted_met 31 85 true rfl HD31.out rfl) (by intro d hd w; cases hd; exact trivial) (fun w' hw' => ?_) (fun w' hw' hk => ?_) ?_
    · go_simp
    · refine (KS.out.2.1 w').mono ?_
      rintro e w3 ⟨rfl, hb3⟩
      exact ⟨rfl, hb3⟩
    simp only [Act.put, List.setIfInBounds_toArray, List.set_cons_zero, List.set_cons_succ]
    refine g_runs (o.val) grow_end Up.refl rfl (wanted_met 31 85 true rfl HD31.out rfl) (by intro d hd w; cases hd; exact trivial) (fun w' hw' => ?_) ?_
    · go_simp
    simp only [Act.put, List.setIfInBounds_toArray, List.set_cons_zero, List.set_cons_succ]
    refine g_runs (x.val) grow_end Up.refl rfl (wanted_met 31 85 true rfl HD31.out rfl) (by intro d hd w; cases hd; exact trivial) (fun w' hw' => ?_) ?_
    · go_simp
    simp only [Act.put, List.setIfInBounds_toArray, List.set_cons_zero, List.set_cons_succ]
    refine g_calls 15 #[o.val, x.val] (.bool (sameO o x)) grow_end rfl (wanted_met 31 85 true rfl HD31.out rfl) (by intro d hd w; cases hd; exact trivial) (fun w' hw' => ?_) (fun w' hw' hk => ?_) ?_
    · go_simp
    · refine (KS.out.1 w').mono ?_
      rintro e w3 ⟨rfl, hb3⟩
      exact ⟨rfl, hb3⟩
    simp only [Act.put, List.setIfInBounds_toArray, List.set_cons_zero, List.set_cons_succ]
    refine g_runs (.bool true) grow_end Up.refl rfl (wanted_met 31 85 true rfl HD31.out rfl) (by intro d hd w; cases hd; exact trivial) (fun w' hw' => ?_) ?_
    · go_simp
    simp only [Act.put, List.setIfInBounds_toArray, List.set_cons_zero, List.set_cons_succ]
    refine g_runs (.bool true) grow_end Up.refl rfl (wanted_none rfl) (by intro d hd w; cases hd; exact trivial) (fun w' hw' => ?_) ?_
    · go_simp
    simp only [Act.put, List.setIfInBounds_toArray, List.set_cons_zero, List.set_cons_succ]
    refine g_runs (.bool true) grow_end Up.refl rfl (wanted_none rfl) (by intro d hd w; cases hd; exact trivial) (fun w' hw' => ?_) ?_
    · go_simp
    simp only [Act.put, List.setIfInBounds_toArray, List.set_cons_zero, List.set_cons_succ]
    refine g_calls 17 #[] (.bool true) grow_end rfl (wanted_met 40 94 true rfl HD40.out rfl) (by intro d hd w; cases hd; exact trivial) (fun w' hw' => ?_) (fun w' hw' hk => ?_) ?_
    · go_simp
    · refine (wakes_any w').mono ?_
      rintro e w3 ⟨rfl, hb3⟩
      exact ⟨rfl, hb3⟩
    simp only [Act.put, List.setIfInBounds_toArray, List.set_cons_zero, List.set_cons_succ]
    refine g_runs (.bool true) grow_end Up.refl rfl (wanted_none rfl) (by intro d hd w; cases hd; exact trivial) (fun w' hw' => ?_) ?_
    · go_simp
    simp only [Act.put, List.setIfInBounds_toArray, List.set_cons_zero, List.set_cons_succ]
    refine g_runs (.bool true) grow_end Up.refl rfl (wanted_none rfl) (by intro d hd w; cases hd; exact trivial) (fun w' hw' => ?_) ?_
    · go_simp
    simp only [Act.put, List.setIfInBounds_toArray, List.set_cons_zero, List.set_cons_succ]
    refine g_nil ?_
    intro w9 hw9 _
    go_wp2_with fail
    go_ret
    exact ⟨rfl, HBC.out.trans ((HB6.out.trans (hw9.mono HB6.out.size)).mono HBC.out.size)⟩

end Go.Proofs.Ytmhckbcddmdchaa
