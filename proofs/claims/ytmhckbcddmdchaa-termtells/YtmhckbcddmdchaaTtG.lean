/- The statement TermTells holds: for every two plans, every text and all numbers the law returns true, and each argument reads behind the call as it read before; no condition. -/
import Derived.Test.YtmhckbcddmdchaaTtD
import Derived.Test.YtmhckbcddmdchaaRightP
import Derived.Test.YtmhckbcddmdchaaTtB
import Derived.Test.YtmhckbcddmdchaaKeep
import Derived.Test.YtmhckbcddmdchaaPlanArg
import Derived.ProofKit
import Derived.OpenShut
import Derived.ShutString
import Derived.SizedLaws
namespace Go.Proofs.Ytmhckbcddmdchaa
open Go.RowKit
set_option linter.unusedVariables false

def SomePostC (w : World) (e : Ending) (w' : World) : Prop :=
  ∃ (c : C) (ka : Option Addr) (kc : Nat), e = .returned (.tuple #[c.val, .agg #[.int .i64 (plainC c).kind, .string (plainC c).s, .int .i64 (plainC c).n, .slice ka (plainC c).k.length kc]]) ∧ c.Ok ∧ c.weight ≤ 10000 ∧ TIn w' w.heap.size (plainC c) (.agg (four (plainC c) ka kc)) ∧ Below w.heap.size w w'

set_option maxHeartbeats 4000000 in
set_option maxRecDepth 100000 in
theorem some5_any (p : Pl) (at' what v : Int) (s : ByteArray) (odd : Int) (w : World) (hp : PlanIn w p) (ha1 : -9223372036854775808 ≤ at') (ha2 : at' ≤ 9223372036854775807) (hw1 : -9223372036854775808 ≤ what) (hw2 : what ≤ 9223372036854775807) (hv1 : -9223372036854775808 ≤ v) (hv2 : v ≤ 9223372036854775807) (hs : s.size ≤ maxLen) (ho1 : -9223372036854775808 ≤ odd) (ho2 : odd ≤ 9223372036854775807) :
    Calls Try.prog 18 #[planV p, .int .i64 at', .int .i64 what, .int .i64 v, .string s, .int .i64 odd] w (SomePostC w) := by
  unfold planV
  have HP := hidIn hp
  have HSS := hidIn hs
  clear hp hs
  go_enter Try.func18, Try.ntmps18
  go_wp2_with fail
  obtain ⟨W, hW⟩ : ∃ W, W = (w.alloc (.cells #[.slice p.na p.nl p.nc, .slice p.wa p.wl p.wc] 25)).alloc (.cells #[.int .i64 0, .string ⟨#[]⟩, .int .i64 0, .slice none 0 0] 29) := ⟨_, rfl⟩
  have HB : Hid (Below w.heap.size w W) := by rw [hW]; exact below_alloc (below_alloc (Below.refl _ _) _) _
  have HZ : Hid (Blk W (w.heap.size + 1) 29 zeroT) := by rw [hW]; exact blk_new (by simp)
  have HWS : Hid (W.heap.size = w.heap.size + 2) := by unfold Hid; rw [hW]; simp
  have HPW := hidIn (HP.out.below HB.out)
  rw [← hW]
  clear hW HP
  refine (contract_any p W HPW.out).mono ?_
  rintro e w1 ⟨v1, rfl, ht1, hb1⟩
  have ht1' := ht1
  obtain ⟨ka, kc, rfl, _, _, _⟩ := ht1'
  have HSH := hidIn (sc_plain _ (cwhole_ok _ (conP_whole p)))
  have HCN : Hid ((plainC (conP p)).cnt ≤ 2000) := by have h1 := plainC_cnt (conP p); have h2 := conP_weight p; show _ ≤ _; omega
  have HND : Hid (1 ≤ (plainC (conP p)).nodes ∧ (plainC (conP p)).nodes ≤ 2000) := by
    rw [plainC_nodes]
    have h2 := conP_weight p
    have h3 := weight_nodes (conP p)
    refine ⟨?_, by omega⟩
    have := conP_whole p
    cases h : conP p <;> simp [C.nodes]
    rw [h] at this
    exact this
  have HT1 := hidIn ht1
  have HB1 := hidIn hb1
  clear ht1 hb1
  generalize plainC (conP p) = t at *
  have hwi : ∀ w, Calls Try.prog 27 #[.int .i64 odd, .int .i64 30] w fun e w' => e = .returned (.int .i64 (odd % 30)) ∧ w' = w := fun w => within_any odd 30 w (by omega) (by omega) ho1 ho2
  have HWI := hidIn hwi
  clear hwi
  have hdv : -9223372036854775808 ≤ odd.tdiv 30 ∧ odd.tdiv 30 ≤ 9223372036854775807 := tdiv_in odd 30 (by omega) ho1 ho2
  have hwr : IntKind.i64.wrap (odd.tdiv 30) = odd.tdiv 30 := wrap_small _ hdv.1 hdv.2
  obtain ⟨q, hq⟩ : ∃ q : Nat, odd % 30 = q := ⟨(odd % 30).toNat, by omega⟩
  have hq30 : q < 30 := by omega
  have HQ := hidIn hq
  clear hq
  by_cases hwt : what.tmod 4 = 0
  · have hwt' : (what.tmod 4 == 0) = true := by rw [hwt]; rfl
    have hdq : -9223372036854775808 ≤ what.tdiv 4 ∧ what.tdiv 4 ≤ 9223372036854775807 := tdiv_in what 4 (by omega) hw1 hw2
    have hwq : IntKind.i64.wrap (what.tdiv 4) = what.tdiv 4 := wrap_small _ hdq.1 hdq.2
    go_wp2_with fail
    obtain ⟨Y, hY⟩ : ∃ Y, Y = w1.alloc (.cells #[.int .i64 t.kind, .string t.s, .int .i64 t.n, .slice ka t.k.length kc] 29) := ⟨_, rfl⟩
    have HBY1 : Hid (Below w1.heap.size w1 Y) := by rw [hY]; exact below_alloc (Below.refl _ _) _
    have HYS : Hid (Y.heap.size = w1.heap.size + 1) := by unfold Hid; rw [hY]; simp
    have HY14 : Hid (Blk Y w1.heap.size 29 #[.int .i64 t.kind, .string t.s, .int .i64 t.n, .slice ka t.k.length kc]) := by rw [hY]; exact blk_new rfl
    rw [← hY]
    clear hY
    refine (spoilt_any t at' _ v s ha1 ha2 hdq.1 hdq.2 HSS.out (by have := HCN.out; omega) HND.out.1 (by have := HND.out.2; omega) w1 Y _ (HT1.out.low (Nat.zero_le _)) HBY1.out).mono ?_
    rintro e w2 ⟨a, kb, kd, rfl, hsp, hb2⟩
    have HSH2 := hidIn (spoil_sc (what.tdiv 4 % 5).toNat v s ⟨hv1, hv2⟩ HSH.out a)
    have HCN2 : Hid ((spoilT (what.tdiv 4 % 5).toNat v s t a).1.cnt ≤ 2000) := Nat.le_trans (spoil_cnt _ v s t a) HCN.out
    generalize (spoilT (what.tdiv 4 % 5).toNat v s t a).1 = t2 at *
    have hk2 := HY14.out.below hb2 HY14.out.lt
    obtain ⟨c0, c1, c2, c3⟩ : w2.cell? ⟨w1.heap.size, 0, none⟩ = some (.int .i64 t.kind) ∧ w2.cell? ⟨w1.heap.size, 1, none⟩ = some (.string t.s) ∧ w2.cell? ⟨w1.heap.size, 2, none⟩ = some (.int .i64 t.n) ∧ w2.cell? ⟨w1.heap.size, 3, none⟩ = some (.slice ka t.k.length kc) := ⟨hk2.cell 0, hk2.cell 1, hk2.cell 2, hk2.cell 3⟩
    have f0 := hk2.frozen 0
    have f1 := hk2.frozen 1
    have f2 := hk2.frozen 2
    have f3 := hk2.frozen 3
    have HTX : Hid (TIn ((((w2.setCell ⟨w1.heap.size, 0, none⟩ (.int .i64 t2.kind)).setCell ⟨w1.heap.size, 1, none⟩ (.string t2.s)).setCell ⟨w1.heap.size, 2, none⟩ (.int .i64 t2.n)).setCell ⟨w1.heap.size, 3, none⟩ (.slice kb t2.k.length kd)) 0 t2 (.agg (four t2 kb kd))) := hsp _ (fun b o c hb hc => by have := HYS.out; rw [set4_cell' (by omega)]; exact hc)
    have HBX : Hid (Below W.heap.size W ((((w2.setCell ⟨w1.heap.size, 0, none⟩ (.int .i64 t2.kind)).setCell ⟨w1.heap.size, 1, none⟩ (.string t2.s)).setCell ⟨w1.heap.size, 2, none⟩ (.int .i64 t2.n)).setCell ⟨w1.heap.size, 3, none⟩ (.slice kb t2.k.length kd))) := by
      have h1 : Below W.heap.size W w2 := HB1.out.trans ((HBY1.out.trans (hb2.mono HBY1.out.size)).mono HB1.out.size)
      have hs := HB1.out.size
      exact (((h1.setCell hs _).setCell hs _).setCell hs _).setCell hs _
    clear hsp hb2 hk2
    unfold four
    go_wp2_with fail
    refine (termT_any HSH2.out _ _ HTX.out).mono ?_
    rintro e w3 ⟨rfl, hb3⟩
    have HB3 : Hid (Below W.heap.size W w3) := HBX.out.trans (hb3.mono HBX.out.size)
    have HO0 := hidIn (termOf_ok HSH2.out)
    have HN0 : Hid ((termOf t2).weight ≤ 4000) := by have h1 := termOf_weight t2 HSH2.out; have h2 := HCN2.out; show _ ≤ _; omega
    clear hb3
    generalize termOf t2 = c0 at *
    go_wp2_with fail
    refine calls_same (HWI.out _) ?_
    rw [HQ.out]
    have q0 := c0.one' HO0.out
    have cv0 := q0.cells
    have mv0 := q0.cells
    unfold Value.cells at mv0
    clear q0
    by_cases h27 : q = 27
    · subst h27
      go_wp2_with fail
      refine (oddC_any _ w3 hdv.1 hdv.2).mono ?_
      rintro e w5 ⟨c5, rfl, hok5, h5w, hb5⟩
      obtain ⟨c, ho⟩ : ∃ c, c = C.and c0 c5 := ⟨_, rfl⟩
      have HOK : Hid c.Ok := by rw [ho]; exact ⟨HO0.out, hok5⟩
      have HON : Hid (c.weight ≤ 10000) := by
        have h1 := HN0.out; rw [ho]; simp only [C.weight]; show _ ≤ _; omega
      have HOV : Hid (c.val = .iface 74 (.agg #[c0.val, c5.val])) := by rw [ho]; rfl
      have HB3' : Hid (Below W.heap.size W w5) := HB3.out.trans (hb5.mono HB3.out.size)
      clear HB3
      have HB3 := HB3'
      have q5 := c5.one' hok5
      have cv5 := q5.cells
      have mv5 := q5.cells
      unfold Value.cells at mv5
      clear hb5 hok5 ho q5 h5w
      go_wp2_with fail
      rw [← HOV.out]
      refine (plainCC_any c HOK.out _).mono ?_
      rintro e w4 ⟨la, lc, rfl, ht4, hb4⟩
      have HT4 := hidIn ht4
      have hb4' : Below W.heap.size W w4 := HB3.out.trans (hb4.mono HB3.out.size)
      have hZ4 := HZ.out.below hb4' HZ.out.lt
      obtain ⟨⟨z0, z1, z2, z3⟩, f0, f1, f2, f3⟩ := blk_zero hZ4
      have HZ4 := hidIn hZ4
      have HB4 := hidIn hb4'
      have HS3 := hidIn HB3.out.size
      clear ht4 hb4 hb4' hZ4
      go_wp2_with fail
      refine bodyPost_ret (results_slot_cell rfl _ _ (w.heap.size + 1) 29 (four (plainC c) la lc) (0, 0) _ rfl ?blk Try.underlying29 rfl infoT) rfl ?post
      case blk => change Blk _ _ _ _; unfold four; (with_reducible exact blk_set4' HZ4.out _ _ _ _)
      case post =>
        have hWS := HWS.out
        have hs3 := HS3.out
        have hbw : Below w.heap.size w w4 := HB.out.trans (HB4.out.mono HB.out.size)
        refine ⟨c, la, lc, rfl, HOK.out, HON.out, ?_, ?_⟩
        · refine HT4.out.kept (by omega) (fun k x c hk hc => ?_)
          rw [set4_cell' (by omega)]
          exact hc
        · (repeat first | with_reducible exact hbw | with_reducible refine below_set ?_ (by omega) _ _)
    by_cases h28 : q = 28
    · subst h28
      go_wp2_with fail
      refine (odd_any _ w3 hdv.1 hdv.2).mono ?_
      rintro e w5 ⟨c5, rfl, hok5, h51, hb5⟩
      obtain ⟨c, ho⟩ : ∃ c, c = C.scale c5 c0 := ⟨_, rfl⟩
      have HOK : Hid c.Ok := by rw [ho]; exact ⟨hok5, HO0.out⟩
      have HON : Hid (c.weight ≤ 10000) := by
        rw [ho]
        have h1 := HN0.out
        rcases h51 with rfl | ⟨v, rfl⟩
        · simp only [C.weight, O.nodes]; show _ ≤ _; omega
        · simp only [C.weight, O.nodes]; show _ ≤ _; omega
      have HOV : Hid (c.val = .iface 62 (.agg #[c5.val, c0.val])) := by rw [ho]; rfl
      have HB3' : Hid (Below W.heap.size W w5) := HB3.out.trans (hb5.mono HB3.out.size)
      clear HB3
      have HB3 := HB3'
      have q5 := c5.one' hok5
      have cv5 := q5.cells
      have mv5 := q5.cells
      unfold Value.cells at mv5
      clear hb5 hok5 ho q5 h51
      go_wp2_with fail
      rw [← HOV.out]
      refine (plainCC_any c HOK.out _).mono ?_
      rintro e w4 ⟨la, lc, rfl, ht4, hb4⟩
      have HT4 := hidIn ht4
      have hb4' : Below W.heap.size W w4 := HB3.out.trans (hb4.mono HB3.out.size)
      have hZ4 := HZ.out.below hb4' HZ.out.lt
      obtain ⟨⟨z0, z1, z2, z3⟩, f0, f1, f2, f3⟩ := blk_zero hZ4
      have HZ4 := hidIn hZ4
      have HB4 := hidIn hb4'
      have HS3 := hidIn HB3.out.size
      clear ht4 hb4 hb4' hZ4
      go_wp2_with fail
      refine bodyPost_ret (results_slot_cell rfl _ _ (w.heap.size + 1) 29 (four (plainC c) la lc) (0, 0) _ rfl ?blk Try.underlying29 rfl infoT) rfl ?post
      case blk => change Blk _ _ _ _; unfold four; (with_reducible exact blk_set4' HZ4.out _ _ _ _)
      case post =>
        have hWS := HWS.out
        have hs3 := HS3.out
        have hbw : Below w.heap.size w w4 := HB.out.trans (HB4.out.mono HB.out.size)
        refine ⟨c, la, lc, rfl, HOK.out, HON.out, ?_, ?_⟩
        · refine HT4.out.kept (by omega) (fun k x c hk hc => ?_)
          rw [set4_cell' (by omega)]
          exact hc
        · (repeat first | with_reducible exact hbw | with_reducible refine below_set ?_ (by omega) _ _)
    by_cases h29 : q = 29
    · subst h29
      go_wp2_with fail
      refine (oddC_any _ w3 hdv.1 hdv.2).mono ?_
      rintro e w5 ⟨c5, rfl, hok5, h5w, hb5⟩
      obtain ⟨c, ho⟩ : ∃ c, c = c5 := ⟨_, rfl⟩
      have HOK : Hid c.Ok := by rw [ho]; exact hok5
      have HON : Hid (c.weight ≤ 10000) := by
        rw [ho]; show _ ≤ _; omega
      have HOV : Hid (c.val = c5.val) := by rw [ho]; rfl
      have HB3' : Hid (Below W.heap.size W w5) := HB3.out.trans (hb5.mono HB3.out.size)
      clear HB3
      have HB3 := HB3'
      have q5 := c5.one' hok5
      have cv5 := q5.cells
      have mv5 := q5.cells
      unfold Value.cells at mv5
      clear hb5 hok5 ho q5 h5w
      go_wp2_with fail
      rw [← HOV.out]
      refine (plainCC_any c HOK.out _).mono ?_
      rintro e w4 ⟨la, lc, rfl, ht4, hb4⟩
      have HT4 := hidIn ht4
      have hb4' : Below W.heap.size W w4 := HB3.out.trans (hb4.mono HB3.out.size)
      have hZ4 := HZ.out.below hb4' HZ.out.lt
      obtain ⟨⟨z0, z1, z2, z3⟩, f0, f1, f2, f3⟩ := blk_zero hZ4
      have HZ4 := hidIn hZ4
      have HB4 := hidIn hb4'
      have HS3 := hidIn HB3.out.size
      clear ht4 hb4 hb4' hZ4
      go_wp2_with fail
      refine bodyPost_ret (results_slot_cell rfl _ _ (w.heap.size + 1) 29 (four (plainC c) la lc) (0, 0) _ rfl ?blk Try.underlying29 rfl infoT) rfl ?post
      case blk => change Blk _ _ _ _; unfold four; (with_reducible exact blk_set4' HZ4.out _ _ _ _)
      case post =>
        have hWS := HWS.out
        have hs3 := HS3.out
        have hbw : Below w.heap.size w w4 := HB.out.trans (HB4.out.mono HB.out.size)
        refine ⟨c, la, lc, rfl, HOK.out, HON.out, ?_, ?_⟩
        · refine HT4.out.kept (by omega) (fun k x c hk hc => ?_)
          rw [set4_cell' (by omega)]
          exact hc
        · (repeat first | with_reducible exact hbw | with_reducible refine below_set ?_ (by omega) _ _)
    have e27 : ((q : Int) == 27) = false := by rw [beq_eq_false_iff_ne]; omega
    have e28 : ((q : Int) == 28) = false := by rw [beq_eq_false_iff_ne]; omega
    have e29 : ((q : Int) == 29) = false := by rw [beq_eq_false_iff_ne]; omega
    obtain ⟨c, ho⟩ : ∃ c, c = c0 := ⟨_, rfl⟩
    subst ho
    have HOK := HO0
    have HON : Hid (c.weight ≤ 10000) := by have h1 := HN0.out; show _ ≤ _; omega
    go_wp2_with fail
    refine (plainCC_any c HOK.out _).mono ?_
    rintro e w4 ⟨la, lc, rfl, ht4, hb4⟩
    have HT4 := hidIn ht4
    have hb4' : Below W.heap.size W w4 := HB3.out.trans (hb4.mono HB3.out.size)
    have hZ4 := HZ.out.below hb4' HZ.out.lt
    obtain ⟨⟨z0, z1, z2, z3⟩, f0, f1, f2, f3⟩ := blk_zero hZ4
    have HZ4 := hidIn hZ4
    have HB4 := hidIn hb4'
    have HS3 := hidIn HB3.out.size
    clear ht4 hb4 hb4' hZ4
    go_wp2_with fail
    refine bodyPost_ret (results_slot_cell rfl _ _ (w.heap.size + 1) 29 (four (plainC c) la lc) (0, 0) _ rfl ?blk Try.underlying29 rfl infoT) rfl ?post
    case blk => change Blk _ _ _ _; unfold four; (with_reducible exact blk_set4' HZ4.out _ _ _ _)
    case post =>
      have hWS := HWS.out
      have hs3 := HS3.out
      have hbw : Below w.heap.size w w4 := HB.out.trans (HB4.out.mono HB.out.size)
      refine ⟨c, la, lc, rfl, HOK.out, HON.out, ?_, ?_⟩
      · refine HT4.out.kept (by omega) (fun k x c hk hc => ?_)
        rw [set4_cell' (by omega)]
        exact hc
      · (repeat first | with_reducible exact hbw | with_reducible refine below_set ?_ (by omega) _ _)
  · have hwt' : (what.tmod 4 == 0) = false := by rw [beq_eq_false_iff_ne]; exact hwt
    go_wp2_with fail
    have HSH2 := HSH
    have HCN2 := HCN
    have HTX : Hid (TIn (w1.alloc (.cells #[.int .i64 t.kind, .string t.s, .int .i64 t.n, .slice ka t.k.length kc] 29)) 0 t (.agg (four t ka kc))) := (HT1.out.below (below_alloc (Below.refl _ _) _)).low (Nat.zero_le _)
    have HBX : Hid (Below W.heap.size W (w1.alloc (.cells #[.int .i64 t.kind, .string t.s, .int .i64 t.n, .slice ka t.k.length kc] 29))) := below_alloc HB1.out _
    refine (termT_any HSH2.out _ _ HTX.out).mono ?_
    rintro e w3 ⟨rfl, hb3⟩
    have HB3 : Hid (Below W.heap.size W w3) := HBX.out.trans (hb3.mono HBX.out.size)
    have HO0 := hidIn (termOf_ok HSH2.out)
    have HN0 : Hid ((termOf t).weight ≤ 4000) := by have h1 := termOf_weight t HSH2.out; have h2 := HCN2.out; show _ ≤ _; omega
    clear hb3
    generalize termOf t = c0 at *
    go_wp2_with fail
    refine calls_same (HWI.out _) ?_
    rw [HQ.out]
    have q0 := c0.one' HO0.out
    have cv0 := q0.cells
    have mv0 := q0.cells
    unfold Value.cells at mv0
    clear q0
    by_cases h27 : q = 27
    · subst h27
      go_wp2_with fail
      refine (oddC_any _ w3 hdv.1 hdv.2).mono ?_
      rintro e w5 ⟨c5, rfl, hok5, h5w, hb5⟩
      obtain ⟨c, ho⟩ : ∃ c, c = C.and c0 c5 := ⟨_, rfl⟩
      have HOK : Hid c.Ok := by rw [ho]; exact ⟨HO0.out, hok5⟩
      have HON : Hid (c.weight ≤ 10000) := by
        have h1 := HN0.out; rw [ho]; simp only [C.weight]; show _ ≤ _; omega
      have HOV : Hid (c.val = .iface 74 (.agg #[c0.val, c5.val])) := by rw [ho]; rfl
      have HB3' : Hid (Below W.heap.size W w5) := HB3.out.trans (hb5.mono HB3.out.size)
      clear HB3
      have HB3 := HB3'
      have q5 := c5.one' hok5
      have cv5 := q5.cells
      have mv5 := q5.cells
      unfold Value.cells at mv5
      clear hb5 hok5 ho q5 h5w
      go_wp2_with fail
      rw [← HOV.out]
      refine (plainCC_any c HOK.out _).mono ?_
      rintro e w4 ⟨la, lc, rfl, ht4, hb4⟩
      have HT4 := hidIn ht4
      have hb4' : Below W.heap.size W w4 := HB3.out.trans (hb4.mono HB3.out.size)
      have hZ4 := HZ.out.below hb4' HZ.out.lt
      obtain ⟨⟨z0, z1, z2, z3⟩, f0, f1, f2, f3⟩ := blk_zero hZ4
      have HZ4 := hidIn hZ4
      have HB4 := hidIn hb4'
      have HS3 := hidIn HB3.out.size
      clear ht4 hb4 hb4' hZ4
      go_wp2_with fail
      refine bodyPost_ret (results_slot_cell rfl _ _ (w.heap.size + 1) 29 (four (plainC c) la lc) (0, 0) _ rfl ?blk Try.underlying29 rfl infoT) rfl ?post
      case blk => change Blk _ _ _ _; unfold four; (with_reducible exact blk_set4' HZ4.out _ _ _ _)
      case post =>
        have hWS := HWS.out
        have hs3 := HS3.out
        have hbw : Below w.heap.size w w4 := HB.out.trans (HB4.out.mono HB.out.size)
        refine ⟨c, la, lc, rfl, HOK.out, HON.out, ?_, ?_⟩
        · refine HT4.out.kept (by omega) (fun k x c hk hc => ?_)
          rw [set4_cell' (by omega)]
          exact hc
        · (repeat first | with_reducible exact hbw | with_reducible refine below_set ?_ (by omega) _ _)
    by_cases h28 : q = 28
    · subst h28
      go_wp2_with fail
      refine (odd_any _ w3 hdv.1 hdv.2).mono ?_
      rintro e w5 ⟨c5, rfl, hok5, h51, hb5⟩
      obtain ⟨c, ho⟩ : ∃ c, c = C.scale c5 c0 := ⟨_, rfl⟩
      have HOK : Hid c.Ok := by rw [ho]; exact ⟨hok5, HO0.out⟩
      have HON : Hid (c.weight ≤ 10000) := by
        rw [ho]
        have h1 := HN0.out
        rcases h51 with rfl | ⟨v, rfl⟩
        · simp only [C.weight, O.nodes]; show _ ≤ _; omega
        · simp only [C.weight, O.nodes]; show _ ≤ _; omega
      have HOV : Hid (c.val = .iface 62 (.agg #[c5.val, c0.val])) := by rw [ho]; rfl
      have HB3' : Hid (Below W.heap.size W w5) := HB3.out.trans (hb5.mono HB3.out.size)
      clear HB3
      have HB3 := HB3'
      have q5 := c5.one' hok5
      have cv5 := q5.cells
      have mv5 := q5.cells
      unfold Value.cells at mv5
      clear hb5 hok5 ho q5 h51
      go_wp2_with fail
      rw [← HOV.out]
      refine (plainCC_any c HOK.out _).mono ?_
      rintro e w4 ⟨la, lc, rfl, ht4, hb4⟩
      have HT4 := hidIn ht4
      have hb4' : Below W.heap.size W w4 := HB3.out.trans (hb4.mono HB3.out.size)
      have hZ4 := HZ.out.below hb4' HZ.out.lt
      obtain ⟨⟨z0, z1, z2, z3⟩, f0, f1, f2, f3⟩ := blk_zero hZ4
      have HZ4 := hidIn hZ4
      have HB4 := hidIn hb4'
      have HS3 := hidIn HB3.out.size
      clear ht4 hb4 hb4' hZ4
      go_wp2_with fail
      refine bodyPost_ret (results_slot_cell rfl _ _ (w.heap.size + 1) 29 (four (plainC c) la lc) (0, 0) _ rfl ?blk Try.underlying29 rfl infoT) rfl ?post
      case blk => change Blk _ _ _ _; unfold four; (with_reducible exact blk_set4' HZ4.out _ _ _ _)
      case post =>
        have hWS := HWS.out
        have hs3 := HS3.out
        have hbw : Below w.heap.size w w4 := HB.out.trans (HB4.out.mono HB.out.size)
        refine ⟨c, la, lc, rfl, HOK.out, HON.out, ?_, ?_⟩
        · refine HT4.out.kept (by omega) (fun k x c hk hc => ?_)
          rw [set4_cell' (by omega)]
          exact hc
        · (repeat first | with_reducible exact hbw | with_reducible refine below_set ?_ (by omega) _ _)
    by_cases h29 : q = 29
    · subst h29
      go_wp2_with fail
      refine (oddC_any _ w3 hdv.1 hdv.2).mono ?_
      rintro e w5 ⟨c5, rfl, hok5, h5w, hb5⟩
      obtain ⟨c, ho⟩ : ∃ c, c = c5 := ⟨_, rfl⟩
      have HOK : Hid c.Ok := by rw [ho]; exact hok5
      have HON : Hid (c.weight ≤ 10000) := by
        rw [ho]; show _ ≤ _; omega
      have HOV : Hid (c.val = c5.val) := by rw [ho]; rfl
      have HB3' : Hid (Below W.heap.size W w5) := HB3.out.trans (hb5.mono HB3.out.size)
      clear HB3
      have HB3 := HB3'
      have q5 := c5.one' hok5
      have cv5 := q5.cells
      have mv5 := q5.cells
      unfold Value.cells at mv5
      clear hb5 hok5 ho q5 h5w
      go_wp2_with fail
      rw [← HOV.out]
      refine (plainCC_any c HOK.out _).mono ?_
      rintro e w4 ⟨la, lc, rfl, ht4, hb4⟩
      have HT4 := hidIn ht4
      have hb4' : Below W.heap.size W w4 := HB3.out.trans (hb4.mono HB3.out.size)
      have hZ4 := HZ.out.below hb4' HZ.out.lt
      obtain ⟨⟨z0, z1, z2, z3⟩, f0, f1, f2, f3⟩ := blk_zero hZ4
      have HZ4 := hidIn hZ4
      have HB4 := hidIn hb4'
      have HS3 := hidIn HB3.out.size
      clear ht4 hb4 hb4' hZ4
      go_wp2_with fail
      refine bodyPost_ret (results_slot_cell rfl _ _ (w.heap.size + 1) 29 (four (plainC c) la lc) (0, 0) _ rfl ?blk Try.underlying29 rfl infoT) rfl ?post
      case blk => change Blk _ _ _ _; unfold four; (with_reducible exact blk_set4' HZ4.out _ _ _ _)
      case post =>
        have hWS := HWS.out
        have hs3 := HS3.out
        have hbw : Below w.heap.size w w4 := HB.out.trans (HB4.out.mono HB.out.size)
        refine ⟨c, la, lc, rfl, HOK.out, HON.out, ?_, ?_⟩
        · refine HT4.out.kept (by omega) (fun k x c hk hc => ?_)
          rw [set4_cell' (by omega)]
          exact hc
        · (repeat first | with_reducible exact hbw | with_reducible refine below_set ?_ (by omega) _ _)
    have e27 : ((q : Int) == 27) = false := by rw [beq_eq_false_iff_ne]; omega
    have e28 : ((q : Int) == 28) = false := by rw [beq_eq_false_iff_ne]; omega
    have e29 : ((q : Int) == 29) = false := by rw [beq_eq_false_iff_ne]; omega
    obtain ⟨c, ho⟩ : ∃ c, c = c0 := ⟨_, rfl⟩
    subst ho
    have HOK := HO0
    have HON : Hid (c.weight ≤ 10000) := by have h1 := HN0.out; show _ ≤ _; omega
    go_wp2_with fail
    refine (plainCC_any c HOK.out _).mono ?_
    rintro e w4 ⟨la, lc, rfl, ht4, hb4⟩
    have HT4 := hidIn ht4
    have hb4' : Below W.heap.size W w4 := HB3.out.trans (hb4.mono HB3.out.size)
    have hZ4 := HZ.out.below hb4' HZ.out.lt
    obtain ⟨⟨z0, z1, z2, z3⟩, f0, f1, f2, f3⟩ := blk_zero hZ4
    have HZ4 := hidIn hZ4
    have HB4 := hidIn hb4'
    have HS3 := hidIn HB3.out.size
    clear ht4 hb4 hb4' hZ4
    go_wp2_with fail
    refine bodyPost_ret (results_slot_cell rfl _ _ (w.heap.size + 1) 29 (four (plainC c) la lc) (0, 0) _ rfl ?blk Try.underlying29 rfl infoT) rfl ?post
    case blk => change Blk _ _ _ _; unfold four; (with_reducible exact blk_set4' HZ4.out _ _ _ _)
    case post =>
      have hWS := HWS.out
      have hs3 := HS3.out
      have hbw : Below w.heap.size w w4 := HB.out.trans (HB4.out.mono HB.out.size)
      refine ⟨c, la, lc, rfl, HOK.out, HON.out, ?_, ?_⟩
      · refine HT4.out.kept (by omega) (fun k x c hk hc => ?_)
        rw [set4_cell' (by omega)]
        exact hc
      · (repeat first | with_reducible exact hbw | with_reducible refine below_set ?_ (by omega) _ _)

end Go.Proofs.Ytmhckbcddmdchaa
namespace Go.Proofs.Ytmhckbcddmdchaa
open Go.RowKit
set_option linter.unusedVariables false

/-- A number and its tree, in memory. -/
structure PairC (w wx : World) (b : Nat) (o : C) (ka : Option Addr) (kc : Nat) : Prop where
  ok : o.Ok
  wt : o.weight ≤ 10000
  blk : Blk wx b 29 #[.int .i64 (plainC o).kind, .string (plainC o).s, .int .i64 (plainC o).n, .slice ka (plainC o).k.length kc]
  tin : TIn wx 0 (plainC o) (.agg (four (plainC o) ka kc))

/-- A list of texts of somebody's own. -/
def txtF (l : List ByteArray) (v : Value) (w : World) : Prop := ∃ B, w.ownsRow B 9 1 v l.length (strCells l)
theorem txtF_stays (l : List ByteArray) : ∀ u w w', Up w w' → txtF l u w → txtF l u w' := fun u w w' h ⟨B, hB⟩ => ⟨B, ownsRow_below hB h⟩
set_option maxHeartbeats 1000000 in
set_option maxRecDepth 100000 in
theorem refLabelsW_any (t : T) (hc : t.cnt ≤ 999990) (w : World) (v : Value) (hv : TIn w 0 t v) : Calls Try.prog 23 #[v] w fun e w' => ∃ v', e = .returned v' ∧ w'.ownsRow w.heap.size 9 1 v' t.labs.length (strCells t.labs) ∧ Below w.heap.size w w' := by
  have HV := hidIn hv
  obtain ⟨a, cap, rfl, _, _, _⟩ := hv
  go_enter Try.func23, Try.ntmps23
  go_wp2_with fail
  refine (refLabels_any t hc _ _ (HV.out.below (below_alloc (Below.refl _ _) _))).mono ?_
  rintro e w1 ⟨v1, rfl, ho, hb⟩
  have HO := hidIn ho
  have HB := hidIn hb
  clear ho hb
  go_wp2_with fail
  go_ret
  have hbb := (below_alloc (Below.refl w.heap.size w) (.cells #[.int .i64 t.kind, .string t.s, .int .i64 t.n, .slice a t.k.length cap] 29)).trans (HB.out.mono (by simp))
  exact ⟨v1, rfl, ownsRow_base HO.out (by simp), hbb⟩

theorem nodes_back (o : O) : (obsOf (plain o)).nodes = o.nodes := by
  have h1 := plain_nodes (obsOf (plain o))
  rw [plain_back, plain_nodes] at h1
  exact h1.symm
theorem weight_back (c : C) : (termOf (plainC c)).weight = c.weight := by
  induction c with
  | zero => rfl
  | one s => rfl
  | odd v => rfl
  | give c ih => show (C.give (termOf (plainC c))).weight = _; simp [C.weight, ih]
  | and l r h1 h2 => show (C.and (termOf (plainC l)) (termOf (plainC r))).weight = _; simp [C.weight, h1, h2]
  | or s l r h1 h2 => show (C.or s (termOf (plainC l)) (termOf (plainC r))).weight = _; simp [C.weight, h1, h2]
  | scale o c h1 => show (C.scale (obsOf (plain o)) (termOf (plainC c))).weight = _; simp [C.weight, h1, nodes_back]
  | when d c h1 => show (C.when d (termOf (plainC c))).weight = _; simp [C.weight, h1]
  | iff o l r h1 h2 => show (C.iff (obsOf (plain o)) (termOf (plainC l)) (termOf (plainC r))).weight = _; simp [C.weight, h1, h2, nodes_back]

set_option maxHeartbeats 8000000 in
set_option maxRecDepth 100000 in
theorem termTells_walk (p q : Pl) (at' what v : Int) (s : ByteArray) (odd : Int) (same : Bool) (w : World) (hp : PlanIn w p) (hq : PlanIn w q) (ha1 : -9223372036854775808 ≤ at') (ha2 : at' ≤ 9223372036854775807) (hw1 : -9223372036854775808 ≤ what) (hw2 : what ≤ 9223372036854775807) (hv1 : -9223372036854775808 ≤ v) (hv2 : v ≤ 9223372036854775807) (hs : s.size ≤ 140737488351232) (ho1 : -9223372036854775808 ≤ odd) (ho2 : odd ≤ 9223372036854775807) :
    Calls Try.prog 4 #[planV p, planV q, .int .i64 at', .int .i64 what, .int .i64 v, .string s, .int .i64 odd, .bool same] w fun e w' => e = .returned (.bool true) ∧ Below w.heap.size w w' := by
  have HP := hidIn hp
  have HQ := hidIn hq
  have HSS : Hid (s.size ≤ maxLen) := by unfold Hid maxLen; omega
  clear hp hq hs
  have HC1 : Hid (∀ W, PlanIn W p → Calls Try.prog 18 #[.agg #[.slice p.na p.nl p.nc, .slice p.wa p.wl p.wc], .int .i64 at', .int .i64 what, .int .i64 v, .string s, .int .i64 odd] W (SomePostC W)) := fun W hW => some5_any p at' what v s odd W hW ha1 ha2 hw1 hw2 hv1 hv2 HSS.out ho1 ho2
  have HC2 : Hid (∀ W, PlanIn W q → Calls Try.prog 18 #[.agg #[.slice q.na q.nl q.nc, .slice q.wa q.wl q.wc], .int .i64 0, .int .i64 1, .int .i64 0, .string ⟨#[]⟩, .int .i64 0] W (SomePostC W)) := fun W hW => some5_any q 0 1 0 ⟨#[]⟩ 0 W hW (by omega) (by omega) (by omega) (by omega) (by omega) (by omega) (by unfold maxLen; decide) (by omega) (by omega)
  clear ha1 ha2 hw1 hw2 hv1 hv2 ho1 ho2 HSS
  unfold planV
  go_enter Try.func4, Try.ntmps4
  go_upto_region 1 with fail
  obtain ⟨W, hW⟩ : ∃ W, W = (w.alloc (.cells #[.slice p.na p.nl p.nc, .slice p.wa p.wl p.wc] 25)).alloc (.cells #[.slice q.na q.nl q.nc, .slice q.wa q.wl q.wc] 25) := ⟨_, rfl⟩
  have HB : Hid (Below w.heap.size w W) := by rw [hW]; exact below_alloc (below_alloc (Below.refl _ _) _) _
  have HBP : Hid (Blk W w.heap.size 25 #[.slice p.na p.nl p.nc, .slice p.wa p.wl p.wc]) := by rw [hW]; exact blk_keep (blk_new rfl) _
  have HBQ : Hid (Blk W (w.heap.size + 1) 25 #[.slice q.na q.nl q.nc, .slice q.wa q.wl q.wc]) := by rw [hW]; exact blk_new (by simp)
  have c0 : W.cell? ⟨w.heap.size, 0, none⟩ = some (.slice p.na p.nl p.nc) := HBP.out.cell 0
  have c1 : W.cell? ⟨w.heap.size, 1, none⟩ = some (.slice p.wa p.wl p.wc) := HBP.out.cell 1
  have HPW := hidIn (HP.out.below HB.out)
  have HQW := hidIn (HQ.out.below HB.out)
  rw [← hW]
  clear hW HP HQ
  go_upto_region 2 with fail
  refine (HC1.out W HPW.out).mono ?_
  rintro e w1 ⟨o, ka, kc, rfl, hok1, hn1, ht1, hb1⟩
  have HOK1 := hidIn hok1
  have HN1 := hidIn hn1
  have HT1 := hidIn ht1
  have HB1 := hidIn hb1
  have hbq := HBQ.out.below hb1 HBQ.out.lt
  have d0 : w1.cell? ⟨w.heap.size + 1, 0, none⟩ = some (.slice q.na q.nl q.nc) := hbq.cell 0
  have d1 : w1.cell? ⟨w.heap.size + 1, 1, none⟩ = some (.slice q.wa q.wl q.wc) := hbq.cell 1
  have HQ1 := hidIn (HQW.out.below hb1)
  have hlq := hbq.lt
  clear hok1 hn1 ht1 hb1 hbq c0 c1
  go_upto_region 2 with fail
  obtain ⟨W2, hW2⟩ : ∃ W2, W2 = w1.alloc (.cells #[.int .i64 (plainC o).kind, .string (plainC o).s, .int .i64 (plainC o).n, .slice ka (plainC o).k.length kc] 29) := ⟨_, rfl⟩
  have HBW2 : Hid (Below w1.heap.size w1 W2) := by rw [hW2]; exact below_alloc (Below.refl _ _) _
  have HP18 : Hid (Blk W2 w1.heap.size 29 #[.int .i64 (plainC o).kind, .string (plainC o).s, .int .i64 (plainC o).n, .slice ka (plainC o).k.length kc]) := by rw [hW2]; exact blk_new rfl
  have e0 : W2.cell? ⟨w.heap.size + 1, 0, none⟩ = some (.slice q.na q.nl q.nc) := (HBW2.out.cell (p := ⟨w.heap.size + 1, 0, none⟩) hlq).trans d0
  have e1 : W2.cell? ⟨w.heap.size + 1, 1, none⟩ = some (.slice q.wa q.wl q.wc) := (HBW2.out.cell (p := ⟨w.heap.size + 1, 1, none⟩) hlq).trans d1
  have HQ2 := hidIn (HQ1.out.below HBW2.out)
  rw [← hW2]
  clear hW2 d0 d1 hlq
  go_upto_if 40 with fail
  refine (HC2.out W2 HQ2.out).mono ?_
  rintro e w3 ⟨x0, la0, lc0, rfl, hok3, hn3, ht3, hb3⟩
  have HOK3 := hidIn hok3
  have HN3 := hidIn hn3
  have HT3 := hidIn ht3
  have HB3 := hidIn hb3
  clear hok3 hn3 ht3 hb3 e0 e1
  go_upto_if 40 with fail
  obtain ⟨W4, hW4⟩ : ∃ W4, W4 = w3.alloc (.cells #[.int .i64 (plainC x0).kind, .string (plainC x0).s, .int .i64 (plainC x0).n, .slice la0 (plainC x0).k.length lc0] 29) := ⟨_, rfl⟩
  have HBW4 : Hid (Below w3.heap.size w3 W4) := by rw [hW4]; exact below_alloc (Below.refl _ _) _
  have HP20 : Hid (Blk W4 w3.heap.size 29 #[.int .i64 (plainC x0).kind, .string (plainC x0).s, .int .i64 (plainC x0).n, .slice la0 (plainC x0).k.length lc0]) := by rw [hW4]; exact blk_new rfl
  have hP18 : Blk W4 w1.heap.size 29 #[.int .i64 (plainC o).kind, .string (plainC o).s, .int .i64 (plainC o).n, .slice ka (plainC o).k.length kc] := by
    have h3 := HP18.out.below HB3.out HP18.out.lt
    exact h3.below HBW4.out h3.lt
  have HP18W := hidIn hP18
  have HW4 : Hid (Below w1.heap.size w1 W4) := HBW2.out.trans ((HB3.out.trans (HBW4.out.mono HB3.out.size)).mono HBW2.out.size)
  have HW : Hid (Below w.heap.size w W4) := HB.out.trans ((HB1.out.trans (HW4.out.mono HB1.out.size)).mono HB.out.size)
  rw [← hW4]
  clear hW4
  have c0 : W4.cell? ⟨w1.heap.size, 0, none⟩ = some (.int .i64 (plainC o).kind) := hP18.cell 0
  have c1 : W4.cell? ⟨w1.heap.size, 1, none⟩ = some (.string (plainC o).s) := hP18.cell 1
  have c2 : W4.cell? ⟨w1.heap.size, 2, none⟩ = some (.int .i64 (plainC o).n) := hP18.cell 2
  have c3 : W4.cell? ⟨w1.heap.size, 3, none⟩ = some (.slice ka (plainC o).k.length kc) := hP18.cell 3
  clear hP18 HC1 HC2
  have HT1W : Hid (∀ X, Below w1.heap.size w1 X → TIn X 0 (plainC o) (.agg (four (plainC o) ka kc))) := fun X hX => (HT1.out.below hX).low (Nat.zero_le _)
  have HNE : Hid (w1.heap.size < w3.heap.size) := by have h1 := HP18.out.lt; have h2 := HB3.out.size; show _ < _; omega
  have HLW : Hid (w.heap.size ≤ w1.heap.size) := Nat.le_trans HB.out.size HB1.out.size
  go_cut [19] (fun s19 wx => ∃ x la lc, s19 = x.val ∧ PairC w wx w1.heap.size o ka kc ∧ PairC w wx w3.heap.size x la lc ∧ Below w.heap.size w wx)
  case first =>
    cases same with
    | false =>
      go_wp2_with fail
      go_meet
      case rel => exact ⟨x0, la0, lc0, rfl, ⟨HOK1.out, HN1.out, HP18W.out, HT1W.out _ HW4.out⟩, ⟨HOK3.out, HN3.out, HP20.out, (HT3.out.below HBW4.out).low (Nat.zero_le _)⟩, HW.out⟩
    | true =>
      have HCO : Hid (∀ X, Below W4.heap.size W4 X → Calls Try.prog 19 #[.agg #[.int .i64 (plainC o).kind, .string (plainC o).s, .int .i64 (plainC o).n, .slice ka (plainC o).k.length kc]] X (fun e w5 => e = .returned (termOf (plainC o)).val ∧ Below W4.heap.size W4 w5)) := by
        intro X hX
        refine (termT_any (sc_plain o HOK1.out) X _ ((HT1W.out W4 HW4.out).below hX)).mono ?_
        rintro e w5 ⟨rfl, hb5⟩
        exact ⟨rfl, hX.trans (hb5.mono hX.size)⟩
      have HXO := hidIn (termOf_ok (sc_plain o HOK1.out))
      have HXN : Hid ((termOf (plainC o)).weight ≤ 10000) := by
        have h1 : (termOf (plainC o)).weight = o.weight := weight_back o
        have := HN1.out
        show _ ≤ _
        omega
      have HXB : Hid (plainC (termOf (plainC o)) = plainC o) := plainC_back o
      generalize termOf (plainC o) = x at *
      go_wp2_with fail
      go_region_with (go_at_call 19; refine (HCO.out _ (by first | with_reducible exact below_drew (Below.refl _ _) | with_reducible exact Below.refl _ _)).mono ?_; rintro e w5 ⟨rfl, hb5⟩; have h18 := HP18W.out.below hb5 HP18W.out.lt; have h20 := HP20.out.below hb5 HP20.out.lt; have d0 : w5.cell? ⟨w1.heap.size, 0, none⟩ = some (.int .i64 (plainC o).kind) := h18.cell 0; have d1 : w5.cell? ⟨w1.heap.size, 1, none⟩ = some (.string (plainC o).s) := h18.cell 1; have d2 : w5.cell? ⟨w1.heap.size, 2, none⟩ = some (.int .i64 (plainC o).n) := h18.cell 2; have d3 : w5.cell? ⟨w1.heap.size, 3, none⟩ = some (.slice ka (plainC o).k.length kc) := h18.cell 3; have g0 : w5.cell? ⟨w3.heap.size, 0, none⟩ = some (.int .i64 (plainC x0).kind) := h20.cell 0; have g1 : w5.cell? ⟨w3.heap.size, 1, none⟩ = some (.string (plainC x0).s) := h20.cell 1; have g2 : w5.cell? ⟨w3.heap.size, 2, none⟩ = some (.int .i64 (plainC x0).n) := h20.cell 2; have g3 : w5.cell? ⟨w3.heap.size, 3, none⟩ = some (.slice la0 (plainC x0).k.length lc0) := h20.cell 3; have f0 := h20.frozen 0; have f1 := h20.frozen 1; have f2 := h20.frozen 2; have f3 := h20.frozen 3; have H18 := hidIn h18; have H20 := hidIn h20; have HB5 := hidIn hb5; clear h18 h20 hb5)
      all_goals
        go_wp2_with fail
        go_meet
        case rel =>
          have hne := HNE.out
          have hlw := HLW.out
          have hs3 : w1.heap.size ≤ w3.heap.size := by omega
          have hB15 : Below w1.heap.size w1 w5 := HW4.out.trans (HB5.out.mono HW4.out.size)
          have hBw5 : Below w.heap.size w w5 := HW.out.trans (HB5.out.mono HW.out.size)
          have hF1 := (((hB15.setCell (p := ⟨w3.heap.size, 0, none⟩) hs3 (.int .i64 (plainC o).kind)).setCell (p := ⟨w3.heap.size, 1, none⟩) hs3 (.string (plainC o).s)).setCell (p := ⟨w3.heap.size, 2, none⟩) hs3 (.int .i64 (plainC o).n)).setCell (p := ⟨w3.heap.size, 3, none⟩) hs3 (.slice ka (plainC o).k.length kc)
          have hF2 := (((hBw5.setCell (p := ⟨w3.heap.size, 0, none⟩) (Nat.le_trans hlw hs3) (.int .i64 (plainC o).kind)).setCell (p := ⟨w3.heap.size, 1, none⟩) (Nat.le_trans hlw hs3) (.string (plainC o).s)).setCell (p := ⟨w3.heap.size, 2, none⟩) (Nat.le_trans hlw hs3) (.int .i64 (plainC o).n)).setCell (p := ⟨w3.heap.size, 3, none⟩) (Nat.le_trans hlw hs3) (.slice ka (plainC o).k.length kc)
          refine ⟨x, ka, kc, rfl, ⟨HOK1.out, HN1.out, ?_, HT1W.out _ hF1⟩, ⟨HXO.out, HXN.out, ?_, ?_⟩, hF2⟩
          · exact blk_other (blk_other (blk_other (blk_other H18.out (by omega) _ _) (by omega) _ _) (by omega) _ _) (by omega) _ _
          · rw [HXB.out]
            exact set4_blk H20.out _ _ _ _
          · rw [HXB.out]
            exact HT1W.out _ hF1
  case rest =>
    obtain ⟨x, la, lc, rfl, hpo, hpx, hbc⟩ := hcut
    have HPO := hidIn hpo
    have HPX := hidIn hpx
    have HBC := hidIn hbc
    clear hpo hpx hbc c0 c1 c2 c3 HP18W HP20 HBW4 HT3 HB3 HN3 HOK3 HW HW4 HT1W HNE HQ2 HP18 HBW2 HT1 HB1 HOK1 HN1 HQ1 HQW HPW HBP HBQ HB
    have HLO := hidIn HPO.out.blk.lt
    have HLX := hidIn HPX.out.blk.lt
    go_wp2_with fail
    refine (sizeT_any o HPO.out.ok (by have h1 := weight_nodes o; have h2 := HPO.out.wt; omega) wc).mono ?_
    rintro e w5 ⟨rfl, hb5⟩
    have HB5 := hidIn hb5
    have h18 := HPO.out.blk.below hb5 HLO.out
    have d0 : w5.cell? ⟨w1.heap.size, 0, none⟩ = some (.int .i64 (plainC o).kind) := h18.cell 0
    have d1 : w5.cell? ⟨w1.heap.size, 1, none⟩ = some (.string (plainC o).s) := h18.cell 1
    have d2 : w5.cell? ⟨w1.heap.size, 2, none⟩ = some (.int .i64 (plainC o).n) := h18.cell 2
    have d3 : w5.cell? ⟨w1.heap.size, 3, none⟩ = some (.slice ka (plainC o).k.length kc) := h18.cell 3
    clear h18 hb5
    go_wp2_with fail
    refine (refSize_any (plainC o) w5 _ (HPO.out.tin.below HB5.out) (by rw [plainC_nodes]; have h1 := weight_nodes o; have h2 := HPO.out.wt; omega)).mono ?_
    rw [plainC_nodes, plainC_depth]
    rintro e w6 ⟨rfl, hb6⟩
    have HB6 : Hid (Below wc.heap.size wc w6) := HB5.out.trans (hb6.mono HB5.out.size)
    clear hb6 d0 d1 d2 d3
    have HF : Hid (∀ w', Below w6.heap.size w6 w' → (w'.cell? ⟨w1.heap.size, 0, none⟩ = some (.int .i64 (plainC o).kind) ∧ w'.cell? ⟨w1.heap.size, 1, none⟩ = some (.string (plainC o).s) ∧ w'.cell? ⟨w1.heap.size, 2, none⟩ = some (.int .i64 (plainC o).n) ∧ w'.cell? ⟨w1.heap.size, 3, none⟩ = some (.slice ka (plainC o).k.length kc)) ∧ (w'.cell? ⟨w3.heap.size, 0, none⟩ = some (.int .i64 (plainC x).kind) ∧ w'.cell? ⟨w3.heap.size, 1, none⟩ = some (.string (plainC x).s) ∧ w'.cell? ⟨w3.heap.size, 2, none⟩ = some (.int .i64 (plainC x).n) ∧ w'.cell? ⟨w3.heap.size, 3, none⟩ = some (.slice la (plainC x).k.length lc))) := by
      intro w' hw'
      have hb := HB6.out.trans (hw'.mono HB6.out.size)
      have h1 := HPO.out.blk.below hb HLO.out
      have h2 := HPX.out.blk.below hb HLX.out
      exact ⟨⟨h1.cell 0, h1.cell 1, h1.cell 2, h1.cell 3⟩, h2.cell 0, h2.cell 1, h2.cell 2, h2.cell 3⟩
    have HTO : Hid (∀ w', Below w6.heap.size w6 w' → TIn w' 0 (plainC o) (.agg (four (plainC o) ka kc)) ∧ TIn w' 0 (plainC x) (.agg (four (plainC x) la lc))) := fun w' hw' => by
      have hb := HB6.out.trans (hw'.mono HB6.out.size)
      exact ⟨HPO.out.tin.below hb, HPX.out.tin.below hb⟩
    have hno : (plainC o).cnt ≤ 999990 := by have h1 := plainC_cnt o; have h2 := HPO.out.wt; omega
    have hn6 : o.weight ≤ 1000000 := by have := HPO.out.wt; omega
    have KO : Hid ((∀ w', Calls Try.prog 21 #[o.val] w' fun e w'' => e = .returned (.int .i64 (chkC o)) ∧ Below w'.heap.size w' w'') ∧ (∀ w', Below w6.heap.size w6 w' → Calls Try.prog 11 #[.agg #[.int .i64 (plainC o).kind, .string (plainC o).s, .int .i64 (plainC o).n, .slice ka (plainC o).k.length kc], .bool false] w' fun e w'' => e = .returned (.int .i64 (chkC o)) ∧ Below w'.heap.size w' w'')) :=
      ⟨fun w' => checkT_any o HPO.out.ok hn6 w', fun w' hw' => refCheckC_any o HPO.out.ok (by have := HPO.out.wt; omega) w' _ 0 (HTO.out w' hw').1⟩
    have KL : Hid ((∀ w', Calls Try.prog 22 #[o.val] w' fun e w'' => ∃ v, e = .returned v ∧ w''.ownsRow w'.heap.size 9 1 v o.labels.length (strCells o.labels) ∧ Below w'.heap.size w' w'') ∧ (∀ w', Below w6.heap.size w6 w' → Calls Try.prog 23 #[.agg #[.int .i64 (plainC o).kind, .string (plainC o).s, .int .i64 (plainC o).n, .slice ka (plainC o).k.length kc]] w' fun e w'' => ∃ v, e = .returned v ∧ w''.ownsRow w'.heap.size 9 1 v o.labels.length (strCells o.labels) ∧ Below w'.heap.size w' w'')) := by
      refine ⟨fun w' => labelsT_any o HPO.out.ok hn6 w', fun w' hw' => ?_⟩
      have h := refLabelsW_any (plainC o) hno w' _ (HTO.out w' hw').1
      rw [plainC_labs] at h
      exact h
    have KN : Hid ((∀ w', Calls Try.prog 24 #[o.val] w' fun e w'' => ∃ v, e = .returned v ∧ w''.ownsRow w'.heap.size 9 1 v o.names.length (strCells o.names) ∧ Below w'.heap.size w' w'') ∧ (∀ w', Below w6.heap.size w6 w' → Calls Try.prog 14 #[.agg #[.int .i64 (plainC o).kind, .string (plainC o).s, .int .i64 (plainC o).n, .slice ka (plainC o).k.length kc]] w' fun e w'' => ∃ v, e = .returned v ∧ w''.ownsRow w'.heap.size 9 1 v o.names.length (strCells o.names) ∧ Below w'.heap.size w' w'')) := by
      refine ⟨fun w' => namesT_any o HPO.out.ok hn6 w', fun w' hw' => ?_⟩
      have h := refNames_any (plainC o) hno w' _ (HTO.out w' hw').1
      rw [plainC_names] at h
      exact h
    have KS : Hid ((∀ w', Calls Try.prog 25 #[o.val, x.val] w' fun e w'' => e = .returned (.bool (sameC o x)) ∧ Below w'.heap.size w' w'') ∧ (∀ w', Calls Try.prog 25 #[x.val, o.val] w' fun e w'' => e = .returned (.bool (sameC o x)) ∧ Below w'.heap.size w' w'') ∧ (∀ w', Below w6.heap.size w6 w' → Calls Try.prog 16 #[.agg #[.int .i64 (plainC o).kind, .string (plainC o).s, .int .i64 (plainC o).n, .slice ka (plainC o).k.length kc], .agg #[.int .i64 (plainC x).kind, .string (plainC x).s, .int .i64 (plainC x).n, .slice la (plainC x).k.length lc]] w' fun e w'' => e = .returned (.bool (sameC o x)) ∧ Below w'.heap.size w' w'')) := by
      refine ⟨fun w' => sameT_any o HPO.out.ok x HPX.out.ok w', fun w' => ?_, fun w' hw' => ?_⟩
      · have h := sameT_any x HPX.out.ok o HPO.out.ok w'
        rw [sameC_comm x o] at h
        exact h
      · have h := refSame_any (plainC o) (plainC x) w' _ _ (HTO.out w' hw').1 (HTO.out w' hw').2
        rw [plainC_same] at h
        exact h
    clear HPO HPX HTO HB5 hno hn6 HLO HLX
    go_wp2_with fail
    refine wp_region_grow (fun w' => Below w6.heap.size w6 w') Up (modes [one (.int .i64 (o.nodes : Int)), one (.int .i64 (o.nodes : Int)), one (.bool true), one (.bool true), one (.int .i64 (o.depth : Int)), one (.int .i64 (o.depth : Int)), one (.bool true), one (.bool true), one (.bool true), one (o.val), one (.int .i64 (chkC o)), one (.agg #[.int .i64 (plainC o).kind, .string (plainC o).s, .int .i64 (plainC o).n, .slice ka (plainC o).k.length kc]), one (.int .i64 (chkC o)), one (.bool true), one (.bool true), one (.bool true), one (o.val), loose (txtF o.labels), one (.agg #[.int .i64 (plainC o).kind, .string (plainC o).s, .int .i64 (plainC o).n, .slice ka (plainC o).k.length kc]), loose (txtF o.labels), one (.bool true), one (.bool true), one (.bool true), one (o.val), loose (txtF o.names), one (.agg #[.int .i64 (plainC o).kind, .string (plainC o).s, .int .i64 (plainC o).n, .slice ka (plainC o).k.length kc]), loose (txtF o.names), one (.bool true), one (.bool true), one (.bool true), one (o.val), one (x.val), one (.bool (sameC o x)), one (.agg #[.int .i64 (plainC o).kind, .string (plainC o).s, .int .i64 (plainC o).n, .slice ka (plainC o).k.length kc]), one (.agg #[.int .i64 (plainC x).kind, .string (plainC x).s, .int .i64 (plainC x).n, .slice la (plainC x).k.length lc]), one (.bool (sameC o x)), one (.bool true), one (.bool true), one (.bool true), one (x.val), one (o.val), one (.bool (sameC o x)), one (o.val), one (x.val), one (.bool (sameC o x)), one (.bool true), one (.bool true), one (.bool true), one (.bool true), one (.bool true), one (.bool true)]) (by kernel_rfl) (by kernel_rfl) (up_class _) (below_drew (Below.refl _ _)) ?_
    generalize hops : (#[_, _, _, _, _, _, _, _, _, _, _, _, _, _, _, _, _, _, _, _, _, _, _, _, _, _, _, _, _, _, _, _, _, _, _, _, _, _, _, _, _, _, _, _, _, _, _, _, _, _, _] : Array Oper) = ops
    have HD3 : Hid ((ops[3]?).bind (·.dst) = some 57) := by rw [← hops]; exact rfl
    have HD8 : Hid ((ops[8]?).bind (·.dst) = some 62) := by rw [← hops]; exact rfl
    have HD15 : Hid ((ops[15]?).bind (·.dst) = some 69) := by rw [← hops]; exact rfl
    have HD22 : Hid ((ops[22]?).bind (·.dst) = some 76) := by rw [← hops]; exact rfl
    have HD29 : Hid ((ops[29]?).bind (·.dst) = some 83) := by rw [← hops]; exact rfl
    have HD38 : Hid ((ops[38]?).bind (·.dst) = some 92) := by rw [← hops]; exact rfl
    have HD47 : Hid ((ops[47]?).bind (·.dst) = some 101) := by rw [← hops]; exact rfl
    clear hops
    refine g_runs (.int .i64 (o.nodes : Int)) grow_end Up.refl rfl (wanted_none rfl) (by intro d hd w; cases hd; exact trivial) (fun w' hw' => ?_) ?_
    · go_simp
    simp only [Act.put, List.setIfInBounds_toArray, List.set_cons_zero, List.set_cons_succ]
    refine g_runs (.int .i64 (o.nodes : Int)) grow_end Up.refl rfl (wanted_none rfl) (by intro d hd w; cases hd; exact trivial) (fun w' hw' => ?_) ?_
    · go_simp
    simp only [Act.put, List.setIfInBounds_toArray, List.set_cons_zero, List.set_cons_succ]
    refine g_runs (.bool true) grow_end Up.refl rfl (wanted_none rfl) (by intro d hd w; cases hd; exact trivial) (fun w' hw' => ?_) ?_
    · go_simp
    simp only [Act.put, List.setIfInBounds_toArray, List.set_cons_zero, List.set_cons_succ]
    refine g_runs (.bool true) grow_end Up.refl rfl (wanted_none rfl) (by intro d hd w; cases hd; exact trivial) (fun w' hw' => ?_) ?_
    · go_simp
    simp only [Act.put, List.setIfInBounds_toArray, List.set_cons_zero, List.set_cons_succ]
    refine g_runs (.int .i64 (o.depth : Int)) grow_end Up.refl rfl (wanted_met 3 57 true rfl HD3.out rfl) (by intro d hd w; cases hd; exact trivial) (fun w' hw' => ?_) ?_
    · go_simp
    simp only [Act.put, List.setIfInBounds_toArray, List.set_cons_zero, List.set_cons_succ]
    refine g_runs (.int .i64 (o.depth : Int)) grow_end Up.refl rfl (wanted_met 3 57 true rfl HD3.out rfl) (by intro d hd w; cases hd; exact trivial) (fun w' hw' => ?_) ?_
    · go_simp
    simp only [Act.put, List.setIfInBounds_toArray, List.set_cons_zero, List.set_cons_succ]
    refine g_runs (.bool true) grow_end Up.refl rfl (wanted_met 3 57 true rfl HD3.out rfl) (by intro d hd w; cases hd; exact trivial) (fun w' hw' => ?_) ?_
    · go_simp
    simp only [Act.put, List.setIfInBounds_toArray, List.set_cons_zero, List.set_cons_succ]
    refine g_runs (.bool true) grow_end Up.refl rfl (wanted_none rfl) (by intro d hd w; cases hd; exact trivial) (fun w' hw' => ?_) ?_
    · go_simp
    simp only [Act.put, List.setIfInBounds_toArray, List.set_cons_zero, List.set_cons_succ]
    refine g_runs (.bool true) grow_end Up.refl rfl (wanted_none rfl) (by intro d hd w; cases hd; exact trivial) (fun w' hw' => ?_) ?_
    · go_simp
    simp only [Act.put, List.setIfInBounds_toArray, List.set_cons_zero, List.set_cons_succ]
    refine g_runs (o.val) grow_end Up.refl rfl (wanted_met 8 62 true rfl HD8.out rfl) (by intro d hd w; cases hd; exact trivial) (fun w' hw' => ?_) ?_
    · go_simp
    simp only [Act.put, List.setIfInBounds_toArray, List.set_cons_zero, List.set_cons_succ]
    refine g_calls 21 #[o.val] (.int .i64 (chkC o)) grow_end rfl (wanted_met 8 62 true rfl HD8.out rfl) (by intro d hd w; cases hd; exact trivial) (fun w' hw' => ?_) (fun w' hw' hk => ?_) ?_
    · go_simp
    · refine (KO.out.1 w').mono ?_
      rintro e w3 ⟨rfl, hb3⟩
      exact ⟨rfl, hb3⟩
    simp only [Act.put, List.setIfInBounds_toArray, List.set_cons_zero, List.set_cons_succ]
    refine g_runs (.agg #[.int .i64 (plainC o).kind, .string (plainC o).s, .int .i64 (plainC o).n, .slice ka (plainC o).k.length kc]) grow_end Up.refl rfl (wanted_met 8 62 true rfl HD8.out rfl) (by intro d hd w; cases hd; exact trivial) (fun w' hw' => ?_) ?_
    · obtain ⟨⟨f0, f1, f2, f3⟩, f4, f5, f6, f7⟩ := HF.out w' hw'
      go_simp
    simp only [Act.put, List.setIfInBounds_toArray, List.set_cons_zero, List.set_cons_succ]
    refine g_calls 11 #[.agg #[.int .i64 (plainC o).kind, .string (plainC o).s, .int .i64 (plainC o).n, .slice ka (plainC o).k.length kc], .bool false] (.int .i64 (chkC o)) grow_end rfl (wanted_met 8 62 true rfl HD8.out rfl) (by intro d hd w; cases hd; exact trivial) (fun w' hw' => ?_) (fun w' hw' hk => ?_) ?_
    · go_simp
    · refine (KO.out.2 w' hw').mono ?_
      rintro e w3 ⟨rfl, hb3⟩
      exact ⟨rfl, hb3⟩
    simp only [Act.put, List.setIfInBounds_toArray, List.set_cons_zero, List.set_cons_succ]
    refine g_runs (.bool true) grow_end Up.refl rfl (wanted_met 8 62 true rfl HD8.out rfl) (by intro d hd w; cases hd; exact trivial) (fun w' hw' => ?_) ?_
    · go_simp
    simp only [Act.put, List.setIfInBounds_toArray, List.set_cons_zero, List.set_cons_succ]
    refine g_runs (.bool true) grow_end Up.refl rfl (wanted_none rfl) (by intro d hd w; cases hd; exact trivial) (fun w' hw' => ?_) ?_
    · go_simp
    simp only [Act.put, List.setIfInBounds_toArray, List.set_cons_zero, List.set_cons_succ]
    refine g_runs (.bool true) grow_end Up.refl rfl (wanted_none rfl) (by intro d hd w; cases hd; exact trivial) (fun w' hw' => ?_) ?_
    · go_simp
    simp only [Act.put, List.setIfInBounds_toArray, List.set_cons_zero, List.set_cons_succ]
    refine g_runs (o.val) grow_end Up.refl rfl (wanted_met 15 69 true rfl HD15.out rfl) (by intro d hd w; cases hd; exact trivial) (fun w' hw' => ?_) ?_
    · go_simp
    simp only [Act.put, List.setIfInBounds_toArray, List.set_cons_zero, List.set_cons_succ]
    refine g_loose 22 #[o.val] (txtF o.labels) rfl (txtF_stays _) (wanted_met 15 69 true rfl HD15.out rfl) (fun w' hw' => ?_) (fun w' hw' hk => ?_) (fun u71 => ?_)
    · go_simp
    · refine (KL.out.1 w').mono ?_
      rintro e w3 ⟨v3, rfl, h3, hb3⟩
      exact ⟨v3, rfl, hb3, ⟨_, h3⟩⟩
    simp only [Act.put, List.setIfInBounds_toArray, List.set_cons_zero, List.set_cons_succ]
    refine g_runs (.agg #[.int .i64 (plainC o).kind, .string (plainC o).s, .int .i64 (plainC o).n, .slice ka (plainC o).k.length kc]) grow_end Up.refl rfl (wanted_met 15 69 true rfl HD15.out rfl) (by intro d hd w; cases hd; exact trivial) (fun w' hw' => ?_) ?_
    · obtain ⟨⟨f0, f1, f2, f3⟩, f4, f5, f6, f7⟩ := HF.out w' hw'
      go_simp
    simp only [Act.put, List.setIfInBounds_toArray, List.set_cons_zero, List.set_cons_succ]
    refine g_loose 23 #[.agg #[.int .i64 (plainC o).kind, .string (plainC o).s, .int .i64 (plainC o).n, .slice ka (plainC o).k.length kc]] (txtF o.labels) rfl (txtF_stays _) (wanted_met 15 69 true rfl HD15.out rfl) (fun w' hw' => ?_) (fun w' hw' hk => ?_) (fun u73 => ?_)
    · go_simp
    · refine (KL.out.2 w' hw').mono ?_
      rintro e w3 ⟨v3, rfl, h3, hb3⟩
      exact ⟨v3, rfl, hb3, ⟨_, h3⟩⟩
    simp only [Act.put, List.setIfInBounds_toArray, List.set_cons_zero, List.set_cons_succ]
    refine g_calls 12 #[u71, u73] (.bool true) grow_end rfl (wanted_met 15 69 true rfl HD15.out rfl) (by intro d hd w; cases hd; exact trivial) (fun w' hw' => ?_) (fun w' hw' hk => ?_) ?_
    · go_simp
    · obtain ⟨B1, h1⟩ : txtF o.labels u71 w' := hk 71 (looks_at (by simp [Op.operands, Call.operands]))
      obtain ⟨B2, h2⟩ : txtF o.labels u73 w' := hk 73 (looks_at (by simp [Op.operands, Call.operands]))
      exact sameStr_any o.labels u71 u73 B1 B2 w' h1 h2
    simp only [Act.put, List.setIfInBounds_toArray, List.set_cons_zero, List.set_cons_succ]
    refine g_runs (.bool true) grow_end Up.refl rfl (wanted_none rfl) (by intro d hd w; cases hd; exact trivial) (fun w' hw' => ?_) ?_
    · go_simp
    simp only [Act.put, List.setIfInBounds_toArray, List.set_cons_zero, List.set_cons_succ]
    refine g_runs (.bool true) grow_end Up.refl rfl (wanted_none rfl) (by intro d hd w; cases hd; exact trivial) (fun w' hw' => ?_) ?_
    · go_simp
    simp only [Act.put, List.setIfInBounds_toArray, List.set_cons_zero, List.set_cons_succ]
    refine g_runs (o.val) grow_end Up.refl rfl (wanted_met 22 76 true rfl HD22.out rfl) (by intro d hd w; cases hd; exact trivial) (fun w' hw' => ?_) ?_
    · go_simp
    simp only [Act.put, List.setIfInBounds_toArray, List.set_cons_zero, List.set_cons_succ]
    refine g_loose 24 #[o.val] (txtF o.names) rfl (txtF_stays _) (wanted_met 22 76 true rfl HD22.out rfl) (fun w' hw' => ?_) (fun w' hw' hk => ?_) (fun u78 => ?_)
    · go_simp
    · refine (KN.out.1 w').mono ?_
      rintro e w3 ⟨v3, rfl, h3, hb3⟩
      exact ⟨v3, rfl, hb3, ⟨_, h3⟩⟩
    simp only [Act.put, List.setIfInBounds_toArray, List.set_cons_zero, List.set_cons_succ]
    refine g_runs (.agg #[.int .i64 (plainC o).kind, .string (plainC o).s, .int .i64 (plainC o).n, .slice ka (plainC o).k.length kc]) grow_end Up.refl rfl (wanted_met 22 76 true rfl HD22.out rfl) (by intro d hd w; cases hd; exact trivial) (fun w' hw' => ?_) ?_
    · obtain ⟨⟨f0, f1, f2, f3⟩, f4, f5, f6, f7⟩ := HF.out w' hw'
      go_simp
    simp only [Act.put, List.setIfInBounds_toArray, List.set_cons_zero, List.set_cons_succ]
    refine g_loose 14 #[.agg #[.int .i64 (plainC o).kind, .string (plainC o).s, .int .i64 (plainC o).n, .slice ka (plainC o).k.length kc]] (txtF o.names) rfl (txtF_stays _) (wanted_met 22 76 true rfl HD22.out rfl) (fun w' hw' => ?_) (fun w' hw' hk => ?_) (fun u80 => ?_)
    · go_simp
    · refine (KN.out.2 w' hw').mono ?_
      rintro e w3 ⟨v3, rfl, h3, hb3⟩
      exact ⟨v3, rfl, hb3, ⟨_, h3⟩⟩
    simp only [Act.put, List.setIfInBounds_toArray, List.set_cons_zero, List.set_cons_succ]
    refine g_calls 12 #[u78, u80] (.bool true) grow_end rfl (wanted_met 22 76 true rfl HD22.out rfl) (by intro d hd w; cases hd; exact trivial) (fun w' hw' => ?_) (fun w' hw' hk => ?_) ?_
    · go_simp
    · obtain ⟨B1, h1⟩ : txtF o.names u78 w' := hk 78 (looks_at (by simp [Op.operands, Call.operands]))
      obtain ⟨B2, h2⟩ : txtF o.names u80 w' := hk 80 (looks_at (by simp [Op.operands, Call.operands]))
      exact sameStr_any o.names u78 u80 B1 B2 w' h1 h2
    simp only [Act.put, List.setIfInBounds_toArray, List.set_cons_zero, List.set_cons_succ]
    refine g_runs (.bool true) grow_end Up.refl rfl (wanted_none rfl) (by intro d hd w; cases hd; exact trivial) (fun w' hw' => ?_) ?_
    · go_simp
    simp only [Act.put, List.setIfInBounds_toArray, List.set_cons_zero, List.set_cons_succ]
    refine g_runs (.bool true) grow_end Up.refl rfl (wanted_none rfl) (by intro d hd w; cases hd; exact trivial) (fun w' hw' => ?_) ?_
    · go_simp
    simp only [Act.put, List.setIfInBounds_toArray, List.set_cons_zero, List.set_cons_succ]
    refine g_runs (o.val) grow_end Up.refl rfl (wanted_met 29 83 true rfl HD29.out rfl) (by intro d hd w; cases hd; exact trivial) (fun w' hw' => ?_) ?_
    · go_simp
    simp only [Act.put, List.setIfInBounds_toArray, List.set_cons_zero, List.set_cons_succ]
    refine g_runs (x.val) grow_end Up.refl rfl (wanted_met 29 83 true rfl HD29.out rfl) (by intro d hd w; cases hd; exact trivial) (fun w' hw' => ?_) ?_
    · go_simp
    simp only [Act.put, List.setIfInBounds_toArray, List.set_cons_zero, List.set_cons_succ]
    refine g_calls 25 #[o.val, x.val] (.bool (sameC o x)) grow_end rfl (wanted_met 29 83 true rfl HD29.out rfl) (by intro d hd w; cases hd; exact trivial) (fun w' hw' => ?_) (fun w' hw' hk => ?_) ?_
    · go_simp
    · refine (KS.out.1 w').mono ?_
      rintro e w3 ⟨rfl, hb3⟩
      exact ⟨rfl, hb3⟩
    simp only [Act.put, List.setIfInBounds_toArray, List.set_cons_zero, List.set_cons_succ]
    refine g_runs (.agg #[.int .i64 (plainC o).kind, .string (plainC o).s, .int .i64 (plainC o).n, .slice ka (plainC o).k.length kc]) grow_end Up.refl rfl (wanted_met 29 83 true rfl HD29.out rfl) (by intro d hd w; cases hd; exact trivial) (fun w' hw' => ?_) ?_
    · obtain ⟨⟨f0, f1, f2, f3⟩, f4, f5, f6, f7⟩ := HF.out w' hw'
      go_simp
    simp only [Act.put, List.setIfInBounds_toArray, List.set_cons_zero, List.set_cons_succ]
    refine g_runs (.agg #[.int .i64 (plainC x).kind, .string (plainC x).s, .int .i64 (plainC x).n, .slice la (plainC x).k.length lc]) grow_end Up.refl rfl (wanted_met 29 83 true rfl HD29.out rfl) (by intro d hd w; cases hd; exact trivial) (fun w' hw' => ?_) ?_
    · obtain ⟨⟨f0, f1, f2, f3⟩, f4, f5, f6, f7⟩ := HF.out w' hw'
      go_simp
    simp only [Act.put, List.setIfInBounds_toArray, List.set_cons_zero, List.set_cons_succ]
    refine g_calls 16 #[.agg #[.int .i64 (plainC o).kind, .string (plainC o).s, .int .i64 (plainC o).n, .slice ka (plainC o).k.length kc], .agg #[.int .i64 (plainC x).kind, .string (plainC x).s, .int .i64 (plainC x).n, .slice la (plainC x).k.length lc]] (.bool (sameC o x)) grow_end rfl (wanted_met 29 83 true rfl HD29.out rfl) (by intro d hd w; cases hd; exact trivial) (fun w' hw' => ?_) (fun w' hw' hk => ?_) ?_
    · go_simp
    · refine (KS.out.2.2 w' hw').mono ?_
      rintro e w3 ⟨rfl, hb3⟩
      exact ⟨rfl, hb3⟩
    simp only [Act.put, List.setIfInBounds_toArray, List.set_cons_zero, List.set_cons_succ]
    refine g_runs (.bool true) grow_end Up.refl rfl (wanted_met 29 83 true rfl HD29.out rfl) (by intro d hd w; cases hd; exact trivial) (fun w' hw' => ?_) ?_
    · go_simp
    simp only [Act.put, List.setIfInBounds_toArray, List.set_cons_zero, List.set_cons_succ]
    refine g_runs (.bool true) grow_end Up.refl rfl (wanted_none rfl) (by intro d hd w; cases hd; exact trivial) (fun w' hw' => ?_) ?_
    · go_simp
    simp only [Act.put, List.setIfInBounds_toArray, List.set_cons_zero, List.set_cons_succ]
    refine g_runs (.bool true) grow_end Up.refl rfl (wanted_none rfl) (by intro d hd w; cases hd; exact trivial) (fun w' hw' => ?_) ?_
    · go_simp
    simp only [Act.put, List.setIfInBounds_toArray, List.set_cons_zero, List.set_cons_succ]
    refine g_runs (x.val) grow_end Up.refl rfl (wanted_met 38 92 true rfl HD38.out rfl) (by intro d hd w; cases hd; exact trivial) (fun w' hw' => ?_) ?_
    · go_simp
    simp only [Act.put, List.setIfInBounds_toArray, List.set_cons_zero, List.set_cons_succ]
    refine g_runs (o.val) grow_end Up.refl rfl (wanted_met 38 92 true rfl HD38.out rfl) (by intro d hd w; cases hd; exact trivial) (fun w' hw' => ?_) ?_
    · go_simp
    simp only [Act.put, List.setIfInBounds_toArray, List.set_cons_zero, List.set_cons_succ]
    refine g_calls 25 #[x.val, o.val] (.bool (sameC o x)) grow_end rfl (wanted_met 38 92 true rfl HD38.out rfl) (by intro d hd w; cases hd; exact trivial) (fun w' hw' => ?_) (fun w' hw' hk => ?_) ?_
    · go_simp
    · refine (KS.out.2.1 w').mono ?_
      rintro e w3 ⟨rfl, hb3⟩
      exact ⟨rfl, hb3⟩
    simp only [Act.put, List.setIfInBounds_toArray, List.set_cons_zero, List.set_cons_succ]
    refine g_runs (o.val) grow_end Up.refl rfl (wanted_met 38 92 true rfl HD38.out rfl) (by intro d hd w; cases hd; exact trivial) (fun w' hw' => ?_) ?_
    · go_simp
    simp only [Act.put, List.setIfInBounds_toArray, List.set_cons_zero, List.set_cons_succ]
    refine g_runs (x.val) grow_end Up.refl rfl (wanted_met 38 92 true rfl HD38.out rfl) (by intro d hd w; cases hd; exact trivial) (fun w' hw' => ?_) ?_
    · go_simp
    simp only [Act.put, List.setIfInBounds_toArray, List.set_cons_zero, List.set_cons_succ]
    refine g_calls 25 #[o.val, x.val] (.bool (sameC o x)) grow_end rfl (wanted_met 38 92 true rfl HD38.out rfl) (by intro d hd w; cases hd; exact trivial) (fun w' hw' => ?_) (fun w' hw' hk => ?_) ?_
    · go_simp
    · refine (KS.out.1 w').mono ?_
      rintro e w3 ⟨rfl, hb3⟩
      exact ⟨rfl, hb3⟩
    simp only [Act.put, List.setIfInBounds_toArray, List.set_cons_zero, List.set_cons_succ]
    refine g_runs (.bool true) grow_end Up.refl rfl (wanted_met 38 92 true rfl HD38.out rfl) (by intro d hd w; cases hd; exact trivial) (fun w' hw' => ?_) ?_
    · go_simp
    simp only [Act.put, List.setIfInBounds_toArray, List.set_cons_zero, List.set_cons_succ]
    refine g_runs (.bool true) grow_end Up.refl rfl (wanted_none rfl) (by intro d hd w; cases hd; exact trivial) (fun w' hw' => ?_) ?_
    · go_simp
    simp only [Act.put, List.setIfInBounds_toArray, List.set_cons_zero, List.set_cons_succ]
    refine g_runs (.bool true) grow_end Up.refl rfl (wanted_none rfl) (by intro d hd w; cases hd; exact trivial) (fun w' hw' => ?_) ?_
    · go_simp
    simp only [Act.put, List.setIfInBounds_toArray, List.set_cons_zero, List.set_cons_succ]
    refine g_calls 26 #[] (.bool true) grow_end rfl (wanted_met 47 101 true rfl HD47.out rfl) (by intro d hd w; cases hd; exact trivial) (fun w' hw' => ?_) (fun w' hw' hk => ?_) ?_
    · go_simp
    · refine (wakesT_any w').mono ?_
      rintro e w3 ⟨rfl, hb3⟩
      exact ⟨rfl, hb3⟩
    simp only [Act.put, List.setIfInBounds_toArray, List.set_cons_zero, List.set_cons_succ]
    refine g_runs (.bool true) grow_end Up.refl rfl (wanted_none rfl) (by intro d hd w; cases hd; exact trivial) (fun w' hw' => ?_) ?_
    · go_simp
    simp only [Act.put, List.setIfInBounds_toArray, List.set_cons_zero, List.set_cons_succ]
    refine g_runs (.bool true) grow_end Up.refl rfl (wanted_none rfl) (by intro d hd w; cases hd; exact trivial) (fun w' hw' => ?_) ?_
    · go_simp
    simp only [Act.put, List.setIfInBounds_toArray, List.set_cons_zero, List.set_cons_succ]
    refine g_nil ?_
    intro w9 hw9 hk9
    go_wp2_with fail
    go_ret
    exact ⟨rfl, HBC.out.trans ((HB6.out.trans (hw9.mono HB6.out.size)).mono HBC.out.size)⟩

end Go.Proofs.Ytmhckbcddmdchaa
namespace Go.Proofs.Ytmhckbcddmdchaa.termTells
open Go.ChangeShapes Go.WideShapes Go.ChangeAt Go.RowKit
open Go.ChangeMaps (open_string shut_string)
set_option linter.unusedVariables false

theorem own : ownKnob Try.prog.godebug = none := by kernel_rfl
theorem int_bd {n : Int} (h : (Lit.int .i64 n).wf = true) : -9223372036854775808 ≤ n ∧ n ≤ 9223372036854775807 := by
  have := bounds_i64 h
  omega
theorem laidOut : laidOutB Try.prog = true := by kernel_rfl
theorem mem_getD {α : Type} (l : List α) (i : Nat) (d : α) (h : i < l.length) : l.getD i d ∈ l := by
  rw [List.getD, List.getElem?_eq_getElem h]; exact List.getElem_mem h
theorem cell_lt {w : World} {b o : Nat} {v : Value} (h : w.cell? ⟨b, o, none⟩ = some v) : b < w.heap.size := by
  by_cases hb : b < w.heap.size
  · exact hb
  · exfalso
    have : w.heap[b]? = none := Array.getElem?_eq_none (by omega)
    simp [World.cell?, this] at h
theorem at_plain {w : World} {a : Addr} {i : Nat} {v v0 : Value} (h0 : w.cell? (a.add 0) = some v0) (h : w.cell? (a.add i) = some v) : ∃ b off, a = ⟨b, off, none⟩ ∧ w.cell? ⟨b, off + i, none⟩ = some v := by
  obtain ⟨b, off, spot⟩ := a
  have hspot : spot = none := by simpa [Addr.add] using World.cell?_spot h0
  subst hspot
  rw [Go.WideShapes.add_plain] at h
  exact ⟨b, off, rfl, h⟩

set_option maxRecDepth 100000 in
theorem lifted (os : Os) (started : os.Started) (H : Type) (enc : TypeId × Value → H) :
    ReturnsInHanded {} Try.checked os 4 .any (Rows.termTellsSpec.pre6 enc Try.prog Try.f4 Rows.termTellsRow.domain false) (Rows.termTellsSpec.post enc Try.prog Try.f4 false true false false) := by
  refine returnsInHanded_of_change_sized (C := Try.checked) own started (by kernel_rfl) Try.func4
    (ChangeSpec.witness6 (enc := enc) (C := Try.checked) false ⟨#[], #[.agg #[.slice none 0 0, .slice none 0 0], .agg #[.slice none 0 0, .slice none 0 0], .int .i64 0, .int .i64 0, .int .i64 0, .string ByteArray.empty, .int .i64 0, .bool false], []⟩ 8 (by kernel_rfl) (by kernel_rfl) (by kernel_rfl) (by kernel_rfl)) ?_
  intro W base args ds gs before hval0 hW hcnd hsz0 _
  have hval : ∀ (j : Nat) t v, Try.f4.params[j]? = some t → args[j]? = some v → Value.okWide Try.prog W .any base t v := hval0
  have hsz : (DataW.weightsEach Try.prog (Try.f4.params.toList ++ Rows.termTellsSpec.plain.varTypes Try.prog) (ds ++ gs)).all (· ≤ reachBytes) = true := hsz0
  have hW' := hW
  obtain ⟨p, q, hA0, hV, rfl, hfz, hnd⟩ := hW
  have hA : DataW.TrodAll enc Try.prog W 0 (fun _ => true) true Try.f4.params.toList args.toList ds p := hA0
  rw [Try.params4] at hA hval hsz
  obtain ⟨v0, vs0, d0, ds0, p0, q0, hargs, rfl, rfl, h0, r0⟩ := trodAll_cons hA
  obtain ⟨v1, vs1, d1, ds1, p1, q1, rfl, rfl, rfl, h1, r1⟩ := trodAll_cons r0
  obtain ⟨v2, vs2, d2, ds2, p2, q2, rfl, rfl, rfl, h2, r2⟩ := trodAll_cons r1
  obtain ⟨v3, vs3, d3, ds3, p3, q3, rfl, rfl, rfl, h3, r3⟩ := trodAll_cons r2
  obtain ⟨v4, vs4, d4, ds4, p4, q4, rfl, rfl, rfl, h4, r4⟩ := trodAll_cons r3
  obtain ⟨v5, vs5, d5, ds5, p5, q5, rfl, rfl, rfl, h5, r5⟩ := trodAll_cons r4
  obtain ⟨v6, vs6, d6, ds6, p6, q6, rfl, rfl, rfl, h6, r6⟩ := trodAll_cons r5
  obtain ⟨v7, vs7, d7, ds7, p7, q7, rfl, rfl, rfl, h7, r7⟩ := trodAll_cons r6
  obtain ⟨rfl, rfl, rfl⟩ := trodAll_nil r7
  obtain rfl : args = #[v0, v1, v2, v3, v4, v5, v6, v7] := by cases args; simp_all
  obtain ⟨rfl, rfl⟩ := trodVars_none hV
  have k0 := h0
  have lt0 : ∀ x ∈ p0, x.block < W.heap.size := by obtain ⟨m, hm⟩ := k0; exact DataW.trod_lt m _ _ _ hm
  obtain ⟨a0, rfl, w0⟩ := plan_open (hval 0 25 v0 rfl rfl) h0
  have k1 := h1
  have lt1 : ∀ x ∈ p1, x.block < W.heap.size := by obtain ⟨m, hm⟩ := k1; exact DataW.trod_lt m _ _ _ hm
  obtain ⟨a1, rfl, w1⟩ := plan_open (hval 1 25 v1 rfl rfl) h1
  obtain ⟨a2, rfl, rfl, rfl, w2⟩ := open_int Try.underlying3 (hval 2 3 v2 rfl rfl) h2
  obtain ⟨a3, rfl, rfl, rfl, w3⟩ := open_int Try.underlying3 (hval 3 3 v3 rfl rfl) h3
  obtain ⟨a4, rfl, rfl, rfl, w4⟩ := open_int Try.underlying3 (hval 4 3 v4 rfl rfl) h4
  obtain ⟨a5, rfl, rfl, rfl, w5⟩ := open_string Try.underlying9 (hval 5 9 v5 rfl rfl) h5
  obtain ⟨a6, rfl, rfl, rfl, w6⟩ := open_int Try.underlying3 (hval 6 3 v6 rfl rfl) h6
  obtain ⟨a7, rfl, rfl, rfl⟩ := open_bool Try.underlying4 (hval 7 4 v7 rfl rfl) h7
  have z2 := int_bd w2
  have z3 := int_bd w3
  have z4 := int_bd w4
  have z5 : a5.size ≤ 140737488351232 := by
    have := sized_string hsz (j := 5) (t := 9) rfl rfl
    simpa [reachBytes] using this
  have z6 := int_bd w6
  clear hA0 hval0 hsz0
  refine (termTells_walk a0 a1 a2 a3 a4 a5 a6 a7 W w0 w1 z2.1 z2.2 z3.1 z3.2 z4.1 z4.2 z5 z6.1 z6.2).mono fun e W' ⟨he, bel⟩ => ?_
  subst he
  exact ⟨_, rfl, _, _, _, [], _, [], hW', trodAll_mk1 (shut_bool Try.underlying4 _), (trodAll_cons_mk (Below.trod laidOut (by kernel_rfl) (of_decide_eq_true (by kernel_rfl)) k0 bel lt0) (trodAll_cons_mk (Below.trod laidOut (by kernel_rfl) (of_decide_eq_true (by kernel_rfl)) k1 bel lt1) (trodAll_cons_mk (shut_int Try.underlying3 w2) (trodAll_cons_mk (shut_int Try.underlying3 w3) (trodAll_cons_mk (shut_int Try.underlying3 w4) (trodAll_cons_mk (shut_string Try.underlying9 w5) (trodAll_cons_mk (shut_int Try.underlying3 w6) (trodAll_cons_mk (shut_bool Try.underlying4 _) trodAll_mk0)))))))), rfl, bel.frame _, fun h => by cases h⟩

theorem proved : Rows.TermTellsSaid :=
  OpenClaim.holds_of_wide 4 Try.f4 rfl rfl rfl rfl rfl rfl rfl ⟨rfl, rfl, rfl, rfl, rfl⟩ rfl rfl rfl rfl rfl (by kernel_rfl) Try.func4 (by kernel_rfl)
    (of_decide_eq_true (by kernel_rfl)) (by unfold Func.isWrapper; first | (rw [if_pos (by decide +kernel)]; kernel_rfl) | (rw [if_neg (by decide +kernel)]; exact ⟨rfl, rfl⟩))
    (fun os started H enc _ => lifted os started H enc)

end Go.Proofs.Ytmhckbcddmdchaa.termTells
