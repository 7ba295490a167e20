/- Some number of a plan, spoilt or not, with something odd or not, as the statements make it. -/
import Derived.Test.YtdlflpnjmldakaaSpoilt
import Derived.Test.YtdlflpnjmldakaaNumber
import Derived.Test.YtdlflpnjmldakaaOddV
import Derived.Test.YtdlflpnjmldakaaPlainL
import Derived.Test.YtdlflpnjmldakaaWhole
namespace Go.Proofs.Ytdlflpnjmldakaa
open Go.RowKit
set_option linter.unusedVariables false

def SomePost (w : World) (e : Ending) (w' : World) : Prop :=
  ∃ (o : O) (ka : Option Addr) (kc : Nat), e = .returned (.tuple #[o.val, .agg #[.int .i64 (plain o).kind, .string (plain o).s, .int .i64 (plain o).n, .slice ka (plain o).k.length kc]]) ∧ o.Ok ∧ o.nodes ≤ 1000 ∧ TIn w' w.heap.size (plain o) (.agg (four (plain o) ka kc)) ∧ Below w.heap.size w w'
theorem tdiv_in (a b : Int) (hb : 2 ≤ b) (h1 : -9223372036854775808 ≤ a) (h2 : a ≤ 9223372036854775807) : -9223372036854775808 ≤ a.tdiv b ∧ a.tdiv b ≤ 9223372036854775807 := by
  by_cases h : 0 ≤ a
  · have h3 := Int.tdiv_nonneg h (by omega : 0 ≤ b)
    have h4 : a.tdiv b ≤ a := Int.tdiv_le_self b h
    omega
  · have h3 := Int.tdiv_nonneg (by omega : 0 ≤ -a) (by omega : 0 ≤ b)
    have h4 : (-a).tdiv b ≤ -a := Int.tdiv_le_self b (by omega)
    rw [Int.neg_tdiv] at h3 h4
    omega
/-- A slot, and a struct's cell, as results. -/
theorem results_slot_cell {P : Program} {fn : Func} {p q : Tmp} {ty : TypeId} (h : fn.results = #[.tmp q, .cell p ty]) (tmps : Array Value) (w : World) (g : Nat) (t : TypeId) (cs : Array Value) (fr : Nat × Nat) (d : TypeDesc)
    (hp : tmps.getD p undef = .pointer (some ⟨g, 0, none⟩)) (hg : w.heap[g]? = some (.cells cs t fr))
    (hu : P.underlying ty = some d) (hd : (match d with | .struct _ | .array _ _ => true | _ => false) = true) (hi : (P.info? ty).map (·.size) = some cs.size) :
    (results fn tmps).run P w = .ok (.tuple #[tmps.getD q undef, .agg cs]) w := by
  have hp' : tmps[p]?.getD undef = .pointer (some ⟨g, 0, none⟩) := by simpa using hp
  simp [results, h, hp', asAddr, run_loadVar_row w g t ty cs fr d hg hu hd hi]

set_option maxHeartbeats 4000000 in
set_option maxRecDepth 100000 in
theorem some4_any (p : Pl) (at' what v : Int) (s : ByteArray) (odd : Int) (w : World) (hp : PlanIn w p) (ha1 : -9223372036854775808 ≤ at') (ha2 : at' ≤ 9223372036854775807) (hw1 : -9223372036854775808 ≤ what) (hw2 : what ≤ 9223372036854775807) (hv1 : -9223372036854775808 ≤ v) (hv2 : v ≤ 9223372036854775807) (hs : s.size ≤ maxLen) (ho1 : -9223372036854775808 ≤ odd) (ho2 : odd ≤ 9223372036854775807) :
    Calls Try.prog 14 #[planV p, .int .i64 at', .int .i64 what, .int .i64 v, .string s, .int .i64 odd] w (SomePost w) := by
  unfold planV
  have HP := hidIn hp
  have HSS := hidIn hs
  clear hp hs
  go_enter Try.func14, Try.ntmps14
  go_wp2_with fail
  obtain ⟨W, hW⟩ : ∃ W, W = (w.alloc (.cells #[.slice p.na p.nl p.nc, .slice p.wa p.wl p.wc] 49)).alloc (.cells #[.int .i64 0, .string ⟨#[]⟩, .int .i64 0, .slice none 0 0] 52) := ⟨_, rfl⟩
  have HB : Hid (Below w.heap.size w W) := by rw [hW]; exact below_alloc (below_alloc (Below.refl _ _) _) _
  have HZ : Hid (Blk W (w.heap.size + 1) 52 zeroT) := by rw [hW]; exact blk_new (by simp)
  have HWS : Hid (W.heap.size = w.heap.size + 2) := by unfold Hid; rw [hW]; simp
  have HPW := hidIn (HP.out.below HB.out)
  rw [← hW]
  clear hW HP
  refine (number_any p W HPW.out).mono ?_
  rintro e w1 ⟨v1, rfl, ht1, hb1⟩
  have ht1' := ht1
  obtain ⟨ka, kc, rfl, _, _, _⟩ := ht1'
  have HSH := hidIn (shaped_plain _ (whole_ok _ (numP_whole p)))
  have HCN : Hid ((plain (numP p)).cnt ≤ 70) := by have h1 := plain_cnt (numP p); have h2 := numP_nodes p; show _ ≤ _; omega
  have HND : Hid (1 ≤ (plain (numP p)).nodes ∧ (plain (numP p)).nodes ≤ 31) := by
    rw [plain_nodes]
    have h2 := numP_nodes p
    refine ⟨?_, h2⟩
    have := numP_whole p
    cases h : numP p <;> simp [O.nodes]
    rw [h] at this
    exact this
  have HT1 := hidIn ht1
  have HB1 := hidIn hb1
  clear ht1 hb1
  generalize plain (numP p) = t at *
  by_cases hwt : what.tmod 4 = 0
  · have hwt' : (what.tmod 4 == 0) = true := by rw [hwt]; rfl
    have hdq : -9223372036854775808 ≤ what.tdiv 4 ∧ what.tdiv 4 ≤ 9223372036854775807 := tdiv_in what 4 (by omega) hw1 hw2
    have hwq : IntKind.i64.wrap (what.tdiv 4) = what.tdiv 4 := wrap_small _ hdq.1 hdq.2
    go_wp2_with fail
    obtain ⟨Y, hY⟩ : ∃ Y, Y = w1.alloc (.cells #[.int .i64 t.kind, .string t.s, .int .i64 t.n, .slice ka t.k.length kc] 52) := ⟨_, rfl⟩
    have HBY1 : Hid (Below w1.heap.size w1 Y) := by rw [hY]; exact below_alloc (Below.refl _ _) _
    have HYS : Hid (Y.heap.size = w1.heap.size + 1) := by unfold Hid; rw [hY]; simp
    have HY14 : Hid (Blk Y w1.heap.size 52 #[.int .i64 t.kind, .string t.s, .int .i64 t.n, .slice ka t.k.length kc]) := by rw [hY]; exact blk_new rfl
    rw [← hY]
    clear hY
    refine (spoilt_any t at' _ v s ha1 ha2 hdq.1 hdq.2 HSS.out (by have := HCN.out; omega) HND.out.1 (by have := HND.out.2; omega) w1 Y _ (HT1.out.low (Nat.zero_le _)) HBY1.out).mono ?_
    rintro e w2 ⟨a, kb, kd, rfl, hsp, hb2⟩
    have HSH2 := hidIn (spoil_shaped (what.tdiv 4 % 5).toNat v s ⟨hv1, hv2⟩ t HSH.out a)
    have HCN2 : Hid ((spoilT (what.tdiv 4 % 5).toNat v s t a).1.cnt ≤ 70) := Nat.le_trans (spoil_cnt _ v s t a) HCN.out
    generalize (spoilT (what.tdiv 4 % 5).toNat v s t a).1 = t2 at *
    have hk2 := HY14.out.below hb2 HY14.out.lt
    obtain ⟨c0, c1, c2, c3⟩ : w2.cell? ⟨w1.heap.size, 0, none⟩ = some (.int .i64 t.kind) ∧ w2.cell? ⟨w1.heap.size, 1, none⟩ = some (.string t.s) ∧ w2.cell? ⟨w1.heap.size, 2, none⟩ = some (.int .i64 t.n) ∧ w2.cell? ⟨w1.heap.size, 3, none⟩ = some (.slice ka t.k.length kc) := ⟨hk2.cell 0, hk2.cell 1, hk2.cell 2, hk2.cell 3⟩
    have f0 := hk2.frozen 0
    have f1 := hk2.frozen 1
    have f2 := hk2.frozen 2
    have f3 := hk2.frozen 3
    have HTX : Hid (TIn ((((w2.setCell ⟨w1.heap.size, 0, none⟩ (.int .i64 t2.kind)).setCell ⟨w1.heap.size, 1, none⟩ (.string t2.s)).setCell ⟨w1.heap.size, 2, none⟩ (.int .i64 t2.n)).setCell ⟨w1.heap.size, 3, none⟩ (.slice kb t2.k.length kd)) 0 t2 (.agg (four t2 kb kd))) := hsp _ (fun b o c hb hc => by have := HYS.out; rw [set4_cell' (by omega)]; exact hc)
    have HBX : Hid (Below W.heap.size W ((((w2.setCell ⟨w1.heap.size, 0, none⟩ (.int .i64 t2.kind)).setCell ⟨w1.heap.size, 1, none⟩ (.string t2.s)).setCell ⟨w1.heap.size, 2, none⟩ (.int .i64 t2.n)).setCell ⟨w1.heap.size, 3, none⟩ (.slice kb t2.k.length kd))) := by
      have h1 : Below W.heap.size W w2 := HB1.out.trans ((HBY1.out.trans (hb2.mono HBY1.out.size)).mono HB1.out.size)
      have hs := HB1.out.size
      exact (((h1.setCell hs _).setCell hs _).setCell hs _).setCell hs _
    clear hsp hb2 hk2
    unfold four
    go_wp2_with fail
    refine (obsT_any t2 HSH2.out _ _ HTX.out).mono ?_
    rintro e w3 ⟨rfl, hb3⟩
    have HB3 : Hid (Below W.heap.size W w3) := HBX.out.trans (hb3.mono HBX.out.size)
    have HO0 := hidIn (obsOf_ok t2 HSH2.out)
    have HN0 : Hid ((obsOf t2).nodes ≤ 70) := by have h1 := obsOf_nodes t2; have h2 := HCN2.out; show _ ≤ _; omega
    clear hb3
    generalize obsOf t2 = o0 at *
    by_cases hodd : odd.tmod 9 = 8
    · have hodd' : (odd.tmod 9 == 8) = true := by rw [hodd]; rfl
      have hdv : -9223372036854775808 ≤ odd.tdiv 9 ∧ odd.tdiv 9 ≤ 9223372036854775807 := tdiv_in odd 9 (by omega) ho1 ho2
      have hwr : IntKind.i64.wrap (odd.tdiv 9) = odd.tdiv 9 := wrap_small _ hdv.1 hdv.2
      have q0 := o0.one' HO0.out
      have cv0 := q0.cells
      have mv0 := q0.cells
      unfold Value.cells at mv0
      go_wp2_with fail
      refine (odd_any _ w3 hdv.1 hdv.2).mono ?_
      rintro e w5 ⟨o5, rfl, hok5, h51, hb5⟩
      obtain ⟨o, ho⟩ : ∃ o, o = O.add o0 o5 := ⟨_, rfl⟩
      have HOK : Hid o.Ok := by rw [ho]; exact ⟨HO0.out, hok5⟩
      have HON : Hid (o.nodes ≤ 1000) := by
        rw [ho]
        have h1 := HN0.out
        rcases h51 with rfl | ⟨v, rfl⟩
        · simp only [O.nodes]; show _ ≤ _; omega
        · simp only [O.nodes]; show _ ≤ _; omega
      have HOV : Hid (o.val = .iface 34 (.agg #[o0.val, o5.val])) := by rw [ho]; rfl
      have HB3' : Hid (Below W.heap.size W w5) := HB3.out.trans (hb5.mono HB3.out.size)
      clear HB3
      have HB3 := HB3'
      have q5 := o5.one' hok5
      have cv5 := q5.cells
      have mv5 := q5.cells
      unfold Value.cells at mv5
      clear hb5 hok5 h51 ho q5 q0
      go_wp2_with fail
      rw [← HOV.out]
      refine (plainO_any o HOK.out _).mono ?_
      rintro e w4 ⟨la, lc, rfl, ht4, hb4⟩
      have HT4 := hidIn ht4
      have hb4' : Below W.heap.size W w4 := HB3.out.trans (hb4.mono HB3.out.size)
      have hZ4 := HZ.out.below hb4' HZ.out.lt
      obtain ⟨⟨z0, z1, z2, z3⟩, f0, f1, f2, f3⟩ := blk_zero hZ4
      have HZ4 := hidIn hZ4
      have HB4 := hidIn hb4'
      have HS3 := hidIn HB3.out.size
      clear ht4 hb4 hb4' hZ4
      go_wp2_with fail
      refine bodyPost_ret (results_slot_cell rfl _ _ (w.heap.size + 1) 52 (four (plain o) la lc) (0, 0) _ rfl ?blk Try.underlying52 rfl infoT) rfl ?post
      case blk => change Blk _ _ _ _; unfold four; (with_reducible exact blk_set4' HZ4.out _ _ _ _)
      case post =>
        have hWS := HWS.out
        have hs3 := HS3.out
        have hbw : Below w.heap.size w w4 := HB.out.trans (HB4.out.mono HB.out.size)
        refine ⟨o, la, lc, rfl, HOK.out, HON.out, ?_, ?_⟩
        · refine HT4.out.kept (by omega) (fun k x c hk hc => ?_)
          rw [set4_cell' (by omega)]
          exact hc
        · (repeat first | with_reducible exact hbw | with_reducible refine below_set ?_ (by omega) _ _)
    · have hodd' : (odd.tmod 9 == 8) = false := by rw [beq_eq_false_iff_ne]; exact hodd
      obtain ⟨o, ho⟩ : ∃ o, o = o0 := ⟨_, rfl⟩
      subst ho
      have HOK := HO0
      have HON : Hid (o.nodes ≤ 1000) := by have h1 := HN0.out; show _ ≤ _; omega
      go_wp2_with fail
      refine (plainO_any o HOK.out _).mono ?_
      rintro e w4 ⟨la, lc, rfl, ht4, hb4⟩
      have HT4 := hidIn ht4
      have hb4' : Below W.heap.size W w4 := HB3.out.trans (hb4.mono HB3.out.size)
      have hZ4 := HZ.out.below hb4' HZ.out.lt
      obtain ⟨⟨z0, z1, z2, z3⟩, f0, f1, f2, f3⟩ := blk_zero hZ4
      have HZ4 := hidIn hZ4
      have HB4 := hidIn hb4'
      have HS3 := hidIn HB3.out.size
      clear ht4 hb4 hb4' hZ4
      go_wp2_with fail
      refine bodyPost_ret (results_slot_cell rfl _ _ (w.heap.size + 1) 52 (four (plain o) la lc) (0, 0) _ rfl ?blk Try.underlying52 rfl infoT) rfl ?post
      case blk => change Blk _ _ _ _; unfold four; (with_reducible exact blk_set4' HZ4.out _ _ _ _)
      case post =>
        have hWS := HWS.out
        have hs3 := HS3.out
        have hbw : Below w.heap.size w w4 := HB.out.trans (HB4.out.mono HB.out.size)
        refine ⟨o, la, lc, rfl, HOK.out, HON.out, ?_, ?_⟩
        · refine HT4.out.kept (by omega) (fun k x c hk hc => ?_)
          rw [set4_cell' (by omega)]
          exact hc
        · (repeat first | with_reducible exact hbw | with_reducible refine below_set ?_ (by omega) _ _)
  · have hwt' : (what.tmod 4 == 0) = false := by rw [beq_eq_false_iff_ne]; exact hwt
    go_wp2_with fail
    have HSH2 := HSH
    have HCN2 := HCN
    have HTX : Hid (TIn (w1.alloc (.cells #[.int .i64 t.kind, .string t.s, .int .i64 t.n, .slice ka t.k.length kc] 52)) 0 t (.agg (four t ka kc))) := (HT1.out.below (below_alloc (Below.refl _ _) _)).low (Nat.zero_le _)
    have HBX : Hid (Below W.heap.size W (w1.alloc (.cells #[.int .i64 t.kind, .string t.s, .int .i64 t.n, .slice ka t.k.length kc] 52))) := below_alloc HB1.out _
    refine (obsT_any t HSH2.out _ _ HTX.out).mono ?_
    rintro e w3 ⟨rfl, hb3⟩
    have HB3 : Hid (Below W.heap.size W w3) := HBX.out.trans (hb3.mono HBX.out.size)
    have HO0 := hidIn (obsOf_ok t HSH2.out)
    have HN0 : Hid ((obsOf t).nodes ≤ 70) := by have h1 := obsOf_nodes t; have h2 := HCN2.out; show _ ≤ _; omega
    clear hb3
    generalize obsOf t = o0 at *
    by_cases hodd : odd.tmod 9 = 8
    · have hodd' : (odd.tmod 9 == 8) = true := by rw [hodd]; rfl
      have hdv : -9223372036854775808 ≤ odd.tdiv 9 ∧ odd.tdiv 9 ≤ 9223372036854775807 := tdiv_in odd 9 (by omega) ho1 ho2
      have hwr : IntKind.i64.wrap (odd.tdiv 9) = odd.tdiv 9 := wrap_small _ hdv.1 hdv.2
      have q0 := o0.one' HO0.out
      have cv0 := q0.cells
      have mv0 := q0.cells
      unfold Value.cells at mv0
      go_wp2_with fail
      refine (odd_any _ w3 hdv.1 hdv.2).mono ?_
      rintro e w5 ⟨o5, rfl, hok5, h51, hb5⟩
      obtain ⟨o, ho⟩ : ∃ o, o = O.add o0 o5 := ⟨_, rfl⟩
      have HOK : Hid o.Ok := by rw [ho]; exact ⟨HO0.out, hok5⟩
      have HON : Hid (o.nodes ≤ 1000) := by
        rw [ho]
        have h1 := HN0.out
        rcases h51 with rfl | ⟨v, rfl⟩
        · simp only [O.nodes]; show _ ≤ _; omega
        · simp only [O.nodes]; show _ ≤ _; omega
      have HOV : Hid (o.val = .iface 34 (.agg #[o0.val, o5.val])) := by rw [ho]; rfl
      have HB3' : Hid (Below W.heap.size W w5) := HB3.out.trans (hb5.mono HB3.out.size)
      clear HB3
      have HB3 := HB3'
      have q5 := o5.one' hok5
      have cv5 := q5.cells
      have mv5 := q5.cells
      unfold Value.cells at mv5
      clear hb5 hok5 h51 ho q5 q0
      go_wp2_with fail
      rw [← HOV.out]
      refine (plainO_any o HOK.out _).mono ?_
      rintro e w4 ⟨la, lc, rfl, ht4, hb4⟩
      have HT4 := hidIn ht4
      have hb4' : Below W.heap.size W w4 := HB3.out.trans (hb4.mono HB3.out.size)
      have hZ4 := HZ.out.below hb4' HZ.out.lt
      obtain ⟨⟨z0, z1, z2, z3⟩, f0, f1, f2, f3⟩ := blk_zero hZ4
      have HZ4 := hidIn hZ4
      have HB4 := hidIn hb4'
      have HS3 := hidIn HB3.out.size
      clear ht4 hb4 hb4' hZ4
      go_wp2_with fail
      refine bodyPost_ret (results_slot_cell rfl _ _ (w.heap.size + 1) 52 (four (plain o) la lc) (0, 0) _ rfl ?blk Try.underlying52 rfl infoT) rfl ?post
      case blk => change Blk _ _ _ _; unfold four; (with_reducible exact blk_set4' HZ4.out _ _ _ _)
      case post =>
        have hWS := HWS.out
        have hs3 := HS3.out
        have hbw : Below w.heap.size w w4 := HB.out.trans (HB4.out.mono HB.out.size)
        refine ⟨o, la, lc, rfl, HOK.out, HON.out, ?_, ?_⟩
        · refine HT4.out.kept (by omega) (fun k x c hk hc => ?_)
          rw [set4_cell' (by omega)]
          exact hc
        · (repeat first | with_reducible exact hbw | with_reducible refine below_set ?_ (by omega) _ _)
    · have hodd' : (odd.tmod 9 == 8) = false := by rw [beq_eq_false_iff_ne]; exact hodd
      obtain ⟨o, ho⟩ : ∃ o, o = o0 := ⟨_, rfl⟩
      subst ho
      have HOK := HO0
      have HON : Hid (o.nodes ≤ 1000) := by have h1 := HN0.out; show _ ≤ _; omega
      go_wp2_with fail
      refine (plainO_any o HOK.out _).mono ?_
      rintro e w4 ⟨la, lc, rfl, ht4, hb4⟩
      have HT4 := hidIn ht4
      have hb4' : Below W.heap.size W w4 := HB3.out.trans (hb4.mono HB3.out.size)
      have hZ4 := HZ.out.below hb4' HZ.out.lt
      obtain ⟨⟨z0, z1, z2, z3⟩, f0, f1, f2, f3⟩ := blk_zero hZ4
      have HZ4 := hidIn hZ4
      have HB4 := hidIn hb4'
      have HS3 := hidIn HB3.out.size
      clear ht4 hb4 hb4' hZ4
      go_wp2_with fail
      refine bodyPost_ret (results_slot_cell rfl _ _ (w.heap.size + 1) 52 (four (plain o) la lc) (0, 0) _ rfl ?blk Try.underlying52 rfl infoT) rfl ?post
      case blk => change Blk _ _ _ _; unfold four; (with_reducible exact blk_set4' HZ4.out _ _ _ _)
      case post =>
        have hWS := HWS.out
        have hs3 := HS3.out
        have hbw : Below w.heap.size w w4 := HB.out.trans (HB4.out.mono HB.out.size)
        refine ⟨o, la, lc, rfl, HOK.out, HON.out, ?_, ?_⟩
        · refine HT4.out.kept (by omega) (fun k x c hk hc => ?_)
          rw [set4_cell' (by omega)]
          exact hc
        · (repeat first | with_reducible exact hbw | with_reducible refine below_set ?_ (by omega) _ _)

end Go.Proofs.Ytdlflpnjmldakaa
