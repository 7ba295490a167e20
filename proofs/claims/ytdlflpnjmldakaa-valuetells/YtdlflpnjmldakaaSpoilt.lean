/- A spoilt tree, as the statements make it. -/
import Derived.Test.YtdlflpnjmldakaaSpoil2
namespace Go.Proofs.Ytdlflpnjmldakaa
open Go.RowKit
set_option linter.unusedVariables false

def SpoiltPost (W0 w : World) (t : T) (q : Nat) (v : Int) (s : ByteArray) (e : Ending) (w' : World) : Prop :=
  ∃ a ka kc, e = .returned (.agg (four (spoilT q v s t a).1 ka kc)) ∧ Spread W0 w.heap.size w' (spoilT q v s t a).1 (.agg (four (spoilT q v s t a).1 ka kc)) ∧ Below w.heap.size w w'

set_option maxHeartbeats 2000000 in
set_option maxRecDepth 100000 in
theorem spoilt_any (t : T) (at' what v : Int) (s : ByteArray) (ha1 : -9223372036854775808 ≤ at') (ha2 : at' ≤ 9223372036854775807) (hw1 : -9223372036854775808 ≤ what) (hw2 : what ≤ 9223372036854775807) (hs : s.size ≤ maxLen) (hcnt : t.cnt ≤ 999990) (hn1 : 1 ≤ t.nodes) (hn2 : t.nodes ≤ 1000000) (W0 w : World) (x : Value) (hx : TIn W0 0 t x) (hb : Below W0.heap.size W0 w) :
    Calls Try.prog 31 #[x, .int .i64 at', .int .i64 what, .int .i64 v, .string s] w (SpoiltPost W0 w t (what % 5).toNat v s) := by
  have HB0 := hidIn hb
  clear hb
  have HX := hidIn hx
  obtain ⟨ao, cap, rfl, _, _, _⟩ := hx
  have HCNT := hidIn hcnt
  have HSS := hidIn hs
  clear hs hcnt
  go_enter Try.func31, Try.ntmps31
  go_wp2_with fail
  obtain ⟨W, hW⟩ : ∃ W, W = (w.alloc (.cells #[.int .i64 t.kind, .string t.s, .int .i64 t.n, .slice ao t.k.length cap] 52)).alloc (.cells #[.int .i64 0, .string ⟨#[]⟩, .int .i64 0, .slice none 0 0] 52) := ⟨_, rfl⟩
  have HB : Hid (Below w.heap.size w W) := by rw [hW]; exact below_alloc (below_alloc (Below.refl _ _) _) _
  have HP : Hid (Blk W w.heap.size 52 #[.int .i64 t.kind, .string t.s, .int .i64 t.n, .slice ao t.k.length cap]) := by rw [hW]; exact blk_keep (blk_new rfl) _
  have HZ : Hid (Blk W (w.heap.size + 1) 52 zeroT) := by rw [hW]; exact blk_new (by simp)
  have HWS : Hid (W.heap.size = w.heap.size + 2) := by unfold Hid; rw [hW]; simp
  have HXW := hidIn (HX.out.below (HB0.out.trans (HB.out.mono HB0.out.size)))
  rw [← hW]
  clear hW
  refine (refSize_any t W _ HXW.out hn2).mono ?_
  rintro e w2 ⟨rfl, hb2⟩
  have hP := HP.out.below hb2 HP.out.lt
  have hZ := HZ.out.below hb2 HZ.out.lt
  have c0 := hP.cell 0
  have c1 := hP.cell 1
  have c2 := hP.cell 2
  have c3 := hP.cell 3
  obtain ⟨⟨z0, z1, z2, z3⟩, f0, f1, f2, f3⟩ := blk_zero hZ
  have HB2 := hidIn hb2
  have hn1' : (1 : Int) ≤ (t.nodes : Int) := by omega
  have hn2' : (t.nodes : Int) ≤ 4611686018427387904 := by omega
  have hm0 := Int.emod_nonneg at' (show (t.nodes : Int) ≠ 0 by omega)
  have hm1 := Int.emod_lt_of_pos at' (show 0 < (t.nodes : Int) by omega)
  have hsz2 : w.heap.size + 2 ≤ w2.heap.size := by have := HWS.out; have := hb2.size; omega
  clear hb2 hP hZ
  go_wp2_with fail
  obtain ⟨Y, hY⟩ : ∃ Y, Y = w2.alloc (.cells #[.int .i64 0, .string ⟨#[]⟩, .int .i64 0, .slice none 0 0] 52) := ⟨_, rfl⟩
  have HBY : Hid (Below W.heap.size W Y) := by rw [hY]; exact below_alloc HB2.out _
  have hYZ : Blk Y w2.heap.size 52 zeroT := by rw [hY]; exact blk_new rfl
  have HYZ := hidIn hYZ
  have hYP := HP.out.below HBY.out HP.out.lt
  rw [← hY]
  clear hY c0 c1 c2 c3 z0 z1 z2 z3 f0 f1 f2 f3
  have hYc : ∀ k, k < 4 → ∀ X, X = Y ∨ X = Y.drew → X.cell? ⟨w.heap.size, k, none⟩ = (#[.int .i64 t.kind, .string t.s, .int .i64 t.n, .slice ao t.k.length cap] : Array Value)[k]? := by
    rintro k _ X (rfl | rfl)
    · exact hYP.cell k
    · exact hYP.cell k
  have c0 := hYP.cell 0
  have c1 := hYP.cell 1
  have c2 := hYP.cell 2
  have c3 := hYP.cell 3
  clear hYc hYP hYZ
  have HC : Hid (∀ X, Below Y.heap.size Y X → Calls Try.prog 55 #[.agg #[.int .i64 t.kind, .string t.s, .int .i64 t.n, .slice ao t.k.length cap], .int .i64 (at' % (t.nodes : Int)), .int .i64 what, .int .i64 v, .string s] X (fun e w5 => ∃ ka kc t' A, e = .returned (.tuple #[.agg #[.int .i64 t'.kind, .string t'.s, .int .i64 t'.n, .slice ka t'.k.length kc], .int .i64 A]) ∧ t' = (spoilT (what % 5).toNat v s t (at' % (t.nodes : Int))).1 ∧ Spread W0 Y.heap.size w5 t' (.agg (four t' ka kc)) ∧ Below Y.heap.size Y w5)) := by
    intro X hX
    have hwX : Below W0.heap.size W0 X := HB0.out.trans ((HB.out.trans ((HBY.out.trans (hX.mono HBY.out.size)).mono HB.out.size)).mono HB0.out.size)
    refine (spoil_any what v s hw1 hw2 HSS.out W0 t HCNT.out _ hm0 (by omega) X _ HX.out hwX).mono ?_
    rintro e w5 ⟨ka, kc, rfl, hsp, hb5⟩
    exact ⟨ka, kc, _, _, rfl, rfl, hsp.low hX.size, hX.trans (hb5.mono hX.size)⟩
  have hltY : w.heap.size + 1 < Y.heap.size := by have := HWS.out; have := HBY.out.size; omega
  have hlt2 : w2.heap.size < Y.heap.size := HYZ.out.lt
  have HZY : Hid (Blk Y (w.heap.size + 1) 52 zeroT) := HZ.out.below HBY.out HZ.out.lt
  clear HX HXW HCNT HSS
  have hne : w.heap.size + 1 ≠ w2.heap.size := by have := HWS.out; have := HB2.out.size; omega
  go_region_with (first | (go_at_call 8; refine calls_same (within_any _ _ _ hn1' hn2' ha1 ha2) ?_) | (go_at_call 55; refine (HC.out _ (by first | exact below_drew (Below.refl _ _) | exact Below.refl _ _)).mono ?_; rintro e w5 ⟨ka, kc, t', A, rfl, hteq, hsp, hb5⟩; have hZ5 := HYZ.out.below hb5 HYZ.out.lt; have hR5 := HZY.out.below hb5 HZY.out.lt; obtain ⟨⟨z0, z1, z2, z3⟩, f0, f1, f2, f3⟩ := blk_zero hZ5; obtain ⟨⟨y0, y1, y2, y3⟩, e0, e1, e2, e3⟩ := blk_zero hR5; have HR5 := hidIn hR5; have HSP := hidIn hsp; have HB5 := hidIn hb5; have HTE := hidIn hteq; clear hZ5 hR5 hsp hb5 hteq))
  all_goals
    go_wp2_with fail
    refine bodyPost_ret (results_cell_row rfl _ _ (w.heap.size + 1) 52 #[.int .i64 t'.kind, .string t'.s, .int .i64 t'.n, .slice ka t'.k.length kc] (0, 0) _ rfl ?blk Try.underlying52 rfl infoT) rfl ?post
    case blk => change Blk _ _ _ _; (with_reducible refine blk_set4' ?_ _ _ _ _); (repeat first | with_reducible exact HR5.out | with_reducible refine blk_other ?_ hne _ _)
    case post =>
      have hte := HTE.out
      refine ⟨at' % (t.nodes : Int), ka, kc, ?_, ?_, ?_⟩
      · rw [← hte]; rfl
      · rw [← hte]
        have hW0 := HB0.out.size
        intro X hX
        refine HSP.out X (fun b o c hb hc => hX b o c (by omega) ?_)
        rw [World.cell?_setCell_other _ _ _ _ (by intro e; injection e with e; omega), World.cell?_setCell_other _ _ _ _ (by intro e; injection e with e; omega), World.cell?_setCell_other _ _ _ _ (by intro e; injection e with e; omega), World.cell?_setCell_other _ _ _ _ (by intro e; injection e with e; omega), World.cell?_setCell_other _ _ _ _ (by intro e; injection e with e; omega), World.cell?_setCell_other _ _ _ _ (by intro e; injection e with e; omega), World.cell?_setCell_other _ _ _ _ (by intro e; injection e with e; omega), World.cell?_setCell_other _ _ _ _ (by intro e; injection e with e; omega)]
        exact hc
      · have hb3 : Below w.heap.size w w5 := HB.out.trans ((HBY.out.trans (HB5.out.mono HBY.out.size)).mono HB.out.size)
        (repeat first | with_reducible exact hb3 | with_reducible refine below_set ?_ (by omega) _ _)

end Go.Proofs.Ytdlflpnjmldakaa
