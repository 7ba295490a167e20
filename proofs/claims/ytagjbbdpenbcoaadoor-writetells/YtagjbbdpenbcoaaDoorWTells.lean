/- The walk of the statement WriteTells. -/
import Derived.Test.YtagjbbdpenbcoaaDoorRefWrite
import Derived.Test.YtagjbbdpenbcoaaDoorSome5
import Derived.Test.YtagjbbdpenbcoaaDoorSome4
import Derived.Test.YtagjbbdpenbcoaaDoorWLong
namespace Go.Proofs.YtagjbbdpenbcoaaDoor
open Go.RowKit
set_option linter.unusedVariables false

set_option maxHeartbeats 4000000 in
set_option maxRecDepth 100000 in
theorem writeTells_walk (p : Pl) (at' what v : Int) (s : ByteArray) (odd : Int) (w : World) (hp : PlanIn w p) (ha1 : -9223372036854775808 ≤ at') (ha2 : at' ≤ 9223372036854775807) (hw1 : -9223372036854775808 ≤ what) (hw2 : what ≤ 9223372036854775807) (hv1 : -9223372036854775808 ≤ v) (hv2 : v ≤ 9223372036854775807) (hs : s.size ≤ 140737488351232) (ho1 : -9223372036854775808 ≤ odd) (ho2 : odd ≤ 9223372036854775807) (ht : TabW w) :
    Calls Tryd.prog 5 #[planV p, .int .i64 at', .int .i64 what, .int .i64 v, .string s, .int .i64 odd] w fun e w' => e = .returned (.bool true) ∧ Below w.heap.size w w' := by
  have HP := hidIn hp
  have HTB := hidIn ht
  have HSS : Hid (s.size ≤ maxLen) := by unfold Hid maxLen; omega
  clear hp hs ht
  have HC1 : Hid (∀ W, PlanIn W p → Calls Tryd.prog 18 #[.agg #[.slice p.na p.nl p.nc, .slice p.wa p.wl p.wc], .int .i64 at', .int .i64 what, .int .i64 v, .string s, .int .i64 odd] W (SomePostC W)) := fun W hW => some5_any p at' what v s odd W hW ha1 ha2 hw1 hw2 hv1 hv2 HSS.out ho1 ho2
  have HC2 : Hid (∀ W, PlanIn W p → Calls Tryd.prog 19 #[.agg #[.slice p.na p.nl p.nc, .slice p.wa p.wl p.wc], .int .i64 at', .int .i64 what, .int .i64 v, .string s, .int .i64 odd] W (SomePost W)) := fun W hW => some4_any p at' what v s odd W hW ha1 ha2 hw1 hw2 hv1 hv2 HSS.out ho1 ho2
  clear ha1 ha2 hw1 hw2 hv1 hv2 ho1 ho2 HSS
  unfold planV
  go_enter Tryd.func5, Tryd.ntmps5
  go_upto_region 1 with fail
  obtain ⟨W, hW⟩ : ∃ W, W = w.alloc (.cells #[.slice p.na p.nl p.nc, .slice p.wa p.wl p.wc] 25) := ⟨_, rfl⟩
  have HB : Hid (Below w.heap.size w W) := by rw [hW]; exact below_alloc (Below.refl _ _) _
  have HBP : Hid (Blk W w.heap.size 25 #[.slice p.na p.nl p.nc, .slice p.wa p.wl p.wc]) := by rw [hW]; exact blk_new rfl
  have c0 : W.cell? ⟨w.heap.size, 0, none⟩ = some (.slice p.na p.nl p.nc) := HBP.out.cell 0
  have c1 : W.cell? ⟨w.heap.size, 1, none⟩ = some (.slice p.wa p.wl p.wc) := HBP.out.cell 1
  have HPW := hidIn (HP.out.below HB.out)
  rw [← hW]
  clear hW HP
  go_upto_region 2 with fail
  refine (HC1.out W HPW.out).mono ?_
  rintro e w1 ⟨c, ka, kc, rfl, hok1, hn1, ht1, hb1⟩
  have HOK1 := hidIn hok1
  have HN1 := hidIn hn1
  have HT1 := hidIn ht1
  have HB1 := hidIn hb1
  have hbq := HBP.out.below hb1 HBP.out.lt
  have HQ1 := hidIn (HPW.out.below hb1)
  clear hok1 hn1 ht1 hb1 c0 c1
  go_upto_region 2 with fail
  obtain ⟨W2, hW2⟩ : ∃ W2, W2 = w1.alloc (.cells #[.int .i64 (plainC c).kind, .string (plainC c).s, .int .i64 (plainC c).n, .slice ka (plainC c).k.length kc] 30) := ⟨_, rfl⟩
  have HBW2 : Hid (Below w1.heap.size w1 W2) := by rw [hW2]; exact below_alloc (Below.refl _ _) _
  have HP18 : Hid (Blk W2 w1.heap.size 30 #[.int .i64 (plainC c).kind, .string (plainC c).s, .int .i64 (plainC c).n, .slice ka (plainC c).k.length kc]) := by rw [hW2]; exact blk_new rfl
  have hb2 := hbq.below HBW2.out hbq.lt
  have e0 : W2.cell? ⟨w.heap.size, 0, none⟩ = some (.slice p.na p.nl p.nc) := hb2.cell 0
  have e1 : W2.cell? ⟨w.heap.size, 1, none⟩ = some (.slice p.wa p.wl p.wc) := hb2.cell 1
  have HQ2 := hidIn (HQ1.out.below HBW2.out)
  rw [← hW2]
  clear hW2 hbq hb2
  go_upto_region 3 with fail
  refine (HC2.out W2 HQ2.out).mono ?_
  rintro e w3 ⟨o, la, lc, rfl, hok3, hn3, ht3, hb3⟩
  have HOK3 := hidIn hok3
  have HN3 := hidIn hn3
  have HT3 := hidIn ht3
  have HB3 := hidIn hb3
  clear hok3 hn3 ht3 hb3 e0 e1
  go_upto_region 3 with fail
  obtain ⟨W4, hW4⟩ : ∃ W4, W4 = w3.alloc (.cells #[.int .i64 (plain o).kind, .string (plain o).s, .int .i64 (plain o).n, .slice la (plain o).k.length lc] 30) := ⟨_, rfl⟩
  have HBW4 : Hid (Below w3.heap.size w3 W4) := by rw [hW4]; exact below_alloc (Below.refl _ _) _
  have HP20 : Hid (Blk W4 w3.heap.size 30 #[.int .i64 (plain o).kind, .string (plain o).s, .int .i64 (plain o).n, .slice la (plain o).k.length lc]) := by rw [hW4]; exact blk_new rfl
  have HP18W : Hid (Blk W4 w1.heap.size 30 #[.int .i64 (plainC c).kind, .string (plainC c).s, .int .i64 (plainC c).n, .slice ka (plainC c).k.length kc]) := by
    have h3 := HP18.out.below HB3.out HP18.out.lt
    exact h3.below HBW4.out h3.lt
  have HW4 : Hid (Below w1.heap.size w1 W4) := HBW2.out.trans ((HB3.out.trans (HBW4.out.mono HB3.out.size)).mono HBW2.out.size)
  have HW : Hid (Below w.heap.size w W4) := HB.out.trans ((HB1.out.trans (HW4.out.mono HB1.out.size)).mono HB.out.size)
  have HTW : Hid (∀ X, Below W4.heap.size W4 X → TabW X) := fun X hX => tabW_below HTB.out (HW.out.trans (hX.mono HW.out.size))
  have HCX : Hid (∀ X, Below W4.heap.size W4 X → TIn X 0 (plainC c) (.agg #[.int .i64 (plainC c).kind, .string (plainC c).s, .int .i64 (plainC c).n, .slice ka (plainC c).k.length kc])) := fun X hX => (HT1.out.below (HW4.out.trans (hX.mono HW4.out.size))).low (Nat.zero_le _)
  have HOX : Hid (∀ X, Below W4.heap.size W4 X → TIn X 0 (plain o) (.agg #[.int .i64 (plain o).kind, .string (plain o).s, .int .i64 (plain o).n, .slice la (plain o).k.length lc])) := fun X hX => (HT3.out.below (HBW4.out.trans (hX.mono HBW4.out.size))).low (Nat.zero_le _)
  have HGC : Hid (∀ X, Below W4.heap.size W4 X → ∀ i, X.cell? ⟨w1.heap.size, i, none⟩ = (#[.int .i64 (plainC c).kind, .string (plainC c).s, .int .i64 (plainC c).n, .slice ka (plainC c).k.length kc] : Array Value)[i]?) := fun X hX i => (HP18W.out.below hX HP18W.out.lt).cell i
  have HGO : Hid (∀ X, Below W4.heap.size W4 X → ∀ i, X.cell? ⟨w3.heap.size, i, none⟩ = (#[.int .i64 (plain o).kind, .string (plain o).s, .int .i64 (plain o).n, .slice la (plain o).k.length lc] : Array Value)[i]?) := fun X hX i => (HP20.out.below hX HP20.out.lt).cell i
  rw [← hW4]
  clear hW4 HC1 HC2 HT1 HT3 HBW2 HBW4 HB3 HB1 HB HP18 HP18W HP20 HQ2 HQ1 HPW HBP HW4 HTB
  have HB0 : Hid (Below W4.heap.size W4 W4) := Below.refl _ _
  go_upto_region 4 with fail
  refine (writeC_any c HOK1.out (by have := HN1.out; omega) W4 (HTW.out _ HB0.out)).mono ?_
  rintro e x1 ⟨rfl, hb1⟩
  have HX1 := hidIn hb1
  have k0 := HGC.out x1 hb1 0
  have k1 := HGC.out x1 hb1 1
  have k2 := HGC.out x1 hb1 2
  have k3 := HGC.out x1 hb1 3
  simp at k0 k1 k2 k3
  clear hb1
  go_upto_region 5 with fail
  refine (refWriteC_any c HOK1.out (by have := HN1.out; omega) x1 _ (HCX.out x1 HX1.out)).mono ?_
  rintro e x2 ⟨rfl, hb2⟩
  have HX2 := hidIn (HX1.out.trans (hb2.mono HX1.out.size))
  clear hb2 k0 k1 k2 k3
  go_upto_region 6 with fail
  refine (writeO_any o HOK3.out (by have := HN3.out; omega) x2 (HTW.out _ HX2.out)).mono ?_
  rintro e x3 ⟨rfl, hb3⟩
  have HX3 := hidIn (HX2.out.trans (hb3.mono HX2.out.size))
  have k0 := HGO.out x3 HX3.out 0
  have k1 := HGO.out x3 HX3.out 1
  have k2 := HGO.out x3 HX3.out 2
  have k3 := HGO.out x3 HX3.out 3
  simp at k0 k1 k2 k3
  clear hb3
  go_upto_region 7 with fail
  refine (refWriteO_any o HOK3.out (by have := HN3.out; omega) x3 _ (HOX.out x3 HX3.out)).mono ?_
  rintro e x4 ⟨rfl, hb4⟩
  have HX4 := hidIn (HX3.out.trans (hb4.mono HX3.out.size))
  have HT4 := hidIn (HTW.out _ HX4.out)
  clear hb4 k0 k1 k2 k3
  generalize wTextC c = t1 at *
  generalize wErrC c = n1 at *
  generalize wText o = t2 at *
  generalize wErr o = n2 at *
  go_wp2_with fail
  refine (wakes6_any x4 HT4.out).mono ?_
  rintro e x5 ⟨rfl, hb5⟩
  go_wp2_with fail
  go_ret
  have h5 := HX4.out.trans (hb5.mono HX4.out.size)
  exact ⟨rfl, HW.out.trans (h5.mono HW.out.size)⟩

end Go.Proofs.YtagjbbdpenbcoaaDoor
