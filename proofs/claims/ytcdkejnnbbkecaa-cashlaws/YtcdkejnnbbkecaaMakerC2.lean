/- The contract that a plan makes: given, from a day on. -/
import Derived.Test.YtcdkejnnbbkecaaMakerC0
namespace Go.Proofs.Ytcdkejnnbbkecaa
open Go.RowKit
set_option linter.unusedVariables false

set_option maxHeartbeats 1000000 in
set_option maxRecDepth 100000 in
theorem mterm_give (w0 w : World) (M : Nat) (p : Pl) (d i : Nat) (left : Int) (label : Nat) (N : Nat) (ih : LessC w0 M p d N) (h : MIn w0 w M p i left label) (hN : N ≤ 100000) (hi : i + 20 + 3 * N ≤ 800000) (hl1 : -800000 + 3 * (N : Int) + 20 ≤ left) (hl2 : left ≤ 800000) (hlb : label + 20 + 3 * N ≤ 800000) (hd : d ≤ 1000) (hb1 : ∀ i left label, (conO p d i left label).2.1 ≤ i + N ∧ left - N ≤ (conO p d i left label).2.2.1 ∧ (conO p d i left label).2.2.1 ≤ left ∧ (conO p d i left label).2.2.2 ≤ label + N) (hk : kT p (d + 1) i left = 3 ∨ kT p (d + 1) i left = 4)
    (res : CR) (hres : res = conO p (d + 1) i left label) :
    Calls Try.prog 28 #[.pointer (some ⟨M, 0, none⟩), .int .i64 ((d : Int) + 1)] w (MPostC w0 w M p res) := by
  have hkk := kT_deep p (d + 1) i left (by omega)
  obtain ⟨_, hl0, hq⟩ := hkk
  obtain ⟨K, hK⟩ : ∃ K, kT p (d + 1) i left = K := ⟨_, rfl⟩
  rw [hK] at hq hk
  have HQ : Hid (nth p i % (13 : Nat) = (K : Int)) := hq
  have HRES0 : Hid (res = conO p (d + 1) i left label) := hres
  have HKT := hidIn hK
  have HIH : Hid (LessC w0 M p d N) := ih
  obtain ⟨g0, g1, g2, g3, gf⟩ := h.cells
  have hMw := h.blk.lt
  have hMne : ¬ M = w.heap.size := by omega
  have h3 : ∀ o, (w.alloc o).cell? ⟨M, 3, none⟩ = some (.int .i64 left) := fun o => (Below.cell (below_alloc (Below.refl _ _) _) (p := ⟨M, 3, none⟩) hMw).trans g3
  have hf3 : ∀ o, (w.alloc o).frozen? ⟨M, 3, none⟩ = false := fun o => (Below.frozen (below_alloc (Below.refl _ _) _) (p := ⟨M, 3, none⟩) hMw).trans (gf 3)
  have HMA : Hid (MIn w0 ((w.setCell ⟨M, 3, none⟩ (.int .i64 (left - 1))).alloc (.cells zeroT 30)) M p i (left - 1) label) := (h.setLeft _).alloc _
  have HZ : Hid (Blk ((w.setCell ⟨M, 3, none⟩ (.int .i64 (left - 1))).alloc (.cells zeroT 30)) w.heap.size 30 zeroT) := blk_new (by simp)
  have HGA : Hid (Grew M none w ((w.setCell ⟨M, 3, none⟩ (.int .i64 (left - 1))).alloc (.cells zeroT 30))) := ((Grew.refl _ _ _).set _ _).alloc _
  have HO : Hid (w0.heap.size ≤ w.heap.size) := by have := h.old; show _ ≤ _; omega
  have HMW := hidIn hMw
  have hl0' : ¬ left - 1 ≤ 0 := by omega
  have hd' : ¬ (d : Int) + 1 ≤ 0 := by omega
  have hdd : decide ((d : Int) + 1 ≤ 0) = false := decide_eq_false hd'
  clear h g0 g1 g2 g3 gf hq hres ih hK
  go_enter Try.func28, Try.ntmps28
  go_wp2_with fail
  refine (mn_any w0 _ M p i (left - 1) label 13 HMA.out (by omega) (by omega) (by omega)).mono ?_
  rintro e w2 ⟨rfl, hm2, hg2⟩
  rw [HQ.out]
  obtain ⟨g0, g1, g2, g3, gf⟩ := hm2.cells
  obtain ⟨w3, hw3⟩ : ∃ w3, w3 = w2.alloc (.cells zeroT 30) := ⟨_, rfl⟩
  have HP3 : Hid (Pre w0 w w3 M p (i + 1) (left - 1) label w2.heap.size) := by
    rw [hw3]
    have hz2 := HZ.out.grew hg2 (fun e => hMne e.symm)
    exact ⟨hm2.alloc _, (HGA.out.trans hg2 (.inl rfl)).alloc _, (Below.heap_alloc _ _ _ hz2.lt).trans hz2, blk_new rfl, hz2.lt, HMW.out, HO.out⟩
  have HS3 : Hid (w2.heap.size < w3.heap.size) := by rw [hw3]; show _ < _; simp
  unfold zeroT at hw3
  clear g0 g1 g2 gf hm2 hg2 h3 hf3 HGA HZ HMA HQ hMw
  have HRES : Hid (res = (.give (conO p d (i + 1) (left - 1) label).1, (conO p d (i + 1) (left - 1) label).2)) := by
    have h0 := HKT.out
    unfold Hid
    rw [HRES0.out, conO, if_neg (by omega), if_neg (by omega), if_pos (by omega)]
  clear HRES0 HKT
  rcases hk with rfl | rfl
  all_goals
    go_wp2_with fail
    rw [← hw3]
    have HC := HIH.out w3 (i + 1) (left - 1) label HP3.out.min (by omega) (by omega) (by omega) (by omega)
    refine HC.mono ?_
    rintro e w4 ⟨v, rfl, ht4, hm4, hg4⟩
    clear HC
    have HP4 := hidIn (HP3.out.next hg4 hm4)
    generalize conO p d (i + 1) (left - 1) label = sub at *
    obtain ⟨c1, i1, l1, b1⟩ := sub
    simp only at ht4 hm4 HP4 HRES
    have ht4' := ht4
    obtain ⟨ka, kc, rfl, _, _, _⟩ := ht4'
    have HT4 : Hid (TIn w4 w3.heap.size (plainC c1) (.agg (four (plainC c1) ka kc))) := ht4
    clear ht4 hm4 hg4 hw3
    obtain ⟨⟨z0, z1, z2, z3⟩, f0, f1, f2, f3⟩ := blk_zero HP4.out.res
    obtain ⟨⟨y0, y1, y2, y3⟩, e0, e1, e2, e3⟩ := blk_zero HP4.out.tmp
    have hRlt : w.heap.size < w4.heap.size := HP4.out.res.lt
    have hTlt : w2.heap.size < w4.heap.size := HP4.out.tmp.lt
    have hRT : ¬ w.heap.size = w2.heap.size := by have := HP4.out.lo; omega
    have hTR : ¬ w2.heap.size = w.heap.size := fun e => hRT e.symm
    have hfa : ∀ (X : World) (o : Obj) (k : Nat), w.heap.size < X.heap.size → (X.alloc o).frozen? ⟨w.heap.size, k, none⟩ = X.frozen? ⟨w.heap.size, k, none⟩ := fun X o k hX => (below_alloc (Below.refl _ _) o).frozen (p := ⟨w.heap.size, k, none⟩) hX
    have hfb : ∀ (X : World) (o : Obj) (k : Nat), w2.heap.size < X.heap.size → (X.alloc o).frozen? ⟨w2.heap.size, k, none⟩ = X.frozen? ⟨w2.heap.size, k, none⟩ := fun X o k hX => (below_alloc (Below.refl _ _) o).frozen (p := ⟨w2.heap.size, k, none⟩) hX
    go_wp2_with fail
    refine bodyPost_ret (results_cell_row rfl _ _ w.heap.size 30 #[.int .i64 3, .string ⟨#[]⟩, .int .i64 0, .slice (some ⟨w4.heap.size, 0, none⟩) 1 1] (0, 0) _ rfl ?blk Try.underlying30 rfl infoT) rfl ?post
    case blk =>
      change Blk _ _ _ _
      first | (with_reducible refine blk_set4 ?_ _ _ _ _ _) | (with_reducible refine blk_set4' ?_ _ _ _ _)
      (repeat (first | (with_reducible exact HP4.out.res) | (with_reducible refine blk_other ?_ hRT _ _) | (with_reducible refine blk_keep ?_ _) | (with_reducible refine blk_drew ?_)))
    case post =>
      rw [HRES.out]
      refine HP4.out.fin1 ?_ (.give c1) rfl HT4.out HS3.out (Nat.le_of_lt hRlt) ?_
      all_goals first | ((repeat (first | (with_reducible exact Near.refl _ _ _) | (with_reducible refine Near.setR ?_ _ _) | (with_reducible refine Near.setT ?_ _ _) | (with_reducible refine Near.alloc ?_ _) | (with_reducible refine Near.drew ?_))); done) | exact blk_new (by simp)
set_option maxHeartbeats 1000000 in
set_option maxRecDepth 100000 in
theorem mterm_when (w0 w : World) (M : Nat) (p : Pl) (d i : Nat) (left : Int) (label : Nat) (N : Nat) (ih : LessC w0 M p d N) (h : MIn w0 w M p i left label) (hN : N ≤ 100000) (hi : i + 20 + 3 * N ≤ 800000) (hl1 : -800000 + 3 * (N : Int) + 20 ≤ left) (hl2 : left ≤ 800000) (hlb : label + 20 + 3 * N ≤ 800000) (hd : d ≤ 1000) (hb1 : ∀ i left label, (conO p d i left label).2.1 ≤ i + N ∧ left - N ≤ (conO p d i left label).2.2.1 ∧ (conO p d i left label).2.2.1 ≤ left ∧ (conO p d i left label).2.2.2 ≤ label + N) (hk : kT p (d + 1) i left = 11)
    (res : CR) (hres : res = conO p (d + 1) i left label) :
    Calls Try.prog 28 #[.pointer (some ⟨M, 0, none⟩), .int .i64 ((d : Int) + 1)] w (MPostC w0 w M p res) := by
  have hkk := kT_deep p (d + 1) i left (by omega)
  obtain ⟨_, hl0, hq⟩ := hkk
  obtain ⟨K, hK⟩ : ∃ K, kT p (d + 1) i left = K := ⟨_, rfl⟩
  rw [hK] at hq hk
  have HQ : Hid (nth p i % (13 : Nat) = (K : Int)) := hq
  have HRES0 : Hid (res = conO p (d + 1) i left label) := hres
  have HKT := hidIn hK
  have HIH : Hid (LessC w0 M p d N) := ih
  obtain ⟨g0, g1, g2, g3, gf⟩ := h.cells
  have hMw := h.blk.lt
  have hMne : ¬ M = w.heap.size := by omega
  have h3 : ∀ o, (w.alloc o).cell? ⟨M, 3, none⟩ = some (.int .i64 left) := fun o => (Below.cell (below_alloc (Below.refl _ _) _) (p := ⟨M, 3, none⟩) hMw).trans g3
  have hf3 : ∀ o, (w.alloc o).frozen? ⟨M, 3, none⟩ = false := fun o => (Below.frozen (below_alloc (Below.refl _ _) _) (p := ⟨M, 3, none⟩) hMw).trans (gf 3)
  have HMA : Hid (MIn w0 ((w.setCell ⟨M, 3, none⟩ (.int .i64 (left - 1))).alloc (.cells zeroT 30)) M p i (left - 1) label) := (h.setLeft _).alloc _
  have HZ : Hid (Blk ((w.setCell ⟨M, 3, none⟩ (.int .i64 (left - 1))).alloc (.cells zeroT 30)) w.heap.size 30 zeroT) := blk_new (by simp)
  have HGA : Hid (Grew M none w ((w.setCell ⟨M, 3, none⟩ (.int .i64 (left - 1))).alloc (.cells zeroT 30))) := ((Grew.refl _ _ _).set _ _).alloc _
  have HO : Hid (w0.heap.size ≤ w.heap.size) := by have := h.old; show _ ≤ _; omega
  have HMW := hidIn hMw
  have hl0' : ¬ left - 1 ≤ 0 := by omega
  have hd' : ¬ (d : Int) + 1 ≤ 0 := by omega
  have hdd : decide ((d : Int) + 1 ≤ 0) = false := decide_eq_false hd'
  clear h g0 g1 g2 g3 gf hq hres ih hK
  go_enter Try.func28, Try.ntmps28
  go_wp2_with fail
  refine (mn_any w0 _ M p i (left - 1) label 13 HMA.out (by omega) (by omega) (by omega)).mono ?_
  rintro e w2 ⟨rfl, hm2, hg2⟩
  rw [HQ.out]
  obtain ⟨g0, g1, g2, g3, gf⟩ := hm2.cells
  obtain ⟨w3, hw3⟩ : ∃ w3, w3 = w2.alloc (.cells zeroT 30) := ⟨_, rfl⟩
  have HP3 : Hid (Pre w0 w w3 M p (i + 1) (left - 1) label w2.heap.size) := by
    rw [hw3]
    have hz2 := HZ.out.grew hg2 (fun e => hMne e.symm)
    exact ⟨hm2.alloc _, (HGA.out.trans hg2 (.inl rfl)).alloc _, (Below.heap_alloc _ _ _ hz2.lt).trans hz2, blk_new rfl, hz2.lt, HMW.out, HO.out⟩
  have HS3 : Hid (w2.heap.size < w3.heap.size) := by rw [hw3]; show _ < _; simp
  unfold zeroT at hw3
  clear g0 g1 g2 gf hm2 hg2 h3 hf3 HGA HZ HMA HQ hMw
  have HRES : Hid (res = (.when (nth p (i + 1) % 8) (conO p d (i + 2) (left - 1) label).1, (conO p d (i + 2) (left - 1) label).2)) := by
    have h0 := HKT.out
    unfold Hid
    rw [HRES0.out, conO, if_neg (by omega), if_neg (by omega), if_neg (by omega), if_neg (by omega), if_neg (by omega), if_neg (by omega), if_pos (by omega)]
  obtain ⟨x, hx⟩ : ∃ x : Int, nth p (i + 1) % (8 : Nat) = x := ⟨_, rfl⟩
  have HX : Hid (nth p (i + 1) % (8 : Nat) = x) := hx
  have HX8 : Hid (nth p (i + 1) % 8 = x) := hx
  clear HRES0 HKT hx
  subst hk
  go_wp2_with fail
  rw [← hw3]
  refine (mn_any w0 _ M p (i + 1) (left - 1) label 8 HP3.out.min (by omega) (by omega) (by omega)).mono ?_
  rintro e w4 ⟨rfl, hm4, hg4⟩
  rw [HX.out]
  have HP4 := hidIn (HP3.out.next hg4 hm4)
  have HS4 : Hid (w2.heap.size < w4.heap.size) := Nat.lt_of_lt_of_le HS3.out hg4.size
  clear hm4 hg4 hw3
  go_wp2_with fail
  have HC := HIH.out w4 (i + 2) (left - 1) label HP4.out.min (by omega) (by omega) (by omega) (by omega)
  refine HC.mono ?_
  rintro e w5 ⟨v, rfl, ht5, hm5, hg5⟩
  clear HC
  have HP5 := hidIn (HP4.out.next hg5 hm5)
  generalize conO p d (i + 2) (left - 1) label = sub at *
  obtain ⟨c1, i1, l1, b1⟩ := sub
  simp only at ht5 hm5 HP5 HRES
  have ht5' := ht5
  obtain ⟨ka, kc, rfl, _, _, _⟩ := ht5'
  have HT5 : Hid (TIn w5 w4.heap.size (plainC c1) (.agg (four (plainC c1) ka kc))) := ht5
  clear ht5 hm5 hg5
  obtain ⟨⟨z0, z1, z2, z3⟩, f0, f1, f2, f3⟩ := blk_zero HP5.out.res
  obtain ⟨⟨y0, y1, y2, y3⟩, e0, e1, e2, e3⟩ := blk_zero HP5.out.tmp
  have hRlt : w.heap.size < w5.heap.size := HP5.out.res.lt
  have hTlt : w2.heap.size < w5.heap.size := HP5.out.tmp.lt
  have hRT : ¬ w.heap.size = w2.heap.size := by have := HP5.out.lo; omega
  have hTR : ¬ w2.heap.size = w.heap.size := fun e => hRT e.symm
  have hfa : ∀ (X : World) (o : Obj) (k : Nat), w.heap.size < X.heap.size → (X.alloc o).frozen? ⟨w.heap.size, k, none⟩ = X.frozen? ⟨w.heap.size, k, none⟩ := fun X o k hX => (below_alloc (Below.refl _ _) o).frozen (p := ⟨w.heap.size, k, none⟩) hX
  have hfb : ∀ (X : World) (o : Obj) (k : Nat), w2.heap.size < X.heap.size → (X.alloc o).frozen? ⟨w2.heap.size, k, none⟩ = X.frozen? ⟨w2.heap.size, k, none⟩ := fun X o k hX => (below_alloc (Below.refl _ _) o).frozen (p := ⟨w2.heap.size, k, none⟩) hX
  go_wp2_with fail
  refine bodyPost_ret (results_cell_row rfl _ _ w.heap.size 30 #[.int .i64 7, .string ⟨#[]⟩, .int .i64 x, .slice (some ⟨w5.heap.size, 0, none⟩) 1 1] (0, 0) _ rfl ?blk Try.underlying30 rfl infoT) rfl ?post
  case blk =>
    change Blk _ _ _ _
    first | (with_reducible refine blk_set4 ?_ _ _ _ _ _) | (with_reducible refine blk_set4' ?_ _ _ _ _)
    (repeat (first | (with_reducible exact HP5.out.res) | (with_reducible refine blk_other ?_ hRT _ _) | (with_reducible refine blk_keep ?_ _) | (with_reducible refine blk_drew ?_)))
  case post =>
    rw [HRES.out]
    rw [HX8.out]; refine HP5.out.fin1 ?_ (.when x c1) rfl HT5.out HS4.out (Nat.le_of_lt hRlt) ?_
    all_goals first | ((repeat (first | (with_reducible exact Near.refl _ _ _) | (with_reducible refine Near.setR ?_ _ _) | (with_reducible refine Near.setT ?_ _ _) | (with_reducible refine Near.alloc ?_ _) | (with_reducible refine Near.drew ?_))); done) | exact blk_new (by simp)

end Go.Proofs.Ytcdkejnnbbkecaa
