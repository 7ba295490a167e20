/- The contract that a plan makes: zero, one. -/
import Derived.Test.YtcdkejnnbbkecaaMakerC0
namespace Go.Proofs.Ytcdkejnnbbkecaa
open Go.RowKit
set_option linter.unusedVariables false

theorem near_fold (w : World) (R : Nat) (a b c d : Value) (o o' : Obj) : Near R w.heap.size (w.alloc o) (((((w.setCell ⟨R, 0, none⟩ a).setCell ⟨R, 1, none⟩ b).setCell ⟨R, 2, none⟩ c).setCell ⟨R, 3, none⟩ d).alloc o') := by
  refine ⟨rfl, rfl, rfl, by simp, fun k hk h1 h2 => ?_⟩
  rw [World.size_alloc] at hk
  have hk2 : k < w.heap.size := by omega
  rw [Below.heap_alloc _ _ _ (by simpa using hk2), Below.heap_alloc _ _ _ hk2, heap_setCell_other _ ⟨R, 3, none⟩ k _ h1, heap_setCell_other _ ⟨R, 2, none⟩ k _ h1, heap_setCell_other _ ⟨R, 1, none⟩ k _ h1, heap_setCell_other _ ⟨R, 0, none⟩ k _ h1]

set_option maxHeartbeats 2000000 in
set_option maxRecDepth 100000 in
theorem mterm_leaf (w0 w : World) (M : Nat) (p : Pl) (d i : Nat) (left : Int) (label : Nat) (h : MIn w0 w M p i left label) (hi : i + 20 ≤ 800000) (hl1 : -800000 + 20 ≤ left) (hl2 : left ≤ 800000) (hd : d ≤ 1000) (hk : kT p d i left ≤ 2)
    (res : CR) (hres : res = if kT p d i left ≤ 1 then (.one (curOf p (i + 1)), i + 2, left - 1, label) else (.zero, i + 1, left - 1, label)) :
    Calls Try.prog 28 #[.pointer (some ⟨M, 0, none⟩), .int .i64 d] w (MPostC w0 w M p res) := by
  obtain ⟨q, hq⟩ : ∃ q : Nat, nth p i % 13 = q := ⟨(nth p i % 13).toNat, by omega⟩
  have hq13 : q < 13 := by omega
  obtain ⟨K, hK⟩ : ∃ K, kT p d i left = K := ⟨_, rfl⟩
  have hkq : K = if d = 0 ∨ left - 1 ≤ 0 then q % 3 else q := by rw [← hK]; unfold kT; rw [hq]; simp
  rw [hK] at hk hres
  have HKQ := hidIn hkq
  have HQ : Hid (nth p i % (13 : Nat) = (q : Int)) := hq
  have HRES0 : Hid (res = if K ≤ 1 then (.one (curOf p (i + 1)), i + 2, left - 1, label) else (.zero, i + 1, left - 1, label)) := hres
  obtain ⟨g0, g1, g2, g3, gf⟩ := h.cells
  have hMw := h.blk.lt
  have hMne : ¬ M = w.heap.size := by omega
  have h3 : ∀ o, (w.alloc o).cell? ⟨M, 3, none⟩ = some (.int .i64 left) := fun o => (Below.cell (below_alloc (Below.refl _ _) _) (p := ⟨M, 3, none⟩) hMw).trans g3
  have hf3 : ∀ o, (w.alloc o).frozen? ⟨M, 3, none⟩ = false := fun o => (Below.frozen (below_alloc (Below.refl _ _) _) (p := ⟨M, 3, none⟩) hMw).trans (gf 3)
  have HMA : Hid (MIn w0 ((w.setCell ⟨M, 3, none⟩ (.int .i64 (left - 1))).alloc (.cells zeroT 30)) M p i (left - 1) label) := (h.setLeft _).alloc _
  have HZ : Hid (Blk ((w.setCell ⟨M, 3, none⟩ (.int .i64 (left - 1))).alloc (.cells zeroT 30)) w.heap.size 30 zeroT) := blk_new (by simp)
  have HGA : Hid (Grew M none w ((w.setCell ⟨M, 3, none⟩ (.int .i64 (left - 1))).alloc (.cells zeroT 30))) := ((Grew.refl _ _ _).set _ _).alloc _
  have HO : Hid (w0.heap.size ≤ w.heap.size) := by have := h.old; show _ ≤ _; omega
  have HMW := hidIn hMw
  clear h g0 g1 g2 g3 gf hq hres hK hkq
  go_enter Try.func28, Try.ntmps28
  go_wp2_with fail
  refine (mn_any w0 _ M p i (left - 1) label 13 HMA.out (by omega) (by omega) (by omega)).mono ?_
  rintro e w2 ⟨rfl, hm2, hg2⟩
  rw [HQ.out]
  obtain ⟨g0, g1, g2, g3, gf⟩ := hm2.cells
  obtain ⟨w3, hw3⟩ : ∃ w3, w3 = w2.alloc (.cells zeroT 30) := ⟨_, rfl⟩
  have HP3 : Hid (Pre w0 w w3 M p (i + 1) (left - 1) label w2.heap.size) := by
    rw [hw3]
    have hz2 := HZ.out.grew hg2 (fun e => hMne e.symm)
    exact ⟨hm2.alloc _, (HGA.out.trans hg2 (.inl rfl)).alloc _, (Below.heap_alloc _ _ _ hz2.lt).trans hz2, blk_new rfl, hz2.lt, HMW.out, HO.out⟩
  have HS3 : Hid (w2.heap.size < w3.heap.size) := by rw [hw3]; show _ < _; simp
  have HZ2 := hidIn (HZ.out.grew hg2 (fun e => hMne e.symm))
  have HS4 : Hid (w2.heap.size + 1 = w3.heap.size) := by rw [hw3]; show _ = _; simp
  unfold zeroT at hw3
  clear g0 g1 g2 gf hm2 hg2 h3 hf3 HGA HZ HMA HQ hMw
  obtain ⟨b0, hb0⟩ : ∃ b0 : Bool, (b0 = true ∧ (d = 0 ∨ (¬ d = 0 ∧ left - 1 ≤ 0))) ∨ (b0 = false ∧ ¬ d = 0 ∧ ¬ left - 1 ≤ 0) := by
    by_cases hc : d = 0 ∨ left - 1 ≤ 0
    · exact ⟨true, .inl ⟨rfl, by omega⟩⟩
    · exact ⟨false, .inr ⟨rfl, by omega, by omega⟩⟩
  go_upto_region 3 with fail
  go_cut [31] (fun s31 wx => s31 = .bool b0 ∧ w2 = wx)
  case first =>
    rcases hb0 with ⟨rfl, hd0 | ⟨hd0, hl0⟩⟩ | ⟨rfl, hd0, hl0⟩
    · have hd' : (d : Int) ≤ 0 := by omega
      have hdd : decide ((d : Int) ≤ 0) = true := decide_eq_true hd'
      go_wp2_with fail
      go_meet
      case rel => exact ⟨rfl, rfl⟩
    · have hd' : ¬ (d : Int) ≤ 0 := by omega
      have hdd : decide ((d : Int) ≤ 0) = false := decide_eq_false hd'
      go_wp2_with fail
      go_meet
      case rel => exact ⟨by first | rfl | exact congrArg Value.bool (decide_eq_true (by omega)), rfl⟩
    · have hd' : ¬ (d : Int) ≤ 0 := by omega
      have hdd : decide ((d : Int) ≤ 0) = false := decide_eq_false hd'
      go_wp2_with fail
      go_meet
      case rel => exact ⟨by first | rfl | exact congrArg Value.bool (decide_eq_false (by omega)), rfl⟩
  case rest =>
   obtain ⟨rfl, rfl⟩ := hcut
   go_upto_if 31 with fail
   go_cut [5] (fun s5 wx => s5 = .int .i64 K ∧ w2 = wx)
   case first =>
    have hkq := HKQ.out
    rcases hb0 with ⟨rfl, hc⟩ | ⟨rfl, hd0, hl0⟩
    · have hmod1 : Int.tmod (q : Int) 3 = (K : Int) := by rw [hkq, if_pos (by omega)]; rfl
      have hmod2 : (q : Int) % 3 = (K : Int) := by rw [hkq, if_pos (by omega)]; rfl
      clear hkq
      go_wp2_with fail
      go_meet
      case rel => exact ⟨rfl, rfl⟩
    · have hqK : (q : Int) = (K : Int) := by rw [hkq, if_neg (by omega)]
      clear hkq
      go_wp2_with fail
      go_meet
      case rel => exact ⟨by rw [hqK], rfl⟩
   case rest =>
    obtain ⟨rfl, rfl⟩ := hcut
    have hk3 : K = 0 ∨ K = 1 ∨ K = 2 := by omega
    have hRT : ¬ w.heap.size = w2.heap.size := by have := HP3.out.lo; omega
    have hTR : ¬ w2.heap.size = w.heap.size := fun e => hRT e.symm
    rcases hk3 with rfl | rfl | rfl
    · have HRES : Hid (res = (.one (curOf p (i + 1)), i + 2, left - 1, label)) := by unfold Hid; rw [HRES0.out, if_pos (by omega)]
      go_wp2_with fail
      rw [← hw3]
      refine (mcur_any w0 (w3.alloc (.cells cur3 9)) M (w2.heap.size + 1) p (i + 1) (left - 1) label (HP3.out.min.alloc _) (by omega) (blk_new (cs := cur3) HS4.out) (by have := HP3.out.min.blk.lt; have := HS4.out; omega)).mono ?_
      rintro e w4 ⟨rfl, hm4, hg4⟩
      have HP4 := hidIn ((HP3.out.next ((Grew.refl _ _ _).alloc _) (HP3.out.min.alloc _)).next hg4 hm4)
      clear hm4 hg4 hw3
      generalize curOf p (i + 1) = S at *
      obtain ⟨⟨z0, z1, z2, z3⟩, f0, f1, f2, f3⟩ := blk_zero HP4.out.res
      obtain ⟨⟨y0, y1, y2, y3⟩, e0, e1, e2, e3⟩ := blk_zero HP4.out.tmp
      have hRlt : w.heap.size < w4.heap.size := HP4.out.res.lt
      have hTlt : w2.heap.size < w4.heap.size := HP4.out.tmp.lt
      have hfa : ∀ (X : World) (o : Obj) (k : Nat), w.heap.size < X.heap.size → (X.alloc o).frozen? ⟨w.heap.size, k, none⟩ = X.frozen? ⟨w.heap.size, k, none⟩ := fun X o k hX => (below_alloc (Below.refl _ _) o).frozen (p := ⟨w.heap.size, k, none⟩) hX
      have hfb : ∀ (X : World) (o : Obj) (k : Nat), w2.heap.size < X.heap.size → (X.alloc o).frozen? ⟨w2.heap.size, k, none⟩ = X.frozen? ⟨w2.heap.size, k, none⟩ := fun X o k hX => (below_alloc (Below.refl _ _) o).frozen (p := ⟨w2.heap.size, k, none⟩) hX
      go_wp2_with fail
      refine bodyPost_ret (results_cell_row rfl _ _ w.heap.size 30 #[.int .i64 2, .string S, .int .i64 0, .slice none 0 0] (0, 0) _ rfl ?blk Try.underlying30 rfl infoT) rfl ?post
      case blk =>
        change Blk _ _ _ _
        first | (with_reducible refine blk_set4 ?_ _ _ _ _ _) | (with_reducible refine blk_set4' ?_ _ _ _ _)
        (repeat (first | (with_reducible exact HP4.out.res) | (with_reducible refine blk_other ?_ hRT _ _) | (with_reducible refine blk_keep ?_ _) | (with_reducible refine blk_drew ?_)))
      case post =>
        rw [HRES.out]
        refine HP4.out.fin0 ?_ (.one S) rfl
        all_goals first | ((repeat (first | (with_reducible exact Near.refl _ _ _) | (with_reducible refine Near.setR ?_ _ _) | (with_reducible refine Near.setT ?_ _ _) | (with_reducible refine Near.alloc ?_ _) | (with_reducible refine Near.drew ?_))); done) | exact blk_new (by simp)
    · have HRES : Hid (res = (.one (curOf p (i + 1)), i + 2, left - 1, label)) := by unfold Hid; rw [HRES0.out, if_pos (by omega)]
      go_wp2_with fail
      rw [← hw3]
      refine (mcur_any w0 (w3.alloc (.cells cur3 9)) M (w2.heap.size + 1) p (i + 1) (left - 1) label (HP3.out.min.alloc _) (by omega) (blk_new (cs := cur3) HS4.out) (by have := HP3.out.min.blk.lt; have := HS4.out; omega)).mono ?_
      rintro e w4 ⟨rfl, hm4, hg4⟩
      have HP4 := hidIn ((HP3.out.next ((Grew.refl _ _ _).alloc _) (HP3.out.min.alloc _)).next hg4 hm4)
      clear hm4 hg4 hw3
      generalize curOf p (i + 1) = S at *
      obtain ⟨⟨z0, z1, z2, z3⟩, f0, f1, f2, f3⟩ := blk_zero HP4.out.res
      obtain ⟨⟨y0, y1, y2, y3⟩, e0, e1, e2, e3⟩ := blk_zero HP4.out.tmp
      have hRlt : w.heap.size < w4.heap.size := HP4.out.res.lt
      have hTlt : w2.heap.size < w4.heap.size := HP4.out.tmp.lt
      have hfa : ∀ (X : World) (o : Obj) (k : Nat), w.heap.size < X.heap.size → (X.alloc o).frozen? ⟨w.heap.size, k, none⟩ = X.frozen? ⟨w.heap.size, k, none⟩ := fun X o k hX => (below_alloc (Below.refl _ _) o).frozen (p := ⟨w.heap.size, k, none⟩) hX
      have hfb : ∀ (X : World) (o : Obj) (k : Nat), w2.heap.size < X.heap.size → (X.alloc o).frozen? ⟨w2.heap.size, k, none⟩ = X.frozen? ⟨w2.heap.size, k, none⟩ := fun X o k hX => (below_alloc (Below.refl _ _) o).frozen (p := ⟨w2.heap.size, k, none⟩) hX
      go_wp2_with fail
      refine bodyPost_ret (results_cell_row rfl _ _ w.heap.size 30 #[.int .i64 2, .string S, .int .i64 0, .slice none 0 0] (0, 0) _ rfl ?blk Try.underlying30 rfl infoT) rfl ?post
      case blk =>
        change Blk _ _ _ _
        first | (with_reducible refine blk_set4 ?_ _ _ _ _ _) | (with_reducible refine blk_set4' ?_ _ _ _ _)
        (repeat (first | (with_reducible exact HP4.out.res) | (with_reducible refine blk_other ?_ hRT _ _) | (with_reducible refine blk_keep ?_ _) | (with_reducible refine blk_drew ?_)))
      case post =>
        rw [HRES.out]
        refine HP4.out.fin0 ?_ (.one S) rfl
        all_goals first | ((repeat (first | (with_reducible exact Near.refl _ _ _) | (with_reducible refine Near.setR ?_ _ _) | (with_reducible refine Near.setT ?_ _ _) | (with_reducible refine Near.alloc ?_ _) | (with_reducible refine Near.drew ?_))); done) | exact blk_new (by simp)
    · have HRES : Hid (res = (.zero, i + 1, left - 1, label)) := by unfold Hid; rw [HRES0.out, if_neg (by omega)]
      obtain ⟨⟨z0, z1, z2, z3⟩, f0, f1, f2, f3⟩ := blk_zero HZ2.out
      have hR2 : w.heap.size < w2.heap.size := HZ2.out.lt
      have hfa : ∀ (X : World) (o : Obj) (k : Nat), w.heap.size < X.heap.size → (X.alloc o).frozen? ⟨w.heap.size, k, none⟩ = X.frozen? ⟨w.heap.size, k, none⟩ := fun X o k hX => (below_alloc (Below.refl _ _) o).frozen (p := ⟨w.heap.size, k, none⟩) hX
      go_wp2_with fail
      refine bodyPost_ret (results_cell_row rfl _ _ w.heap.size 30 #[.int .i64 1, .string ⟨#[]⟩, .int .i64 0, .slice none 0 0] (0, 0) _ rfl ?blk Try.underlying30 rfl infoT) rfl ?post
      case blk =>
        change Blk _ _ _ _
        with_reducible refine blk_set4 ?_ _ _ _ _ _
        exact HZ2.out
      case post =>
        rw [HRES.out]
        have hp := HP3.out
        rw [hw3] at hp
        refine hp.fin0 ?_ .zero rfl
        exact near_fold _ _ _ _ _ _ _ _

end Go.Proofs.Ytcdkejnnbbkecaa
