/- The contract that a plan makes: both. -/
import Derived.Test.YtkioolbjmcpjpaaGreatDoorMakerC0
namespace Go.Proofs.YtkioolbjmcpjpaaGreatDoor
open Go.RowKit
set_option linter.unusedVariables false

theorem four_cells {W : World} {b ty : Nat} {t : T} {ka : Option Addr} {kc : Nat} (h : Blk W b ty (four t ka kc)) : W.cell? ⟨b, 0, none⟩ = some (.int .i64 t.kind) ∧ W.cell? ⟨b, 1, none⟩ = some (.string t.s) ∧ W.cell? ⟨b, 2, none⟩ = some (.int .i64 t.n) ∧ W.cell? ⟨b, 3, none⟩ = some (.slice ka t.k.length kc) := ⟨h.cell 0, h.cell 1, h.cell 2, h.cell 3⟩
/-- As things stand behind the last part. -/
structure AfterC (w0 w X w5 : World) (M : Nat) (p : Pl) (i : Nat) (left : Int) (label : Nat) (Tc : Nat) (u : T) (la : Option Addr) (lc : Nat) : Prop where
  pre : Pre w0 w w5 M p i left label Tc
  call : Grew M none X w5
  snd : TIn w5 X.heap.size u (.agg (four u la lc))
  tb : Tc < X.heap.size
theorem lessC_at {w0 w W X : World} {M : Nat} {p : Pl} {d N i Tc : Nat} {left : Int} {label : Nat} (ih : LessC w0 M p d N) (hp : Pre w0 w W M p i left label Tc) (hX : Below W.heap.size W X) (h1 : i ≤ 800000 - N) (h2 : -800000 + (N : Int) ≤ left) (h3 : left ≤ 800000) (h4 : label ≤ 800000 - N) {c : C} {i2 : Nat} {l2 : Int} {b2 : Nat} (hc : conO p d i left label = (c, i2, l2, b2)) :
    Calls Tryz.prog 83 #[.pointer (some ⟨M, 0, none⟩), .int .i64 d] X (fun e w5 => ∃ la lc, e = .returned (.agg #[.int .i64 (plainC c).kind, .string (plainC c).s, .int .i64 (plainC c).n, .slice la (plainC c).k.length lc]) ∧ AfterC w0 w X w5 M p i2 l2 b2 Tc (plainC c) la lc) := by
  have hm : MIn w0 X M p i left label := hp.min.next (Grew.of_below hX) (hp.min.blk.below hX hp.min.blk.lt)
  have hpX : Pre w0 w X M p i left label Tc := hp.next (Grew.of_below hX) hm
  have hC := ih X i left label hm h1 h2 h3 h4
  rw [hc] at hC
  refine hC.mono ?_
  rintro e w5 ⟨v, rfl, ht, hm5, hg5⟩
  have ht' := ht
  obtain ⟨la, lc, rfl, _, _, _⟩ := ht'
  exact ⟨la, lc, rfl, hpX.next hg5 hm5, hg5, ht, hpX.tmp.lt⟩

set_option maxHeartbeats 2000000 in
set_option maxRecDepth 100000 in
theorem mterm_and (w0 w : World) (M : Nat) (p : Pl) (d i : Nat) (left : Int) (label : Nat) (N : Nat) (ih : LessC w0 M p d N) (h : MIn w0 w M p i left label) (hN : N ≤ 100000) (hi : i + 20 + 3 * N ≤ 800000) (hl1 : -800000 + 3 * (N : Int) + 20 ≤ left) (hl2 : left ≤ 800000) (hlb : label + 20 + 3 * N ≤ 800000) (hd : d ≤ 1000) (hb1 : ∀ i left label, (conO p d i left label).2.1 ≤ i + N ∧ left - N ≤ (conO p d i left label).2.2.1 ∧ (conO p d i left label).2.2.1 ≤ left ∧ (conO p d i left label).2.2.2 ≤ label + N) (hk : kT p (d + 1) i left = 5 ∨ kT p (d + 1) i left = 6)
    (res : CR) (hres : res = conO p (d + 1) i left label) :
    Calls Tryz.prog 83 #[.pointer (some ⟨M, 0, none⟩), .int .i64 ((d : Int) + 1)] w (MPostC w0 w M p res) := by
  have hkk := kT_deep p (d + 1) i left (by omega)
  obtain ⟨_, hl0, hq⟩ := hkk
  obtain ⟨K, hK⟩ : ∃ K, kT p (d + 1) i left = K := ⟨_, rfl⟩
  rw [hK] at hq hk
  have HQ : Hid (nth p i % (13 : Nat) = (K : Int)) := hq
  have HRES0 : Hid (res = conO p (d + 1) i left label) := hres
  have HKT := hidIn hK
  have HIH : Hid (LessC w0 M p d N) := ih
  obtain ⟨g0, g1, g2, g3, gf⟩ := h.cells
  have hMw := h.blk.lt
  have hMne : ¬ M = w.heap.size := by omega
  have h3 : ∀ o, (w.alloc o).cell? ⟨M, 3, none⟩ = some (.int .i64 left) := fun o => (Below.cell (below_alloc (Below.refl _ _) _) (p := ⟨M, 3, none⟩) hMw).trans g3
  have hf3 : ∀ o, (w.alloc o).frozen? ⟨M, 3, none⟩ = false := fun o => (Below.frozen (below_alloc (Below.refl _ _) _) (p := ⟨M, 3, none⟩) hMw).trans (gf 3)
  have HMA : Hid (MIn w0 ((w.setCell ⟨M, 3, none⟩ (.int .i64 (left - 1))).alloc (.cells zeroT 33)) M p i (left - 1) label) := (h.setLeft _).alloc _
  have HZ : Hid (Blk ((w.setCell ⟨M, 3, none⟩ (.int .i64 (left - 1))).alloc (.cells zeroT 33)) w.heap.size 33 zeroT) := blk_new (by simp)
  have HGA : Hid (Grew M none w ((w.setCell ⟨M, 3, none⟩ (.int .i64 (left - 1))).alloc (.cells zeroT 33))) := ((Grew.refl _ _ _).set _ _).alloc _
  have HO : Hid (w0.heap.size ≤ w.heap.size) := by have := h.old; show _ ≤ _; omega
  have HMW := hidIn hMw
  have hl0' : ¬ left - 1 ≤ 0 := by omega
  have hd' : ¬ (d : Int) + 1 ≤ 0 := by omega
  have hdd : decide ((d : Int) + 1 ≤ 0) = false := decide_eq_false hd'
  clear h g0 g1 g2 g3 gf hq hres ih hK
  go_enter Tryz.func83, Tryz.ntmps83
  go_wp2_with fail
  refine (mn_any w0 _ M p i (left - 1) label 13 HMA.out (by omega) (by omega) (by omega)).mono ?_
  rintro e w2 ⟨rfl, hm2, hg2⟩
  rw [HQ.out]
  obtain ⟨g0, g1, g2, g3, gf⟩ := hm2.cells
  obtain ⟨w3, hw3⟩ : ∃ w3, w3 = w2.alloc (.cells zeroT 33) := ⟨_, rfl⟩
  have HP3 : Hid (Pre w0 w w3 M p (i + 1) (left - 1) label w2.heap.size) := by
    rw [hw3]
    have hz2 := HZ.out.grew hg2 (fun e => hMne e.symm)
    exact ⟨hm2.alloc _, (HGA.out.trans hg2 (.inl rfl)).alloc _, (Below.heap_alloc _ _ _ hz2.lt).trans hz2, blk_new rfl, hz2.lt, HMW.out, HO.out⟩
  have HS3 : Hid (w2.heap.size < w3.heap.size) := by rw [hw3]; show _ < _; simp
  unfold zeroT at hw3
  clear g0 g1 g2 gf hm2 hg2 h3 hf3 HGA HZ HMA HQ hMw
  have HRES : Hid (res = (.and (conO p d (i + 1) (left - 1) label).1 (conO p d (conO p d (i + 1) (left - 1) label).2.1 (conO p d (i + 1) (left - 1) label).2.2.1 (conO p d (i + 1) (left - 1) label).2.2.2).1, (conO p d (conO p d (i + 1) (left - 1) label).2.1 (conO p d (i + 1) (left - 1) label).2.2.1 (conO p d (i + 1) (left - 1) label).2.2.2).2)) := by
    have h0 := HKT.out
    unfold Hid
    rw [HRES0.out, conO, if_neg (by omega), if_neg (by omega), if_neg (by omega), if_pos (by omega)]
  have HB1 := hidIn (hb1 (i + 1) (left - 1) label)
  clear HRES0 HKT
  have HM3 : Hid (M < w3.heap.size) := by have := HP3.out.old; have := HP3.out.lo; have := HS3.out; show _ < _; omega
  have hRT : ¬ w.heap.size = w2.heap.size := by have := HP3.out.lo; omega
  have hTR : ¬ w2.heap.size = w.heap.size := fun e => hRT e.symm
  have hfa : ∀ (X : World) (o : Obj) (k : Nat), w.heap.size < X.heap.size → (X.alloc o).frozen? ⟨w.heap.size, k, none⟩ = X.frozen? ⟨w.heap.size, k, none⟩ := fun X o k hX => (below_alloc (Below.refl _ _) o).frozen (p := ⟨w.heap.size, k, none⟩) hX
  have hfb : ∀ (X : World) (o : Obj) (k : Nat), w2.heap.size < X.heap.size → (X.alloc o).frozen? ⟨w2.heap.size, k, none⟩ = X.frozen? ⟨w2.heap.size, k, none⟩ := fun X o k hX => (below_alloc (Below.refl _ _) o).frozen (p := ⟨w2.heap.size, k, none⟩) hX
  have hw1 : IntKind.i64.wrap ((d : Int) + 1 - 1) = (d : Int) := by rw [IntKind.wrap_i64]; omega
  have hw4 : IntKind.i64.wrap (d : Int) = (d : Int) := by rw [IntKind.wrap_i64]; omega
  rcases hk with rfl | rfl
  all_goals
    go_wp2_with fail
    rw [← hw3]
    clear hw3
    have HC := HIH.out w3 (i + 1) (left - 1) label HP3.out.min (by omega) (by omega) (by omega) (by omega)
    refine HC.mono ?_
    rintro e w4 ⟨v, rfl, ht4, hm4, hg4⟩
    clear HC
    have HP4 := hidIn (HP3.out.next hg4 hm4)
    generalize conO p d (i + 1) (left - 1) label = sub at *
    obtain ⟨c1, i1, l1, b1⟩ := sub
    simp only at ht4 hm4 HP4 HRES HB1
    have ht4' := ht4
    obtain ⟨ka, kc, rfl, _, _, _⟩ := ht4'
    have HT4 : Hid (TIn w4 w3.heap.size (plainC c1) (.agg (four (plainC c1) ka kc))) := ht4
    have HS4 : Hid (w3.heap.size ≤ w4.heap.size) := hg4.size
    clear ht4 hm4 hg4
    go_wp2_with fail
    have hM4 : ¬ w4.heap.size = M := by have := HP4.out.min.blk.lt; omega
    have hT4 : ¬ w4.heap.size = w2.heap.size := by have := HP4.out.tmp.lt; omega
    have hT4' : ¬ w2.heap.size = w4.heap.size := fun e => hT4 e.symm
    have HPW := hidIn (HP4.out.next ((Grew.refl _ _ _).alloc (.cells (four (plainC c1) ka kc) 33)) (HP4.out.min.alloc (.cells (four (plainC c1) ka kc) 33)))
    obtain ⟨sub2, hs2⟩ : ∃ r, conO p d i1 l1 b1 = r := ⟨_, rfl⟩
    rw [hs2] at HRES
    obtain ⟨c2, i2, l2, b2⟩ := sub2
    simp only at HRES
    have HC2 : Hid (∀ X, Below (w4.alloc (.cells (four (plainC c1) ka kc) 33)).heap.size (w4.alloc (.cells (four (plainC c1) ka kc) 33)) X → _) := fun X hX => lessC_at HIH.out HPW.out hX (by have := HB1.out; omega) (by have := HB1.out; omega) (by have := HB1.out; omega) (by have := HB1.out; omega) hs2
    clear hs2
    go_region_with (go_at_call 83; refine (HC2.out _ (by first | exact below_drew (Below.refl _ _) | exact Below.refl _ _)).mono ?_; rintro e w5 ⟨la, lc, rfl, hA⟩; have HA := hidIn hA; have hlt4 : w4.heap.size < w5.heap.size := (by have := hA.call.size; simp at this; omega); obtain ⟨k0, k1, k2, k3⟩ := four_cells (Blk.grew (blk_drew (blk_new (cs := four (plainC c1) ka kc) (t := 33) rfl)) hA.call hM4); have HF1 := hidIn ((HT4.out.below (below_drew (below_alloc (Below.refl _ _) _))).grew hA.call HM3.out); have hRlt : w.heap.size < w5.heap.size := hA.pre.res.lt; have hTlt : w2.heap.size < w5.heap.size := hA.pre.tmp.lt; obtain ⟨⟨z0, z1, z2, z3⟩, f0, f1, f2, f3⟩ := blk_zero hA.pre.res; obtain ⟨⟨y0, y1, y2, y3⟩, e0, e1, e2, e3⟩ := blk_zero hA.pre.tmp; clear hA)
    all_goals
      go_wp2_with fail
      refine bodyPost_ret (results_cell_row rfl _ _ w.heap.size 33 #[.int .i64 4, .string ⟨#[]⟩, .int .i64 0, .slice (some ⟨w5.heap.size, 0, none⟩) 2 2] (0, 0) _ rfl ?blk Tryz.underlying33 rfl infoT) rfl ?post
      case blk =>
        change Blk _ _ _ _
        first | (with_reducible refine blk_set4 ?_ _ _ _ _ _) | (with_reducible refine blk_set4' ?_ _ _ _ _)
        (repeat (first | (with_reducible exact HA.out.pre.res) | (with_reducible refine blk_other ?_ hRT _ _) | (with_reducible refine blk_keep ?_ _) | (with_reducible refine blk_drew ?_)))
      case post =>
        rw [HRES.out]
        refine HA.out.pre.fin2 ?_ (.and c1 c2) rfl HF1.out HS3.out HA.out.snd HA.out.tb (Nat.le_of_lt hRlt) ?_
        all_goals first | ((repeat (first | (with_reducible exact Near.refl _ _ _) | (with_reducible refine Near.setR ?_ _ _) | (with_reducible refine Near.setT ?_ _ _) | (with_reducible refine Near.alloc ?_ _) | (with_reducible refine Near.drew ?_))); done) | exact blk_new (by simp)

end Go.Proofs.YtkioolbjmcpjpaaGreatDoor
