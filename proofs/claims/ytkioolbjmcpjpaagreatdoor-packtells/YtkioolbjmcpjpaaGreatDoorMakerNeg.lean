/- The number that a plan makes: the other sign of one. -/
import Derived.Test.YtkioolbjmcpjpaaGreatDoorMakerObs
namespace Go.Proofs.YtkioolbjmcpjpaaGreatDoor
open Go.RowKit
set_option linter.unusedVariables false

/-- What is known of the calls that go one less deep. -/
def Less (w0 : World) (M : Nat) (p : Pl) (label : Int) (d N : Nat) : Prop :=
  ∀ (w : World) (i : Nat) (left : Int), MIn w0 w M p i left label → i ≤ N → -1000000 + (900000 - N : Nat) ≤ left → left ≤ 1000000 → Calls Tryz.prog 121 #[.pointer (some ⟨M, 0, none⟩), .int .i64 d] w (MPost w0 w M p label (numO p d i left))
theorem TIn.grew {w w' : World} {B M : Nat} {t : T} {v : Value} (h : TIn w B t v) (hg : Grew M none w w') (hM : M < B) : TIn w' B t v :=
  h.kept (Nat.le_refl _) (fun b o x hb hc => by
    have hk := hg.block b (World.block_lt_of_cell? w _ hc) (by omega) (by simp)
    simp only [World.cell?, hk] at hc ⊢
    exact hc)
theorem TIn.set4 {w : World} {B R : Nat} {t : T} {v : Value} (h : TIn w B t v) (hR : R < B) (a b c d : Value) : TIn (set4 w R a b c d) B t v :=
  h.kept (Nat.le_refl _) (fun k o x hb hc => by rw [set4_cell a b c d (by omega : k ≠ R)]; exact hc)
/-- One part, in new memory. -/
theorem tin_one {w3 : World} {B R : Nat} {t : T} {ka : Option Addr} {kc : Nat} (h : TIn w3 B t (.agg #[.int .i64 t.kind, .string t.s, .int .i64 t.n, .slice ka t.k.length kc])) (hB : B ≤ w3.heap.size) (hR : R < B) (kind : Int) (a b c d : Value) :
    TIn (set4 (w3.alloc (.cells #[.int .i64 t.kind, .string t.s, .int .i64 t.n, .slice ka t.k.length kc] 33)) R a b c d) B (.mk kind ⟨#[]⟩ 0 [t]) (.agg #[.int .i64 kind, .string ⟨#[]⟩, .int .i64 0, .slice (some ⟨w3.heap.size, 0, none⟩) 1 1]) := by
  refine ⟨some ⟨w3.heap.size, 0, none⟩, 1, rfl, Nat.le_refl _, by omega, ?_⟩
  have hb : Blk (w3.alloc (.cells #[.int .i64 t.kind, .string t.s, .int .i64 t.n, .slice ka t.k.length kc] 33)) w3.heap.size 33 #[.int .i64 t.kind, .string t.s, .int .i64 t.n, .slice ka t.k.length kc] := blk_new rfl
  have hne : w3.heap.size ≠ R := by omega
  refine KAt_mk (fun j u hj => ⟨w3.heap.size, 0, rfl, ?_⟩)
  match j, hj with
  | 0, hj =>
    simp [T.k] at hj
    subst hj
    exact TAt_mk ((h.below (below_alloc (Below.refl _ _) _)).set4 hR a b c d) hB ((set4_cell a b c d hne).trans (hb.cell 0)) ((set4_cell a b c d hne).trans (hb.cell 1)) ((set4_cell a b c d hne).trans (hb.cell 2)) ((set4_cell a b c d hne).trans (hb.cell 3))

set_option maxHeartbeats 2000000 in
set_option maxRecDepth 100000 in
theorem mobs_neg (w0 w : World) (M : Nat) (p : Pl) (d i : Nat) (left label : Int) (N : Nat) (ih : Less w0 M p label d N) (h : MIn w0 w M p i left label) (hN : N ≤ 900000) (hi : i + 1 ≤ N) (hd : d ≤ 1000) (hl1 : -1000000 + (900000 - N : Nat) + 1 ≤ left) (hl2 : left ≤ 1000000) (hk : kOf p (d + 1) i left = 5)
    (res : O × Nat × Int) (hres : res = (.neg (numO p d (i + 1) (left - 1)).1, (numO p d (i + 1) (left - 1)).2)) :
    Calls Tryz.prog 121 #[.pointer (some ⟨M, 0, none⟩), .int .i64 ((d : Int) + 1)] w (MPost w0 w M p label res) := by
  have hlp : 0 < left - 1 ∧ nth p i % 9 = 5 := by
    unfold kOf at hk
    split at hk
    · omega
    · refine ⟨by omega, by omega⟩
  obtain ⟨hl0, hq⟩ := hlp
  have HQ : Hid (nth p i % (9 : Nat) = 5) := hq
  have HRES : Hid (res = (.neg (numO p d (i + 1) (left - 1)).1, (numO p d (i + 1) (left - 1)).2)) := hres
  have HIH : Hid (Less w0 M p label d N) := ih
  obtain ⟨g0, g1, g2, g3, gf⟩ := h.cells
  have hMw := h.blk.lt
  have hMne : ¬ M = w.heap.size := by omega
  have h3 : ∀ o, (w.alloc o).cell? ⟨M, 3, none⟩ = some (.int .i64 left) := fun o => (Below.cell (below_alloc (Below.refl _ _) _) (p := ⟨M, 3, none⟩) hMw).trans g3
  have hf3 : ∀ o, (w.alloc o).frozen? ⟨M, 3, none⟩ = false := fun o => (Below.frozen (below_alloc (Below.refl _ _) _) (p := ⟨M, 3, none⟩) hMw).trans (gf 3)
  have HMA : Hid (MIn w0 ((w.setCell ⟨M, 3, none⟩ (.int .i64 (left - 1))).alloc (.cells zeroT 33)) M p i (left - 1) label) := (h.setLeft _).alloc _
  have HZ : Hid (Blk ((w.setCell ⟨M, 3, none⟩ (.int .i64 (left - 1))).alloc (.cells zeroT 33)) w.heap.size 33 zeroT) := blk_new (by simp)
  have HGA : Hid (Grew M none w ((w.setCell ⟨M, 3, none⟩ (.int .i64 (left - 1))).alloc (.cells zeroT 33))) := ((Grew.refl _ _ _).set _ _).alloc _
  have HO : Hid (w0.heap.size ≤ w.heap.size) := by have := h.old; show _ ≤ _; omega
  have hl0' : ¬ left - 1 ≤ 0 := by omega
  have hd' : ¬ (d : Int) + 1 ≤ 0 := by omega
  have hdd : decide ((d : Int) + 1 ≤ 0) = false := decide_eq_false hd'
  clear h g0 g1 g2 g3 gf hq hres ih hk
  go_enter Tryz.func121, Tryz.ntmps121
  go_wp2_with fail
  refine (mn_any w0 _ M p i (left - 1) label 9 HMA.out (by omega) (by omega) (by omega)).mono ?_
  rintro e w2 ⟨rfl, hm2, hg2⟩
  rw [HQ.out]
  obtain ⟨g0, g1, g2, g3, gf⟩ := hm2.cells
  have HM2 : Hid (MIn w0 w2 M p (i + 1) (left - 1) label) := hm2
  have HG2 : Hid (Grew M none w w2) := HGA.out.trans hg2 (.inl rfl)
  have HZ2 : Hid (Blk w2 w.heap.size 33 zeroT) := HZ.out.grew hg2 (fun e => hMne e.symm)
  clear g0 g1 g2 gf hm2 hg2 h3 hf3 HGA HZ HMA HQ
  go_wp2_with fail
  refine (HIH.out w2 (i + 1) (left - 1) HM2.out (by omega) (by omega) (by omega)).mono ?_
  rintro e w3 ⟨v, rfl, ht3, hm3, hg3⟩
  generalize hR : numO p d (i + 1) (left - 1) = sub at *
  obtain ⟨o, i2, l2⟩ := sub
  simp only at ht3 hm3
  have ht3' := ht3
  obtain ⟨ka, kc, rfl, hkc1, hkc2, _⟩ := ht3'
  have HZ3 : Hid (Blk w3 w.heap.size 33 zeroT) := HZ2.out.grew hg3 (fun e => hMne e.symm)
  have hz3a := HZ3.out.lt
  obtain ⟨⟨z0, z1, z2, z3⟩, f0, f1, f2, f3⟩ := blk_zero (W := w3.alloc (.cells #[.int .i64 (plain o).kind, .string (plain o).s, .int .i64 (plain o).n, .slice ka (plain o).k.length kc] 33)) ((Below.heap_alloc _ _ _ hz3a).trans HZ3.out)
  have HZ4 : Hid (Blk (w3.alloc (.cells #[.int .i64 (plain o).kind, .string (plain o).s, .int .i64 (plain o).n, .slice ka (plain o).k.length kc] 33)) w.heap.size 33 zeroT) := (Below.heap_alloc _ _ _ hz3a).trans HZ3.out
  have HE : Hid (MPost w0 w M p label res (.returned (.agg #[.int .i64 14, .string ⟨#[]⟩, .int .i64 0, .slice (some ⟨w3.heap.size, 0, none⟩) 1 1])) (set4 (w3.alloc (.cells #[.int .i64 (plain o).kind, .string (plain o).s, .int .i64 (plain o).n, .slice ka (plain o).k.length kc] 33)) w.heap.size (.int .i64 14) (.string ⟨#[]⟩) (.int .i64 0) (.slice (some ⟨w3.heap.size, 0, none⟩) 1 1))) := by
    rw [HRES.out]
    have hz2 := HZ2.out.lt
    exact ⟨_, rfl, (tin_one ht3 hg3.size hz2 14 _ _ _ _).low (by omega), set4_min (hm3.alloc _) hMne HO.out _ _ _ _, set4_grew ((HG2.out.trans hg3 (.inl rfl)).alloc _) (Nat.le_refl _) _ _ _ _⟩
  clear ht3 hm3 hg3 hR hz3a
  go_wp2_with fail
  exact bodyPost_ret (results_cell_row rfl _ _ w.heap.size 33 #[.int .i64 14, .string ⟨#[]⟩, .int .i64 0, .slice (some ⟨w3.heap.size, 0, none⟩) 1 1] (0, 0) _ rfl (set4_blk HZ4.out _ _ _ _) Tryz.underlying33 rfl infoT) rfl HE.out

end Go.Proofs.YtkioolbjmcpjpaaGreatDoor
