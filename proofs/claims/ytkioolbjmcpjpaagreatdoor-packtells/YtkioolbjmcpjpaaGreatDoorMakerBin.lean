/- The number that a plan makes: two put together. -/
import Derived.Test.YtkioolbjmcpjpaaGreatDoorMakerBin0
namespace Go.Proofs.YtkioolbjmcpjpaaGreatDoor
open Go.RowKit
set_option linter.unusedVariables false

theorem Hid.in {p : Prop} (h : p) : Hid p := h
theorem grew_cell {M : Nat} {X w5 : World} (h : Grew M none X w5) (b o : Nat) (hb : b < X.heap.size) (hm : ¬ b = M) : w5.cell? ⟨b, o, none⟩ = X.cell? ⟨b, o, none⟩ := by
  have := h.block b hb hm (by simp)
  simp only [World.cell?, this]
set_option maxHeartbeats 8000000 in
set_option maxRecDepth 100000 in
theorem mobs_bin (w0 w : World) (M : Nat) (p : Pl) (d i : Nat) (left label : Int) (N N2 : Nat) (ih : Less w0 M p label d N) (h : MIn w0 w M p i left label) (hN : N ≤ 900000) (hi : i + 1 ≤ N) (hd : d ≤ 1000) (hl1 : -1000000 + (900000 - N : Nat) + 1 ≤ left) (hl2 : left ≤ 1000000) (j : Nat) (hj : j < 3) (hk : kOf p (d + 1) i left = j + 6)
    (o1 o2 : O) (i1 i2 : Nat) (l1 l2 : Int) (h1 : numO p d (i + 1) (left - 1) = (o1, i1, l1)) (h2 : numO p d i1 l1 = (o2, i2, l2)) (hb1 : i1 ≤ N) (hb2 : -1000000 + (900000 - N : Nat) ≤ l1) (hb3 : l1 ≤ 1000000)
    (res : O × Nat × Int) (hres : plain res.1 = .mk (opN j) ⟨#[]⟩ 0 [plain o1, plain o2] ∧ res.2 = (i2, l2)) :
    Calls Tryz.prog 121 #[.pointer (some ⟨M, 0, none⟩), .int .i64 ((d : Int) + 1)] w (MPost w0 w M p label res) := by
  have hlp : 0 < left - 1 ∧ nth p i % 9 = (j : Int) + 6 := by
    unfold kOf at hk
    split at hk
    · omega
    · refine ⟨by omega, by omega⟩
  obtain ⟨hl0, hq⟩ := hlp
  have HQ : Hid (nth p i % (9 : Nat) = (j : Int) + 6) := hq
  have HRES : Hid (plain res.1 = .mk (opN j) ⟨#[]⟩ 0 [plain o1, plain o2] ∧ res.2 = (i2, l2)) := hres
  have HIH : Hid (Less w0 M p label d N) := ih
  have H1 : Hid (numO p d (i + 1) (left - 1) = (o1, i1, l1)) := h1
  have H2 : Hid (numO p d i1 l1 = (o2, i2, l2)) := h2
  obtain ⟨g0, g1, g2, g3, gf⟩ := h.cells
  have hMw := h.blk.lt
  have hMne : ¬ M = w.heap.size := by omega
  have h3 : ∀ o, (w.alloc o).cell? ⟨M, 3, none⟩ = some (.int .i64 left) := fun o => (Below.cell (below_alloc (Below.refl _ _) _) (p := ⟨M, 3, none⟩) hMw).trans g3
  have hf3 : ∀ o, (w.alloc o).frozen? ⟨M, 3, none⟩ = false := fun o => (Below.frozen (below_alloc (Below.refl _ _) _) (p := ⟨M, 3, none⟩) hMw).trans (gf 3)
  have HMA : Hid (MIn w0 ((w.setCell ⟨M, 3, none⟩ (.int .i64 (left - 1))).alloc (.cells zeroT 33)) M p i (left - 1) label) := (h.setLeft _).alloc _
  have HZ : Hid (Blk ((w.setCell ⟨M, 3, none⟩ (.int .i64 (left - 1))).alloc (.cells zeroT 33)) w.heap.size 33 zeroT) := blk_new (by simp)
  have HGA : Hid (Grew M none w ((w.setCell ⟨M, 3, none⟩ (.int .i64 (left - 1))).alloc (.cells zeroT 33))) := ((Grew.refl _ _ _).set _ _).alloc _
  have HO : Hid (w0.heap.size ≤ w.heap.size) := by have := h.old; show _ ≤ _; omega
  have hl0' : ¬ left - 1 ≤ 0 := by omega
  have hd' : ¬ (d : Int) + 1 ≤ 0 := by omega
  have hdd : decide ((d : Int) + 1 ≤ 0) = false := decide_eq_false hd'
  have q0 : ((j : Int) + 6 == 0) = false := by rw [beq_eq_false_iff_ne]; omega
  have q1 : ((j : Int) + 6 == 1) = false := by rw [beq_eq_false_iff_ne]; omega
  have q2 : ((j : Int) + 6 == 2) = false := by rw [beq_eq_false_iff_ne]; omega
  have q3 : ((j : Int) + 6 == 3) = false := by rw [beq_eq_false_iff_ne]; omega
  have q4 : ((j : Int) + 6 == 4) = false := by rw [beq_eq_false_iff_ne]; omega
  have q5 : ((j : Int) + 6 == 5) = false := by rw [beq_eq_false_iff_ne]; omega
  clear h g0 g1 g2 g3 gf hq hres ih hk h1 h2
  go_enter Tryz.func121, Tryz.ntmps121
  go_wp2_with fail
  refine (mn_any w0 _ M p i (left - 1) label 9 HMA.out (by omega) (by omega) (by omega)).mono ?_
  rintro e w2 ⟨rfl, hm2, hg2⟩
  rw [HQ.out]
  obtain ⟨g0, g1, g2, g3, gf⟩ := hm2.cells
  have HM2 : Hid (MIn w0 w2 M p (i + 1) (left - 1) label) := hm2
  have HG2 : Hid (Grew M none w w2) := HGA.out.trans hg2 (.inl rfl)
  have HZ2 : Hid (Blk w2 w.heap.size 33 zeroT) := HZ.out.grew hg2 (fun e => hMne e.symm)
  clear g0 g1 g2 gf hm2 hg2 h3 hf3 HGA HZ HMA HQ
  go_wp2_with fail
  have HC1 := HIH.out w2 (i + 1) (left - 1) HM2.out (by omega) (by omega) (by omega)
  rw [H1.out] at HC1
  refine HC1.mono ?_
  rintro e w3 ⟨v, rfl, ht3, hm3, hg3⟩
  simp only at ht3 hm3
  clear HC1
  have ht3' := ht3
  obtain ⟨ka, kc, rfl, hkc1, hkc2, _⟩ := ht3'
  have HT3 : Hid (TIn w3 w2.heap.size (plain o1) (.agg (four (plain o1) ka kc))) := ht3
  have HM3 : Hid (MIn w0 w3 M p i1 l1 label) := hm3
  have HG3 : Hid (Grew M none w2 w3) := hg3
  have HZ3 : Hid (Blk w3 w.heap.size 33 zeroT) := HZ2.out.grew hg3 (fun e => hMne e.symm)
  clear ht3 hm3 hg3
  go_wp2_with fail
  have HW2 : Hid (w.heap.size < w2.heap.size) := HZ2.out.lt
  have HC2 : Hid (∀ X, Below (w3.heap.size + 1) (w3.alloc (.cells (four (plain o1) ka kc) 33)) X → Calls Tryz.prog 121 #[.pointer (some ⟨M, 0, none⟩), .int .i64 d] X (fun e w5 => ∃ la lc, e = .returned (.agg #[.int .i64 (plain o2).kind, .string (plain o2).s, .int .i64 (plain o2).n, .slice la (plain o2).k.length lc]) ∧ After w0 w w2 X w5 M p i2 l2 label (plain o1) (plain o2) ka kc la lc)) := by
    intro X hX
    have hX' : Below (w3.alloc (.cells (four (plain o1) ka kc) 33)).heap.size (w3.alloc (.cells (four (plain o1) ka kc) 33)) X := by simpa using hX
    have hg3X : Grew M none w3 X := ((Grew.refl M none w3).alloc _).trans (Grew.of_below hX') (.inl rfl)
    have hmX : MIn w0 X M p i1 l1 label := by
      have h := HM3.out.alloc (.cells (four (plain o1) ka kc) 33)
      exact h.next (Grew.of_below hX') (h.blk.below hX' h.blk.lt)
    have hC := HIH.out X i1 l1 hmX hb1 hb2 hb3
    rw [H2.out] at hC
    refine hC.mono ?_
    rintro e w5 ⟨v, rfl, ht5, hm5, hg5⟩
    simp only at ht5 hm5
    have ht5' := ht5
    obtain ⟨la, lc, rfl, _, _, _⟩ := ht5'
    have hM2 : M < w2.heap.size := by have := HW2.out; omega
    have hsX : w.heap.size < X.heap.size := by have := HW2.out; have := HG3.out.size; have := hg3X.size; omega
    have hX1 : Blk X w.heap.size 33 zeroT := HZ3.out.grew hg3X (fun e => hMne e.symm)
    exact ⟨la, lc, rfl, (HG2.out.trans HG3.out (.inl rfl)).trans hg3X (.inl rfl), hg5, hm5, (HT3.out.grew hg3X hM2).grew hg5 hM2, ht5, hX1.grew hg5 (fun e => hMne e.symm), HW2.out, hsX⟩
  have htb : ∀ (X : World) (b : Nat), b = X.heap.size → (X.alloc (.cells #[.int .i64 13, .int .i64 15, .int .i64 16] 3)).cell? ⟨b, j, none⟩ = some (.int .i64 (opN j)) := by
    rintro X b rfl
    exact (cell_of_row _ _ _ _ _ _ (heap_alloc_new _ _)).trans (op_cell j hj)
  have htb2 : ∀ (X : World) (o : Obj) (b : Nat), b = X.heap.size → ((X.alloc (.cells #[.int .i64 13, .int .i64 15, .int .i64 16] 3)).alloc o).cell? ⟨b, j, none⟩ = some (.int .i64 (opN j)) := by
    intro X o b hb
    exact ((below_alloc (Below.refl _ _) o).cell (p := ⟨b, j, none⟩) (by subst hb; simp)).trans (htb X b hb)
  have hw1 : IntKind.i64.wrap ((d : Int) + 1 - 1) = (d : Int) := by rw [IntKind.wrap_i64]; omega
  have hw2 : IntKind.i64.wrap ((j : Int) + 6 - 6) = (j : Int) := by rw [IntKind.wrap_i64]; omega
  have hw3 : IntKind.i64.wrap (j : Int) = (j : Int) := by rw [IntKind.wrap_i64]; omega
  have hw4 : IntKind.i64.wrap (d : Int) = (d : Int) := by rw [IntKind.wrap_i64]; omega
  have hj' : (j : Int) < 3 := by omega
  have hj0 : (0 : Int) ≤ (j : Int) := by omega
  have hjn : j < 3 := hj
  have hM0 : ¬ w3.heap.size = M := by have := HM3.out.blk.lt; omega
  have hM1 : ¬ w3.heap.size + 1 = M := by have := HM3.out.blk.lt; omega
  have HR3 := HZ3.out.lt
  have HR3h : Hid (w.heap.size < w3.heap.size) := HR3
  clear HZ3 HM3 HG3 HT3 HZ2 HG2 HM2 HIH H1 H2 hkc1 hkc2 HR3 g3 hl0 hl0' hd' hdd q0 q1 q2 q3 q4 q5 hb1 hb2 hb3 hl1 hl2 hi hN hd hMw
  have hfa : ∀ (X : World) (o : Obj) (k : Nat), w.heap.size < X.heap.size → (X.alloc o).frozen? ⟨w.heap.size, k, none⟩ = X.frozen? ⟨w.heap.size, k, none⟩ := fun X o k hX => (below_alloc (Below.refl _ _) o).frozen (p := ⟨w.heap.size, k, none⟩) hX
  go_region_with (go_at_call 121; refine (HC2.out _ (by first | exact below_drew (Below.refl _ _) | exact (below_drew (Below.refl (w3.heap.size + 1) _)).alloc (by simp) _)).mono ?_; rintro e w5 ⟨la, lc, rfl, hA⟩; have HA := Hid.in hA; have hcell := (fun (b o : Nat) (hb : b < _) (hm : ¬ b = M) => grew_cell hA.call b o hb hm); have hlt0 : w3.heap.size < w5.heap.size := (by have := hA.call.size; simp at this; omega); (try have hlt1 : w3.heap.size + 1 < w5.heap.size := (by have := hA.call.size; simp at this; omega)); have hRw5 : w.heap.size < w5.heap.size := hA.zero.lt; obtain ⟨⟨z0, z1, z2, z3⟩, f0, f1, f2, f3⟩ := blk_zero hA.zero; clear hA)
  all_goals
    go_wp2_with fail
    first
      | (have hF := fin1 HA.out hMne HO.out j res HRES.out; refine bin_ret (R := w.heap.size) (cs := resV (opN j) w5.heap.size) rfl rfl rfl ?_; with_reducible exact hF)
      | (have hF := fin3 HA.out hMne HO.out j res HRES.out; refine bin_ret (R := w.heap.size) (cs := resV (opN j) w5.heap.size) rfl rfl rfl ?_; with_reducible exact hF)
      | (have hF := fin2 HA.out hMne HO.out j res HRES.out; refine bin_ret (R := w.heap.size) (cs := resV (opN j) (w5.heap.size + 1)) rfl rfl rfl ?_; with_reducible exact hF)

end Go.Proofs.YtkioolbjmcpjpaaGreatDoor
