/- The number that a plan makes: its leaves. -/
import Derived.Test.YtkioolbjmcpjpaaGreatDoorMaker
namespace Go.Proofs.YtkioolbjmcpjpaaGreatDoor
open Go.RowKit
set_option linter.unusedVariables false

/-- A number as a tree. -/
def plain : O → T
  | .const n => .mk 11 ⟨#[]⟩ n []
  | .fix s => .mk 12 s 0 []
  | .add l r => .mk 13 ⟨#[]⟩ 0 [plain l, plain r]
  | .neg o => .mk 14 ⟨#[]⟩ 0 [plain o]
  | .mul l r => .mk 15 ⟨#[]⟩ 0 [plain l, plain r]
  | .max l r => .mk 16 ⟨#[]⟩ 0 [plain l, plain r]
  | .odd _ => .mk 0 ⟨#[]⟩ 0 []
def tabL : List Int := [0, 1, -1, 2, 100, -7, 1000000, 1000000000000, -1000000000000, 3]
def tabN (k : Nat) : Int := tabL.getD k 0
def tabV : Array Value := #[.int .i64 0, .int .i64 1, .int .i64 (-1), .int .i64 2, .int .i64 100, .int .i64 (-7), .int .i64 1000000, .int .i64 1000000000000, .int .i64 (-1000000000000), .int .i64 3]
theorem tab_cell (k : Nat) (h : k < 10) : tabV[k]? = some (.int .i64 (tabN k)) := by
  have : k = 0 ∨ k = 1 ∨ k = 2 ∨ k = 3 ∨ k = 4 ∨ k = 5 ∨ k = 6 ∨ k = 7 ∨ k = 8 ∨ k = 9 := by omega
  rcases this with rfl | rfl | rfl | rfl | rfl | rfl | rfl | rfl | rfl | rfl <;> rfl
/-- What the plan says at a place, so deep and so many left. -/
def kOf (p : Pl) (d i : Nat) (left : Int) : Nat := if d = 0 ∨ left - 1 ≤ 0 then (nth p i % 9).toNat % 3 else (nth p i % 9).toNat
/-- The number that a plan makes, so deep at most: itself, the place behind it, what is left. -/
def numO (p : Pl) : Nat → Nat → Int → O × Nat × Int
  | 0, i, left => if kOf p 0 i left ≤ 1 then (.const (tabN (nth p (i + 1) % 10).toNat), i + 2, left - 1) else (.fix (wordOf p (i + 1)), i + 2, left - 1)
  | d + 1, i, left =>
    if kOf p (d + 1) i left ≤ 1 then (.const (tabN (nth p (i + 1) % 10).toNat), i + 2, left - 1)
    else if kOf p (d + 1) i left ≤ 4 then (.fix (wordOf p (i + 1)), i + 2, left - 1)
    else if kOf p (d + 1) i left = 5 then (.neg (numO p d (i + 1) (left - 1)).1, (numO p d (i + 1) (left - 1)).2)
    else
      ((if kOf p (d + 1) i left = 6 then O.add (numO p d (i + 1) (left - 1)).1 (numO p d (numO p d (i + 1) (left - 1)).2.1 (numO p d (i + 1) (left - 1)).2.2).1
        else if kOf p (d + 1) i left = 7 then O.mul (numO p d (i + 1) (left - 1)).1 (numO p d (numO p d (i + 1) (left - 1)).2.1 (numO p d (i + 1) (left - 1)).2.2).1
        else O.max (numO p d (i + 1) (left - 1)).1 (numO p d (numO p d (i + 1) (left - 1)).2.1 (numO p d (i + 1) (left - 1)).2.2).1),
       (numO p d (numO p d (i + 1) (left - 1)).2.1 (numO p d (i + 1) (left - 1)).2.2).2)
def MPost (w0 w : World) (M : Nat) (p : Pl) (label : Int) (r : O × Nat × Int) (e : Ending) (w' : World) : Prop :=
  ∃ v, e = .returned v ∧ TIn w' w.heap.size (plain r.1) v ∧ MIn w0 w' M p r.2.1 r.2.2 label ∧ Grew M none w w'

theorem Grew.setNew {M : Nat} {r : Option Nat} {w w' : World} (h : Grew M r w w') {b : Nat} (hb : w.heap.size ≤ b) (i : Nat) (x : Value) : Grew M r w (w'.setCell ⟨b, i, none⟩ x) :=
  ⟨h.os, h.tape, h.output, by rw [World.size_setCell]; exact h.size, fun k hk hM hr => (heap_setCell_other w' ⟨b, i, none⟩ k x (by show k ≠ b; omega)).trans (h.block k hk hM hr)⟩
theorem Blk.other {w : World} {b t b' : Nat} {cs : Array Value} (h : Blk w b t cs) (hb : b ≠ b') (i : Nat) (x : Value) : Blk (w.setCell ⟨b', i, none⟩ x) b t cs := (heap_setCell_other w ⟨b', i, none⟩ b x hb).trans h
theorem MIn.other {w0 w : World} {M : Nat} {p : Pl} {i : Nat} {left label : Int} (h : MIn w0 w M p i left label) {b : Nat} (hb : M ≠ b) (h0 : w0.heap.size ≤ b) (j : Nat) (x : Value) : MIn w0 (w.setCell ⟨b, j, none⟩ x) M p i left label :=
  ⟨h.plan, h.old, h.below.setCell h0 x, h.blk.other hb j x⟩
theorem MIn.alloc {w0 w : World} {M : Nat} {p : Pl} {i : Nat} {left label : Int} (h : MIn w0 w M p i left label) (o : Obj) : MIn w0 (w.alloc o) M p i left label :=
  h.next ((Grew.refl _ _ _).alloc o) ((Below.heap_alloc _ _ _ h.blk.lt).trans h.blk)
theorem MIn.setLeft {w0 w : World} {M : Nat} {p : Pl} {i : Nat} {left label : Int} (h : MIn w0 w M p i left label) (l2 : Int) : MIn w0 (w.setCell ⟨M, 3, none⟩ (.int .i64 l2)) M p i l2 label :=
  ⟨h.plan, h.old, h.below.setCell h.old _, h.blk.set 3 _⟩
def zeroT : Array Value := #[.int .i64 0, .string ⟨#[]⟩, .int .i64 0, .slice none 0 0]
def set4 (W : World) (R : Nat) (a b c d : Value) : World := (((W.setCell ⟨R, 0, none⟩ a).setCell ⟨R, 1, none⟩ b).setCell ⟨R, 2, none⟩ c).setCell ⟨R, 3, none⟩ d
theorem set4_blk {W : World} {R t : Nat} {z0 z1 z2 z3 : Value} (h : Blk W R t #[z0, z1, z2, z3]) (a b c d : Value) : Blk (set4 W R a b c d) R t #[a, b, c, d] := (((h.set 0 a).set 1 b).set 2 c).set 3 d
theorem set4_grew {M : Nat} {r : Option Nat} {w w' : World} (h : Grew M r w w') {R : Nat} (hR : w.heap.size ≤ R) (a b c d : Value) : Grew M r w (set4 w' R a b c d) :=
  (((h.setNew hR 0 a).setNew hR 1 b).setNew hR 2 c).setNew hR 3 d
theorem set4_min {w0 w : World} {M : Nat} {p : Pl} {i : Nat} {left label : Int} (h : MIn w0 w M p i left label) {R : Nat} (hb : M ≠ R) (h0 : w0.heap.size ≤ R) (a b c d : Value) : MIn w0 (set4 w R a b c d) M p i left label :=
  (((h.other hb h0 0 a).other hb h0 1 b).other hb h0 2 c).other hb h0 3 d
theorem set4_cell {W : World} {R : Nat} (a b c d : Value) {k o : Nat} (h : k ≠ R) : (set4 W R a b c d).cell? ⟨k, o, none⟩ = W.cell? ⟨k, o, none⟩ := by
  unfold set4
  rw [World.cell?_setCell_other _ _ _ _ (by intro e; injection e with e; exact h e.symm), World.cell?_setCell_other _ _ _ _ (by intro e; injection e with e; exact h e.symm), World.cell?_setCell_other _ _ _ _ (by intro e; injection e with e; exact h e.symm), World.cell?_setCell_other _ _ _ _ (by intro e; injection e with e; exact h e.symm)]
theorem blk_new {W : World} {b t : Nat} {cs : Array Value} (hb : b = W.heap.size) : Blk (W.alloc (.cells cs t)) b t cs := by subst hb; exact heap_alloc_new _ _
theorem infoT : (Tryz.prog.info? 33).map (·.size) = some 4 := by kernel_rfl
theorem blk_zero {W : World} {R t : Nat} (h : Blk W R t zeroT) : (W.cell? ⟨R, 0, none⟩ = some (.int .i64 0) ∧ W.cell? ⟨R, 1, none⟩ = some (.string ⟨#[]⟩) ∧ W.cell? ⟨R, 2, none⟩ = some (.int .i64 0) ∧ W.cell? ⟨R, 3, none⟩ = some (.slice none 0 0)) ∧ W.frozen? ⟨R, 0, none⟩ = false ∧ W.frozen? ⟨R, 1, none⟩ = false ∧ W.frozen? ⟨R, 2, none⟩ = false ∧ W.frozen? ⟨R, 3, none⟩ = false :=
  ⟨⟨h.cell 0, h.cell 1, h.cell 2, h.cell 3⟩, h.frozen 0, h.frozen 1, h.frozen 2, h.frozen 3⟩
theorem tin_leaf (w : World) (B : Nat) (kind : Int) (s : ByteArray) (n : Int) : TIn w B (.mk kind s n []) (.agg #[.int .i64 kind, .string s, .int .i64 n, .slice none 0 0]) :=
  ⟨none, 0, rfl, Nat.le_refl _, by omega, by unfold KAt; trivial⟩


set_option maxHeartbeats 2000000 in
set_option maxRecDepth 100000 in
theorem mobs_leaf (w0 w : World) (M : Nat) (p : Pl) (d i : Nat) (left label : Int) (h : MIn w0 w M p i left label) (hi : i ≤ 900000) (hd : d ≤ 1000) (hl1 : -1000000 ≤ left) (hl2 : left ≤ 1000000) (hk : kOf p d i left ≤ 4)
    (res : O × Nat × Int) (hres : res = if kOf p d i left ≤ 1 then (O.const (tabN (nth p (i + 1) % 10).toNat), i + 2, left - 1) else (O.fix (wordOf p (i + 1)), i + 2, left - 1)) :
    Calls Tryz.prog 121 #[.pointer (some ⟨M, 0, none⟩), .int .i64 d] w (MPost w0 w M p label res) := by
  obtain ⟨q, hq⟩ : ∃ q : Nat, nth p i % 9 = q := ⟨(nth p i % 9).toNat, by omega⟩
  have hq9 : q < 9 := by omega
  obtain ⟨r, hr⟩ : ∃ r : Nat, nth p (i + 1) % 10 = r := ⟨(nth p (i + 1) % 10).toNat, by omega⟩
  have hr10 : r < 10 := by omega
  obtain ⟨k, hkk⟩ : ∃ k, kOf p d i left = k := ⟨_, rfl⟩
  have hkq : k = if d = 0 ∨ left - 1 ≤ 0 then q % 3 else q := by rw [← hkk]; unfold kOf; rw [hq]; simp
  rw [hkk] at hk hres
  have HQ : Hid (nth p i % (9 : Nat) = q) := hq
  have HR : Hid (nth p (i + 1) % (10 : Nat) = r) := hr
  rw [show tabN (nth p (i + 1) % 10).toNat = tabN r from by rw [hr]; rfl] at hres
  obtain ⟨g0, g1, g2, g3, gf⟩ := h.cells
  have hMw := h.blk.lt
  have hMne : ¬ M = w.heap.size := by omega
  have HM : Hid (MIn w0 w M p i left label) := h
  have h3 : ∀ o, (w.alloc o).cell? ⟨M, 3, none⟩ = some (.int .i64 left) := fun o => (Below.cell (below_alloc (Below.refl _ _) _) (p := ⟨M, 3, none⟩) hMw).trans g3
  have hf3 : ∀ o, (w.alloc o).frozen? ⟨M, 3, none⟩ = false := fun o => (Below.frozen (below_alloc (Below.refl _ _) _) (p := ⟨M, 3, none⟩) hMw).trans (gf 3)
  have HMA : Hid (MIn w0 ((w.setCell ⟨M, 3, none⟩ (.int .i64 (left - 1))).alloc (.cells zeroT 33)) M p i (left - 1) label) := (h.setLeft _).alloc _
  have HZ : Hid (Blk ((w.setCell ⟨M, 3, none⟩ (.int .i64 (left - 1))).alloc (.cells zeroT 33)) w.heap.size 33 zeroT) := blk_new (by simp)
  have HGA : Hid (Grew M none w ((w.setCell ⟨M, 3, none⟩ (.int .i64 (left - 1))).alloc (.cells zeroT 33))) := ((Grew.refl _ _ _).set _ _).alloc _
  have HRES : Hid (res = if k ≤ 1 then (O.const (tabN r), i + 2, left - 1) else (O.fix (wordOf p (i + 1)), i + 2, left - 1)) := hres
  clear h g0 g1 g2 g3 gf hq hr hkk hres
  go_enter Tryz.func121, Tryz.ntmps121
  go_wp2_with fail
  refine (mn_any w0 _ M p i (left - 1) label 9 HMA.out (by omega) (by omega) (by omega)).mono ?_
  rintro e w2 ⟨rfl, hm2, hg2⟩
  rw [HQ.out]
  obtain ⟨g0, g1, g2, g3, gf⟩ := hm2.cells
  have HM2 : Hid (MIn w0 w2 M p (i + 1) (left - 1) label) := hm2
  have HG2 : Hid (Grew M none w w2) := HGA.out.trans hg2 (.inl rfl)
  have HZ2 : Hid (Blk w2 w.heap.size 33 zeroT) := HZ.out.grew hg2 (fun e => hMne e.symm)
  have HM2old : Hid (w0.heap.size ≤ w.heap.size) := by have := hm2.old; show _ ≤ _; omega
  clear g0 g1 g2 gf hm2 hg2 h3 hf3 HGA HZ HMA HM HQ
  have hsz2 := HG2.out.size
  have hR2 := HZ2.out.lt
  have hmne2 : ¬ w.heap.size = M := fun e => hMne e.symm
  have h05 : k = 0 ∨ k = 1 ∨ k = 2 ∨ k = 3 ∨ k = 4 := by omega
  have HC : Hid (res = (O.const (tabN r), i + 2, left - 1) → ∀ w3, MIn w0 w3 M p (i + 1 + 1) (left - 1) label → Grew M none (w2.alloc (.cells tabV 3)) w3 → MPost w0 w M p label res (.returned (.agg #[.int .i64 11, .string ⟨#[]⟩, .int .i64 (tabN r), .slice none 0 0])) (set4 w3 w.heap.size (.int .i64 11) (.string ⟨#[]⟩) (.int .i64 (tabN r)) (.slice none 0 0))) := by
    rintro rfl w3 hm3 hg3
    refine ⟨_, rfl, tin_leaf _ _ _ _ _, set4_min hm3 hMne HM2old.out _ _ _ _, set4_grew ((HG2.out.alloc _).trans hg3 (.inl rfl)) (Nat.le_refl _) _ _ _ _⟩
  have HF : Hid (res = (O.fix (wordOf p (i + 1)), i + 2, left - 1) → ∀ w3, MIn w0 w3 M p (i + 1 + 1) (left - 1) label → Grew M none (w2.alloc (.cells word3 9)) w3 → MPost w0 w M p label res (.returned (.agg #[.int .i64 12, .string (wordOf p (i + 1)), .int .i64 0, .slice none 0 0])) (set4 w3 w.heap.size (.int .i64 12) (.string (wordOf p (i + 1))) (.int .i64 0) (.slice none 0 0))) := by
    rintro rfl w3 hm3 hg3
    refine ⟨_, rfl, tin_leaf _ _ _ _ _, set4_min hm3 hMne HM2old.out _ _ _ _, set4_grew ((HG2.out.alloc _).trans hg3 (.inl rfl)) (Nat.le_refl _) _ _ _ _⟩
  have HTA : Hid (Blk (w2.alloc (.cells tabV 3)) w2.heap.size 3 tabV) := blk_new rfl
  have HWA : Hid (Blk (w2.alloc (.cells word3 9)) w2.heap.size 9 word3) := blk_new rfl
  have HMT : Hid (∀ o, MIn w0 (w2.alloc o) M p (i + 1) (left - 1) label) := fun o => HM2.out.alloc o
  have HZT : Hid (∀ o, Blk (w2.alloc o) w.heap.size 33 zeroT) := fun o => (Below.heap_alloc _ _ _ hR2).trans HZ2.out
  have hne2 : w2.heap.size ≠ M := by omega
  clear HG2 HM2 HZ2
  by_cases hd0 : d = 0
  · have hd' : (d : Int) ≤ 0 := by omega
    have hmod1 : Int.tmod (q : Int) 3 = (k : Int) := by rw [hkq, if_pos (.inl hd0)]; rfl
    have hmod2 : (q : Int) % 3 = (k : Int) := by rw [hkq, if_pos (.inl hd0)]; rfl
    have h03 : k = 0 ∨ k = 1 ∨ k = 2 := by rw [if_pos (.inl hd0)] at hkq; omega
    clear hkq h05
    rcases h03 with rfl | rfl | rfl
    · go_wp2_with fail
      refine (mn_any w0 _ M p (i + 1) (left - 1) label 10 (HMT.out _) (by omega) (by omega) (by omega)).mono ?_
      rintro e w3 ⟨rfl, hm3, hg3⟩
      rw [HR.out]
      have hcl : w3.cell? ⟨w2.heap.size, r, none⟩ = some (.int .i64 (tabN r)) := ((HTA.out.grew hg3 hne2).cell r).trans (tab_cell r hr10)
      obtain ⟨⟨z0, z1, z2, z3⟩, f0, f1, f2, f3⟩ := blk_zero ((HZT.out _).grew hg3 hmne2)
      have HZ3 : Hid (Blk w3 w.heap.size 33 zeroT) := (HZT.out _).grew hg3 hmne2
      have HE := HC.out HRES.out w3 hm3 hg3
      have hr10' : (r : Int) < 10 := by omega
      clear hm3 hg3
      generalize tabN r = x at *
      go_wp2_with fail
      exact bodyPost_ret (results_cell_row rfl _ _ w.heap.size 33 #[.int .i64 11, .string ⟨#[]⟩, .int .i64 x, .slice none 0 0] (0, 0) _ rfl (set4_blk HZ3.out _ _ _ _) Tryz.underlying33 rfl infoT) rfl HE
    · go_wp2_with fail
      refine (mn_any w0 _ M p (i + 1) (left - 1) label 10 (HMT.out _) (by omega) (by omega) (by omega)).mono ?_
      rintro e w3 ⟨rfl, hm3, hg3⟩
      rw [HR.out]
      have hcl : w3.cell? ⟨w2.heap.size, r, none⟩ = some (.int .i64 (tabN r)) := ((HTA.out.grew hg3 hne2).cell r).trans (tab_cell r hr10)
      obtain ⟨⟨z0, z1, z2, z3⟩, f0, f1, f2, f3⟩ := blk_zero ((HZT.out _).grew hg3 hmne2)
      have HZ3 : Hid (Blk w3 w.heap.size 33 zeroT) := (HZT.out _).grew hg3 hmne2
      have HE := HC.out HRES.out w3 hm3 hg3
      have hr10' : (r : Int) < 10 := by omega
      clear hm3 hg3
      generalize tabN r = x at *
      go_wp2_with fail
      exact bodyPost_ret (results_cell_row rfl _ _ w.heap.size 33 #[.int .i64 11, .string ⟨#[]⟩, .int .i64 x, .slice none 0 0] (0, 0) _ rfl (set4_blk HZ3.out _ _ _ _) Tryz.underlying33 rfl infoT) rfl HE
    · go_wp2_with fail
      refine (mword_any w0 _ M w2.heap.size p (i + 1) (left - 1) label (HMT.out _) (by omega) HWA.out hne2).mono ?_
      rintro e w3 ⟨rfl, hm3, hg3⟩
      obtain ⟨⟨z0, z1, z2, z3⟩, f0, f1, f2, f3⟩ := blk_zero ((HZT.out _).grew hg3 hmne2)
      have HZ3 : Hid (Blk w3 w.heap.size 33 zeroT) := (HZT.out _).grew hg3 hmne2
      have HE := HF.out HRES.out w3 hm3 hg3
      clear hm3 hg3
      generalize wordOf p (i + 1) = x at *
      go_wp2_with fail
      exact bodyPost_ret (results_cell_row rfl _ _ w.heap.size 33 #[.int .i64 12, .string x, .int .i64 0, .slice none 0 0] (0, 0) _ rfl (set4_blk HZ3.out _ _ _ _) Tryz.underlying33 rfl infoT) rfl HE
  · have hd' : ¬ (d : Int) ≤ 0 := by omega
    have hdd : decide ((d : Int) ≤ 0) = false := by simpa using hd'
    by_cases hl0 : left - 1 ≤ 0
    · have hmod1 : Int.tmod (q : Int) 3 = (k : Int) := by rw [hkq, if_pos (.inr hl0)]; rfl
      have hmod2 : (q : Int) % 3 = (k : Int) := by rw [hkq, if_pos (.inr hl0)]; rfl
      have h03 : k = 0 ∨ k = 1 ∨ k = 2 := by rw [if_pos (.inr hl0)] at hkq; omega
      clear hkq h05
      rcases h03 with rfl | rfl | rfl
      · go_wp2_with fail
        refine (mn_any w0 _ M p (i + 1) (left - 1) label 10 (HMT.out _) (by omega) (by omega) (by omega)).mono ?_
        rintro e w3 ⟨rfl, hm3, hg3⟩
        rw [HR.out]
        have hcl : w3.cell? ⟨w2.heap.size, r, none⟩ = some (.int .i64 (tabN r)) := ((HTA.out.grew hg3 hne2).cell r).trans (tab_cell r hr10)
        obtain ⟨⟨z0, z1, z2, z3⟩, f0, f1, f2, f3⟩ := blk_zero ((HZT.out _).grew hg3 hmne2)
        have HZ3 : Hid (Blk w3 w.heap.size 33 zeroT) := (HZT.out _).grew hg3 hmne2
        have HE := HC.out HRES.out w3 hm3 hg3
        have hr10' : (r : Int) < 10 := by omega
        clear hm3 hg3
        generalize tabN r = x at *
        go_wp2_with fail
        exact bodyPost_ret (results_cell_row rfl _ _ w.heap.size 33 #[.int .i64 11, .string ⟨#[]⟩, .int .i64 x, .slice none 0 0] (0, 0) _ rfl (set4_blk HZ3.out _ _ _ _) Tryz.underlying33 rfl infoT) rfl HE
      · go_wp2_with fail
        refine (mn_any w0 _ M p (i + 1) (left - 1) label 10 (HMT.out _) (by omega) (by omega) (by omega)).mono ?_
        rintro e w3 ⟨rfl, hm3, hg3⟩
        rw [HR.out]
        have hcl : w3.cell? ⟨w2.heap.size, r, none⟩ = some (.int .i64 (tabN r)) := ((HTA.out.grew hg3 hne2).cell r).trans (tab_cell r hr10)
        obtain ⟨⟨z0, z1, z2, z3⟩, f0, f1, f2, f3⟩ := blk_zero ((HZT.out _).grew hg3 hmne2)
        have HZ3 : Hid (Blk w3 w.heap.size 33 zeroT) := (HZT.out _).grew hg3 hmne2
        have HE := HC.out HRES.out w3 hm3 hg3
        have hr10' : (r : Int) < 10 := by omega
        clear hm3 hg3
        generalize tabN r = x at *
        go_wp2_with fail
        exact bodyPost_ret (results_cell_row rfl _ _ w.heap.size 33 #[.int .i64 11, .string ⟨#[]⟩, .int .i64 x, .slice none 0 0] (0, 0) _ rfl (set4_blk HZ3.out _ _ _ _) Tryz.underlying33 rfl infoT) rfl HE
      · go_wp2_with fail
        refine (mword_any w0 _ M w2.heap.size p (i + 1) (left - 1) label (HMT.out _) (by omega) HWA.out hne2).mono ?_
        rintro e w3 ⟨rfl, hm3, hg3⟩
        obtain ⟨⟨z0, z1, z2, z3⟩, f0, f1, f2, f3⟩ := blk_zero ((HZT.out _).grew hg3 hmne2)
        have HZ3 : Hid (Blk w3 w.heap.size 33 zeroT) := (HZT.out _).grew hg3 hmne2
        have HE := HF.out HRES.out w3 hm3 hg3
        clear hm3 hg3
        generalize wordOf p (i + 1) = x at *
        go_wp2_with fail
        exact bodyPost_ret (results_cell_row rfl _ _ w.heap.size 33 #[.int .i64 12, .string x, .int .i64 0, .slice none 0 0] (0, 0) _ rfl (set4_blk HZ3.out _ _ _ _) Tryz.underlying33 rfl infoT) rfl HE
    · have hkq' : k = q := by rw [hkq, if_neg (by omega)]
      subst hkq'
      clear hkq
      rcases h05 with rfl | rfl | rfl | rfl | rfl
      · go_wp2_with fail
        refine (mn_any w0 _ M p (i + 1) (left - 1) label 10 (HMT.out _) (by omega) (by omega) (by omega)).mono ?_
        rintro e w3 ⟨rfl, hm3, hg3⟩
        rw [HR.out]
        have hcl : w3.cell? ⟨w2.heap.size, r, none⟩ = some (.int .i64 (tabN r)) := ((HTA.out.grew hg3 hne2).cell r).trans (tab_cell r hr10)
        obtain ⟨⟨z0, z1, z2, z3⟩, f0, f1, f2, f3⟩ := blk_zero ((HZT.out _).grew hg3 hmne2)
        have HZ3 : Hid (Blk w3 w.heap.size 33 zeroT) := (HZT.out _).grew hg3 hmne2
        have HE := HC.out HRES.out w3 hm3 hg3
        have hr10' : (r : Int) < 10 := by omega
        clear hm3 hg3
        generalize tabN r = x at *
        go_wp2_with fail
        exact bodyPost_ret (results_cell_row rfl _ _ w.heap.size 33 #[.int .i64 11, .string ⟨#[]⟩, .int .i64 x, .slice none 0 0] (0, 0) _ rfl (set4_blk HZ3.out _ _ _ _) Tryz.underlying33 rfl infoT) rfl HE
      · go_wp2_with fail
        refine (mn_any w0 _ M p (i + 1) (left - 1) label 10 (HMT.out _) (by omega) (by omega) (by omega)).mono ?_
        rintro e w3 ⟨rfl, hm3, hg3⟩
        rw [HR.out]
        have hcl : w3.cell? ⟨w2.heap.size, r, none⟩ = some (.int .i64 (tabN r)) := ((HTA.out.grew hg3 hne2).cell r).trans (tab_cell r hr10)
        obtain ⟨⟨z0, z1, z2, z3⟩, f0, f1, f2, f3⟩ := blk_zero ((HZT.out _).grew hg3 hmne2)
        have HZ3 : Hid (Blk w3 w.heap.size 33 zeroT) := (HZT.out _).grew hg3 hmne2
        have HE := HC.out HRES.out w3 hm3 hg3
        have hr10' : (r : Int) < 10 := by omega
        clear hm3 hg3
        generalize tabN r = x at *
        go_wp2_with fail
        exact bodyPost_ret (results_cell_row rfl _ _ w.heap.size 33 #[.int .i64 11, .string ⟨#[]⟩, .int .i64 x, .slice none 0 0] (0, 0) _ rfl (set4_blk HZ3.out _ _ _ _) Tryz.underlying33 rfl infoT) rfl HE
      · go_wp2_with fail
        refine (mword_any w0 _ M w2.heap.size p (i + 1) (left - 1) label (HMT.out _) (by omega) HWA.out hne2).mono ?_
        rintro e w3 ⟨rfl, hm3, hg3⟩
        obtain ⟨⟨z0, z1, z2, z3⟩, f0, f1, f2, f3⟩ := blk_zero ((HZT.out _).grew hg3 hmne2)
        have HZ3 : Hid (Blk w3 w.heap.size 33 zeroT) := (HZT.out _).grew hg3 hmne2
        have HE := HF.out HRES.out w3 hm3 hg3
        clear hm3 hg3
        generalize wordOf p (i + 1) = x at *
        go_wp2_with fail
        exact bodyPost_ret (results_cell_row rfl _ _ w.heap.size 33 #[.int .i64 12, .string x, .int .i64 0, .slice none 0 0] (0, 0) _ rfl (set4_blk HZ3.out _ _ _ _) Tryz.underlying33 rfl infoT) rfl HE
      · go_wp2_with fail
        refine (mword_any w0 _ M w2.heap.size p (i + 1) (left - 1) label (HMT.out _) (by omega) HWA.out hne2).mono ?_
        rintro e w3 ⟨rfl, hm3, hg3⟩
        obtain ⟨⟨z0, z1, z2, z3⟩, f0, f1, f2, f3⟩ := blk_zero ((HZT.out _).grew hg3 hmne2)
        have HZ3 : Hid (Blk w3 w.heap.size 33 zeroT) := (HZT.out _).grew hg3 hmne2
        have HE := HF.out HRES.out w3 hm3 hg3
        clear hm3 hg3
        generalize wordOf p (i + 1) = x at *
        go_wp2_with fail
        exact bodyPost_ret (results_cell_row rfl _ _ w.heap.size 33 #[.int .i64 12, .string x, .int .i64 0, .slice none 0 0] (0, 0) _ rfl (set4_blk HZ3.out _ _ _ _) Tryz.underlying33 rfl infoT) rfl HE
      · go_wp2_with fail
        refine (mword_any w0 _ M w2.heap.size p (i + 1) (left - 1) label (HMT.out _) (by omega) HWA.out hne2).mono ?_
        rintro e w3 ⟨rfl, hm3, hg3⟩
        obtain ⟨⟨z0, z1, z2, z3⟩, f0, f1, f2, f3⟩ := blk_zero ((HZT.out _).grew hg3 hmne2)
        have HZ3 : Hid (Blk w3 w.heap.size 33 zeroT) := (HZT.out _).grew hg3 hmne2
        have HE := HF.out HRES.out w3 hm3 hg3
        clear hm3 hg3
        generalize wordOf p (i + 1) = x at *
        go_wp2_with fail
        exact bodyPost_ret (results_cell_row rfl _ _ w.heap.size 33 #[.int .i64 12, .string x, .int .i64 0, .slice none 0 0] (0, 0) _ rfl (set4_blk HZ3.out _ _ _ _) Tryz.underlying33 rfl infoT) rfl HE

end Go.Proofs.YtkioolbjmcpjpaaGreatDoor
