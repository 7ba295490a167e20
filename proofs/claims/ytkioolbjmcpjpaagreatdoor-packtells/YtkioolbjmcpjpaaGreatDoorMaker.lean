/- What takes a plan's numbers one by one, and its words. -/
import Derived.Test.YtkioolbjmcpjpaaGreatDoorNames
import Derived.Test.YtkioolbjmcpjpaaGreatDoorObsT2
namespace Go.Proofs.YtkioolbjmcpjpaaGreatDoor
open Go.RowKit
set_option linter.unusedVariables false

def cutTo (s : ByteArray) (n : Nat) : ByteArray := s.extract 0 (min s.size n)
theorem cutTo_size (s : ByteArray) (n : Nat) : (cutTo s n).size ≤ n := by unfold cutTo; rw [ByteArray.size_extract]; omega

set_option maxHeartbeats 1000000 in
set_option maxRecDepth 100000 in
theorem text_any (s : ByteArray) (n : Nat) (w : World) (hs : s.size ≤ maxLen) (hn : n ≤ 1000000) :
    Calls Tryz.prog 39 #[.string s, .int .i64 n] w fun e w' => e = .returned (.string (cutTo s n)) ∧ w' = w := by
  unfold maxLen at hs
  by_cases h : s.size ≤ n
  · have HC : Hid (cutTo s n = s.extract 0 s.size) := by unfold Hid cutTo; rw [Nat.min_eq_left h]
    have h' : (s.size : Int) ≤ (n : Int) := by omega
    go_enter Tryz.func39, Tryz.ntmps39
    go_wp2
    go_ret
    rw [HC.out]
    exact ⟨by simp, rfl⟩
  · have HC : Hid (cutTo s n = s.extract 0 n) := by unfold Hid cutTo; rw [Nat.min_eq_right (by omega)]
    have h' : (n : Int) < (s.size : Int) := by omega
    go_enter Tryz.func39, Tryz.ntmps39
    go_wp2
    go_ret
    rw [HC.out]
    exact ⟨by simp, rfl⟩

/-- What is known of a list of texts that came in. -/
def HasStrs (w : World) (a : Option Addr) (len : Nat) (f : Nat → ByteArray) : Prop :=
  ∀ i, i < len → ∃ b off, a = some ⟨b, off, none⟩ ∧ b < w.heap.size ∧ w.cell? ⟨b, off + i, none⟩ = some (.string (f i)) ∧ (f i).size ≤ maxLen
/-- What is known of a list of numbers that came in. -/
def HasInts (w : World) (a : Option Addr) (len : Nat) (f : Nat → Int) : Prop :=
  ∀ i, i < len → ∃ b off, a = some ⟨b, off, none⟩ ∧ b < w.heap.size ∧ w.cell? ⟨b, off + i, none⟩ = some (.int .i64 (f i)) ∧ -9223372036854775808 ≤ f i ∧ f i ≤ 9223372036854775807

/-- What a block holds. -/
def Blk (w : World) (b : Nat) (t : TypeId) (cs : Array Value) : Prop := w.heap[b]? = some (.cells cs t (0, 0))
theorem Blk.cell {w : World} {b t : Nat} {cs : Array Value} (h : Blk w b t cs) (i : Nat) : w.cell? ⟨b, i, none⟩ = cs[i]? := cell_of_row w b i cs t _ h
theorem Blk.frozen {w : World} {b t : Nat} {cs : Array Value} (h : Blk w b t cs) (i : Nat) : w.frozen? ⟨b, i, none⟩ = false := frozen_of_row w b i cs t h
theorem Blk.set {w : World} {b t : Nat} {cs : Array Value} (h : Blk w b t cs) (i : Nat) (x : Value) : Blk (w.setCell ⟨b, i, none⟩ x) b t (cs.setIfInBounds i x) := heap_setCell_same w b i cs t x h
theorem Blk.lt {w : World} {b t : Nat} {cs : Array Value} (h : Blk w b t cs) : b < w.heap.size := (Array.getElem?_eq_some_iff.1 h).1
theorem Blk.below {w w' : World} {b t B : Nat} {cs : Array Value} (h : Blk w b t cs) (hb : Below B w w') (hB : b < B) : Blk w' b t cs := (hb.block b hB).trans h
theorem Blk.grew {w w' : World} {b t M : Nat} {cs : Array Value} (h : Blk w b t cs) (hg : Grew M none w w') (hM : b ≠ M) : Blk w' b t cs := (hg.block b h.lt hM (by simp)).trans h

/-- A plan: its numbers and its words. -/
structure Pl where
  na : Option Addr
  nl : Nat
  nc : Nat
  nf : Nat → Int
  wa : Option Addr
  wl : Nat
  wc : Nat
  wf : Nat → ByteArray
/-- A plan lies in memory. -/
structure PlanIn (w : World) (p : Pl) : Prop where
  ints : HasInts w p.na p.nl p.nf
  strs : HasStrs w p.wa p.wl p.wf
  nl : p.nl ≤ 9223372036854775807
  wl : p.wl ≤ 9223372036854775807
theorem PlanIn.below {w w' : World} {p : Pl} (h : PlanIn w p) (hb : Below w.heap.size w w') : PlanIn w' p := by
  refine ⟨fun i hi => ?_, fun i hi => ?_, h.nl, h.wl⟩
  · obtain ⟨b, o, e, hl, hc, h1⟩ := h.ints i hi
    exact ⟨b, o, e, Nat.lt_of_lt_of_le hl hb.size, (hb.cell (p := ⟨b, o + i, none⟩) hl).trans hc, h1⟩
  · obtain ⟨b, o, e, hl, hc, h1⟩ := h.strs i hi
    exact ⟨b, o, e, Nat.lt_of_lt_of_le hl hb.size, (hb.cell (p := ⟨b, o + i, none⟩) hl).trans hc, h1⟩
/-- The number of a plan at a place (0 behind the last one). -/
def nth (p : Pl) (i : Nat) : Int := if i < p.nl then p.nf i else 0
/-- The cells of what takes a plan's numbers. -/
def mk5 (p : Pl) (i : Nat) (left label : Int) : Array Value := #[.slice p.na p.nl p.nc, .slice p.wa p.wl p.wc, .int .i64 i, .int .i64 left, .int .i64 label]
/-- What takes a plan's numbers lies in block M, behind all that the plan is. -/
structure MIn (w0 w : World) (M : Nat) (p : Pl) (i : Nat) (left label : Int) : Prop where
  plan : PlanIn w0 p
  old : w0.heap.size ≤ M
  below : Below w0.heap.size w0 w
  blk : Blk w M 173 (mk5 p i left label)
theorem MIn.cells {w0 w : World} {M : Nat} {p : Pl} {i : Nat} {left label : Int} (h : MIn w0 w M p i left label) : w.cell? ⟨M, 0, none⟩ = some (.slice p.na p.nl p.nc) ∧ w.cell? ⟨M, 1, none⟩ = some (.slice p.wa p.wl p.wc) ∧ w.cell? ⟨M, 2, none⟩ = some (.int .i64 i) ∧ w.cell? ⟨M, 3, none⟩ = some (.int .i64 left) ∧ (∀ k, w.frozen? ⟨M, k, none⟩ = false) :=
  ⟨h.blk.cell 0, h.blk.cell 1, h.blk.cell 2, h.blk.cell 3, h.blk.frozen⟩
theorem Grew.drewN {M : Nat} {r : Option Nat} {w w' : World} (h : Grew M r w w') (n : Nat) : Grew M r w (w'.drewN n) := ⟨h.os, h.tape, h.output, h.size, h.block⟩
theorem Grew.drew {M : Nat} {r : Option Nat} {w w' : World} (h : Grew M r w w') : Grew M r w w'.drew := ⟨h.os, h.tape, h.output, h.size, h.block⟩
theorem Grew.set {M : Nat} {r : Option Nat} {w w' : World} (h : Grew M r w w') (i : Nat) (x : Value) : Grew M r w (w'.setCell ⟨M, i, none⟩ x) :=
  ⟨h.os, h.tape, h.output, by rw [World.size_setCell]; exact h.size, fun k hk hM hr => (heap_setCell_other w' ⟨M, i, none⟩ k x hM).trans (h.block k hk hM hr)⟩
theorem Grew.alloc {M : Nat} {r : Option Nat} {w w' : World} (h : Grew M r w w') (o : Obj) : Grew M r w (w'.alloc o) :=
  h.trans (Grew.of_below (below_alloc (Below.refl _ _) o)) (.inl rfl)
theorem MIn.next {w0 w w' : World} {M : Nat} {p : Pl} {i j : Nat} {left label l2 : Int} (h : MIn w0 w M p i left label) (hg : Grew M none w w') (hb : Blk w' M 173 (mk5 p j l2 label)) : MIn w0 w' M p j l2 label :=
  ⟨h.plan, h.old, h.below.trans (hg.below h.below.size h.old (fun k hk => by cases hk)), hb⟩

set_option maxHeartbeats 1000000 in
set_option maxRecDepth 100000 in
theorem mn_any (w0 w : World) (M : Nat) (p : Pl) (i : Nat) (left label : Int) (f : Nat) (h : MIn w0 w M p i left label) (hi : i ≤ 1000000) (hf1 : 1 ≤ f) (hf2 : f ≤ 1000) :
    Calls Tryz.prog 119 #[.pointer (some ⟨M, 0, none⟩), .int .i64 f] w fun e w' => e = .returned (.int .i64 (nth p i % f)) ∧ MIn w0 w' M p (i + 1) left label ∧ Grew M none w w' := by
  obtain ⟨g0, g1, g2, g3, gf⟩ := h.cells
  have hf := gf 2
  have HM : Hid (MIn w0 w M p i left label) := h
  have hnl := h.plan.nl
  have HE : Hid (∀ W : World, Blk W M 173 (mk5 p i left label) → Blk (W.setCell ⟨M, 2, none⟩ (.int .i64 ((i : Int) + 1))) M 173 (mk5 p (i + 1) left label)) := fun W hb => hb.set 2 (.int .i64 ((i : Int) + 1))
  clear h gf g1 g3
  by_cases hlt : i < p.nl
  · have hlt' : (i : Int) < (p.nl : Int) := by omega
    obtain ⟨nb, no, hna, hnb, hnc, hn1, hn2⟩ := HM.out.plan.ints i hlt
    have hc : w.cell? ⟨nb, no + i, none⟩ = some (.int .i64 (p.nf i)) := (HM.out.below.cell (p := ⟨nb, no + i, none⟩) hnb).trans hnc
    have HN : Hid (nth p i = p.nf i) := by unfold Hid nth; rw [if_pos hlt]
    clear hnc
    rw [hna] at g0
    go_enter Tryz.func119, Tryz.ntmps119
    go_wp2_with fail
    go_quiet (fail)
    go_wp2_with fail
    go_quiet (fail)
    go_wp2_with fail
    refine calls_same (within_any _ _ _ (by omega) (by omega) hn1 hn2) ?_
    go_wp2_with fail
    go_ret
    refine ⟨by rw [HN.out]; rfl, HM.out.next ?_ (HE.out _ HM.out.blk), ?_⟩ <;> exact Grew.set (Grew.drewN (Grew.refl _ _ _) _) _ _
  · have hlt' : ¬ (i : Int) < (p.nl : Int) := by omega
    have HN : Hid (nth p i = 0) := by unfold Hid nth; rw [if_neg hlt]
    go_enter Tryz.func119, Tryz.ntmps119
    go_wp2_with fail
    go_quiet (fail)
    go_wp2_with fail
    refine calls_same (within_any _ _ _ (by omega) (by omega) (by omega) (by omega)) ?_
    go_wp2_with fail
    go_ret
    refine ⟨by rw [HN.out]; rfl, HM.out.next ?_ (HE.out _ HM.out.blk), ?_⟩ <;> exact Grew.set (Grew.drewN (Grew.refl _ _ _) _) _ _

def word3 : Array Value := #[.string ⟨#[108, 105, 98, 111, 114]⟩, .string ⟨#[114, 97, 105, 110]⟩, .string ⟨#[195, 182, 108]⟩]
def wordN (k : Nat) : ByteArray := if k = 0 then ⟨#[108, 105, 98, 111, 114]⟩ else if k = 1 then ⟨#[114, 97, 105, 110]⟩ else ⟨#[195, 182, 108]⟩
/-- The word that a plan has at a place. -/
def wordOf (p : Pl) (i : Nat) : ByteArray := if nth p i % 9 = 7 ∧ 0 < p.wl then cutTo (p.wf (7 % p.wl)) 14 else wordN ((nth p i % 9).toNat % 3)
theorem wordN_size (k : Nat) : (wordN k).size ≤ 14 := by
  unfold wordN
  split
  · decide
  · split <;> decide
theorem wordOf_size (p : Pl) (i : Nat) : (wordOf p i).size ≤ 14 := by
  unfold wordOf
  split
  · exact cutTo_size _ _
  · exact wordN_size _
theorem wordN_cell (k : Nat) (h : k < 3) : word3[k]? = some (.string (wordN k)) := by
  have : k = 0 ∨ k = 1 ∨ k = 2 := by omega
  rcases this with rfl | rfl | rfl <;> rfl

set_option maxHeartbeats 1000000 in
set_option maxRecDepth 100000 in
theorem mword_any (w0 w : World) (M L : Nat) (p : Pl) (i : Nat) (left label : Int) (h : MIn w0 w M p i left label) (hi : i ≤ 1000000) (hL : Blk w L 9 word3) (hLM : L ≠ M) :
    Calls Tryz.prog 120 #[.pointer (some ⟨M, 0, none⟩), .slice (some ⟨L, 0, none⟩) 3 3] w fun e w' => e = .returned (.string (wordOf p i)) ∧ MIn w0 w' M p (i + 1) left label ∧ Grew M none w w' := by
  obtain ⟨q, hq⟩ : ∃ q : Nat, nth p i % 9 = q := ⟨(nth p i % 9).toNat, by omega⟩
  have hq9 : q < 9 := by omega
  have HQ : Hid (nth p i % (9 : Nat) = q) := hq
  have HW : Hid (wordOf p i = if q = 7 ∧ 0 < p.wl then cutTo (p.wf (7 % p.wl)) 14 else wordN (q % 3)) := by
    unfold Hid wordOf
    rw [hq]
    by_cases h7 : q = 7 ∧ 0 < p.wl
    · rw [if_pos h7, if_pos ⟨by omega, h7.2⟩]
    · rw [if_neg h7, if_neg (fun e => h7 ⟨by omega, e.2⟩)]; simp
  have hwl := h.plan.wl
  have HM0 : Hid (MIn w0 w M p i left label) := h
  have HL : Hid (Blk w L 9 word3) := hL
  clear hq h hL
  go_enter Tryz.func120, Tryz.ntmps120
  go_wp2_with fail
  refine (mn_any w0 w M p i left label 9 HM0.out hi (by omega) (by omega)).mono ?_
  rintro e w1 ⟨rfl, hm1, hg1⟩
  rw [HQ.out]
  have hl1 := HL.out.grew hg1 hLM
  have hcl : w1.cell? ⟨L, q % 3, none⟩ = some (.string (wordN (q % 3))) := (hl1.cell (q % 3)).trans (wordN_cell _ (by omega))
  obtain ⟨g0, g1, g2, g3, gf⟩ := hm1.cells
  have HM1 : Hid (MIn w0 w1 M p (i + 1) left label) := hm1
  have HG1 : Hid (Grew M none w w1) := hg1
  clear hl1 hm1 hg1 gf g0 g2 g3
  have hmod : (q : Int) % 3 = ((q % 3 : Nat) : Int) := by omega
  by_cases h7 : q = 7 ∧ 0 < p.wl
  · obtain ⟨rfl, h0⟩ := h7
    have h0' : (0 : Int) < (p.wl : Int) := by omega
    obtain ⟨j, hj⟩ : ∃ j, j = 7 % p.wl := ⟨_, rfl⟩
    have hjl : j < p.wl := by rw [hj]; exact Nat.mod_lt _ h0
    have hjl' : (j : Int) < (p.wl : Int) := by omega
    have hjm : Int.tmod 7 (p.wl : Int) = (j : Int) := by rw [hj]; rfl
    obtain ⟨sb, so, hsa, hsb, hsc, hss⟩ := HM1.out.plan.strs j hjl
    have hc : w1.cell? ⟨sb, so + j, none⟩ = some (.string (p.wf j)) := (HM1.out.below.cell (p := ⟨sb, so + j, none⟩) hsb).trans hsc
    have HW3 : Hid (wordOf p i = cutTo (p.wf j) 14) := by unfold Hid; rw [HW.out, if_pos ⟨rfl, h0⟩, hj]
    have HSS : Hid ((p.wf j).size ≤ maxLen) := hss
    rw [hsa] at g1
    clear hsc hj hss
    have hne : ¬ (p.wl : Int) = 0 := by omega
    go_wp2_with fail
    go_quiet ((go_at_call 39; refine Calls.quiet_of_same (text_any _ 14 _ HSS.out (by omega))))
    go_wp2_with fail
    go_ret
    exact ⟨by rw [HW3.out]; rfl, HM1.out.next (Grew.drewN (Grew.refl _ _ _) _) HM1.out.blk, HG1.out.drewN _⟩
  · have HW2 : Hid (wordOf p i = wordN (q % 3)) := by unfold Hid; rw [HW.out, if_neg h7]
    clear HW HQ
    by_cases h0 : 0 < p.wl
    · have h0' : (0 : Int) < (p.wl : Int) := by omega
      have hq : q = 0 ∨ q = 1 ∨ q = 2 ∨ q = 3 ∨ q = 4 ∨ q = 5 ∨ q = 6 ∨ q = 8 := by omega
      clear h7
      rcases hq with rfl | rfl | rfl | rfl | rfl | rfl | rfl | rfl
      all_goals
        go_wp2_with fail
        go_ret
        exact ⟨by rw [HW2.out]; rfl, HM1.out, HG1.out⟩
    · have h0' : ¬ (0 : Int) < (p.wl : Int) := by omega
      have hq : q = 0 ∨ q = 1 ∨ q = 2 ∨ q = 3 ∨ q = 4 ∨ q = 5 ∨ q = 6 ∨ q = 7 ∨ q = 8 := by omega
      clear h7
      rcases hq with rfl | rfl | rfl | rfl | rfl | rfl | rfl | rfl | rfl
      all_goals
        go_wp2_with fail
        go_ret
        exact ⟨by rw [HW2.out]; rfl, HM1.out, HG1.out⟩

end Go.Proofs.YtkioolbjmcpjpaaGreatDoor
