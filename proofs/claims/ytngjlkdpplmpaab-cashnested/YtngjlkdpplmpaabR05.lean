/- Fix and Choose of the document's world. -/
import Derived.Test.YtngjlkdpplmpaabR04
import Derived.Test.YtngjlkdpplmpaabRefN
namespace Go.Proofs.Ytngjlkdpplmpaab.Wd
open Go.RowKit Go.Maps
set_option linter.unusedVariables false

/-- What the document's world may turn: its own block, and rows of fixings and of choices, from block B on. -/
structure RT (B r : Nat) (w w' : World) : Prop where
  below : Below B w w'
  kept : ∀ k, k < w.heap.size → k ≠ r → (∀ cs, w.heap[k]? ≠ some (.cells cs 150)) → (∀ cs, w.heap[k]? ≠ some (.cells cs 125)) → w'.heap[k]? = w.heap[k]?
theorem RT.of_below {B r : Nat} {w w' : World} (h : Below w.heap.size w w') (hB : B ≤ w.heap.size) : RT B r w w' := ⟨h.mono hB, fun k hk _ _ _ => h.block k hk⟩
theorem RT.after {B r : Nat} {w w1 w2 : World} (h : RT B r w1 w2) (hb : Below w.heap.size w w1) (hB : B ≤ w.heap.size) : RT B r w w2 :=
  ⟨(hb.mono hB).trans h.below, fun k hk hkr h1 h2 => by
    have e := hb.block k hk
    exact (h.kept k (Nat.lt_of_lt_of_le hk hb.size) hkr (by rw [e]; exact h1) (by rw [e]; exact h2)).trans e⟩
theorem RIn.below {w w' : World} {B r : Nat} {K : KW} {vF vC : Value} (h : RIn w B r K vF vC) (hb : Below w.heap.size w w') : RIn w' B r K vF vC := by
  have hg : w.grownBy w' none := ⟨hb.os, hb.tape, hb.output, hb.size, fun k hk _ => hb.block k hk⟩
  refine ⟨(hb.block r (Array.getElem?_eq_some_iff.1 h.blk).1).trans h.blk, h.rf.kept hg ?_, h.rc.kept hg ?_, h.hr⟩
  · cases hv : vF.ownBlock <;> simp
  · cases hv : vC.ownBlock <;> simp
/-- A row's block holds elements of its type. -/
theorem row_block {w : World} {B : Nat} {e : TypeId} {size n : Nat} {v : Value} {xs : List Value} (h : w.ownsRow B e size v n xs) {k : Nat} (hk : v.ownBlock = some k) : ∃ cs, w.heap[k]? = some (.cells cs e) := by
  rcases h.2 with ⟨rfl, _⟩ | ⟨g, cap, cur, rfl, hb, hg, _⟩
  · simp [Value.ownBlock] at hk
  · simp [Value.ownBlock] at hk
    subst hk
    exact ⟨cur, hg⟩
theorem RIn.neF {w : World} {B r : Nat} {K : KW} {vF vC : Value} (h : RIn w B r K vF vC) : vF.ownBlock ≠ some r := by
  intro e
  obtain ⟨cs, hc⟩ := row_block h.rf e
  have := h.blk
  rw [hc] at this
  cases this
theorem RIn.neC {w : World} {B r : Nat} {K : KW} {vF vC : Value} (h : RIn w B r K vF vC) : vC.ownBlock ≠ some r := by
  intro e
  obtain ⟨cs, hc⟩ := row_block h.rc e
  have := h.blk
  rw [hc] at this
  cases this
theorem RIn.neFC {w : World} {B r : Nat} {K : KW} {vF vC : Value} (h : RIn w B r K vF vC) : vC.ownBlock = none ∨ vC.ownBlock ≠ vF.ownBlock := by
  cases hc : vC.ownBlock with
  | none => exact .inl rfl
  | some k =>
    right
    intro e
    obtain ⟨cs, h1⟩ := row_block h.rc hc
    obtain ⟨cs', h2⟩ := row_block h.rf e.symm
    rw [h1] at h2
    cases h2
theorem RIn.cell0 {w : World} {B r : Nat} {K : KW} {vF vC : Value} (h : RIn w B r K vF vC) : w.cell? ⟨r, 0, none⟩ = some vF := cell_blk h.blk rfl
theorem RIn.cell1 {w : World} {B r : Nat} {K : KW} {vF vC : Value} (h : RIn w B r K vF vC) : w.cell? ⟨r, 1, none⟩ = some vC := cell_blk h.blk rfl
/-- What a fixing more leaves. -/
theorem RIn.addF {w w1 : World} {B r : Nat} {K : KW} {vF vC v' : Value} (h : RIn w B r K vF vC) (hB : B ≤ w.heap.size) (q : (ByteArray × Int) × Int)
    (hown : w1.ownsRow B 150 3 v' (K.F.length + 1) (rF K.F ++ [.string q.1.1, .int .i64 q.1.2, .int .i64 q.2])) (hg : w.grownBy w1 vF.ownBlock) :
    RIn (w1.setCell ⟨r, 0, none⟩ v') B r ⟨K.F ++ [q], K.C⟩ v' vC ∧ RT B r w (w1.setCell ⟨r, 0, none⟩ v') := by
  have hr : r < w.heap.size := (Array.getElem?_eq_some_iff.1 h.blk).1
  have hb1 : w1.heap[r]? = some (.cells #[vF, vC] 84) := (hg.block r hr (fun e => h.neF e.symm)).trans h.blk
  have hne' : v'.ownBlock ≠ some r := by
    intro e
    obtain ⟨cs, hc⟩ := row_block hown e
    rw [hc] at hb1
    cases hb1
  have hrc : w1.ownsRow B 125 4 vC K.C.length (rC K.C) := h.rc.kept hg h.neFC
  refine ⟨⟨heap_setCell_same w1 r 0 _ _ _ hb1, ?_, ?_, h.hr⟩, ⟨?_, ?_⟩⟩
  · have := ownsRow_setCell_other hown (a := ⟨r, 0, none⟩) (by exact hne') v'
    rw [rF_app]
    simpa [rF] using this
  · exact ownsRow_setCell_other hrc (a := ⟨r, 0, none⟩) (by exact h.neC) v'
  · have hb : Below B w w1 := ⟨hg.os, hg.tape, hg.output, hg.size, fun k hk => hg.block k (by omega) (fun e => by have := (h.rf.lt k e.symm).1; omega)⟩
    exact hb.setCell h.hr v'
  · intro k hk hkr h1 h2
    rw [heap_setCell_other w1 ⟨r, 0, none⟩ k _ hkr]
    refine hg.block k hk (fun e => ?_)
    obtain ⟨cs, hc⟩ := row_block h.rf e.symm
    exact h1 cs hc
theorem RIn.addC {w w1 : World} {B r : Nat} {K : KW} {vF vC v' : Value} (h : RIn w B r K vF vC) (hB : B ≤ w.heap.size) (q : (ByteArray × ByteArray) × (Int × Int))
    (hown : w1.ownsRow B 125 4 v' (K.C.length + 1) (rC K.C ++ [.string q.1.1, .string q.1.2, .int .i64 q.2.1, .int .i64 q.2.2])) (hg : w.grownBy w1 vC.ownBlock) :
    RIn (w1.setCell ⟨r, 1, none⟩ v') B r ⟨K.F, K.C ++ [q]⟩ vF v' ∧ RT B r w (w1.setCell ⟨r, 1, none⟩ v') := by
  have hr : r < w.heap.size := (Array.getElem?_eq_some_iff.1 h.blk).1
  have hb1 : w1.heap[r]? = some (.cells #[vF, vC] 84) := (hg.block r hr (fun e => h.neC e.symm)).trans h.blk
  have hne' : v'.ownBlock ≠ some r := by
    intro e
    obtain ⟨cs, hc⟩ := row_block hown e
    rw [hc] at hb1
    cases hb1
  have hrf : w1.ownsRow B 150 3 vF K.F.length (rF K.F) := h.rf.kept hg (by
    rcases h.neFC with e | e
    · cases hv : vF.ownBlock with
      | none => exact .inl rfl
      | some k => right; rw [e]; simp
    · exact .inr (fun x => e x.symm))
  refine ⟨⟨heap_setCell_same w1 r 1 _ _ _ hb1, ?_, ?_, h.hr⟩, ⟨?_, ?_⟩⟩
  · exact ownsRow_setCell_other hrf (a := ⟨r, 1, none⟩) (by exact h.neF) v'
  · have := ownsRow_setCell_other hown (a := ⟨r, 1, none⟩) (by exact hne') v'
    rw [rC_app]
    simpa [rC] using this
  · have hb : Below B w w1 := ⟨hg.os, hg.tape, hg.output, hg.size, fun k hk => hg.block k (by omega) (fun e => by have := (h.rc.lt k e.symm).1; omega)⟩
    exact hb.setCell h.hr v'
  · intro k hk hkr h1 h2
    rw [heap_setCell_other w1 ⟨r, 1, none⟩ k _ hkr]
    refine hg.block k hk (fun e => ?_)
    obtain ⟨cs, hc⟩ := row_block h.rc e.symm
    exact h2 cs hc

end Go.Proofs.Ytngjlkdpplmpaab.Wd
