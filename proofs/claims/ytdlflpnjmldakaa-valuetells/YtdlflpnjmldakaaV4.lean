/- Both worlds in memory, one beside the other: the program's and the document's. -/
import Derived.Test.YtdlflpnjmldakaaVNeeds0
import Derived.Test.YtdlflpnjmldakaaR06
namespace Go.Proofs.Ytdlflpnjmldakaa.Vl
open Go.RowKit Wd Cn
set_option linter.unusedVariables false

theorem rin_gr {w w' : World} {B r M : Nat} {K : KW} {vF vC : Value} (h : RIn w B r K vF vC) (hg : Gr M w w') (hM : ∃ es cl, w.heap[M]? = some (.map es cl)) : RIn w' B r K vF vC := by
  obtain ⟨es, cl, hm⟩ := hM
  have hr : r ≠ M := by
    rintro rfl
    have := h.blk
    rw [hm] at this
    cases this
  have hgb : w.grownBy w' (some M) := ⟨hg.os, hg.tape, hg.output, hg.size, fun k hk hne => hg.block k hk (fun e => hne (by rw [e]))⟩
  refine ⟨(hg.block r (Array.getElem?_eq_some_iff.1 h.blk).1 hr).trans h.blk, h.rf.kept hgb ?_, h.rc.kept hgb ?_, h.hr⟩
  · right
    intro e
    obtain ⟨cs, hc⟩ := row_block h.rf e
    rw [hm] at hc
    cases hc
  · right
    intro e
    obtain ⟨cs, hc⟩ := row_block h.rc e
    rw [hm] at hc
    cases hc
theorem rt_cells {B r : Nat} {w w' : World} (h : RT B r w w') {k : Nat} {cs : Array Value} {t : TypeId} (hk : w.heap[k]? = some (.cells cs t)) (hr : k ≠ r) (h1 : t ≠ 123) (h2 : t ≠ 163) : w'.heap[k]? = some (.cells cs t) := by
  rw [h.kept k (Array.getElem?_eq_some_iff.1 hk).1 hr (fun cs' e => ?_) (fun cs' e => ?_)]
  · exact hk
  · rw [hk] at e; injection e with e; injection e with _ e; exact h1 e
  · rw [hk] at e; injection e with e; injection e with _ e; exact h2 e
theorem rt_map {B r : Nat} {w w' : World} (h : RT B r w w') {k : Nat} {es : Array MapEntry} {cl : Nat} (hk : w.heap[k]? = some (.map es cl)) (hr : k ≠ r) : w'.heap[k]? = w.heap[k]? :=
  h.kept k (Array.getElem?_eq_some_iff.1 hk).1 hr (fun cs e => by rw [hk] at e; cases e) (fun cs e => by rw [hk] at e; cases e)
theorem in_rt {w0 W W' : World} {p f c r B : Nat} {K Kr : KW} {vF vC : Value} (h : In w0 W p f c K) (hr : RIn W B r Kr vF vC) (hB : w0.heap.size ≤ B) (ht : RT B r W W') : In w0 W' p f c K := by
  have hpr : p ≠ r := by
    rintro rfl
    have := h.kin.blk
    rw [hr.blk] at this
    injection this with e
    injection e with _ e
    exact absurd e (by decide)
  obtain ⟨es1, c1, m1, l1⟩ := h.kin.fix
  obtain ⟨es2, c2, m2, l2⟩ := h.kin.ch
  have hfr : f ≠ r := by
    rintro rfl
    rw [hr.blk] at m1
    cases m1
  have hcr : c ≠ r := by
    rintro rfl
    rw [hr.blk] at m2
    cases m2
  refine ⟨h.kin.same ?_ (rt_map ht m1 hfr) (rt_map ht m2 hcr), h.below.trans (ht.below.mono hB), h.hp, h.hf, h.hc⟩
  rw [rt_cells ht h.kin.blk hpr (by decide) (by decide), h.kin.blk]

/-- Both worlds in memory, with what each knows; the one from w0 on, the other from block B on. -/
structure Bo (w0 W : World) (p f c r B : Nat) (Kc Kr : KW) : Prop where
  i : In w0 W p f c Kc
  rr : ∃ vF vC, RIn W B r Kr vF vC
  hB : w0.heap.size ≤ B
  hBW : B ≤ W.heap.size
theorem Bo.step {w0 W W' : World} {p f c r B : Nat} {Kc Kr : KW} (h : Bo w0 W p f c r B Kc Kr) (hb : Below W.heap.size W W') : Bo w0 W' p f c r B Kc Kr := by
  obtain ⟨vF, vC, hr⟩ := h.rr
  exact ⟨h.i.step hb, ⟨vF, vC, hr.below hb⟩, h.hB, Nat.le_trans h.hBW hb.size⟩
theorem Bo.gr {w0 W W' : World} {p f c r B M : Nat} {Kc Kc' Kr : KW} (h : Bo w0 W p f c r B Kc Kr) (hk : KIn W' p f c Kc') (hg : Gr M W W') (hM : w0.heap.size ≤ M) (hm : ∃ es cl, W.heap[M]? = some (.map es cl)) : Bo w0 W' p f c r B Kc' Kr := by
  obtain ⟨vF, vC, hr⟩ := h.rr
  exact ⟨h.i.gr hk hg hM, ⟨vF, vC, rin_gr hr hg hm⟩, h.hB, Nat.le_trans h.hBW hg.size⟩
theorem Bo.rt {w0 W W' : World} {p f c r B : Nat} {Kc Kr Kr' : KW} (h : Bo w0 W p f c r B Kc Kr) (hk : ∃ vF vC, RIn W' B r Kr' vF vC) (ht : RT B r W W') : Bo w0 W' p f c r B Kc Kr' := by
  obtain ⟨vF, vC, hr⟩ := h.rr
  exact ⟨in_rt h.i hr h.hB ht, hk, h.hB, Nat.le_trans h.hBW ht.below.size⟩
theorem Bo.mapF {w0 W : World} {p f c r B : Nat} {Kc Kr : KW} (h : Bo w0 W p f c r B Kc Kr) : ∃ es cl, W.heap[f]? = some (.map es cl) := by
  obtain ⟨es, cl, hm, _⟩ := h.i.kin.fix
  exact ⟨es, cl, hm⟩
/-- What stands beside both stays: what is neither map, nor the document's world, nor a row of it. -/
theorem bo_fix {w0 W : World} {p f c r B : Nat} {Kc Kr : KW} (h : Bo w0 W p f c r B Kc Kr) (s : ByteArray) (d v : Int) (hk : fixOk (s, d)) :
    Calls Try.prog 10 #[.pointer (some ⟨p, 0, none⟩), .string s, .int .i64 d, .int .i64 v] W fun e w' => e = .returned (.int .i64 (fixE Kc s d v)) ∧ Bo w0 w' p f c r B (fixN Kc s d v) Kr ∧ Gr f W w' :=
  (fix_any W p f c Kc h.i.kin s d v hk).mono fun e w' h1 => ⟨h1.1, h.gr h1.2.1 h1.2.2 h.i.hf h.mapF, h1.2.2⟩
theorem bo_rfix {w0 W : World} {p f c r B : Nat} {Kc Kr : KW} (h : Bo w0 W p f c r B Kc Kr) (s : ByteArray) (d v : Int) (hs : s.size ≤ 1000000) (hl : Kr.F.length ≤ 1000) :
    Calls Try.prog 34 #[.pointer (some ⟨r, 0, none⟩), .string s, .int .i64 d, .int .i64 v] W fun e w' => e = .returned (.int .i64 (fixE Kr s d v)) ∧ Bo w0 w' p f c r B Kc (fixN Kr s d v) ∧ RT B r W w' := by
  obtain ⟨vF, vC, hr⟩ := h.rr
  exact (refFix_any W _ r Kr vF vC hr h.hBW s d v hs hl).mono fun e w' h1 => ⟨h1.1, h.rt h1.2.1 h1.2.2, h1.2.2⟩

end Go.Proofs.Ytdlflpnjmldakaa.Vl
