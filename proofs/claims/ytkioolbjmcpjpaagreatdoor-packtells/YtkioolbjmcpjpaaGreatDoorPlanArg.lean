/- A plan that came in: what is known of its numbers and its words. -/
import Derived.Test.YtkioolbjmcpjpaaGreatDoorMaker
import Derived.ProofKit
import Derived.OpenShut
import Derived.ShutString
import Derived.SizedLaws
import Derived.Lib.SmallJoins
namespace Go.Proofs.YtkioolbjmcpjpaaGreatDoor
open Go.ChangeShapes Go.WideShapes Go.ChangeAt Go.RowKit
set_option linter.unusedVariables false

def planV (p : Pl) : Value := .agg #[.slice p.na p.nl p.nc, .slice p.wa p.wl p.wc]
theorem cellsPlan : Tryz.prog.cellsOf 25 = 2 := by kernel_rfl
theorem plan_int_bd {n : Int} (h : (Lit.int .i64 n).wf = true) : -9223372036854775808 ≤ n ∧ n ≤ 9223372036854775807 := by
  have := bounds_i64 h
  omega
theorem plan_getD {α : Type} (l : List α) (i : Nat) (d : α) (h : i < l.length) : l.getD i d ∈ l := by
  rw [List.getD, List.getElem?_eq_getElem h]; exact List.getElem_mem h
theorem plan_cell_lt {w : World} {b o : Nat} {v : Value} (h : w.cell? ⟨b, o, none⟩ = some v) : b < w.heap.size := World.block_lt_of_cell? w _ h
theorem plan_at {w : World} {a : Addr} {i : Nat} {v v0 : Value} (h0 : w.cell? (a.add 0) = some v0) (h : w.cell? (a.add i) = some v) : ∃ b off, a = ⟨b, off, none⟩ ∧ w.cell? ⟨b, off + i, none⟩ = some v := by
  obtain ⟨b, off, spot⟩ := a
  have hspot : spot = none := by simpa [Addr.add] using World.cell?_spot h0
  subst hspot
  rw [Go.WideShapes.add_plain] at h
  exact ⟨b, off, rfl, h⟩
theorem ints_open {H : Type} {enc : TypeId × Value → H} {W : World} {x : Value} {n : Nat} {y : DataW H × List MemPlace} (hf : DataW.trod enc Tryz.prog W 0 (fun _ => true) true n 22 [x] = some y) : ∃ a l c f, x = .slice a l c ∧ HasInts W a l f ∧ l ≤ 9223372036854775807 := by
  rcases open_ints Tryz.underlying22 Tryz.underlying3 (by kernel_rfl) hf with ⟨hcs, _⟩ | ⟨x, l, c, ss, hcs, _, hl, hm, hz, _, hcell, hws⟩
  · simp at hcs
    exact ⟨none, 0, 0, fun _ => 0, hcs, fun i hi => absurd hi (by omega), by omega⟩
  · simp at hcs
    have hsl : ss.length = c := by simpa using hz
    refine ⟨some x, l, c, fun i => ss.getD i 0, hcs, ?_, by unfold maxLen at hm; omega⟩
    intro i hi
    have h1 := hcell i (by omega)
    obtain ⟨b, off, rfl, h2⟩ := plan_at (hcell 0 (by omega)) h1
    have h3 := plan_int_bd (hws _ (plan_getD ss i 0 (by omega)))
    exact ⟨b, off, rfl, plan_cell_lt h2, h2, h3.1, h3.2⟩
theorem strs_open {H : Type} {enc : TypeId × Value → H} {W : World} {x : Value} {n : Nat} {y : DataW H × List MemPlace} (hf : DataW.trod enc Tryz.prog W 0 (fun _ => true) true n 23 [x] = some y) : ∃ a l c f, x = .slice a l c ∧ HasStrs W a l f ∧ l ≤ 9223372036854775807 := by
  rcases open_strings Tryz.underlying23 Tryz.underlying9 (by kernel_rfl) hf with ⟨hcs, _⟩ | ⟨x, l, c, ss, hcs, _, hl, hm, hz, _, hcell, hws⟩
  · simp at hcs
    exact ⟨none, 0, 0, fun _ => ByteArray.empty, hcs, fun i hi => absurd hi (by omega), by omega⟩
  · simp at hcs
    have hsl : ss.length = c := by simpa using hz
    refine ⟨some x, l, c, fun i => ss.getD i ByteArray.empty, hcs, ?_, by unfold maxLen at hm; omega⟩
    intro i hi
    have h1 := hcell i (by omega)
    obtain ⟨b, off, rfl, h2⟩ := plan_at (hcell 0 (by omega)) h1
    exact ⟨b, off, rfl, plan_cell_lt h2, h2, hws _ (plan_getD ss i ByteArray.empty (by omega))⟩
set_option maxRecDepth 100000 in
theorem plan_open {H : Type} {enc : TypeId × Value → H} {W : World} {b0 : Nat} {v : Value} {d : DataW H} {ps : List MemPlace} (hv : Value.okWide Tryz.prog W .any b0 25 v) (h : DataW.Trod enc Tryz.prog W 0 (fun _ => true) true 25 v d ps) : ∃ p : Pl, v = planV p ∧ PlanIn W p := by
  obtain ⟨c0, c1, y0, y1, m, rfl, _, _, hy0, hy1⟩ := Go.Joins.open_agg2 Tryz.underlying25 (by kernel_rfl) cellsPlan hv h
  obtain ⟨a, l, c, f, rfl, h1, h2⟩ := ints_open hy0
  obtain ⟨a', l', c', f', rfl, h3, h4⟩ := strs_open hy1
  exact ⟨⟨a, l, c, f, a', l', c', f'⟩, rfl, h1, h3, h2, h4⟩

end Go.Proofs.YtkioolbjmcpjpaaGreatDoor
