/- The helpers of the statements on lists of texts and on names. -/
import Derived.Test.YtkioolbjmcpjpaaGreatDoorNames
namespace Go.Proofs.YtkioolbjmcpjpaaGreatDoor
open Go.RowKit
set_option linter.unusedVariables false

theorem below_drewN {B : Nat} {w w' : World} (h : Below B w w') (n : Nat) : Below B w (w'.drewN n) := ⟨h.os, h.tape, h.output, h.size, h.block⟩
theorem own_str {w : World} {B : Nat} {v : Value} {l : List ByteArray} (h : w.ownsRow B 9 1 v l.length (strCells l)) : ∃ ao cap, v = .slice ao l.length cap ∧ (∀ k (hk : k < l.length), ∃ g, ao = some ⟨g, 0, none⟩ ∧ g < w.heap.size ∧ w.cell? ⟨g, k, none⟩ = some (.string l[k])) ∧ l.length ≤ 9223372036854775807 := by
  rcases h.2 with ⟨rfl, h0⟩ | ⟨g, cap, cur, rfl, hb, hg, hnc, hcm, _⟩
  · exact ⟨none, 0, by rw [h0], fun k hk => by omega, by omega⟩
  · refine ⟨some ⟨g, 0, none⟩, cap, rfl, fun k hk => ⟨g, rfl, (Array.getElem?_eq_some_iff.1 hg).1, ?_⟩, by unfold maxLen at hcm; omega⟩
    rw [h.cellAt k (by omega)]
    simp [strCells, hk]

set_option maxHeartbeats 1000000 in
set_option maxRecDepth 100000 in
theorem kname_any (h : ByteArray) (n : Int) (w : World) (hh : h.size ≤ 100) (h1 : -9223372036854775808 ≤ n) (h2 : n ≤ 9223372036854775807) :
    Calls Tryz.prog 66 #[.string h, .int .i64 n, .int .i64 5] w fun e w' => ∃ s, e = .returned (.string s) ∧ s.size ≤ 200 ∧ Below w.heap.size w w' := by
  obtain ⟨q, hq⟩ : ∃ q : Nat, n % 5 = q := ⟨(n % 5).toNat, by omega⟩
  have hq5 : q < 5 := by omega
  have hcv : (convert 55 9 (.slice (some ⟨w.heap.size, 0, none⟩) 1 1)).run Tryz.prog (w.alloc (.cells #[.int .u8 (97 + (q : Int))] 5)) = .ok (.string (strOfNums [97 + (q : Int)])) (w.alloc (.cells #[.int .u8 (97 + (q : Int))] 5)) := by
    refine run_convert_bytes_arg _ 55 5 Tryz.underlying55 Tryz.underlying5 w.heap.size 0 1 1 [97 + (q : Int)] rfl (fun i hi => ?_) 9 Tryz.underlying9
    have : i = 0 := by omega
    subst this
    exact (cell_of_row _ _ _ _ _ _ (heap_alloc_new _ _)).trans rfl
  have hwr : IntKind.u8.wrap (97 + (q : Int)) = 97 + (q : Int) := by simp [IntKind.wrap, IntKind.bits, IntKind.signed]; omega
  have hs1 : (strOfNums [97 + (q : Int)]).size = 1 := rfl
  generalize strOfNums [97 + (q : Int)] = X at *
  go_enter Tryz.func66, Tryz.ntmps66
  go_wp2_with fail
  refine calls_same (within_any _ 5 _ (by omega) (by omega) h1 h2) ?_
  rw [hq]
  clear h1 h2 hq
  go_wp2_with fail
  go_ret
  refine ⟨h ++ X, rfl, by rw [ByteArray.size_append]; omega, below_alloc (Below.refl _ _) _⟩

end Go.Proofs.YtkioolbjmcpjpaaGreatDoor
