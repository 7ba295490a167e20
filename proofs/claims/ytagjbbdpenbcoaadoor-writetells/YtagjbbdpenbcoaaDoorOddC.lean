/- What is none of package api's contracts, as the statements make it; the contract of a tree is no greater than the tree. -/
import Derived.Test.YtagjbbdpenbcoaaDoorTermP
import Derived.Test.YtagjbbdpenbcoaaDoorSpoil0
import Derived.Test.YtagjbbdpenbcoaaDoorTermWalk
namespace Go.Proofs.YtagjbbdpenbcoaaDoor
open Go.RowKit
set_option linter.unusedVariables false

def OddPostC (w : World) (e : Ending) (w' : World) : Prop := ∃ c : C, e = .returned c.val ∧ c.Ok ∧ c.weight ≤ 10 ∧ Below w.heap.size w w'
theorem strangeC_of (t : TypeId) (x : Value) (h0 : t ≠ 64) (h1 : t ≠ 44) (h2 : t ≠ 67) (h3 : t ≠ 46) (h4 : t ≠ 69) (h5 : t ≠ 73) (h6 : t ≠ 71) (h7 : t ≠ 77) : (C.odd (.iface t x)).Ok := .inr ⟨t, x, rfl, h0, h1, h2, h3, h4, h5, h6, h7⟩

set_option maxHeartbeats 2000000 in
set_option maxRecDepth 100000 in
theorem oddC_any (n : Int) (w : World) (h1 : -9223372036854775808 ≤ n) (h2 : n ≤ 9223372036854775807) : Calls Tryd.prog 35 #[.int .i64 n] w (OddPostC w) := by
  obtain ⟨q, hq⟩ : ∃ q : Nat, n % 9 = q := ⟨(n % 9).toNat, by omega⟩
  have hq9 : q = 0 ∨ q = 1 ∨ q = 2 ∨ q = 3 ∨ q = 4 ∨ q = 5 ∨ q = 6 ∨ q = 7 ∨ q = 8 := by omega
  have hmm := @run_makeMap Tryd.prog
  go_enter Tryd.func35, Tryd.ntmps35
  go_wp2_with fail
  refine calls_same (within_any _ 9 _ (by omega) (by omega) h1 h2) ?_
  rw [hq]
  clear h1 h2 hq
  rcases hq9 with rfl | rfl | rfl | rfl | rfl | rfl | rfl | rfl | rfl
  all_goals
    go_wp2_with fail
    go_ret
    first
      | exact ⟨.odd .nilIface, rfl, .inl rfl, by simp [C.weight], by repeat first | exact Below.refl _ _ | refine below_alloc ?_ _⟩
      | exact ⟨.odd (.iface _ _), rfl, strangeC_of _ _ (by decide) (by decide) (by decide) (by decide) (by decide) (by decide) (by decide) (by decide), by simp [C.weight], by repeat first | exact Below.refl _ _ | refine below_alloc ?_ _⟩
theorem termOf_weight (t : T) (h : SC t) : (termOf t).weight ≤ 2 * t.cnt := by
  induction h with
  | leaf kind s n k h hs =>
    unfold termOf T.cnt
    split
    · simp only [C.weight]; omega
    · split
      · simp only [C.weight]; omega
      · split <;> first | omega | (simp only [C.weight]; omega)
  | give s n a ha iha => show (C.give (termOf a)).weight ≤ _; simp only [C.weight, T.cnt, cntL] at *; omega
  | and s n a b ha hb iha ihb => show (C.and (termOf a) (termOf b)).weight ≤ _; simp only [C.weight, T.cnt, cntL] at *; omega
  | or s n a b hs ha hb iha ihb => show (C.or s (termOf a) (termOf b)).weight ≤ _; simp only [C.weight, T.cnt, cntL] at *; omega
  | scale s n o a ho ha iha => have := obsOf_nodes o; show (C.scale (obsOf o) (termOf a)).weight ≤ _; simp only [C.weight, T.cnt, cntL] at *; omega
  | when s n a hn ha iha => show (C.when n (termOf a)).weight ≤ _; simp only [C.weight, T.cnt, cntL] at *; omega
  | iff s n o a b ho ha hb iha ihb => have := obsOf_nodes o; show (C.iff (obsOf o) (termOf a) (termOf b)).weight ≤ _; simp only [C.weight, T.cnt, cntL] at *; omega

end Go.Proofs.YtagjbbdpenbcoaaDoor
