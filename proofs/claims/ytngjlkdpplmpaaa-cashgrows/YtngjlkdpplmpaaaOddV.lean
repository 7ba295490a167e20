/- What is none of package api's numbers, as the statements make it. -/
import Derived.Test.YtngjlkdpplmpaaaSize
namespace Go.Proofs.Ytngjlkdpplmpaaa
open Go.RowKit
set_option linter.unusedVariables false

def OddPost (w : World) (e : Ending) (w' : World) : Prop := ∃ o : O, e = .returned o.val ∧ o.Ok ∧ (o = .const 1 ∨ ∃ v, o = .odd v) ∧ Below w.heap.size w w'
theorem strange_of (t : TypeId) (x : Value) (h0 : t ≠ 26) (h1 : t ≠ 50) (h2 : t ≠ 52) (h3 : t ≠ 157) (h4 : t ≠ 158) (h5 : t ≠ 159) : (O.odd (.iface t x)).Ok := .inr ⟨t, x, rfl, h0, h1, h2, h3, h4, h5⟩

set_option maxHeartbeats 2000000 in
set_option maxRecDepth 100000 in
theorem odd_any (n : Int) (w : World) (h1 : -9223372036854775808 ≤ n) (h2 : n ≤ 9223372036854775807) : Calls Try.prog 33 #[.int .i64 n] w (OddPost w) := by
  obtain ⟨q, hq⟩ : ∃ q : Nat, n % 9 = q := ⟨(n % 9).toNat, by omega⟩
  have hq9 : q = 0 ∨ q = 1 ∨ q = 2 ∨ q = 3 ∨ q = 4 ∨ q = 5 ∨ q = 6 ∨ q = 7 ∨ q = 8 := by omega
  have hmm := @run_makeMap Try.prog
  go_enter Try.func33, Try.ntmps33
  go_wp2_with fail
  refine calls_same (within_any _ 9 _ (by omega) (by omega) h1 h2) ?_
  rw [hq]
  clear h1 h2 hq
  rcases hq9 with rfl | rfl | rfl | rfl | rfl | rfl | rfl | rfl | rfl
  all_goals
    go_wp2_with fail
    go_ret
    first
      | exact ⟨.odd .nilIface, rfl, .inl rfl, .inr ⟨_, rfl⟩, by repeat first | exact Below.refl _ _ | refine below_alloc ?_ _⟩
      | exact ⟨.const 1, rfl, by simp [O.Ok], .inl rfl, by repeat first | exact Below.refl _ _ | refine below_alloc ?_ _⟩
      | exact ⟨.odd (.iface _ _), rfl, strange_of _ _ (by decide) (by decide) (by decide) (by decide) (by decide) (by decide), .inr ⟨_, rfl⟩, by repeat first | exact Below.refl _ _ | refine below_alloc ?_ _⟩

end Go.Proofs.Ytngjlkdpplmpaaa
