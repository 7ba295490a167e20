/- New, Fixed, Chosen, Fixes of the program's world: what each answers. -/
import Derived.Test.YtngjlkdpplmpaabKn
import Derived.OwnWalk
namespace Go.Proofs.Ytngjlkdpplmpaab.Wd
open Go.RowKit Go.Maps
set_option linter.unusedVariables false

def dayB (d : Int) : Bool := decide (0 ≤ d) && decide (d ≤ 10000)
def pickB (p : Int) : Bool := decide (p = 0) || decide (p = 1)
def NewAt (w w' : World) (b : Nat) : Prop := ∃ f c, KIn w' b f c ⟨[], []⟩ ∧ w.heap.size ≤ b ∧ w.heap.size ≤ f ∧ w.heap.size ≤ c ∧ Below w.heap.size w w'

set_option maxHeartbeats 400000 in
theorem day_any (d : Int) (w : World) :
    Calls Try.prog 28 #[.int .i64 d] w fun e w' => e = .returned (.bool (dayB d)) ∧ w' = w := by
  by_cases h1 : (0 : Int) ≤ d <;> by_cases h2 : d ≤ (10000 : Int)
  all_goals
    go_enter Try.func28, Try.ntmps28
    go_wp2
    go_ret
    exact ⟨by simp [dayB, h1, h2], rfl⟩

set_option maxHeartbeats 400000 in
theorem pick_any (d : Int) (w : World) :
    Calls Try.prog 27 #[.int .i64 d] w fun e w' => e = .returned (.bool (pickB d)) ∧ w' = w := by
  cases h1 : (d == 0) <;> cases h2 : (d == 1)
  all_goals
    go_enter Try.func27, Try.ntmps27
    go_wp2
    go_ret
    refine ⟨ret_bool ?_, rfl⟩
    simp at h1 h2
    simp [pickB, h1, h2]

theorem size_alloc (w : World) (o : Obj) : (w.alloc o).heap.size = w.heap.size + 1 := by
  show (w.heap.push o).size = _
  simp
theorem below_alloc {w w' : World} (h : Below w.heap.size w w') (o : Obj) : Below w.heap.size w (w'.alloc o) := h.alloc h.size o
theorem blk_new (w : World) (o : Obj) : (w.alloc o).heap[w.heap.size]? = some o := (MapKept.heap_alloc w o).1
theorem blk_old {w : World} {o : Obj} {r : Nat} {x : Obj} (h : w.heap[r]? = some x) : (w.alloc o).heap[r]? = some x := by
  rw [(MapKept.heap_alloc w o).2 r (Array.getElem?_eq_some_iff.1 h).1]; exact h
theorem new_in (w : World) : KIn (((w.alloc (.map #[] 0)).alloc (.map #[] 0)).alloc (.cells #[.map (some w.heap.size), .map (some (w.heap.size + 1))] 74)) (w.heap.size + 2) w.heap.size (w.heap.size + 1) ⟨[], []⟩ := by
  have e1 : (w.alloc (.map #[] 0)).heap.size = w.heap.size + 1 := size_alloc _ _
  have e2 : ((w.alloc (.map #[] 0)).alloc (.map #[] 0)).heap.size = w.heap.size + 2 := by rw [size_alloc, e1]
  refine ⟨?_, ((MapIs.new w).alloc _).alloc _, ?_, by omega, ⟨by simp, by simp, by simp, by simp⟩⟩
  · rw [← e2]; exact blk_new _ _
  · have := (MapIs.new (w.alloc (.map #[] 0))).alloc (.cells #[.map (some w.heap.size), .map (some (w.heap.size + 1))] 74)
    rw [e1] at this
    exact this

set_option maxHeartbeats 1000000 in
theorem new_any (w : World) :
    Calls Try.prog 8 #[] w fun e w' => ∃ b, e = .returned (.pointer (some ⟨b, 0, none⟩)) ∧ NewAt w w' b := by
  have hmm := @run_makeMap Try.prog
  go_enter Try.func8, Try.ntmps8
  go_wp2
  go_ret
  refine ⟨w.heap.size + 2, rfl, _, _, new_in w, by omega, Nat.le_refl _, by omega, ?_⟩
  exact below_alloc (below_alloc (below_alloc (Below.refl _ _) _) _) _

set_option maxHeartbeats 1000000 in
theorem fixed_any (w : World) (p f c : Nat) (K : KW) (h : KIn w p f c K) (s : ByteArray) (d : Int) (hk : fixOk (s, d)) :
    Calls Try.prog 77 #[.pointer (some ⟨p, 0, none⟩), .string s, .int .i64 d] w fun e w' => e = .returned (.tuple #[.int .i64 ((K.fixed (s, d)).getD 0), .bool (K.fixed (s, d)).isSome]) ∧ w' = w := by
  have c0 := h.cell0
  have hl := look_fix h.ok h.fix (s, d) hk
  unfold fixK at hl
  generalize (K.fixed (s, d)).getD 0 = x at *
  generalize (K.fixed (s, d)).isSome = y at *
  clear h hk
  go_enter Try.func77, Try.ntmps77
  go_wp2
  go_ret2
  exact ⟨rfl, rfl⟩

set_option maxHeartbeats 1000000 in
theorem chosen_any (w : World) (p f c : Nat) (K : KW) (h : KIn w p f c K) (s t : ByteArray) (hk : chOk (s, t)) :
    Calls Try.prog 53 #[.pointer (some ⟨p, 0, none⟩), .string s, .string t] w fun e w' => e = .returned (.tuple #[.int .i64 ((K.chosen (s, t)).getD (0, 0)).1, .int .i64 ((K.chosen (s, t)).getD (0, 0)).2, .bool (K.chosen (s, t)).isSome]) ∧ Below w.heap.size w w' := by
  have c0 := h.cell1
  have hl := look_ch h.ok h.ch (s, t) hk
  unfold chK pkV at hl
  generalize (K.chosen (s, t)).getD (0, 0) = x at *
  generalize (K.chosen (s, t)).isSome = y at *
  clear h hk
  go_enter Try.func53, Try.ntmps53
  go_wp2
  go_region
  go_wp2
  go_ret3
  exact ⟨rfl, (below_alloc (Below.refl _ _) _).drew⟩

end Go.Proofs.Ytngjlkdpplmpaab.Wd
