/- New, Fixed, Chosen, Fixes of the program's world: what each answers. -/
import Derived.Test.YtdlflpnjmldakaaKn
import Derived.OwnWalk
namespace Go.Proofs.Ytdlflpnjmldakaa.Wd
open Go.RowKit Go.Maps
set_option linter.unusedVariables false

def dayB (d : Int) : Bool := decide (0 ≤ d) && decide (d ≤ 10000)
def pickB (p : Int) : Bool := decide (p = 0) || decide (p = 1)
def NewAt (w w' : World) (b : Nat) : Prop := ∃ f c, KIn w' b f c ⟨[], []⟩ ∧ w.heap.size ≤ b ∧ w.heap.size ≤ f ∧ w.heap.size ≤ c ∧ Below w.heap.size w w'

set_option maxHeartbeats 400000 in
theorem day_any (d : Int) (w : World) :
    Calls Try.prog 28 #[.int .i64 d] w fun e w' => e = .returned (.bool (dayB d)) ∧ w' = w := by
  by_cases h1 : (0 : Int) ≤ d <;> by_cases h2 : d ≤ (10000 : Int)
  all_goals
    go_enter Try.func28, Try.ntmps28
    go_wp2
    go_ret
    exact ⟨by simp [dayB, h1, h2], rfl⟩

theorem size_alloc (w : World) (o : Obj) : (w.alloc o).heap.size = w.heap.size + 1 := by
  show (w.heap.push o).size = _
  simp
theorem below_alloc {w w' : World} (h : Below w.heap.size w w') (o : Obj) : Below w.heap.size w (w'.alloc o) := h.alloc h.size o
theorem blk_new (w : World) (o : Obj) : (w.alloc o).heap[w.heap.size]? = some o := (MapKept.heap_alloc w o).1
theorem blk_old {w : World} {o : Obj} {r : Nat} {x : Obj} (h : w.heap[r]? = some x) : (w.alloc o).heap[r]? = some x := by
  rw [(MapKept.heap_alloc w o).2 r (Array.getElem?_eq_some_iff.1 h).1]; exact h
theorem new_in (w : World) : KIn (((w.alloc (.map #[] 0)).alloc (.map #[] 0)).alloc (.cells #[.map (some w.heap.size), .map (some (w.heap.size + 1))] 78)) (w.heap.size + 2) w.heap.size (w.heap.size + 1) ⟨[], []⟩ := by
  have e1 : (w.alloc (.map #[] 0)).heap.size = w.heap.size + 1 := size_alloc _ _
  have e2 : ((w.alloc (.map #[] 0)).alloc (.map #[] 0)).heap.size = w.heap.size + 2 := by rw [size_alloc, e1]
  refine ⟨?_, ((MapIs.new w).alloc _).alloc _, ?_, by omega, ⟨by simp, by simp, by simp, by simp⟩⟩
  · rw [← e2]; exact blk_new _ _
  · have := (MapIs.new (w.alloc (.map #[] 0))).alloc (.cells #[.map (some w.heap.size), .map (some (w.heap.size + 1))] 78)
    rw [e1] at this
    exact this

set_option maxHeartbeats 1000000 in
theorem new_any (w : World) :
    Calls Try.prog 9 #[] w fun e w' => ∃ b, e = .returned (.pointer (some ⟨b, 0, none⟩)) ∧ NewAt w w' b := by
  have hmm := @run_makeMap Try.prog
  go_enter Try.func9, Try.ntmps9
  go_wp2
  go_ret
  refine ⟨w.heap.size + 2, rfl, _, _, new_in w, by omega, Nat.le_refl _, by omega, ?_⟩
  exact below_alloc (below_alloc (below_alloc (Below.refl _ _) _) _) _

set_option maxHeartbeats 1000000 in
theorem fixed_any (w : World) (p f c : Nat) (K : KW) (h : KIn w p f c K) (s : ByteArray) (d : Int) (hk : fixOk (s, d)) :
    Calls Try.prog 26 #[.pointer (some ⟨p, 0, none⟩), .string s, .int .i64 d] w fun e w' => e = .returned (.tuple #[.int .i64 ((K.fixed (s, d)).getD 0), .bool (K.fixed (s, d)).isSome]) ∧ w' = w := by
  have c0 := h.cell0
  have hl := look_fix h.ok h.fix (s, d) hk
  unfold fixK at hl
  generalize (K.fixed (s, d)).getD 0 = x at *
  generalize (K.fixed (s, d)).isSome = y at *
  clear h hk
  go_enter Try.func26, Try.ntmps26
  go_wp2
  go_ret2
  exact ⟨rfl, rfl⟩

end Go.Proofs.Ytdlflpnjmldakaa.Wd
