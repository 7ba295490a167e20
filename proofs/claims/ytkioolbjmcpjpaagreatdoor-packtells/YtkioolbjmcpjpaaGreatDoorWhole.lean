/- The number that a plan makes is whole: nothing in it is none. -/
import Derived.Test.YtkioolbjmcpjpaaGreatDoorMakerObs
import Derived.Test.YtkioolbjmcpjpaaGreatDoorPlanArg
import Derived.Test.YtkioolbjmcpjpaaGreatDoorRefO
namespace Go.Proofs.YtkioolbjmcpjpaaGreatDoor
open Go.RowKit
set_option linter.unusedVariables false

def O.whole : O → Prop
  | .const n => -9223372036854775808 ≤ n ∧ n ≤ 9223372036854775807
  | .fix s => s.size ≤ 2147483648
  | .add l r => l.whole ∧ r.whole
  | .neg o => o.whole
  | .mul l r => l.whole ∧ r.whole
  | .max l r => l.whole ∧ r.whole
  | .odd _ => False
theorem whole_ok (o : O) (h : o.whole) : o.Ok := by
  induction o with
  | const n => exact h
  | fix s => exact h
  | add l r h1 h2 => exact ⟨h1 h.1, h2 h.2⟩
  | neg o h1 => exact h1 h
  | mul l r h1 h2 => exact ⟨h1 h.1, h2 h.2⟩
  | max l r h1 h2 => exact ⟨h1 h.1, h2 h.2⟩
  | odd v => exact absurd h id
theorem whole_same (o : O) (h : o.whole) : sameO o o = true := by
  induction o with
  | const n => simp [sameO]
  | fix s => simp [sameO]
  | add l r h1 h2 => simp [sameO, h1 h.1, h2 h.2]
  | neg o h1 => simp [sameO, h1 h]
  | mul l r h1 h2 => simp [sameO, h1 h.1, h2 h.2]
  | max l r h1 h2 => simp [sameO, h1 h.1, h2 h.2]
  | odd v => exact absurd h id
theorem whole_kind (o : O) (h : o.whole) : o.kind ≠ 0 := by
  cases o <;> simp [O.kind]
  exact h
theorem whole_solid (o : O) (h : o.whole) : ∃ t x, o.val = .iface t x := by
  cases o <;> first | exact ⟨_, _, rfl⟩ | exact absurd h id
theorem shaped_plain (o : O) (h : o.Ok) : (plain o).Shaped := by
  induction o with
  | const n => simp only [plain, T.Shaped, ShapedL]; exact ⟨by simp, by simp, by simp, h.1, h.2, by decide, trivial⟩
  | fix s => simp only [plain, T.Shaped, ShapedL]; exact ⟨by simp, by simp, by simp, by decide, by decide, h, trivial⟩
  | odd v => simp only [plain, T.Shaped, ShapedL]; exact ⟨by simp, by simp, by simp, by decide, by decide, by decide, trivial⟩
  | neg o h1 => simp only [plain, T.Shaped, ShapedL]; exact ⟨by simp, by simp, by simp, by decide, by decide, by decide, h1 h, trivial⟩
  | add l r h1 h2 => simp only [plain, T.Shaped, ShapedL]; exact ⟨by simp, by simp, by simp, by decide, by decide, by decide, h1 h.1, h2 h.2, trivial⟩
  | mul l r h1 h2 => simp only [plain, T.Shaped, ShapedL]; exact ⟨by simp, by simp, by simp, by decide, by decide, by decide, h1 h.1, h2 h.2, trivial⟩
  | max l r h1 h2 => simp only [plain, T.Shaped, ShapedL]; exact ⟨by simp, by simp, by simp, by decide, by decide, by decide, h1 h.1, h2 h.2, trivial⟩
theorem obsOf_whole (o : O) (h : o.whole) : obsOf (plain o) = o := by
  induction o with
  | const n => simp [plain, obsOf]
  | fix s => simp [plain, obsOf]
  | add l r h1 h2 => simp [plain, obsOf, obsL, h1 h.1, h2 h.2]
  | neg o h1 => simp [plain, obsOf, obsL, h1 h]
  | mul l r h1 h2 => simp [plain, obsOf, obsL, h1 h.1, h2 h.2]
  | max l r h1 h2 => simp [plain, obsOf, obsL, h1 h.1, h2 h.2]
  | odd v => exact absurd h id
theorem tab_bd (k : Nat) : -9223372036854775808 ≤ tabN k ∧ tabN k ≤ 9223372036854775807 := by
  unfold tabN tabL
  by_cases h : k < 10
  · have : k = 0 ∨ k = 1 ∨ k = 2 ∨ k = 3 ∨ k = 4 ∨ k = 5 ∨ k = 6 ∨ k = 7 ∨ k = 8 ∨ k = 9 := by omega
    rcases this with rfl | rfl | rfl | rfl | rfl | rfl | rfl | rfl | rfl | rfl <;> decide
  · rw [List.getD, List.getElem?_eq_none (by simp; omega)]; decide
theorem numO_whole (p : Pl) : ∀ d i left, (numO p d i left).1.whole ∧ (numO p d i left).1.nodes + 1 ≤ 2 ^ (d + 1) ∧ (numO p d i left).1.depth ≤ d + 1 := by
  intro d
  induction d with
  | zero =>
    intro i left
    unfold numO
    split
    · exact ⟨tab_bd _, by simp [O.nodes], by simp [O.depth]⟩
    · exact ⟨by show (wordOf p (i + 1)).size ≤ _; have := wordOf_size p (i + 1); omega, by simp [O.nodes], by simp [O.depth]⟩
  | succ d ih =>
    intro i left
    have h1 := ih (i + 1) (left - 1)
    have h2 := ih (numO p d (i + 1) (left - 1)).2.1 (numO p d (i + 1) (left - 1)).2.2
    have hp : 2 ^ (d + 1 + 1) = 2 * 2 ^ (d + 1) := by rw [Nat.pow_succ]; omega
    have hp1 : 2 ≤ 2 ^ (d + 1) := by
      have := Nat.one_le_two_pow (n := d)
      rw [Nat.pow_succ]; omega
    unfold numO
    split
    · exact ⟨tab_bd _, by simp only [O.nodes]; omega, by simp [O.depth]⟩
    · split
      · exact ⟨by show (wordOf p (i + 1)).size ≤ _; have := wordOf_size p (i + 1); omega, by simp only [O.nodes]; omega, by simp [O.depth]⟩
      · split
        · exact ⟨h1.1, by simp only [O.nodes]; omega, by simp only [O.depth]; omega⟩
        · simp only
          split
          · exact ⟨⟨h1.1, h2.1⟩, by simp only [O.nodes]; omega, by simp only [O.depth]; omega⟩
          · split
            · exact ⟨⟨h1.1, h2.1⟩, by simp only [O.nodes]; omega, by simp only [O.depth]; omega⟩
            · exact ⟨⟨h1.1, h2.1⟩, by simp only [O.nodes]; omega, by simp only [O.depth]; omega⟩
/-- The number of a plan. -/
def numP (p : Pl) : O := (numO p 4 0 16).1
theorem numP_whole (p : Pl) : (numP p).whole := (numO_whole p 4 0 16).1
theorem numP_nodes (p : Pl) : (numP p).nodes ≤ 31 := by have := (numO_whole p 4 0 16).2.1; simp at this; unfold numP; omega
/-- The number of the tree of a whole number. -/
theorem obsP_any (o : O) (h : o.whole) (w : World) (v : Value) (B : Nat) (ht : TIn w B (plain o) v) : Calls Tryz.prog 48 #[v] w fun e w' => e = .returned o.val ∧ Below w.heap.size w w' := by
  have := obsT_any (plain o) (shaped_plain o (whole_ok o h)) w v (ht.low (Nat.zero_le _))
  rw [obsOf_whole o h] at this
  exact this

end Go.Proofs.YtkioolbjmcpjpaaGreatDoor
