/- A spoilt tree of a contract is one whose contracts have as many parts as they need. -/
import Derived.Test.YtagjbbdpenbcoaaDoorSpoil0
import Derived.Test.YtagjbbdpenbcoaaDoorTermP
namespace Go.Proofs.YtagjbbdpenbcoaaDoor
open Go.RowKit
set_option linter.unusedVariables false

theorem sc_leaf (t : T) (h : t.kind = 0 ∨ t.kind = 1 ∨ t.kind = 2 ∨ 8 < t.kind) (hs : t.s.size ≤ 2147483648) : SC t := by
  cases t
  exact .leaf _ _ _ _ h hs
theorem sc_n {t : T} (h : SC t) (n : Int) (hn : -9223372036854775808 ≤ n ∧ n ≤ 9223372036854775807) : SC (.mk t.kind t.s n t.k) := by
  cases h with
  | leaf kind s n0 k h hs => exact .leaf _ _ _ _ h hs
  | give s n0 a ha => exact .give _ _ _ ha
  | and s n0 a b ha hb => exact .and _ _ _ _ ha hb
  | or s n0 a b hs ha hb => exact .or _ _ _ _ hs ha hb
  | scale s n0 o a ho ha => exact .scale _ _ _ _ ho ha
  | when s n0 a hn0 ha => exact .when _ _ _ hn ha
  | iff s n0 o a b ho ha hb => exact .iff _ _ _ _ _ ho ha hb
theorem sc_s {t : T} (h : SC t) (s : ByteArray) (hs : s.size ≤ 2147483648) : SC (.mk t.kind s t.n t.k) := by
  cases h with
  | leaf kind s0 n0 k h hs0 => exact .leaf _ _ _ _ h hs
  | give s0 n0 a ha => exact .give _ _ _ ha
  | and s0 n0 a b ha hb => exact .and _ _ _ _ ha hb
  | or s0 n0 a b hs0 ha hb => exact .or _ _ _ _ hs ha hb
  | scale s0 n0 o a ho ha => exact .scale _ _ _ _ ho ha
  | when s0 n0 a hn0 ha => exact .when _ _ _ hn0 ha
  | iff s0 n0 o a b ho ha hb => exact .iff _ _ _ _ _ ho ha hb
theorem head_sc (q : Nat) (v : Int) (s : ByteArray) (hv : -9223372036854775808 ≤ v ∧ v ≤ 9223372036854775807) {t : T} (h : SC t) : SC (spoilHead q v s t) := by
  have he : (⟨#[]⟩ : ByteArray).size ≤ 2147483648 := by decide
  unfold spoilHead
  split
  · exact .leaf _ _ _ _ (.inl rfl) he
  · split
    · exact sc_s h _ (by have := cutTo_size s 20; omega)
    · split
      · exact sc_n h v hv
      · split
        · split
          · exact .leaf _ _ _ _ (.inr (.inl rfl)) he
          · exact .leaf _ _ _ _ (.inr (.inr (.inr (by decide)))) he
        · exact h
theorem spoilL_one (q : Nat) (v : Int) (s : ByteArray) (x : T) (a : Int) : ∃ x', (spoilL q v s [x] a).1 = [x'] ∧ (x' = x ∨ ∃ a', x' = (spoilT q v s x a').1) := by
  simp only [spoilL]
  split
  · exact ⟨_, rfl, .inr ⟨_, rfl⟩⟩
  · exact ⟨_, rfl, .inl rfl⟩
theorem spoilL_cons (q : Nat) (v : Int) (s : ByteArray) (x : T) (l : List T) (a : Int) : ∃ x' a2, (spoilL q v s (x :: l) a).1 = x' :: (spoilL q v s l a2).1 ∧ (x' = x ∨ ∃ a', x' = (spoilT q v s x a').1) := by
  simp only [spoilL]
  split
  · exact ⟨_, _, rfl, .inr ⟨_, rfl⟩⟩
  · refine ⟨x, a, ?_, .inl rfl⟩
    cases l with
    | nil => simp [spoilL]
    | cons y l => rename_i h; simp [spoilL, h]
theorem spoil_sc (q : Nat) (v : Int) (s : ByteArray) (hv : -9223372036854775808 ≤ v ∧ v ≤ 9223372036854775807) {t : T} (h : SC t) : ∀ a, SC (spoilT q v s t a).1 := by
  induction h with
  | leaf kind s0 n k h hs =>
    intro a
    unfold spoilT
    split
    · exact head_sc q v s hv (.leaf _ _ _ _ h hs)
    · exact .leaf _ _ _ _ h hs
  | give s0 n x hx ih =>
    intro a
    unfold spoilT
    split
    · exact head_sc q v s hv (.give _ _ _ hx)
    · obtain ⟨x', e, h⟩ := spoilL_one q v s x (a - 1)
      simp only
      rw [e]
      refine .give _ _ _ ?_
      rcases h with rfl | ⟨a', rfl⟩
      · exact hx
      · exact ih a'
  | and s0 n x y hx hy ihx ihy =>
    intro a
    unfold spoilT
    split
    · exact head_sc q v s hv (.and _ _ _ _ hx hy)
    · obtain ⟨x', a2, e, h⟩ := spoilL_cons q v s x [y] (a - 1)
      obtain ⟨y', e', h'⟩ := spoilL_one q v s y a2
      simp only
      rw [e, e']
      refine .and _ _ _ _ ?_ ?_
      · rcases h with rfl | ⟨a', rfl⟩
        · exact hx
        · exact ihx a'
      · rcases h' with rfl | ⟨a', rfl⟩
        · exact hy
        · exact ihy a'
  | or s0 n x y hs hx hy ihx ihy =>
    intro a
    unfold spoilT
    split
    · exact head_sc q v s hv (.or _ _ _ _ hs hx hy)
    · obtain ⟨x', a2, e, h⟩ := spoilL_cons q v s x [y] (a - 1)
      obtain ⟨y', e', h'⟩ := spoilL_one q v s y a2
      simp only
      rw [e, e']
      refine .or _ _ _ _ hs ?_ ?_
      · rcases h with rfl | ⟨a', rfl⟩
        · exact hx
        · exact ihx a'
      · rcases h' with rfl | ⟨a', rfl⟩
        · exact hy
        · exact ihy a'
  | scale s0 n o y ho hy ihy =>
    intro a
    unfold spoilT
    split
    · exact head_sc q v s hv (.scale _ _ _ _ ho hy)
    · obtain ⟨x', a2, e, h⟩ := spoilL_cons q v s o [y] (a - 1)
      obtain ⟨y', e', h'⟩ := spoilL_one q v s y a2
      simp only
      rw [e, e']
      refine .scale _ _ _ _ ?_ ?_
      · rcases h with rfl | ⟨a', rfl⟩
        · exact ho
        · exact spoil_shaped q v s hv o ho a'
      · rcases h' with rfl | ⟨a', rfl⟩
        · exact hy
        · exact ihy a'
  | when s0 n x hn hx ih =>
    intro a
    unfold spoilT
    split
    · exact head_sc q v s hv (.when _ _ _ hn hx)
    · obtain ⟨x', e, h⟩ := spoilL_one q v s x (a - 1)
      simp only
      rw [e]
      refine .when _ _ _ hn ?_
      rcases h with rfl | ⟨a', rfl⟩
      · exact hx
      · exact ih a'
  | iff s0 n o x y ho hx hy ihx ihy =>
    intro a
    unfold spoilT
    split
    · exact head_sc q v s hv (.iff _ _ _ _ _ ho hx hy)
    · obtain ⟨o', a2, e, h⟩ := spoilL_cons q v s o [x, y] (a - 1)
      obtain ⟨x', a3, e2, h2⟩ := spoilL_cons q v s x [y] a2
      obtain ⟨y', e', h'⟩ := spoilL_one q v s y a3
      simp only
      rw [e, e2, e']
      refine .iff _ _ _ _ _ ?_ ?_ ?_
      · rcases h with rfl | ⟨a', rfl⟩
        · exact ho
        · exact spoil_shaped q v s hv o ho a'
      · rcases h2 with rfl | ⟨a', rfl⟩
        · exact hx
        · exact ihx a'
      · rcases h' with rfl | ⟨a', rfl⟩
        · exact hy
        · exact ihy a'

end Go.Proofs.YtagjbbdpenbcoaaDoor
