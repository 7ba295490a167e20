/- A list of texts behind another one, both in memory of the call's own. -/
import Derived.Test.YtcdkejnnbbkecaaTermNames
import Derived.Laws.AppendOwnNone
namespace Go.Proofs.Ytcdkejnnbbkecaa
open Go.RowKit
set_option linter.unusedVariables false

theorem ownsRow_below {w w' : World} {B e size n : Nat} {v : Value} {xs : List Value} (h : w.ownsRow B e size v n xs) (hb : Below w.heap.size w w') : w'.ownsRow B e size v n xs :=
  h.kept (grown_of_below hb none) (by cases hv : v.ownBlock <;> simp)
theorem grownBy_refl (w : World) (r : Option Nat) : w.grownBy w r := grown_of_below (Below.refl _ _) r
theorem wpList_append_rows {ops : Array Oper} {rest : List Oper} {o : Oper} {a : Act} {Q : Exit → Act → World → Prop} (w : World) (hgd : o.guard = none) (s x : Operand)
    (ho : o.op = .call { callee := .builtin .append, args := #[s, x], argTypes := #[23, 23] })
    (base : Nat) (v : Value) (l : List ByteArray) (hs : a.eval s = v) (hown : w.ownsRow base 9 1 v l.length (strCells l))
    (B : Nat) (xv : Value) (m : List ByteArray) (hx : a.eval x = xv) (hox : w.ownsRow B 9 1 xv m.length (strCells m)) (hlen : l.length + m.length ≤ 1000000) (hbase : base ≤ w.heap.size)
    (h : ∀ v' w', w'.ownsRow base 9 1 v' (l ++ m).length (strCells (l ++ m)) → w.grownBy w' v.ownBlock → (v'.ownBlock = v.ownBlock ∨ v'.ownBlock = some w.heap.size) → wpList Try.prog ops Q rest (a.put o.dst v') w') : wpList Try.prog ops Q (o :: rest) a w := by
  obtain ⟨i0, gi, gz0, gz1, gz2⟩ := info_parts infoStr
  have hox2 := hox
  rcases hox2.2 with ⟨rfl, h0⟩ | ⟨g, cap, cur, rfl, hb, hg, hnc, hcm, _⟩
  · have hm : m = [] := List.length_eq_zero_iff.1 h0
    subst hm
    refine wpList_append_own_none hgd s x 23 ho base 9 i0 1 Try.underlying23 gi v l.length (strCells l) hs hown hx ?_
    exact h v w (by simpa using hown) (grownBy_refl w _) (.inl rfl)
  · refine wpList_append_own_at w hgd s x 23 ho base 9 i0 (.string ByteArray.empty) 1 16 Try.underlying23 gi gz0 gz1 gz2 rfl (by decide) v l.length (strCells l) hs hown ⟨g, 0, none⟩ m.length cap (strCells m) hx (by simp [strCells]) ?_ ?_ (by unfold maxLen; omega) (by omega) hbase ?_
    · intro j u hj
      rw [Addr.add_lit, Nat.zero_add]
      have hjl : j < m.length := by
        have := (List.getElem?_eq_some_iff.1 hj).1
        simpa [strCells] using this
      rw [hox.cellAt j (by omega)]
      exact hj
    · intro u hu
      obtain ⟨t, _, rfl⟩ := List.mem_map.1 hu
      rfl
    · intro v' w' h1 h2 _ h3
      refine h v' w' ?_ h2 h3
      simpa [strCells] using h1
/-- The labels of contracts, one behind the other. -/
def labL : List C → List ByteArray
  | [] => []
  | k :: l => k.labels ++ labL l
theorem labL_snoc (l : List C) (k : C) : labL (l ++ [k]) = labL l ++ k.labels := by
  induction l with
  | nil => simp [labL]
  | cons a l ih => simp [labL, ih]
theorem labels_kids (c : C) : c.labels = (if c.kind = 5 then [c.text] else []) ++ labL c.kids := by
  cases c <;> simp [C.labels, C.kind, C.text, C.kids, labL]
theorem labL_weight (l : List C) : (labL l).length ≤ weightL l := by
  induction l with
  | nil => simp [labL]
  | cons a l ih => have := labels_weight a; simp [labL, weightL]; omega
/-- What an assertion to one of api's types with two or three fields tells of a contract. -/
theorem or_part (c : C) (h : c.Ok) : ∃ (s : ByteArray) (l r : Value) (b : Bool), (∀ xT w, (Instr.typeAssert c.val xT 68 true).run Try.prog w = .ok (.tuple #[.agg #[.string s, l, r], .bool b]) w) ∧ One' l ∧ One' r ∧ ((b = true ∧ c.kind = 5 ∧ s = c.text) ∨ (b = false ∧ c.kind ≠ 5)) := by
  have hn : One' Value.nilIface := ⟨rfl, rfl⟩
  cases c with
  | or s l r => exact ⟨s, l.val, r.val, true, fun xT w => isOr _ xT w, l.one' h.2.1, r.one' h.2.2, .inl ⟨rfl, rfl, rfl⟩⟩
  | odd v =>
    rcases h with rfl | ⟨t, x, rfl, _, _, _, _, h5, _⟩
    · exact ⟨_, _, _, false, fun xT w => nilOr xT w, hn, hn, .inr ⟨rfl, by simp [C.kind]⟩⟩
    · exact ⟨_, _, _, false, fun xT w => notOr t x xT w h5, hn, hn, .inr ⟨rfl, by simp [C.kind]⟩⟩
  | _ => exact ⟨_, _, _, false, fun xT w => notOr _ _ xT w (by decide), hn, hn, .inr ⟨rfl, by simp [C.kind]⟩⟩
theorem scale_part (c : C) (h : c.Ok) : ∃ (l r : Value) (b : Bool), (∀ xT w, (Instr.typeAssert c.val xT 61 true).run Try.prog w = .ok (.tuple #[.agg #[l, r], .bool b]) w) ∧ One' l ∧ One' r ∧ ((b = true ∧ c.kind = 6) ∨ (b = false ∧ c.kind ≠ 6)) := by
  have hn : One' Value.nilIface := ⟨rfl, rfl⟩
  cases c with
  | scale o c => exact ⟨o.val, c.val, true, fun xT w => isScale _ xT w, o.one' h.1, c.one' h.2, .inl ⟨rfl, rfl⟩⟩
  | odd v =>
    rcases h with rfl | ⟨t, x, rfl, _, _, _, _, _, h6, _⟩
    · exact ⟨_, _, false, fun xT w => nilScale xT w, hn, hn, .inr ⟨rfl, by simp [C.kind]⟩⟩
    · exact ⟨_, _, false, fun xT w => notScale t x xT w h6, hn, hn, .inr ⟨rfl, by simp [C.kind]⟩⟩
  | _ => exact ⟨_, _, false, fun xT w => notScale _ _ xT w (by decide), hn, hn, .inr ⟨rfl, by simp [C.kind]⟩⟩
theorem if_part (c : C) (h : c.Ok) : ∃ (o l r : Value) (b : Bool), (∀ xT w, (Instr.typeAssert c.val xT 71 true).run Try.prog w = .ok (.tuple #[.agg #[o, l, r], .bool b]) w) ∧ One' o ∧ One' l ∧ One' r ∧ ((b = true ∧ c.kind = 8) ∨ (b = false ∧ c.kind ≠ 8)) := by
  have hn : One' Value.nilIface := ⟨rfl, rfl⟩
  cases c with
  | iff o l r => exact ⟨o.val, l.val, r.val, true, fun xT w => isIf _ xT w, o.one' h.1, l.one' h.2.1, r.one' h.2.2, .inl ⟨rfl, rfl⟩⟩
  | odd v =>
    rcases h with rfl | ⟨t, x, rfl, _, _, _, _, _, _, _, h8⟩
    · exact ⟨_, _, _, false, fun xT w => nilIf xT w, hn, hn, hn, .inr ⟨rfl, by simp [C.kind]⟩⟩
    · exact ⟨_, _, _, false, fun xT w => notIf t x xT w h8, hn, hn, hn, .inr ⟨rfl, by simp [C.kind]⟩⟩
  | _ => exact ⟨_, _, _, false, fun xT w => notIf _ _ xT w (by decide), hn, hn, hn, .inr ⟨rfl, by simp [C.kind]⟩⟩
theorem plain_parts (c : C) (h6 : c.kind ≠ 6) (h8 : c.kind ≠ 8) : c.nums = [] := by
  cases c <;> simp [C.nums, C.kind] at h6 h8 ⊢

end Go.Proofs.Ytcdkejnnbbkecaa
