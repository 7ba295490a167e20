/- A list of texts behind another one, behind a guard that was met. -/
import Derived.Test.YtjcigjmeafofaaaRows2
namespace Go.Proofs.Ytjcigjmeafofaaa
open Go.RowKit
set_option linter.unusedVariables false

theorem wpList_append_rows_met {ops : Array Oper} {rest : List Oper} {o : Oper} {a : Act} {Q : Exit → Act → World → Prop} (w : World) (hw : Region.wanted o (yielded ops a.tmps) = true) (s x : Operand)
    (ho : o.op = .call { callee := .builtin .append, args := #[s, x], argTypes := #[23, 23] })
    (base : Nat) (v : Value) (l : List ByteArray) (hs : a.eval s = v) (hown : w.ownsRow base 9 1 v l.length (strCells l))
    (B : Nat) (xv : Value) (m : List ByteArray) (hx : a.eval x = xv) (hox : w.ownsRow B 9 1 xv m.length (strCells m)) (hlen : l.length + m.length ≤ 1000000) (hbase : base ≤ w.heap.size)
    (h : ∀ v' w', w'.ownsRow base 9 1 v' (l ++ m).length (strCells (l ++ m)) → w.grownBy w' v.ownBlock → wpList Try.prog ops Q rest (a.put o.dst v') w') : wpList Try.prog ops Q (o :: rest) a w := by
  obtain ⟨i0, gi, gz0, gz1, gz2⟩ := info_parts infoStr
  have hox2 := hox
  simp only [wpList, hw, if_true]
  rcases hox2.2 with ⟨rfl, h0⟩ | ⟨g, cap, cur, rfl, hb, hg, hnc, hcm, _⟩
  · have hm : m = [] := List.length_eq_zero_iff.1 h0
    subst hm
    left
    have hrun := run_append_owned_none (P := Try.prog) (w := w) base 23 o.type 9 i0 1 Try.underlying23 gi v l.length (strCells l) hown
    have hk := h v w (by simpa using hown) (grownBy_refl w _)
    unfold Oper.wp
    simp [execOp, ho, resolve, invoke, builtin, hs, hx, hrun, Result.andThen]
    exact hk
  · left
    refine wp_append_own w s x 23 ho base 9 i0 (.string ByteArray.empty) 1 16 Try.underlying23 gi gz0 gz1 gz2 rfl (by decide) v l.length (strCells l) hs hown ⟨g, 0, none⟩ m.length cap (strCells m) hx (by simp [strCells]) ?_ ?_ (by unfold maxLen; omega) (by omega) hbase ?_
    · intro j u hj
      rw [Addr.add_lit, Nat.zero_add]
      have hjl : j < m.length := by
        have := (List.getElem?_eq_some_iff.1 hj).1
        simpa [strCells] using this
      rw [hox.cellAt j (by omega)]
      exact hj
    · intro u hu
      obtain ⟨t, _, rfl⟩ := List.mem_map.1 hu
      rfl
    · intro v' w' h1 h2 _
      refine h v' w' ?_ h2
      simpa [strCells] using h1

end Go.Proofs.Ytjcigjmeafofaaa
