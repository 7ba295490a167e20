/- The contract of a plan, as a value. -/
import Derived.Test.YtiaaibblihebjaaDoorMakerC
import Derived.Test.YtiaaibblihebjaaDoorTermP
import Derived.Test.YtiaaibblihebjaaDoorTermSm
namespace Go.Proofs.YtiaaibblihebjaaDoor
open Go.RowKit
set_option linter.unusedVariables false

theorem sc_plain (c : C) (h : c.Ok) : SC (plainC c) := by
  induction c with
  | zero => exact .leaf _ _ _ _ (by omega) (by decide)
  | one s => exact .leaf _ _ _ _ (by omega) h
  | give c h1 => exact .give _ _ _ (h1 h)
  | and l r h1 h2 => exact .and _ _ _ _ (h1 h.1) (h2 h.2)
  | or s l r h1 h2 => exact .or _ _ _ _ h.1 (h1 h.2.1) (h2 h.2.2)
  | scale o c h1 => exact .scale _ _ _ _ (shaped_plain o h.1) (h1 h.2)
  | when d c h1 => exact .when _ _ _ h.1 (h1 h.2)
  | iff o l r h1 h2 => exact .iff _ _ _ _ _ (shaped_plain o h.1) (h1 h.2.1) (h2 h.2.2)
  | odd v => exact .leaf _ _ _ _ (by omega) (by decide)
theorem termOf_whole (c : C) (h : c.whole) : termOf (plainC c) = c := by
  induction c with
  | zero => rfl
  | one s => rfl
  | give c h1 => show C.give (termOf (plainC c)) = _; rw [h1 h]
  | and l r h1 h2 => show C.and (termOf (plainC l)) (termOf (plainC r)) = _; rw [h1 h.1, h2 h.2]
  | or s l r h1 h2 => show C.or s (termOf (plainC l)) (termOf (plainC r)) = _; rw [h1 h.2.1, h2 h.2.2]
  | scale o c h1 => show C.scale (obsOf (plain o)) (termOf (plainC c)) = _; rw [obsOf_whole o h.1, h1 h.2]
  | when d c h1 => show C.when d (termOf (plainC c)) = _; rw [h1 h.2]
  | iff o l r h1 h2 => show C.iff (obsOf (plain o)) (termOf (plainC l)) (termOf (plainC r)) = _; rw [obsOf_whole o h.1, h1 h.2.1, h2 h.2.2]
  | odd v => exact absurd h id
theorem termP_any (c : C) (h : c.whole) (w : World) (v : Value) (B : Nat) (ht : TIn w B (plainC c) v) : Calls Tryd.prog 5 #[v] w fun e w' => e = .returned c.val ∧ Below w.heap.size w w' := by
  have := termT_any (sc_plain c (cwhole_ok c h)) w v (ht.low (Nat.zero_le _))
  rw [termOf_whole c h] at this
  exact this
theorem whole_sameC (c : C) (h : c.whole) : sameC c c = true := by
  induction c with
  | zero => rfl
  | one s => simp [sameC]
  | give c h1 => simp [sameC, h1 h]
  | and l r h1 h2 => simp [sameC, h1 h.1, h2 h.2]
  | or s l r h1 h2 => simp [sameC, h1 h.2.1, h2 h.2.2]
  | scale o c h1 => simp [sameC, whole_same o h.1, h1 h.2]
  | when d c h1 => simp [sameC, h1 h.2]
  | iff o l r h1 h2 => simp [sameC, whole_same o h.1, h1 h.2.1, h2 h.2.2]
  | odd v => exact absurd h id
theorem same_give (c : C) : sameC (.give c) c = false := by
  induction c with
  | give c ih => simp only [sameC]; exact ih
  | _ => rfl
theorem same_give' (c : C) : sameC c (.give c) = false := by
  induction c with
  | give c ih => simp only [sameC]; exact ih
  | _ => rfl
/-- A plan's contract, made by two calls in one statement: whatever the order. -/
theorem con_made {p : Pl} {W X : World} (hP : PlanIn W p) (hX : Below W.heap.size W X) : Calls Tryd.prog 6 #[.agg #[.slice p.na p.nl p.nc, .slice p.wa p.wl p.wc]] X (fun e w' => ∃ v, e = .returned v ∧ Below W.heap.size W w' ∧ TIn w' 0 (plainC (conP p)) v) :=
  (contract_any p X (hP.below hX)).mono (fun e w' ⟨v, he, ht, hb⟩ => ⟨v, he, hX.trans (hb.mono hX.size), ht.low (Nat.zero_le _)⟩)
theorem con_term {p : Pl} {W X : World} {v : Value} (hX : Below W.heap.size W X) (ht : TIn X 0 (plainC (conP p)) v) : Calls Tryd.prog 5 #[v] X (fun e w' => e = .returned (conP p).val ∧ Below W.heap.size W w') :=
  (termP_any (conP p) (conP_whole p) X v 0 ht).mono (fun e w' ⟨he, hb⟩ => ⟨he, hX.trans (hb.mono hX.size)⟩)

end Go.Proofs.YtiaaibblihebjaaDoor
