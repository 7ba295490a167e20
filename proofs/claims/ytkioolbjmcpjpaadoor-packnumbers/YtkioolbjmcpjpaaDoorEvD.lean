/- What event.Same answers, of any two events. -/
import Derived.Test.YtkioolbjmcpjpaaDoorEvC
import Derived.Test.YtkioolbjmcpjpaaDoorTermSm
namespace Go.Proofs.YtkioolbjmcpjpaaDoor.Ev
open Go.RowKit
set_option linter.unusedVariables false

theorem nil_runs (t : C) (h : t.Ok) : ∃ b, nilB t = b ∧ ((b = true ∧ t.val = .nilIface) ∨ (b = false ∧ ∃ x y, t.val = .iface x y)) := by
  cases t with
  | odd v =>
    rcases h with rfl | ⟨x, y, rfl, _⟩
    · exact ⟨true, rfl, .inl ⟨rfl, rfl⟩⟩
    · exact ⟨false, rfl, .inr ⟨rfl, _, _, rfl⟩⟩
  | _ => exact ⟨false, rfl, .inr ⟨rfl, _, _, rfl⟩⟩
/-- What event.sameTerm answers. -/
def sameTm (a b : C) : Bool := nilB a && nilB b || sameC a b

theorem eq_nils (d : Nat) (W : World) : Sem.run Tryd.prog (Op.equalIn (d + 1) 35 .nilIface .nilIface) W = .ok true W := by
  simp only [Op.equalIn, Sem.run_bind, run_underlying Tryd.underlying35, Result.andThen_ok]
  rfl
/-- Whether two events are alike. -/
def sameE (a b : Ev) : Bool := (a.k == b.k) && (a.i.toList == b.i.toList) && (a.n.toList == b.n.toList) && (a.l.toList == b.l.toList) && (a.u.toList == b.u.toList) && (a.d == b.d) && (a.v == b.v) && sameTm a.t b.t

end Go.Proofs.YtkioolbjmcpjpaaDoor.Ev
