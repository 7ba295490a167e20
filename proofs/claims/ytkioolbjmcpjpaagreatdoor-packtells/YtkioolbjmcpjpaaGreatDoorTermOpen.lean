/- What opens a contract. -/
import Derived.Test.YtkioolbjmcpjpaaGreatDoorTermOpenA
import Derived.Test.YtkioolbjmcpjpaaGreatDoorTermOpenB
import Derived.Test.YtkioolbjmcpjpaaGreatDoorTermOpenC
import Derived.Test.YtkioolbjmcpjpaaGreatDoorTermOpenD
import Derived.Test.YtkioolbjmcpjpaaGreatDoorTermOpenE
namespace Go.Proofs.YtkioolbjmcpjpaaGreatDoor
open Go.RowKit
set_option linter.unusedVariables false

theorem openT_any (c : C) (w : World) (h : c.Ok) : Calls Tryz.prog 111 #[c.val] w (OpenedT w c) := by
  cases c with
  | zero => exact openT_zero w
  | one s => exact openT_one s w
  | give c => exact openT_give c w h
  | and l r => exact openT_and l r w h.1 h.2
  | or s l r => exact openT_or s l r w h.2.1 h.2.2
  | scale o c => exact openT_scale o c w h.1 h.2
  | when d c => exact openT_when d c w h.2
  | iff o l r => exact openT_iff o l r w h.1 h.2.1 h.2.2
  | odd v => exact openT_odd v w h

end Go.Proofs.YtkioolbjmcpjpaaGreatDoor
