/- A contract as a tree, of any contract. -/
import Derived.Test.YtngjlkdpplmpaaaPlainC2
import Derived.Test.YtngjlkdpplmpaaaPlainC3
import Derived.Test.YtngjlkdpplmpaaaPlainC4
namespace Go.Proofs.Ytngjlkdpplmpaaa
open Go.RowKit
set_option linter.unusedVariables false

theorem plainCC_any (c : C) (h : c.Ok) : MakesC c := by
  induction c with
  | zero => exact plainC_zero
  | one s => exact plainC_one s
  | odd v => exact plainC_odd v h
  | give c ih => exact plainC_give c (c.one' h) (ih h)
  | and l r ihl ihr => exact plainC_and l r (l.one' h.1) (r.one' h.2) (ihl h.1) (ihr h.2)
  | or s l r ihl ihr => exact plainC_or s l r (l.one' h.2.1) (r.one' h.2.2) (ihl h.2.1) (ihr h.2.2)
  | scale o c ih => exact plainC_scale o c (o.one' h.1) (c.one' h.2) (plainO_any o h.1) (ih h.2)
  | when d c ih => exact plainC_when d c (c.one' h.2) (ih h.2)
  | iff o l r ihl ihr => exact plainC_iff o l r (o.one' h.1) (l.one' h.2.1) (r.one' h.2.2) (plainO_any o h.1) (ihl h.2.1) (ihr h.2.2)

end Go.Proofs.Ytngjlkdpplmpaaa
