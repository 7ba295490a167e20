/- A region in the text's order, whose operations hang on tests that are not known, walked as one that draws. -/
import Derived.Test.YtiaaibblihebjaaDoorQm
namespace Go.Proofs.YtiaaibblihebjaaDoor
open Go.RowKit
set_option linter.unusedVariables false

theorem list_of_quiet {P : Program} {ops : Array Oper} {C : World → Prop} : ∀ (l : List Oper) (a : Act) (w : World) {Q : Exit → Act → World → Prop}, C w → wpQuiet P ops C (fun a' => ∀ w', C w' → Q .normal a' w') l a → wpList P ops Q l a w
  | [], a, w, Q, hC, h => h w hC
  | o :: rest, a, w, Q, hC, h => by
    unfold wpQuiet at h
    unfold wpList
    split
    · rename_i hw
      rw [if_pos hw] at h
      exact .inl (Oper.wp_of_quiet hC (fun a' w' hC' hk => list_of_quiet rest a' w' hC' hk) h)
    · rename_i hw
      rw [if_neg hw] at h
      exact list_of_quiet rest _ w hC h
theorem wp_region_calm {P : Program} (C : World → Prop) {id : Nat} {Q : Exit → Act → World → Prop} {a : Act} {w : World} {l : List Oper} (hC : C w)
    (h : wpQuiet P l.toArray C (fun a' => ∀ w', C w' → Q .normal a' w') l a) : (Code.region id l.toArray false).wp P Q a w :=
  wp_region_lit (list_of_quiet l a w hC h)

end Go.Proofs.YtiaaibblihebjaaDoor
