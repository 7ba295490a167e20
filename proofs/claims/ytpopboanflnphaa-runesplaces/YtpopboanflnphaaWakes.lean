/- wakes: the document's example. -/
import Derived.Test.YtpopboanflnphaaCut
namespace Go.Proofs.Ytpopboanflnphaa
open Go.RowKit
set_option linter.unusedVariables false

theorem wakes_bad : badOf ⟨#[111, 110, 101, 40, 32, 195, 169, 41]⟩ = 0 := by kernel_rfl
theorem wakes_sg : sgOf ⟨#[111, 110, 101, 40, 32, 195, 169, 41]⟩ = [(⟨#[111, 110, 101]⟩, 1), (⟨#[40]⟩, 4), (⟨#[195, 169]⟩, 6), (⟨#[41]⟩, 7)] := by kernel_rfl

set_option maxHeartbeats 1000000 in
set_option maxRecDepth 100000 in
theorem wakes_any (w : World) :
    Calls Try.prog 13 #[] w fun e w' => e = .returned (.bool true) ∧ Below w.heap.size w w' := by
  go_enter Try.func13, Try.ntmps13
  go_wp2_with fail
  refine (signs_ok _ _ (by decide) wakes_bad).mono ?_
  rintro e w' ⟨v, rfl, hown, hb⟩
  rw [wakes_sg] at hown
  obtain ⟨g, cap, rfl⟩ : ∃ g cap, v = .slice (some ⟨g, 0, none⟩) 4 cap := by
    rcases hown.2 with ⟨_, h⟩ | ⟨g, cap, cur, rfl, _⟩
    · simp at h
    · exact ⟨g, cap, rfl⟩
  have c4 : w'.cell? ⟨g, 4, none⟩ = some (.string ⟨#[195, 169]⟩) := (hown.cellAt 4 (by decide)).trans rfl
  have c5 : w'.cell? ⟨g, 5, none⟩ = some (.int .i64 6) := (hown.cellAt 5 (by decide)).trans rfl
  clear hown
  go_wp2
  go_ret
  exact ⟨rfl, hb⟩

end Go.Proofs.Ytpopboanflnphaa
