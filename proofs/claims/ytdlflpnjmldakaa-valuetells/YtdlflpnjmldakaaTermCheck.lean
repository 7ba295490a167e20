/- Whether a contract may be: what package term answers. -/
import Derived.Test.YtdlflpnjmldakaaTermLabels
namespace Go.Proofs.Ytdlflpnjmldakaa
open Go.RowKit Go.Maps
set_option linter.unusedVariables false

theorem ownsRow_base {w : World} {B B' e size n : Nat} {v : Value} {xs : List Value} (h : w.ownsRow B e size v n xs) (hB : B' ≤ B) : w.ownsRow B' e size v n xs := by
  refine ⟨h.1, ?_⟩
  rcases h.2 with h | ⟨g, cap, cur, h1, h2, h3⟩
  · exact .inl h
  · exact .inr ⟨g, cap, cur, h1, by omega, h3⟩

/-- What is known of a list of texts in memory. -/
def HasTxt (w : World) (a : Option Addr) (l : List ByteArray) : Prop := ∀ (i : Nat) (s : ByteArray), l[i]? = some s → ∃ g, a = some ⟨g, 0, none⟩ ∧ w.cell? ⟨g, i, none⟩ = some (.string s)
theorem HasTxt.below {w w' : World} {a : Option Addr} {l : List ByteArray} (h : HasTxt w a l) (hb : Below w.heap.size w w') : HasTxt w' a l := by
  intro i o hi
  obtain ⟨b, e, hc⟩ := h i o hi
  exact ⟨b, e, (hb.cell (World.block_lt_of_cell? w _ hc)).trans hc⟩
theorem own_txt {w : World} {B : Nat} {v : Value} {l : List ByteArray} (h : w.ownsRow B 9 1 v l.length (strCells l)) : ∃ ao cap, v = .slice ao l.length cap ∧ HasTxt w ao l ∧ l.length ≤ 9223372036854775807 ∧ (∀ g, ao = some ⟨g, 0, none⟩ → v.ownBlock = some g) := by
  have h' := own_str h
  obtain ⟨ao, cap, rfl, hc, hl⟩ := h'
  refine ⟨ao, cap, rfl, fun i s hi => ?_, hl, fun g e => by subst e; rfl⟩
  obtain ⟨hlt, rfl⟩ := List.getElem?_eq_some_iff.1 hi
  obtain ⟨g, e, _, hcc⟩ := hc i hlt
  exact ⟨g, e, hcc⟩
theorem HasTxt.grew {w w' : World} {a : Option Addr} {l : List ByteArray} {M : Nat} {row : Option Nat} (h : HasTxt w a l) (hg : Grew M row w w') (hM : ∀ b, a = some ⟨b, 0, none⟩ → b ≠ M ∧ row ≠ some b) : HasTxt w' a l := by
  intro i o hi
  obtain ⟨b, e, hc⟩ := h i o hi
  obtain ⟨h1, h2⟩ := hM b e
  refine ⟨b, e, ?_⟩
  have hb := hg.block b (World.block_lt_of_cell? w _ hc) h1 h2
  simp only [World.cell?, hb] at hc ⊢
  exact hc
theorem addAll_snoc (acc l : List ByteArray) (s : ByteArray) : addAll acc (l ++ [s]) = addN (addAll acc l) s := by simp [addAll]

/-- Whether one is there twice. -/
def twice (l : List ByteArray) : Bool := decide ((addAll [] l).length < l.length)

/-- What Check answers. -/
def chkC (c : C) : Int := if formC c = true then (if 60 < c.nodes ∨ 12 < c.depth then 5 else if twice c.labels = true then 4 else 0) else 2
theorem weight_nodes (c : C) : c.nodes ≤ c.weight := by
  induction c <;> simp [C.nodes, C.weight] <;> omega

theorem chkC_nil : chkC (.odd .nilIface) = 2 := rfl
end Go.Proofs.Ytdlflpnjmldakaa
