/- A number as a tree, of each kind. -/
import Derived.Test.YtcdkejnnbbkecaaPlainO
namespace Go.Proofs.Ytcdkejnnbbkecaa
open Go.RowKit
set_option linter.unusedVariables false

theorem below_set {w w' : World} (h : Below w.heap.size w w') {R : Nat} (hR : w.heap.size ≤ R) (i : Nat) (x : Value) : Below w.heap.size w (w'.setCell ⟨R, i, none⟩ x) := h.setCell hR x
theorem set4_cell' {W : World} {R : Nat} {a b c d : Value} {k o : Nat} (h : k ≠ R) : ((((W.setCell ⟨R, 0, none⟩ a).setCell ⟨R, 1, none⟩ b).setCell ⟨R, 2, none⟩ c).setCell ⟨R, 3, none⟩ d).cell? ⟨k, o, none⟩ = W.cell? ⟨k, o, none⟩ := set4_cell a b c d h
theorem cell_alloc_set4 {W : World} {R : Nat} {a b c d : Value} {x : Obj} {k o : Nat} (h : k ≠ R ∧ R < W.heap.size) : (((((W.setCell ⟨R, 0, none⟩ a).setCell ⟨R, 1, none⟩ b).setCell ⟨R, 2, none⟩ c).setCell ⟨R, 3, none⟩ d).alloc x).cell? ⟨k, o, none⟩ = (W.alloc x).cell? ⟨k, o, none⟩ := by
  by_cases hk : k < W.heap.size
  · rw [(below_alloc (Below.refl _ _) x).cell (p := ⟨k, o, none⟩) (by simpa using hk), (below_alloc (Below.refl _ _) x).cell (p := ⟨k, o, none⟩) hk]
    exact set4_cell' h.1
  · by_cases hk2 : k = W.heap.size
    · subst hk2
      have h1 := heap_alloc_new ((((W.setCell ⟨R, 0, none⟩ a).setCell ⟨R, 1, none⟩ b).setCell ⟨R, 2, none⟩ c).setCell ⟨R, 3, none⟩ d) x
      have h2 := heap_alloc_new W x
      simp only [World.size_setCell] at h1
      simp only [World.cell?, h1, h2]
    · have h1 : ((((((W.setCell ⟨R, 0, none⟩ a).setCell ⟨R, 1, none⟩ b).setCell ⟨R, 2, none⟩ c).setCell ⟨R, 3, none⟩ d).alloc x)).heap[k]? = none := Array.getElem?_eq_none (by simp; omega)
      have h2 : (W.alloc x).heap[k]? = none := Array.getElem?_eq_none (by simp; omega)
      simp only [World.cell?, h1, h2]
theorem blk_set4k {X : World} {R t : Nat} (h : Blk X R t zeroT) (a b c d : Value) (o : Obj) : Blk ((set4 X R a b c d).alloc o) R t #[a, b, c, d] := heap_keeps (set4_blk h a b c d) o

theorem tree_two {w w3 F : World} {B b : Nat} {kind : Int} {s : ByteArray} {n : Int} {t u : T} (hK : KAt w3 B [t, u] (some ⟨b, 0, none⟩) 0) (hc : ∀ k o v, B ≤ k → w3.cell? ⟨k, o, none⟩ = some v → F.cell? ⟨k, o, none⟩ = some v) (hB : w.heap.size ≤ B) (hF : Below w.heap.size w F) : TreePost w (.mk kind s n [t, u]) (.returned (.agg #[.int .i64 kind, .string s, .int .i64 n, .slice (some ⟨b, 0, none⟩) 2 2])) F :=
  ⟨some ⟨b, 0, none⟩, 2, rfl, ⟨some ⟨b, 0, none⟩, 2, rfl, Nat.le_refl _, by omega, hK.kept hB hc⟩, hF⟩
theorem tree_one {w w3 F : World} {B b : Nat} {kind : Int} {s : ByteArray} {n : Int} {t : T} (hK : KAt w3 B [t] (some ⟨b, 0, none⟩) 0) (hc : ∀ k o v, B ≤ k → w3.cell? ⟨k, o, none⟩ = some v → F.cell? ⟨k, o, none⟩ = some v) (hB : w.heap.size ≤ B) (hF : Below w.heap.size w F) : TreePost w (.mk kind s n [t]) (.returned (.agg #[.int .i64 kind, .string s, .int .i64 n, .slice (some ⟨b, 0, none⟩) 1 1])) F :=
  ⟨some ⟨b, 0, none⟩, 1, rfl, ⟨some ⟨b, 0, none⟩, 1, rfl, Nat.le_refl _, by omega, hK.kept hB hc⟩, hF⟩

end Go.Proofs.Ytcdkejnnbbkecaa
