/- A number as a tree, as the statements make it of any number. -/
import Derived.Test.YtkioolbjmcpjpaaGreatDoorMakerC0
namespace Go.Proofs.YtkioolbjmcpjpaaGreatDoor
open Go.RowKit
set_option linter.unusedVariables false

/-- What a call that makes a tree answers. -/
def TreePost (w : World) (t : T) (e : Ending) (w' : World) : Prop := ∃ ka kc, e = .returned (.agg #[.int .i64 t.kind, .string t.s, .int .i64 t.n, .slice ka t.k.length kc]) ∧ TIn w' w.heap.size t (.agg (four t ka kc)) ∧ Below w.heap.size w w'

set_option maxHeartbeats 1000000 in
set_option maxRecDepth 100000 in
theorem treeTwo_any (kind : Int) (t u : T) (ka la : Option Addr) (kc lc B : Nat) (w : World) (hB : B ≤ w.heap.size) (ht : TIn w B t (.agg (four t ka kc))) (hu : TIn w B u (.agg (four u la lc))) :
    Calls Tryz.prog 105 #[.int .i64 kind, .agg #[.int .i64 t.kind, .string t.s, .int .i64 t.n, .slice ka t.k.length kc], .agg #[.int .i64 u.kind, .string u.s, .int .i64 u.n, .slice la u.k.length lc]] w fun e w' => ∃ b, e = .returned (.agg #[.int .i64 kind, .string ⟨#[]⟩, .int .i64 0, .slice (some ⟨b, 0, none⟩) 2 2]) ∧ KAt w' B [t, u] (some ⟨b, 0, none⟩) 0 ∧ Below w.heap.size w w' := by
  have HT := hidIn ht
  have HU := hidIn hu
  clear ht hu
  go_enter Tryz.func105, Tryz.ntmps105
  go_wp2_with fail
  refine bodyPost_ret (results_cell_row rfl _ _ (w.heap.size + 1 + 1) 33 #[.int .i64 kind, .string ⟨#[]⟩, .int .i64 0, .slice (some ⟨w.heap.size + 1 + 1 + 1, 0, none⟩) 2 2] (0, 0) _ rfl ?blk Tryz.underlying33 rfl infoT) rfl ?post
  case blk => exact blk_keep (blk_new (by simp)) _
  case post =>
    have hb4 : ∀ a b c d : Obj, Below w.heap.size w ((((w.alloc a).alloc b).alloc c).alloc d) := fun a b c d => below_alloc (below_alloc (below_alloc (below_alloc (Below.refl _ _) _) _) _) _
    refine ⟨_, rfl, ?_, hb4 _ _ _ _⟩
    exact kat_two (HT.out.below (hb4 _ _ _ _)) (HU.out.below (hb4 _ _ _ _)) (by omega) (blk_new (by simp))

theorem tree_leaf (w w' : World) (kind : Int) (s : ByteArray) (n : Int) (h : Below w.heap.size w w') : TreePost w (.mk kind s n []) (.returned (.agg #[.int .i64 kind, .string s, .int .i64 n, .slice none 0 0])) w' :=
  ⟨none, 0, rfl, tin_leaf _ _ _ _ _, h⟩

end Go.Proofs.YtkioolbjmcpjpaaGreatDoor
