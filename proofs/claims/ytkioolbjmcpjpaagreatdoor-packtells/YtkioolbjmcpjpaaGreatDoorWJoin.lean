/- A word, and its parts between brackets: what package write puts together. -/
import Derived.Test.YtkioolbjmcpjpaaGreatDoorObs
import Derived.Test.YtkioolbjmcpjpaaGreatDoorShelf
namespace Go.Proofs.YtkioolbjmcpjpaaGreatDoor
open Go.RowKit
set_option linter.unusedVariables false

theorem hidIn' {p : Prop} (h : p) : Hid p := h
/-- A word, and its parts. -/
def joinT (word : ByteArray) (xs : List ByteArray) : ByteArray := word ++ ⟨#[40]⟩ ++ ⟨(Lib.join (xs.map (·.data.toList)) [44]).toArray⟩ ++ ⟨#[41]⟩

set_option maxHeartbeats 1000000 in
set_option maxRecDepth 100000 in
theorem join_any (word : ByteArray) (bk c : Nat) (xs : List ByteArray) (w : World) (hcells : ∀ (j : Nat) x, xs[j]? = some x → w.cell? ⟨bk, j, none⟩ = some (.string x)) (hbk : bk < w.heap.size) (hcap : xs.length ≤ c) (hN : xs.length ≤ 10) (hw : word.size ≤ 10) (hlen : (Lib.join (xs.map (·.data.toList)) [44]).length ≤ 70368744177664) :
    Calls Tryz.prog 91 #[.string word, .slice (some ⟨bk, 0, none⟩) xs.length c] w fun e w' => e = .returned (.string (joinT word xs)) ∧ Below w.heap.size w w' := by
  have HJ : Hid (joinT word xs = word ++ ⟨#[40]⟩ ++ ⟨(Lib.join (xs.map (·.data.toList)) [44]).toArray⟩ ++ ⟨#[41]⟩) := rfl
  have HC : Hid (Calls Tryz.prog 130 #[.slice (some ⟨bk, 0, none⟩) xs.length c, .string ⟨#[44]⟩] w fun e w' => e = .returned (.string ⟨(Lib.join (xs.map (·.data.toList)) [44]).toArray⟩) ∧ Below w.heap.size w w') :=
    Tryz.strings_Join bk 0 c xs ⟨#[44]⟩ w (fun j x hj => by rw [Nat.zero_add]; exact hcells j x hj) hbk (by omega) hcap (by show (Lib.join _ [44]).length ≤ _; omega)
  have hl2 : (Lib.join (xs.map (·.data.toList)) [44]).toArray.size ≤ 70368744177664 := by simpa using hlen
  clear hcells
  generalize Lib.join (xs.map (·.data.toList)) [44] = L at *
  go_enter Tryz.func91, Tryz.ntmps91
  go_wp2_with fail
  refine HC.out.mono ?_
  rintro e w1 ⟨rfl, hb1⟩
  have HB1 := hidIn' hb1
  clear hb1
  have hs : (word ++ (⟨#[40]⟩ : ByteArray)).size = word.size + 1 := by rw [ByteArray.size_append]; rfl
  have hs2 : (⟨L.toArray⟩ : ByteArray).size ≤ 70368744177664 := hl2
  go_wp2_with fail
  go_ret
  exact ⟨by rw [HJ.out]; rfl, HB1.out⟩

end Go.Proofs.YtkioolbjmcpjpaaGreatDoor
