/- The text of a number, as package write writes it: what is needed. -/
import Derived.Test.YtkioolbjmcpjpaaGreatDoorWJoin
import Derived.Lib.ItoaLen
namespace Go.Proofs.YtkioolbjmcpjpaaGreatDoor
open Go.RowKit
set_option linter.unusedVariables false

theorem below_growing (w : World) (k : Nat) (os : Array Obj) : Below w.heap.size w (Go.Sort.grow (w.drewN k) os) :=
  ⟨rfl, rfl, rfl, by show w.heap.size ≤ (w.heap ++ os).size; simp, fun i hi => by show (w.heap ++ os)[i]? = _; rw [Array.getElem?_append_left hi]⟩
/-- The text of a number that is none of the others. -/
def numT (n : Int) : ByteArray := ⟨(Lib.itoa n).toArray⟩
/-- The tables that strconv reads are as they were laid. -/
def TabW (w : World) : Prop := Lib.TabIs Tryz.prog w "internal/strconv.uint64pow10" .u64 Lib.pow10Tab
theorem itoa_any (n : Int) (h0 : -9223372036854775808 ≤ n) (h1 : n ≤ 9223372036854775807) (w : World) (h : TabW w) : Calls Tryz.prog 93 #[.int .i64 n] w fun e w' => e = .returned (.string (numT n)) ∧ Below w.heap.size w w' :=
  (Tryz.strconv_Itoa n h0 h1 w h).mono fun e w' ⟨he, k, os, hw⟩ => ⟨he, by rw [hw]; exact below_growing w k os⟩
theorem numT_size (n : Int) (h0 : -9223372036854775808 ≤ n) (h1 : n ≤ 9223372036854775807) : (numT n).size ≤ 21 := by
  have := Lib.itoa_length_le n h0 h1
  show (Lib.itoa n).toArray.size ≤ 21
  simpa using this
def textO : O → ByteArray
  | .const n => numT n
  | .fix s => joinT ⟨#[102, 105, 120]⟩ [s]
  | .add l r => joinT ⟨#[97, 100, 100]⟩ [textO l, textO r]
  | .neg o => joinT ⟨#[110, 101, 103]⟩ [textO o]
  | .mul l r => joinT ⟨#[109, 117, 108]⟩ [textO l, textO r]
  | .max l r => joinT ⟨#[109, 97, 120]⟩ [textO l, textO r]
  | .odd _ => ⟨#[]⟩
/-- An assertion with one value. -/
theorem assert_one {P : Program} {t : TypeId} {u : TypeDesc} (hu : P.underlying t = some u) (hn : ∀ m, u ≠ .interface m) (v : Value) (xT : TypeId) (w : World) :
    (Instr.typeAssert (.iface t v) xT t false).run P w = .ok v w := by
  cases u <;> first | (exfalso; exact hn _ rfl) | simp [Instr.typeAssert, run_underlying hu]

end Go.Proofs.YtkioolbjmcpjpaaGreatDoor
