/- How long a number's and a contract's text is; what obsText and termText answer for any that is whole and not too long. -/
import Derived.Test.YtkioolbjmcpjpaaDoorWTerm
import Derived.Test.YtkioolbjmcpjpaaDoorSize
import Derived.Test.YtkioolbjmcpjpaaDoorTermSize
import Derived.Lib.ItoaLen
namespace Go.Proofs.YtkioolbjmcpjpaaDoor
open Go.RowKit
set_option linter.unusedVariables false

theorem joinL1 (a : ByteArray) : (Lib.join ([a].map (·.data.toList)) [44]).length = a.size := by
  have e : ∀ x : ByteArray, x.data.toList.length = x.size := fun x => by simp
  show (a.data.toList ++ []).length = _
  simp only [List.length_append, List.length_nil, e, Nat.add_zero]
theorem joinL2 (a b : ByteArray) : (Lib.join ([a, b].map (·.data.toList)) [44]).length = a.size + b.size + 1 := by
  have e : ∀ x : ByteArray, x.data.toList.length = x.size := fun x => by simp
  show (a.data.toList ++ ([44] ++ (b.data.toList ++ []))).length = _
  simp only [List.length_append, List.length_cons, List.length_nil, e]; omega
theorem joinL3 (a b c : ByteArray) : (Lib.join ([a, b, c].map (·.data.toList)) [44]).length = a.size + b.size + c.size + 2 := by
  have e : ∀ x : ByteArray, x.data.toList.length = x.size := fun x => by simp
  show (a.data.toList ++ ([44] ++ (b.data.toList ++ ([44] ++ (c.data.toList ++ []))))).length = _
  simp only [List.length_append, List.length_cons, List.length_nil, e]; omega
theorem joinT_size (word : ByteArray) (xs : List ByteArray) : (joinT word xs).size = word.size + (Lib.join (xs.map (·.data.toList)) [44]).length + 2 := by
  have e1 : (ByteArray.mk #[40]).size = 1 := rfl
  have e2 : (ByteArray.mk #[41]).size = 1 := rfl
  have e3 : (ByteArray.mk (Lib.join (xs.map (·.data.toList)) [44]).toArray).size = (Lib.join (xs.map (·.data.toList)) [44]).length := by
    simp [ByteArray.size]
  unfold joinT
  rw [ByteArray.size_append, ByteArray.size_append, ByteArray.size_append, e1, e2, e3]; omega
/-- Nothing in it is none, each amount has 64 bits, each name has at most M bytes. -/
def O.neat (M : Nat) : O → Prop
  | .const n => -9223372036854775808 ≤ n ∧ n ≤ 9223372036854775807
  | .fix s => s.size ≤ M
  | .add l r => l.neat M ∧ r.neat M
  | .neg o => o.neat M
  | .mul l r => l.neat M ∧ r.neat M
  | .max l r => l.neat M ∧ r.neat M
  | .odd _ => False
def C.neat (M : Nat) : C → Prop
  | .zero => True
  | .one s => s.size ≤ M
  | .give c => c.neat M
  | .and l r => l.neat M ∧ r.neat M
  | .or s l r => s.size ≤ M ∧ l.neat M ∧ r.neat M
  | .scale o c => o.neat M ∧ c.neat M
  | .when d c => (-9223372036854775808 ≤ d ∧ d ≤ 9223372036854775807) ∧ c.neat M
  | .iff o l r => o.neat M ∧ l.neat M ∧ r.neat M
  | .odd _ => False
theorem textO_size (M : Nat) (o : O) (h : o.neat M) : (textO o).size ≤ (M + 30) * o.nodes := by
  induction o with
  | const n => have := numT_size n h.1 h.2; simp only [textO, O.nodes]; omega
  | fix s => have h' : s.size ≤ M := h; simp only [textO, O.nodes]; rw [joinT_size, joinL1]; have e : (ByteArray.mk #[102, 105, 120]).size = 3 := rfl; omega
  | add l r h1 h2 => have a := h1 h.1; have b := h2 h.2; simp only [textO, O.nodes]; rw [joinT_size, joinL2, Nat.mul_add, Nat.mul_add]; have e : (ByteArray.mk #[97, 100, 100]).size = 3 := rfl; omega
  | neg o h1 => have a := h1 h; simp only [textO, O.nodes]; rw [joinT_size, joinL1, Nat.mul_add]; have e : (ByteArray.mk #[110, 101, 103]).size = 3 := rfl; omega
  | mul l r h1 h2 => have a := h1 h.1; have b := h2 h.2; simp only [textO, O.nodes]; rw [joinT_size, joinL2, Nat.mul_add, Nat.mul_add]; have e : (ByteArray.mk #[109, 117, 108]).size = 3 := rfl; omega
  | max l r h1 h2 => have a := h1 h.1; have b := h2 h.2; simp only [textO, O.nodes]; rw [joinT_size, joinL2, Nat.mul_add, Nat.mul_add]; have e : (ByteArray.mk #[109, 97, 120]).size = 3 := rfl; omega
  | odd v => exact absurd h id
theorem textC_size (M : Nat) (c : C) (h : c.neat M) : (textC c).size ≤ (M + 30) * c.nodes := by
  induction c with
  | zero => simp only [textC, C.nodes]; have e : (ByteArray.mk #[122, 101, 114, 111]).size = 4 := rfl; omega
  | one s => have h' : s.size ≤ M := h; simp only [textC, C.nodes]; rw [joinT_size, joinL1]; have e : (ByteArray.mk #[111, 110, 101]).size = 3 := rfl; omega
  | give c h1 => have a := h1 h; simp only [textC, C.nodes]; rw [joinT_size, joinL1, Nat.mul_add]; have e : (ByteArray.mk #[103, 105, 118, 101]).size = 4 := rfl; omega
  | and l r h1 h2 => have a := h1 h.1; have b := h2 h.2; simp only [textC, C.nodes]; rw [joinT_size, joinL2, Nat.mul_add, Nat.mul_add]; have e : (ByteArray.mk #[97, 110, 100]).size = 3 := rfl; omega
  | or s l r h1 h2 => have h' : s.size ≤ M := h.1; have a := h1 h.2.1; have b := h2 h.2.2; simp only [textC, C.nodes]; rw [joinT_size, joinL3, Nat.mul_add, Nat.mul_add]; have e : (ByteArray.mk #[111, 114]).size = 2 := rfl; omega
  | scale o c h1 => have a := textO_size M o h.1; have b := h1 h.2; simp only [textC, C.nodes]; rw [joinT_size, joinL2, Nat.mul_add, Nat.mul_add]; have e : (ByteArray.mk #[115, 99, 97, 108, 101]).size = 5 := rfl; omega
  | when d c h1 => have a := numT_size d h.1.1 h.1.2; have b := h1 h.2; simp only [textC, C.nodes]; rw [joinT_size, joinL2, Nat.mul_add]; have e : (ByteArray.mk #[119, 104, 101, 110]).size = 4 := rfl; omega
  | iff o l r h1 h2 => have a := textO_size M o h.1; have b := h1 h.2.1; have c := h2 h.2.2; simp only [textC, C.nodes]; rw [joinT_size, joinL3, Nat.mul_add, Nat.mul_add, Nat.mul_add]; have e : (ByteArray.mk #[105, 102]).size = 2 := rfl; omega
  | odd v => exact absurd h id
theorem obsText_any (M : Nat) (o : O) (k : o.Ok) (h : o.neat M) (hb : (M + 30) * o.nodes ≤ 70368744177664) : Writes o := by
  induction o with
  | const n => exact obsText_const n h.1 h.2
  | fix s => exact obsText_fix s (by have q := textO_size M (.fix s) h; simp only [textO] at q; rw [joinT_size] at q; omega)
  | add l r h1 h2 => exact obsText_add l r (l.one' k.1) (r.one' k.2) (h1 k.1 h.1 (Nat.le_trans (Nat.mul_le_mul_left _ (by simp only [O.nodes]; omega)) hb)) (h2 k.2 h.2 (Nat.le_trans (Nat.mul_le_mul_left _ (by simp only [O.nodes]; omega)) hb)) (by have q := textO_size M (.add l r) h; simp only [textO] at q; rw [joinT_size] at q; omega)
  | mul l r h1 h2 => exact obsText_mul l r (l.one' k.1) (r.one' k.2) (h1 k.1 h.1 (Nat.le_trans (Nat.mul_le_mul_left _ (by simp only [O.nodes]; omega)) hb)) (h2 k.2 h.2 (Nat.le_trans (Nat.mul_le_mul_left _ (by simp only [O.nodes]; omega)) hb)) (by have q := textO_size M (.mul l r) h; simp only [textO] at q; rw [joinT_size] at q; omega)
  | max l r h1 h2 => exact obsText_max l r (l.one' k.1) (r.one' k.2) (h1 k.1 h.1 (Nat.le_trans (Nat.mul_le_mul_left _ (by simp only [O.nodes]; omega)) hb)) (h2 k.2 h.2 (Nat.le_trans (Nat.mul_le_mul_left _ (by simp only [O.nodes]; omega)) hb)) (by have q := textO_size M (.max l r) h; simp only [textO] at q; rw [joinT_size] at q; omega)
  | neg o h1 => exact obsText_neg o (o.one' k) (h1 k h (Nat.le_trans (Nat.mul_le_mul_left _ (by simp only [O.nodes]; omega)) hb)) (by have q := textO_size M (.neg o) h; simp only [textO] at q; rw [joinT_size] at q; omega)
  | odd v => exact absurd h id
theorem termText_any (M : Nat) (c : C) (k : c.Ok) (h : c.neat M) (hb : (M + 30) * c.nodes ≤ 70368744177664) : WritesC c := by
  induction c with
  | zero => exact termText_zero
  | one s => exact termText_one s (by have q := textC_size M (.one s) h; simp only [textC] at q; rw [joinT_size] at q; omega)
  | give c h1 => exact termText_give c (c.one' k) (h1 k h (Nat.le_trans (Nat.mul_le_mul_left _ (by simp only [C.nodes]; omega)) hb)) (by have q := textC_size M (.give c) h; simp only [textC] at q; rw [joinT_size] at q; omega)
  | and l r h1 h2 => exact termText_and l r (l.one' k.1) (h1 k.1 h.1 (Nat.le_trans (Nat.mul_le_mul_left _ (by simp only [C.nodes]; omega)) hb)) (r.one' k.2) (h2 k.2 h.2 (Nat.le_trans (Nat.mul_le_mul_left _ (by simp only [C.nodes]; omega)) hb)) (by have q := textC_size M (.and l r) h; simp only [textC] at q; rw [joinT_size] at q; omega)
  | or s l r h1 h2 => exact termText_or s l r (l.one' k.2.1) (h1 k.2.1 h.2.1 (Nat.le_trans (Nat.mul_le_mul_left _ (by simp only [C.nodes]; omega)) hb)) (r.one' k.2.2) (h2 k.2.2 h.2.2 (Nat.le_trans (Nat.mul_le_mul_left _ (by simp only [C.nodes]; omega)) hb)) (by have q := textC_size M (.or s l r) h; simp only [textC] at q; rw [joinT_size] at q; omega)
  | scale o c h1 => exact termText_scale o c (o.one' k.1) (obsText_any M o k.1 h.1 (Nat.le_trans (Nat.mul_le_mul_left _ (by simp only [C.nodes]; omega)) hb)) (c.one' k.2) (h1 k.2 h.2 (Nat.le_trans (Nat.mul_le_mul_left _ (by simp only [C.nodes]; omega)) hb)) (by have q := textC_size M (.scale o c) h; simp only [textC] at q; rw [joinT_size] at q; omega)
  | when d c h1 => exact termText_when d h.1.1 h.1.2 c (c.one' k.2) (h1 k.2 h.2 (Nat.le_trans (Nat.mul_le_mul_left _ (by simp only [C.nodes]; omega)) hb)) (by have q := textC_size M (.when d c) h; simp only [textC] at q; rw [joinT_size] at q; omega)
  | iff o l r h1 h2 => exact termText_if o l r (o.one' k.1) (obsText_any M o k.1 h.1 (Nat.le_trans (Nat.mul_le_mul_left _ (by simp only [C.nodes]; omega)) hb)) (l.one' k.2.1) (h1 k.2.1 h.2.1 (Nat.le_trans (Nat.mul_le_mul_left _ (by simp only [C.nodes]; omega)) hb)) (r.one' k.2.2) (h2 k.2.2 h.2.2 (Nat.le_trans (Nat.mul_le_mul_left _ (by simp only [C.nodes]; omega)) hb)) (by have q := textC_size M (.iff o l r) h; simp only [textC] at q; rw [joinT_size] at q; omega)
  | odd v => exact absurd h id
end Go.Proofs.YtkioolbjmcpjpaaDoor
