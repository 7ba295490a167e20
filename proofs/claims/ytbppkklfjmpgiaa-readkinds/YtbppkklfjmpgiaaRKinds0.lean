/- What read.Term and read.Obs answer of the texts that the statement ReadKinds asks for, put together. -/
import Derived.Test.YtbppkklfjmpgiaaRKindsL
namespace Go.Proofs.Ytbppkklfjmpgiaa
open Go.RowKit
set_option linter.unusedVariables false

theorem k6_all (q : Nat) (hq : q < 9) (d : Nat) (hd : d < 10) : p6 q (⟨#[115, 99, 97, 108, 101, 40]⟩ ++ wK (cN q) (dg7 d) ++ ⟨#[44, 122, 101, 114, 111, 41]⟩, d) = true := by
  have hq9 : q = 0 ∨ q = 1 ∨ q = 2 ∨ q = 3 ∨ q = 4 ∨ q = 5 ∨ q = 6 ∨ q = 7 ∨ q = 8 := by omega
  rcases hq9 with rfl | rfl | rfl | rfl | rfl | rfl | rfl | rfl | rfl
  · exact all_at k6_0 (zip_at (k6_e0 d hd) hd)
  · exact all_at k6_1 (zip_at (k6_e1 d hd) hd)
  · exact all_at k6_2 (zip_at (k6_e2 d hd) hd)
  · exact all_at k6_3 (zip_at (k6_e3 d hd) hd)
  · exact all_at k6_4 (zip_at (k6_e4 d hd) hd)
  · exact all_at k6_5 (zip_at (k6_e5 d hd) hd)
  · exact all_at k6_6 (zip_at (k6_e6 d hd) hd)
  · exact all_at k6_7 (zip_at (k6_e7 d hd) hd)
  · exact all_at k6_8 (zip_at (k6_e8 d hd) hd)
theorem k7_all (q : Nat) (hq : q < 9) (d : Nat) (hd : d < 10) : p7 q (⟨#[105, 102, 40]⟩ ++ wK (cN q) (dg7 d) ++ ⟨#[44, 111, 110, 101, 40]⟩ ++ cN q ++ ⟨#[41, 44, 122, 101, 114, 111, 41]⟩, d) = true := by
  have hq9 : q = 0 ∨ q = 1 ∨ q = 2 ∨ q = 3 ∨ q = 4 ∨ q = 5 ∨ q = 6 ∨ q = 7 ∨ q = 8 := by omega
  rcases hq9 with rfl | rfl | rfl | rfl | rfl | rfl | rfl | rfl | rfl
  · exact all_at k7_0 (zip_at (k7_e0 d hd) hd)
  · exact all_at k7_1 (zip_at (k7_e1 d hd) hd)
  · exact all_at k7_2 (zip_at (k7_e2 d hd) hd)
  · exact all_at k7_3 (zip_at (k7_e3 d hd) hd)
  · exact all_at k7_4 (zip_at (k7_e4 d hd) hd)
  · exact all_at k7_5 (zip_at (k7_e5 d hd) hd)
  · exact all_at k7_6 (zip_at (k7_e6 d hd) hd)
  · exact all_at k7_7 (zip_at (k7_e7 d hd) hd)
  · exact all_at k7_8 (zip_at (k7_e8 d hd) hd)
theorem kinds_ok (q : Nat) (hq : q < 9) (d : Nat) (hd : d < 10) : (kdL (cN q) (dg7 d) (wK (cN q) (dg7 d)) d).all okK = true := by
  have hA := List.all_eq_true.1 kindsA0 q (List.mem_range.2 hq)
  have hB := List.all_eq_true.1 kindsB0 d (List.mem_range.2 hd)
  have h6 := k6_all q hq d hd
  have h7 := k7_all q hq d hd
  simp only [kdA, List.all_cons, List.all_nil, Bool.and_eq_true] at hA
  simp only [kdB] at hB
  simp only [kdL, List.all_cons, List.all_nil, Bool.and_eq_true]
  exact ⟨hA.1, hA.2.1, hA.2.2.1, hA.2.2.2.1, hA.2.2.2.2.1, hB, h6, h7, trivial⟩

theorem kO_all (q : Nat) (hq : q < 9) (d : Nat) (hd : d < 10) : pO q (wK (cN q) (dg7 d), d) = true := by
  have hq9 : q = 0 ∨ q = 1 ∨ q = 2 ∨ q = 3 ∨ q = 4 ∨ q = 5 ∨ q = 6 ∨ q = 7 ∨ q = 8 := by omega
  rcases hq9 with rfl | rfl | rfl | rfl | rfl | rfl | rfl | rfl | rfl
  · exact all_at kO_0 (zip_at (kO_e0 d hd) hd)
  · exact all_at kO_1 (zip_at (kO_e1 d hd) hd)
  · exact all_at kO_2 (zip_at (kO_e2 d hd) hd)
  · exact all_at kO_3 (zip_at (kO_e3 d hd) hd)
  · exact all_at kO_4 (zip_at (kO_e4 d hd) hd)
  · exact all_at kO_5 (zip_at (kO_e5 d hd) hd)
  · exact all_at kO_6 (zip_at (kO_e6 d hd) hd)
  · exact all_at kO_7 (zip_at (kO_e7 d hd) hd)
  · exact all_at kO_8 (zip_at (kO_e8 d hd) hd)
theorem kindO_ok (q : Nat) (hq : q < 9) (d : Nat) (hd : d < 10) : okO (wK (cN q) (dg7 d)) (oK (cN q) d) = true := kO_all q hq d hd
theorem kind7 : okO ⟨#[32, 45, 55, 32]⟩ (.const (-7)) = true ∧ (⟨#[32, 45, 55, 32]⟩ : ByteArray) = ⟨#[32, 45, 55, 32]⟩ := ⟨by kernel_rfl, rfl⟩
theorem kindU : (rdO ⟨#[111, 110, 101, 40, 117, 115, 100, 41]⟩).2.1 = 1 ∧ (rdO ⟨#[111, 110, 101, 40, 117, 115, 100, 41]⟩).2.2 = 2 := by decide +kernel
/-- The cells of the list. -/
def kcells (c D E : ByteArray) (d : Nat) : Array Value := #[.string (⟨#[122, 101, 114, 111]⟩), .iface 52 (.agg #[]), .string (⟨#[111, 110, 101, 40]⟩ ++ c ++ ⟨#[41]⟩), .iface 50 (.agg #[.string c]), .string (⟨#[103, 105, 118, 101, 40, 122, 101, 114, 111, 41]⟩), .iface 65 (.agg #[.iface 52 (.agg #[])]), .string (⟨#[97, 110, 100, 40, 111, 110, 101, 40]⟩ ++ c ++ ⟨#[41, 44, 122, 101, 114, 111, 41]⟩), .iface 67 (.agg #[.iface 50 (.agg #[.string c]), .iface 52 (.agg #[])]), .string (⟨#[111, 114, 40]⟩ ++ c ++ ⟨#[44, 122, 101, 114, 111, 44, 111, 110, 101, 40]⟩ ++ c ++ ⟨#[41, 41]⟩), .iface 69 (.agg #[.string c, .iface 52 (.agg #[]), .iface 50 (.agg #[.string c])]), .string (⟨#[119, 104, 101, 110, 40]⟩ ++ D ++ ⟨#[44, 122, 101, 114, 111, 41]⟩), .iface 71 (.agg #[.int .i64 d, .iface 52 (.agg #[])]), .string (⟨#[115, 99, 97, 108, 101, 40]⟩ ++ E ++ ⟨#[44, 122, 101, 114, 111, 41]⟩), .iface 73 (.agg #[.iface 62 (.agg #[.iface 54 (.agg #[.string c]), .iface 61 (.agg #[.iface 59 (.agg #[.iface 56 (.agg #[.int .i64 d]), .iface 58 (.agg #[.iface 56 (.agg #[.int .i64 (-12)]), .iface 54 (.agg #[.string ⟨#[195, 182, 108]⟩])])])])]), .iface 52 (.agg #[])]), .string (⟨#[105, 102, 40]⟩ ++ E ++ ⟨#[44, 111, 110, 101, 40]⟩ ++ c ++ ⟨#[41, 44, 122, 101, 114, 111, 41]⟩), .iface 75 (.agg #[.iface 62 (.agg #[.iface 54 (.agg #[.string c]), .iface 61 (.agg #[.iface 59 (.agg #[.iface 56 (.agg #[.int .i64 d]), .iface 58 (.agg #[.iface 56 (.agg #[.int .i64 (-12)]), .iface 54 (.agg #[.string ⟨#[195, 182, 108]⟩])])])])]), .iface 50 (.agg #[.string c]), .iface 52 (.agg #[])])]
theorem kd8 (i : Nat) (h : i < 8) : i = 0 ∨ i = 1 ∨ i = 2 ∨ i = 3 ∨ i = 4 ∨ i = 5 ∨ i = 6 ∨ i = 7 := by omega
theorem kcells_get (c D E : ByteArray) (d i : Nat) (x : ByteArray × C) (h : (kdL c D E d)[i]? = some x) : (kcells c D E d)[i * 2]? = some (.string x.1) ∧ (kcells c D E d)[i * 2 + 1]? = some x.2.val := by
  have hi : i < 8 := by have := (List.getElem?_eq_some_iff.1 h).1; simpa [kdL] using this
  rcases kd8 i hi with rfl | rfl | rfl | rfl | rfl | rfl | rfl | rfl <;> (simp only [kdL, List.getElem?_cons_zero, List.getElem?_cons_succ, Option.some.injEq] at h; subst h; exact ⟨rfl, rfl⟩)
theorem oK_ok (c : ByteArray) (hc : c.size = 2) (d : Nat) (hd : d < 10) : (oK c d).Ok := ⟨by show c.size ≤ _; omega, ⟨by omega, by omega⟩, ⟨by decide, by decide⟩, by show (⟨#[195, 182, 108]⟩ : ByteArray).size ≤ _; decide⟩
theorem kd_ok (c D E : ByteArray) (hc : c.size = 2) (d : Nat) (hd : d < 10) (i : Nat) (x : ByteArray × C) (h : (kdL c D E d)[i]? = some x) : x.2.Ok := by
  have hi : i < 8 := by have := (List.getElem?_eq_some_iff.1 h).1; simpa [kdL] using this
  have ho := oK_ok c hc d hd
  have h1 : (C.one c).Ok := by show c.size ≤ _; omega
  rcases kd8 i hi with rfl | rfl | rfl | rfl | rfl | rfl | rfl | rfl <;> (simp only [kdL, List.getElem?_cons_zero, List.getElem?_cons_succ, Option.some.injEq] at h; subst h)
  · trivial
  · exact h1
  · trivial
  · exact ⟨h1, trivial⟩
  · exact ⟨by show c.size ≤ _; omega, trivial, h1⟩
  · exact ⟨⟨by omega, by omega⟩, trivial⟩
  · exact ⟨ho, trivial⟩
  · exact ⟨ho, h1, trivial⟩
theorem kinds_at (q : Nat) (hq : q < 9) (d : Nat) (hd : d < 10) (i : Nat) (x : ByteArray × C) (h : (kdL (cN q) (dg7 d) (wK (cN q) (dg7 d)) d)[i]? = some x) : sameC (rdT x.1).1 x.2 = true ∧ (rdT x.1).2.1 = 0 ∧ (rdT x.1).2.2 = 0 ∧ x.1.size ≤ 200 := by
  have hx := List.all_eq_true.1 (kinds_ok q hq d hd) x (List.mem_of_getElem? h)
  simp only [okK, Bool.and_eq_true, decide_eq_true_eq] at hx
  exact ⟨hx.1.1, hx.1.2.1, hx.1.2.2, hx.2⟩

end Go.Proofs.Ytbppkklfjmpgiaa
