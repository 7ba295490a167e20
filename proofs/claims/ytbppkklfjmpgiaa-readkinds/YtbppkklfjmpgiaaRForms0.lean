/- What the walk of the statement ReadForms needs. -/
import Derived.Test.YtbppkklfjmpgiaaFormsR
import Derived.Test.YtbppkklfjmpgiaaGrow
namespace Go.Proofs.Ytbppkklfjmpgiaa
open Go.RowKit
set_option linter.unusedVariables false

set_option maxHeartbeats 1000000 in
set_option maxRecDepth 100000 in
theorem kname9_any (n : Int) (q : Nat) (hq : n % 9 = q) (hq9 : q < 9) (w : World) (h1 : -9223372036854775808 ≤ n) (h2 : n ≤ 9223372036854775807) :
    Calls Try.prog 14 #[.string ⟨#[99]⟩, .int .i64 n, .int .i64 9] w fun e w' => e = .returned (.string (cN q)) ∧ Below w.heap.size w w' := by
  have hcv : (convert 104 9 (.slice (some ⟨w.heap.size, 0, none⟩) 1 1)).run Try.prog (w.alloc (.cells #[.int .u8 (97 + (q : Int))] 5)) = .ok (.string (strOfNums [97 + (q : Int)])) (w.alloc (.cells #[.int .u8 (97 + (q : Int))] 5)) := by
    refine run_convert_bytes_arg _ 104 5 Try.underlying104 Try.underlying5 w.heap.size 0 1 1 [97 + (q : Int)] rfl (fun i hi => ?_) 9 Try.underlying9
    have : i = 0 := by omega
    subst this
    exact (cell_of_row _ _ _ _ _ _ (heap_alloc_new _ _)).trans rfl
  have hwr : IntKind.u8.wrap (97 + (q : Int)) = 97 + (q : Int) := by simp [IntKind.wrap, IntKind.bits, IntKind.signed]; omega
  have hs1 : (strOfNums [97 + (q : Int)]).size = 1 := rfl
  have HX : Hid ((⟨#[99]⟩ : ByteArray) ++ strOfNums [97 + (q : Int)] = cN q) := by
    have h : ∀ q : Nat, q < 9 → (⟨#[99]⟩ : ByteArray) ++ strOfNums [97 + (q : Int)] = cN q := by decide +kernel
    exact h q hq9
  generalize strOfNums [97 + (q : Int)] = X at *
  go_enter Try.func14, Try.ntmps14
  go_wp2_with fail
  refine calls_same (within_any _ 9 _ (by omega) (by omega) h1 h2) ?_
  rw [hq]
  clear h1 h2 hq
  go_wp2_with fail
  go_ret
  exact ⟨by rw [← HX.out]; rfl, below_alloc (Below.refl _ _) _⟩
def gvN : Nat → ByteArray
  | 0 => ⟨#[]⟩
  | n + 1 => gvN n ++ ⟨#[103, 105, 118, 101, 40]⟩
def rpN : Nat → ByteArray
  | 0 => ⟨#[]⟩
  | n + 1 => rpN n ++ ⟨#[41]⟩
theorem gvN_size : ∀ n, (gvN n).size = 5 * n
  | 0 => rfl
  | n + 1 => by unfold gvN; rw [ByteArray.size_append, gvN_size n]; have : (ByteArray.mk #[103, 105, 118, 101, 40]).size = 5 := rfl; omega
theorem rpN_size : ∀ n, (rpN n).size = n
  | 0 => rfl
  | n + 1 => by unfold rpN; rw [ByteArray.size_append, rpN_size n]; rfl
theorem gvN_12 : gvN 12 = dpB := by decide +kernel
theorem rpN_12 : rpN 12 = enB := by decide +kernel
/-- The document's example. -/
theorem wake7 : rdT ⟨#[103, 105, 118, 101, 40, 32, 122, 101, 114, 111, 32, 41]⟩ = (.give .zero, 0, 0) := by kernel_rfl
set_option maxHeartbeats 1000000 in
set_option maxRecDepth 100000 in
theorem wakes7_any (w : World) : Calls Try.prog 13 #[] w fun e w' => e = .returned (.bool true) ∧ Below w.heap.size w w' := by
  have HK := hidIn (readT_any ⟨#[103, 105, 118, 101, 40, 32, 122, 101, 114, 111, 32, 41]⟩ w (by decide))
  rw [wake7] at HK
  go_enter Try.func13, Try.ntmps13
  go_wp2_with fail
  refine HK.out.mono ?_
  rintro e w1 ⟨rfl, _, hb1⟩
  have HB1 := hidIn hb1
  clear hb1
  have hv : (C.give .zero).val = .iface 65 (.agg #[.iface 52 (.agg #[])]) := rfl
  simp only [hv]
  have hy : ∀ xT w, (Instr.typeAssert (.iface 65 (.agg #[.iface 52 (.agg #[])])) xT 65 true).run Try.prog w = _ := fun xT w => assert_yes Try.underlying65 (by intro m h; cases h) _ xT w
  go_wp2_with fail
  go_ret
  exact ⟨rfl, below_alloc HB1.out _⟩

/-- The cells of the list. -/
def fcells (c dp en : ByteArray) : Array Value := #[.string ⟨#[]⟩, .int .i64 1, .int .i64 2, .string ⟨#[122, 101, 114, 111, 32, 122, 101, 114, 111]⟩, .int .i64 6, .int .i64 2, .string ⟨#[90, 101, 114, 111]⟩, .int .i64 1, .int .i64 2, .string ⟨#[111, 110, 101]⟩, .int .i64 4, .int .i64 2, .string ⟨#[111, 110, 101, 40]⟩, .int .i64 5, .int .i64 2, .string (⟨#[111, 110, 101, 40]⟩ ++ c), .int .i64 7, .int .i64 2, .string ⟨#[111, 110, 101, 40, 41]⟩, .int .i64 5, .int .i64 2, .string ⟨#[111, 110, 101, 40, 49, 97, 41]⟩, .int .i64 5, .int .i64 2, .string ((⟨#[111, 110, 101, 40]⟩ ++ c) ++ ⟨#[44, 120, 41]⟩), .int .i64 7, .int .i64 2, .string ⟨#[103, 105, 118, 101, 40, 49, 41]⟩, .int .i64 6, .int .i64 2, .string ⟨#[97, 110, 100, 40, 122, 101, 114, 111, 41]⟩, .int .i64 9, .int .i64 2, .string ⟨#[97, 110, 100, 40, 122, 101, 114, 111, 44, 122, 101, 114, 111, 44, 122, 101, 114, 111, 41]⟩, .int .i64 14, .int .i64 2, .string ⟨#[111, 114, 40, 122, 101, 114, 111, 44, 122, 101, 114, 111, 41]⟩, .int .i64 13, .int .i64 2, .string ⟨#[119, 104, 101, 110, 40, 45, 49, 44, 122, 101, 114, 111, 41]⟩, .int .i64 6, .int .i64 2, .string ⟨#[119, 104, 101, 110, 40, 49, 48, 48, 48, 49, 44, 122, 101, 114, 111, 41]⟩, .int .i64 6, .int .i64 2, .string ⟨#[119, 104, 101, 110, 40, 48, 49, 44, 122, 101, 114, 111, 41]⟩, .int .i64 6, .int .i64 2, .string ⟨#[115, 99, 97, 108, 101, 40, 122, 101, 114, 111, 44, 122, 101, 114, 111, 41]⟩, .int .i64 7, .int .i64 2, .string ⟨#[115, 99, 97, 108, 101, 40, 97, 100, 100, 40, 49, 41, 44, 122, 101, 114, 111, 41]⟩, .int .i64 12, .int .i64 2, .string ⟨#[105, 102, 40, 49, 44, 122, 101, 114, 111, 41]⟩, .int .i64 10, .int .i64 2, .string ⟨#[195, 169, 40, 122, 101, 114, 111, 41]⟩, .int .i64 1, .int .i64 2, .string ⟨#[103, 105, 118, 101, 40, 122, 101, 114, 111, 41, 46]⟩, .int .i64 11, .int .i64 2, .string ⟨#[103, 105, 118, 101, 9, 40, 122, 101, 114, 111, 41]⟩, .int .i64 5, .int .i64 2, .string ((dp ++ ⟨#[122, 101, 114, 111]⟩) ++ en), .int .i64 61, .int .i64 5, .string dp, .int .i64 61, .int .i64 5, .string (((dp.extract 5 60) ++ ⟨#[122, 101, 114, 111]⟩) ++ (en.extract 1 12)), .int .i64 0, .int .i64 0, .string ⟨#[111, 114, 40, 97, 44, 122, 101, 114, 111, 44, 111, 114, 40, 97, 44, 122, 101, 114, 111, 44, 122, 101, 114, 111, 41, 41]⟩, .int .i64 0, .int .i64 4, .string ⟨#[115, 99, 97, 108, 101, 40, 49, 48, 48, 48, 48, 48, 48, 48, 48, 48, 48, 48, 49, 44, 122, 101, 114, 111, 41]⟩, .int .i64 7, .int .i64 2, .string ((⟨#[111, 110, 101, 40, 195, 182]⟩ ++ c) ++ ⟨#[41]⟩), .int .i64 0, .int .i64 0]
/-- The list, in memory. -/
def frowF (c dp en : ByteArray) (v : Value) (w : World) : Prop := ∃ g, v = .slice (some ⟨g, 0, none⟩) 28 28 ∧ Blk w g 45 (fcells c dp en)
theorem frowF_stays (c dp en : ByteArray) : ∀ u w w', Up w w' → frowF c dp en u w → frowF c dp en u w' := fun u w w' h ⟨g, e, hg⟩ => ⟨g, e, hg.below h hg.lt⟩
theorem fcells_get : ∀ (c dp en : ByteArray) (i : Nat) x, (ftL c dp en)[i]? = some x → (fcells c dp en)[i * 3]? = some (.string x.1) ∧ (fcells c dp en)[i * 3 + 1]? = some (.int .i64 x.2.1) ∧ (fcells c dp en)[i * 3 + 2]? = some (.int .i64 x.2.2) := by
  intro c dp en i x h
  have hi : i < 28 := by have := (List.getElem?_eq_some_iff.1 h).1; simpa [ftL] using this
  have h28 : i = 0 ∨ i = 1 ∨ i = 2 ∨ i = 3 ∨ i = 4 ∨ i = 5 ∨ i = 6 ∨ i = 7 ∨ i = 8 ∨ i = 9 ∨ i = 10 ∨ i = 11 ∨ i = 12 ∨ i = 13 ∨ i = 14 ∨ i = 15 ∨ i = 16 ∨ i = 17 ∨ i = 18 ∨ i = 19 ∨ i = 20 ∨ i = 21 ∨ i = 22 ∨ i = 23 ∨ i = 24 ∨ i = 25 ∨ i = 26 ∨ i = 27 := by omega
  rcases h28 with rfl | rfl | rfl | rfl | rfl | rfl | rfl | rfl | rfl | rfl | rfl | rfl | rfl | rfl | rfl | rfl | rfl | rfl | rfl | rfl | rfl | rfl | rfl | rfl | rfl | rfl | rfl | rfl <;> (simp only [ftL, List.getElem?_cons_zero, List.getElem?_cons_succ, Option.some.injEq] at h; subst h; exact ⟨rfl, rfl, rfl⟩)
theorem rdT_fail {s : ByteArray} (h : ¬ (rdT s).2.2 = 0) : (rdT s).1 = .odd .nilIface := by
  unfold rdT at h ⊢
  split at h
  · rename_i h1
    rw [if_pos h1]
    split at h
    · exact absurd rfl h
    · rename_i h2
      rw [if_neg h2]
  · rename_i h1
    rw [if_neg h1]
/-- What is answered behind a reader that was opened so. -/
def rdTr (r : RS) : C × Int × Int :=
  if (endRd (termR 14 r 1).2).e = 0 then
    (if chkC (termR 14 r 1).1 = 0 then ((termR 14 r 1).1, 0, 0) else (.odd .nilIface, (endRd (termR 14 r 1).2).pl, chkC (termR 14 r 1).1))
  else (.odd .nilIface, (endRd (termR 14 r 1).2).pl, (endRd (termR 14 r 1).2).e)
theorem rdTr5 : rdTr ⟨[], 0, 0, 5⟩ = (.odd .nilIface, 0, 5) := by kernel_rfl
theorem rdT_long (s : ByteArray) (h : 1000 < s.size) : rdT s = (.odd .nilIface, 0, 5) := by
  have ho : openR s = ⟨[], 0, 0, 5⟩ := by unfold openR; rw [if_pos h]
  show rdTr (openR s) = _
  rw [ho, rdTr5]
def lenV : Value → Nat
  | .string s => s.size
  | _ => 0
/-- What read.Term answers of each. -/
theorem forms_at (q : Nat) (hq : q < 9) (i : Nat) (x : ByteArray × Int × Int) (h : (ftL (cN q) dpB enB)[i]? = some x) : (rdT x.1).2.1 = x.2.1 ∧ (rdT x.1).2.2 = x.2.2 ∧ ((x.2.2 = 0 ∧ ∃ t y, (rdT x.1).1.val = .iface t y) ∨ (¬ x.2.2 = 0 ∧ (rdT x.1).1.val = .nilIface)) := by
  have hall := forms_ok q hq
  have hx := List.all_eq_true.1 hall x (List.mem_of_getElem? h)
  simp only [okF, Bool.and_eq_true, decide_eq_true_eq] at hx
  refine ⟨hx.1.1, hx.1.2, ?_⟩
  have h3 := hx.2
  by_cases he : x.2.2 = 0
  · refine .inl ⟨he, ?_⟩
    cases hc : (rdT x.1).1 with
    | odd v => rw [hc, he] at h3; cases h3
    | _ => exact ⟨_, _, rfl⟩
  · refine .inr ⟨he, ?_⟩
    rw [rdT_fail (by rw [hx.1.2]; exact he)]
    rfl
theorem ft_size (q : Nat) (hq : q < 9) (i : Nat) (x : ByteArray × Int × Int) (h : (ftL (cN q) dpB enB)[i]? = some x) : x.1.size ≤ 200 := by
  have hall : ∀ q, q < 9 → (ftL (cN q) dpB enB).all (fun x => decide (x.1.size ≤ 200)) = true := by decide +kernel
  have := List.all_eq_true.1 (hall q hq) x (List.mem_of_getElem? h)
  simpa using this


end Go.Proofs.Ytbppkklfjmpgiaa
