/- Things that come to be known, of small numbers: their names and days. -/
import Derived.Test.YthjgpodpnoaieaaR06
import Derived.Test.YthjgpodpnoaieaaMix
import Derived.Laws.Cover4
namespace Go.Proofs.Ythjgpodpnoaieaa.Wd
open Go.RowKit Go.Maps
set_option linter.unusedVariables false

def cutTo (s : ByteArray) (n : Nat) : ByteArray := s.extract 0 (min s.size n)
theorem cutTo_size (s : ByteArray) (n : Nat) : (cutTo s n).size ≤ n := by unfold cutTo; rw [ByteArray.size_extract]; omega

set_option maxHeartbeats 1000000 in
set_option maxRecDepth 100000 in
theorem text_any (s : ByteArray) (n : Nat) (w : World) (hs : s.size ≤ maxLen) (hn : n ≤ 1000000) :
    Calls Try.prog 29 #[.string s, .int .i64 n] w fun e w' => e = .returned (.string (cutTo s n)) ∧ w' = w := by
  unfold maxLen at hs
  by_cases h : s.size ≤ n
  · have HC : Hid (cutTo s n = s.extract 0 s.size) := by unfold Hid cutTo; rw [Nat.min_eq_left h]
    have h' : (s.size : Int) ≤ (n : Int) := by omega
    go_enter Try.func29, Try.ntmps29
    go_wp2
    go_ret
    rw [HC.out]
    exact ⟨by simp, rfl⟩
  · have HC : Hid (cutTo s n = s.extract 0 n) := by unfold Hid cutTo; rw [Nat.min_eq_right (by omega)]
    have h' : (n : Int) < (s.size : Int) := by omega
    go_enter Try.func29, Try.ntmps29
    go_wp2
    go_ret
    rw [HC.out]
    exact ⟨by simp, rfl⟩

/-- Something that comes to be known. -/
structure Ac where
  ch : Bool
  A : Int
  B : Int
  D : Int
  V : Int
  W : ByteArray
def Ac.cs (a : Ac) : Array Value := #[.bool a.ch, .int .i64 a.A, .int .i64 a.B, .int .i64 a.D, .int .i64 a.V, .string a.W]
def I64 (n : Int) : Prop := -9223372036854775808 ≤ n ∧ n ≤ 9223372036854775807
structure Ac.Ok (a : Ac) : Prop where
  hA : I64 a.A
  hB : I64 a.B
  hD : I64 a.D
  hV : I64 a.V
  hW : a.W.size ≤ maxLen
/-- A list of such things that came in. -/
def HasActs (w : World) (a : Option Addr) (len : Nat) (f : Nat → Ac) : Prop :=
  ∀ i, i < len → (f i).Ok ∧ ∃ b off, a = some ⟨b, off, none⟩ ∧ b < w.heap.size ∧ w.cell? ⟨b, off + i * 6, none⟩ = some (.bool (f i).ch) ∧ w.cell? ⟨b, off + i * 6 + 1, none⟩ = some (.int .i64 (f i).A) ∧ w.cell? ⟨b, off + i * 6 + 2, none⟩ = some (.int .i64 (f i).B) ∧
    w.cell? ⟨b, off + i * 6 + 3, none⟩ = some (.int .i64 (f i).D) ∧ w.cell? ⟨b, off + i * 6 + 4, none⟩ = some (.int .i64 (f i).V) ∧ w.cell? ⟨b, off + i * 6 + 5, none⟩ = some (.string (f i).W)
def fewN (n : Int) : ByteArray := (⟨#[110]⟩ : ByteArray) ++ strOfNums [97 + n % 4]
def nameA (a : Ac) (n : Int) : ByteArray := if Int.tmod n 17 = 16 then cutTo a.W 16 else fewN n
def dayA (a : Ac) : Int := if Int.tmod a.D 13 = 12 then a.D else a.D % 5
theorem nameA_size (a : Ac) (n : Int) : (nameA a n).size ≤ 16 := by
  unfold nameA
  split
  · exact cutTo_size _ _
  · unfold fewN
    rw [ByteArray.size_append]
    show 1 + 1 ≤ 16
    decide

set_option maxHeartbeats 1000000 in
set_option maxRecDepth 100000 in
theorem few_any (n : Int) (w : World) (h1 : -9223372036854775808 ≤ n) (h2 : n ≤ 9223372036854775807) :
    Calls Try.prog 30 #[.string ⟨#[110]⟩, .int .i64 n, .int .i64 4] w fun e w' => e = .returned (.string (fewN n)) ∧ Below w.heap.size w w' := by
  have HX : Hid (fewN n = (⟨#[110]⟩ : ByteArray) ++ strOfNums [97 + n % 4]) := rfl
  obtain ⟨q, hq⟩ : ∃ q : Nat, n % 4 = q := ⟨(n % 4).toNat, by omega⟩
  have hq5 : q < 4 := by omega
  rw [hq] at HX
  have hcv : (convert 72 9 (.slice (some ⟨w.heap.size, 0, none⟩) 1 1)).run Try.prog (w.alloc (.cells #[.int .u8 (97 + (q : Int))] 5)) = .ok (.string (strOfNums [97 + (q : Int)])) (w.alloc (.cells #[.int .u8 (97 + (q : Int))] 5)) := by
    refine run_convert_bytes_arg _ 72 5 Try.underlying72 Try.underlying5 w.heap.size 0 1 1 [97 + (q : Int)] rfl (fun i hi => ?_) 9 Try.underlying9
    have : i = 0 := by omega
    subst this
    exact (cell_of_row _ _ _ _ _ _ (heap_alloc_new _ _)).trans rfl
  have hwr : IntKind.u8.wrap (97 + (q : Int)) = 97 + (q : Int) := by simp [IntKind.wrap, IntKind.bits, IntKind.signed]; omega
  have hs1 : (strOfNums [97 + (q : Int)]).size = 1 := rfl
  generalize strOfNums [97 + (q : Int)] = X at *
  go_enter Try.func30, Try.ntmps30
  go_wp2_with fail
  refine calls_same (within_any _ 4 _ (by omega) (by omega) h1 h2) ?_
  rw [hq]
  clear h1 h2 hq
  go_wp2_with fail
  go_ret
  exact ⟨by rw [HX.out]; rfl, below_alloc (Below.refl _ _) _⟩

set_option maxHeartbeats 1000000 in
set_option maxRecDepth 100000 in
theorem name8_any (a : Ac) (ok : a.Ok) (n : Int) (hn : I64 n) (w : World) :
    Calls Try.prog 17 #[.agg a.cs, .int .i64 n] w fun e w' => e = .returned (.string (nameA a n)) ∧ Below w.heap.size w w' := by
  obtain ⟨n1, n2⟩ := hn
  unfold Ac.cs
  have HNA : Hid (nameA a n = if Int.tmod n 17 = 16 then cutTo a.W 16 else fewN n) := rfl
  have m1 := Int.tmod_lt_of_pos n (show (0 : Int) < 17 by omega)
  by_cases hm : Int.tmod n 17 = 16
  · rw [if_pos hm] at HNA
    have hm' : (Int.tmod n 17 == 16) = true := by rw [beq_iff_eq]; exact hm
    go_enter Try.func17, Try.ntmps17
    go_wp2_with fail
    refine calls_same (text_any a.W 16 _ ok.hW (by omega)) ?_
    go_wp2_with fail
    go_ret
    exact ⟨by rw [HNA.out]; rfl, below_alloc (Below.refl _ _) _⟩
  · rw [if_neg hm] at HNA
    have hm' : (Int.tmod n 17 == 16) = false := by rw [beq_eq_false_iff_ne]; exact hm
    go_enter Try.func17, Try.ntmps17
    go_wp2_with fail
    refine (few_any n _ n1 n2).mono ?_
    rintro e w1 ⟨rfl, hb1⟩
    go_wp2_with fail
    go_ret
    have hb0 := below_alloc (Below.refl w.heap.size w) (.cells #[.bool a.ch, .int .i64 a.A, .int .i64 a.B, .int .i64 a.D, .int .i64 a.V, .string a.W] 45)
    exact ⟨by rw [HNA.out]; rfl, hb0.trans (hb1.mono hb0.size)⟩

set_option maxHeartbeats 1000000 in
set_option maxRecDepth 100000 in
theorem day8_any (a : Ac) (ok : a.Ok) (w : World) :
    Calls Try.prog 26 #[.agg a.cs] w fun e w' => e = .returned (.int .i64 (dayA a)) ∧ Below w.heap.size w w' := by
  obtain ⟨n1, n2⟩ := ok.hD
  unfold Ac.cs
  have HNA : Hid (dayA a = if Int.tmod a.D 13 = 12 then a.D else a.D % 5) := rfl
  have m1 := Int.tmod_lt_of_pos a.D (show (0 : Int) < 13 by omega)
  by_cases hm : Int.tmod a.D 13 = 12
  · rw [if_pos hm] at HNA
    have hm' : (Int.tmod a.D 13 == 12) = true := by rw [beq_iff_eq]; exact hm
    go_enter Try.func26, Try.ntmps26
    go_wp2_with fail
    go_ret
    exact ⟨by rw [HNA.out]; rfl, below_alloc (Below.refl _ _) _⟩
  · rw [if_neg hm] at HNA
    have hm' : (Int.tmod a.D 13 == 12) = false := by rw [beq_eq_false_iff_ne]; exact hm
    go_enter Try.func26, Try.ntmps26
    go_wp2_with fail
    refine calls_same (within_any a.D 5 _ (by omega) (by omega) n1 n2) ?_
    go_wp2_with fail
    go_ret
    exact ⟨by rw [HNA.out]; rfl, below_alloc (Below.refl _ _) _⟩

end Go.Proofs.Ythjgpodpnoaieaa.Wd
