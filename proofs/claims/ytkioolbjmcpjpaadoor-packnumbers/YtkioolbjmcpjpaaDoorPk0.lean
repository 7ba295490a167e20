/- Events as bytes: plain lists of bytes. -/
import Derived.Test.YtkioolbjmcpjpaaDoorEvP
namespace Go.Proofs.YtkioolbjmcpjpaaDoor.Ev
open Go.RowKit
set_option linter.unusedVariables false

/-- n in w bytes, the greatest first. -/
def gfL (n w : Nat) : List UInt8 := (List.range w).map fun i => UInt8.ofNat (n / 256 ^ (w - 1 - i))
/-- Bytes as a number, the greatest first. -/
def numL (l : List UInt8) : Nat := l.foldl (fun n c => n * 256 + c.toNat) 0
/-- A number of 64 bits as one not below 0, and back. -/
def nat64 (v : Int) : Nat := (v % 18446744073709551616).toNat
def int64 (n : Nat) : Int := if n < 9223372036854775808 then n else (n : Int) - 18446744073709551616
theorem nat64_lt (v : Int) : nat64 v < 256 ^ 8 := by unfold nat64; omega
theorem int64_nat64 (v : Int) (h1 : -9223372036854775808 ≤ v) (h2 : v ≤ 9223372036854775807) : int64 (nat64 v) = v := by
  unfold int64 nat64
  split <;> omega
theorem gfL_length (n w : Nat) : (gfL n w).length = w := by simp [gfL]
theorem gfL_succ (n w : Nat) : gfL n (w + 1) = gfL (n / 256) w ++ [UInt8.ofNat n] := by
  unfold gfL
  rw [List.range_succ, List.map_append]
  congr 1
  · apply List.map_congr_left
    intro i hi
    rw [List.mem_range] at hi
    rw [Nat.div_div_eq_div_mul, ← Nat.pow_succ', show w + 1 - 1 - i = (w - 1 - i).succ by omega]
  · simp
theorem numL_snoc (l : List UInt8) (c : UInt8) : numL (l ++ [c]) = numL l * 256 + c.toNat := by simp [numL, List.foldl_append]
theorem numL_gfL (w : Nat) : ∀ n, n < 256 ^ w → numL (gfL n w) = n := by
  induction w with
  | zero => intro n h; simp at h; subst h; rfl
  | succ w ih =>
    intro n h
    have e : UInt8.toNat (UInt8.ofNat n) = n % 256 := by simp
    rw [gfL_succ, numL_snoc, e, ih (n / 256) (by rw [Nat.pow_succ] at h; exact Nat.div_lt_of_lt_mul (by omega))]
    omega
theorem numL_lt (l : List UInt8) : numL l < 256 ^ l.length := by
  have h : ∀ r : List UInt8, numL r.reverse < 256 ^ r.length := by
    intro r
    induction r with
    | nil => simp [numL]
    | cons c r ih =>
      have := c.toNat_lt
      rw [List.reverse_cons, numL_snoc, List.length_cons, Nat.pow_succ]
      omega
  have := h l.reverse
  simpa using this

/-- A text behind its length. -/
def txL (s : ByteArray) (w : Nat) : List UInt8 := gfL s.size w ++ s.data.toList
/-- One field of an event as bytes, by its letter. -/
def fdL (e : Ev) (c : UInt8) : List UInt8 :=
  if c = 73 then txL e.i 1 else if c = 78 then txL e.n 1 else if c = 76 then txL e.l 1 else if c = 67 then txL e.u 1 else if c = 68 then gfL (nat64 e.d) 8 else if c = 86 then gfL (nat64 e.v) 8 else txL (wTextC e.t) 2
/-- A kind's letters in the order of bytes. -/
def ordL (k : Int) : List UInt8 :=
  if k = 1 then [] else if k = 2 then [73, 84] else if k = 3 then [78, 68, 86] else if k = 4 then [73, 76, 86] else if k = 5 then [68] else if k = 6 then [67, 68, 86] else []
def kdL (k : Int) : UInt8 := UInt8.ofNat (nat64 k)
/-- An event as bytes. -/
def pkL (e : Ev) : List UInt8 := kdL e.k :: (ordL e.k).flatMap (fdL e)
/-- What pack.Event answers. -/
def pkB (e : Ev) : ByteArray := if chkE e = 0 then ⟨(pkL e).toArray⟩ else ⟨#[]⟩
def order7 : List UInt8 := [73, 78, 76, 67, 68, 86, 84]
theorem ordL_filter (k : Int) : ordL k = order7.filter (fun c => hasB (flds k) c) := by
  have h : ∀ l : List UInt8, (∀ f : ByteArray, f = ⟨l.toArray⟩ → True) := fun _ _ _ => trivial
  unfold ordL flds
  split
  · decide +kernel
  split
  · decide +kernel
  split
  · decide +kernel
  split
  · decide +kernel
  split
  · decide +kernel
  split
  · decide +kernel
  · decide +kernel

end Go.Proofs.YtkioolbjmcpjpaaDoor.Ev
