/- Digits: a number's digits, for numbers that are not below 0. -/
import Derived.Test.YtpopboanflnphaaWakes
import Derived.Deep.RegionWith
namespace Go.Proofs.Ytpopboanflnphaa
open Go.RowKit
set_option linter.unusedVariables false

/-- The digits of n, at most f + 1 of them. -/
def digN : Nat → Nat → List UInt8
  | 0, n => [UInt8.ofNat (48 + n % 10)]
  | f + 1, n => if n < 10 then [UInt8.ofNat (48 + n)] else digN f (n / 10) ++ [UInt8.ofNat (48 + n % 10)]

theorem digN_len (f : Nat) : ∀ n, (digN f n).length ≤ f + 1 := by
  induction f with
  | zero => intro n; simp [digN]
  | succ f ih =>
    intro n
    unfold digN
    split
    · simp
    · simp; exact ih _

theorem conv1 (W : World) (g : Nat) (x : Int) (h0 : 0 ≤ x) (h1 : x < 256) (hc : W.cell? ⟨g, 0, none⟩ = some (.int .u8 x)) :
    (convert 53 9 (.slice (some ⟨g, 0, none⟩) 1 1)).run Try.prog W = .ok (.string ⟨#[UInt8.ofNat x.toNat]⟩) W := by
  have := run_convert_bytes_back (P := Try.prog) W 53 9 5 ⟨g, 0, none⟩ 1 [UInt8.ofNat x.toNat] Try.underlying53 Try.underlying5 Try.underlying9 (by
    intro j hj
    simp at hj
    subst hj
    rw [show (⟨g, 0, none⟩ : Addr).add 0 = ⟨g, 0, none⟩ from by simp [Addr.add], hc]
    simp
    omega)
  simpa using this

theorem bcell {W w1 : World} (hb : Below W.heap.size W w1) : (∀ b o, b < W.heap.size → w1.cell? ⟨b, o, none⟩ = W.cell? ⟨b, o, none⟩) :=
  fun b o h => hb.cell (p := ⟨b, o, none⟩) h

theorem dg1 {w w' : World} {o : Obj} (h : Below w.drew.heap.size w.drew w') : Below w.heap.size w (w'.alloc o) :=
  ((Below.refl w.heap.size w).drew.trans h).alloc h.size o
theorem dg2 {w w' : World} {o : Obj} (h : Below (w.drew.alloc o).heap.size (w.drew.alloc o) w') : Below w.heap.size w w' :=
  ((Below.refl w.heap.size w).drew.alloc (Nat.le_refl _) o).trans (h.mono (by simp))

set_option maxHeartbeats 1000000 in
set_option maxRecDepth 100000 in
theorem digits_small (n : Nat) (w : World) (hn' : (n : Int) < 10) :
    Calls Try.prog 22 #[.int .i64 n] w fun e w' => e = .returned (.string ⟨#[UInt8.ofNat (48 + n)]⟩) ∧ Below w.heap.size w w' := by
  have hn0 : (0 : Int) ≤ (n : Int) := by omega
  have hcv := conv1 (w.alloc (.cells #[.int .u8 (48 + (n : Int))] 5)) w.heap.size (48 + (n : Int)) (by omega) (by omega) (by simp)
  rw [show (48 + (n : Int)).toNat = 48 + n from by omega] at hcv
  generalize UInt8.ofNat (48 + n) = c at *
  go_enter Try.func22, Try.ntmps22
  go_wp2_with fail
  go_ret
  exact ⟨rfl, (Below.refl _ _).alloc (Nat.le_refl _) _⟩

set_option maxHeartbeats 1000000 in
set_option maxRecDepth 100000 in
theorem digits_any (f : Nat) : ∀ (n : Nat) (w : World), n < 10 ^ (f + 1) → f ≤ 20 → n ≤ 9223372036854775807 →
    Calls Try.prog 22 #[.int .i64 n] w fun e w' => e = .returned (.string ⟨(digN f n).toArray⟩) ∧ Below w.heap.size w w' := by
  induction f with
  | zero =>
    intro n w hn hf hb
    have hn' : n < 10 := by simpa using hn
    refine (digits_small n w (by omega)).mono ?_
    rintro e w' ⟨rfl, hb⟩
    refine ⟨?_, hb⟩
    simp only [digN]
    rw [Nat.mod_eq_of_lt hn']
  | succ f ih =>
    intro n w hn hf hb
    by_cases h10 : n < 10
    · refine (digits_small n w (by omega)).mono ?_
      rintro e w' ⟨rfl, hb⟩
      refine ⟨?_, hb⟩
      simp only [digN, h10, if_true]
    · have ihq := ih (n / 10)
      have HI : Hid (∀ (w : World), Calls Try.prog 22 #[.int .i64 ((n : Int) / 10)] w fun e w' => e = .returned (.string ⟨(digN f (n / 10)).toArray⟩) ∧ Below w.heap.size w w') :=
        fun w => by
          have h := ihq w (by rw [Nat.pow_succ] at hn; omega) (by omega) (by omega)
          rw [Int.natCast_ediv] at h; exact h
      clear ih ihq
      have hlen := digN_len f (n / 10)
      have HD : Hid (digN (f + 1) n = digN f (n / 10) ++ [UInt8.ofNat (48 + n % 10)]) := by unfold Hid; simp only [digN, h10, if_false]
      have h10' : (10 : Int) ≤ (n : Int) := by omega
      generalize digN f (n / 10) = D at *
      have hDs : ¬ (9223372036854775807 < D.length + 1) := by omega
      have hDl : D.length ≤ 21 := by omega
      clear hlen
      have hcv : ∀ W g, W.cell? ⟨g, 0, none⟩ = some (.int .u8 (48 + (n : Int) % 10)) → (convert 53 9 (.slice (some ⟨g, 0, none⟩) 1 1)).run Try.prog W = .ok (.string ⟨#[UInt8.ofNat (48 + n % 10)]⟩) W := by
        intro W g hc
        have := conv1 W g _ (by omega) (by omega) hc
        rw [show (48 + (n : Int) % 10).toNat = 48 + n % 10 from by omega] at this
        exact this
      generalize UInt8.ofNat (48 + n % 10) = c at *
      clear hn hf h10
      have e1 : IntKind.i64.wrap ((n : Int) / 10) = (n : Int) / 10 := wrap_small _ (by omega) (by omega)
      have e2 : (n : Int).tmod 10 = (n : Int) % 10 := Int.tmod_eq_emod_of_nonneg (by omega)
      have e3 : IntKind.i64.wrap (48 + (n : Int) % 10) = 48 + (n : Int) % 10 := wrap_small _ (by omega) (by omega)
      have e4 : IntKind.u8.wrap (48 + (n : Int) % 10) = 48 + (n : Int) % 10 := by
        unfold IntKind.wrap
        simp [IntKind.bits, IntKind.signed]
        omega
      go_enter Try.func22, Try.ntmps22
      go_wp2_with fail
      go_region_with (go_at_call 22; refine (HI.out _).mono ?_; rintro e w' ⟨rfl, hbl⟩; have hc := bcell hbl)
      all_goals go_wp2_with fail
      all_goals go_ret
      all_goals refine ⟨?_, ?_⟩
      all_goals first
        | exact dg1 hbl
        | exact dg2 hbl
        | (rw [HD.out, ← ByteArray.mk_append_mk]; rfl)

end Go.Proofs.Ytpopboanflnphaa
