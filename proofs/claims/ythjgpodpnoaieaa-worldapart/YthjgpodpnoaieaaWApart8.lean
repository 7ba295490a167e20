/- Two worlds in memory, apart; the walk of the statement WorldApart. -/
import Derived.Test.YthjgpodpnoaieaaKl
namespace Go.Proofs.Ythjgpodpnoaieaa.Wd
open Go.RowKit Go.Maps
set_option linter.unusedVariables false
set_option linter.unusedSimpArgs false

/-- Two worlds in memory that is new since w0; they share nothing. -/
structure Two (w0 W : World) (p f c : Nat) (K : KW) (b g d : Nat) (L : KW) : Prop where
  one : In w0 W p f c K
  two : In w0 W b g d L
  h1 : p ≠ g
  h2 : p ≠ d
  h3 : f ≠ g
  h4 : f ≠ d
  h5 : c ≠ g
  h6 : c ≠ d
  h7 : b ≠ f
  h8 : b ≠ c
theorem Two.symm {w0 W : World} {p f c b g d : Nat} {K L : KW} (h : Two w0 W p f c K b g d L) : Two w0 W b g d L p f c K :=
  ⟨h.two, h.one, h.h7, h.h8, h.h3.symm, h.h5.symm, h.h4.symm, h.h6.symm, h.h1, h.h2⟩
theorem In.keep {w0 W W' : World} {p f c M : Nat} {K : KW} (h : In w0 W p f c K) (hg : Gr M W W') (hM : w0.heap.size ≤ M) (h1 : p ≠ M) (h2 : f ≠ M) (h3 : c ≠ M) : In w0 W' p f c K :=
  h.gr (h.kin.gr hg h1 h2 h3) hg hM
theorem Two.step {w0 W W' : World} {p f c b g d : Nat} {K L : KW} (h : Two w0 W p f c K b g d L) (hb : Below W.heap.size W W') : Two w0 W' p f c K b g d L :=
  ⟨h.one.step hb, h.two.step hb, h.h1, h.h2, h.h3, h.h4, h.h5, h.h6, h.h7, h.h8⟩

section
variable {w0 W : World} {p f c b g d : Nat} {K L : KW}
theorem two_fix (h : Two w0 W p f c K b g d L) (s : ByteArray) (y v : Int) (hk : fixOk (s, y)) (r : Int) (K' : KW) (hE : fixE K s y v = r) (hN : fixN K s y v = K') :
    Calls Try.prog 9 #[.pointer (some ⟨p, 0, none⟩), .string s, .int .i64 y, .int .i64 v] W fun e w' => e = .returned (.int .i64 r) ∧ Two w0 w' p f c K' b g d L := by
  refine (fix_any W p f c K h.one.kin s y v hk).mono ?_
  rintro e w' ⟨rfl, k1, k2⟩
  rw [hN] at k1
  exact ⟨by rw [hE], h.one.gr k1 k2 h.one.hf, h.two.keep k2 h.one.hf h.h7 h.h3.symm h.h4.symm, h.h1, h.h2, h.h3, h.h4, h.h5, h.h6, h.h7, h.h8⟩
theorem two_ch (h : Two w0 W p f c K b g d L) (s t : ByteArray) (q y : Int) (hk : chOk (s, t)) (r : Int) (K' : KW) (hE : chE K s t q y = r) (hN : chN K s t q y = K') :
    Calls Try.prog 10 #[.pointer (some ⟨p, 0, none⟩), .string s, .string t, .int .i64 q, .int .i64 y] W fun e w' => e = .returned (.int .i64 r) ∧ Two w0 w' p f c K' b g d L := by
  refine (ch_any W p f c K h.one.kin s t q y hk).mono ?_
  rintro e w' ⟨rfl, k1, k2⟩
  rw [hN] at k1
  exact ⟨by rw [hE], h.one.gr k1 k2 h.one.hc, h.two.keep k2 h.one.hc h.h8 h.h5.symm h.h6.symm, h.h1, h.h2, h.h3, h.h4, h.h5, h.h6, h.h7, h.h8⟩
theorem two_fixed (h : Two w0 W p f c K b g d L) (s : ByteArray) (y : Int) (hk : fixOk (s, y)) (r : Option Int) (hr : K.fixed (s, y) = r) :
    Calls Try.prog 11 #[.pointer (some ⟨p, 0, none⟩), .string s, .int .i64 y] W fun e w' => e = .returned (.tuple #[.int .i64 (r.getD 0), .bool r.isSome]) ∧ Two w0 w' p f c K b g d L := by
  refine (fixed_any W p f c K h.one.kin s y hk).mono ?_
  rintro e w' ⟨rfl, rfl⟩
  exact ⟨by rw [hr], h⟩
theorem two_chosen (h : Two w0 W p f c K b g d L) (s t : ByteArray) (hk : chOk (s, t)) (r : Option (Int × Int)) (hr : K.chosen (s, t) = r) :
    Calls Try.prog 12 #[.pointer (some ⟨p, 0, none⟩), .string s, .string t] W fun e w' => e = .returned (.tuple #[.int .i64 (r.getD (0, 0)).1, .int .i64 (r.getD (0, 0)).2, .bool r.isSome]) ∧ Two w0 w' p f c K b g d L := by
  refine (chosen_any W p f c K h.one.kin s t hk).mono ?_
  rintro e w' ⟨rfl, hB⟩
  exact ⟨by rw [hr], h.step hB⟩
end
theorem clone_in {w0 W : World} {p f c : Nat} {K : KW} (h : In w0 W p f c K) :
    Calls Try.prog 15 #[.pointer (some ⟨p, 0, none⟩)] W fun e w' => ∃ b g d, e = .returned (.pointer (some ⟨b, 0, none⟩)) ∧ Two w0 w' p f c K b g d K := by
  refine (clone_any W p f c K h.kin).mono ?_
  rintro e w' ⟨b, rfl, g, d, k1, k2, k3, k4, k5⟩
  have hl := h.kin.lt
  have hs := h.below.size
  refine ⟨b, g, d, rfl, h.step k5, ⟨k1, (h.step k5).below, by omega, by omega, by omega⟩, ?_, ?_, ?_, ?_, ?_, ?_, ?_, ?_⟩ <;> omega

set_option maxHeartbeats 4000000 in
set_option maxRecDepth 100000 in
theorem apart_walk (a0 b0 v0 : Int) (w : World) (h1 : -9223372036854775808 ≤ a0) (h2 : a0 ≤ 9223372036854775807) (h3 : -9223372036854775808 ≤ b0) (h4 : b0 ≤ 9223372036854775807) (h5 : -9223372036854775808 ≤ v0) (h6 : v0 ≤ 9223372036854775807) :
    Calls Try.prog 4 #[.int .i64 a0, .int .i64 b0, .int .i64 v0] w fun e w' => e = .returned (.bool true) ∧ Below w.heap.size w w' := by
  go_enter Try.func4, Try.ntmps4
  go_wp2_with fail
  refine (new_in' w).mono ?_
  rintro e w0 ⟨p, f, c, rfl, hi⟩
  have HI0 : Hid (In w w0 p f c ⟨[], []⟩) := hi
  clear hi
  go_wp2_with fail
  refine calls_same (within_any a0 50 _ (by omega) (by omega) h1 h2) ?_
  have hA1 : 0 ≤ a0 % 50 := Int.emod_nonneg _ (by omega)
  have hA2 : a0 % 50 < 50 := Int.emod_lt_of_pos _ (by omega)
  generalize a0 % 50 = A at *
  clear h1 h2
  go_wp2_with fail
  refine calls_same (within_any b0 50 _ (by omega) (by omega) h3 h4) ?_
  have hB1 : 0 ≤ b0 % 50 := Int.emod_nonneg _ (by omega)
  have hB2 : b0 % 50 < 50 := Int.emod_lt_of_pos _ (by omega)
  generalize hBe : b0 % 50 = B0 at *
  clear h3 h4 hBe
  go_wp2_with fail
  refine calls_same (within_any v0 1000 _ (by omega) (by omega) h5 h6) ?_
  have hV1 : 0 ≤ v0 % 1000 := Int.emod_nonneg _ (by omega)
  have hV2 : v0 % 1000 < 1000 := Int.emod_lt_of_pos _ (by omega)
  generalize v0 % 1000 = V at *
  clear h5 h6
  generalize hB : 50 + B0 = B at *
  have hBa : 50 ≤ B := by omega
  have hBb : B < 100 := by omega
  clear hB hB1 hB2
  have hdA : Hid (dayB A = true) := by show dayB A = true; simp [dayB]; omega
  have hdB : Hid (dayB B = true) := by show dayB B = true; simp [dayB]; omega
  have hv0 : Hid (vB V = true) := by show vB V = true; simp [vB]; omega
  have hv1 : Hid (vB (V + 1) = true) := by show vB (V + 1) = true; simp [vB]; omega
  have hv2 : Hid (vB (V + 2) = true) := by show vB (V + 2) = true; simp [vB]; omega
  have hne : Hid (¬ A = B) := by show ¬ A = B; omega
  have oA : Hid (fixOk (⟨#[120]⟩, A)) := ⟨by show ByteArray.size ⟨#[120]⟩ ≤ maxLen; decide, by show (-9223372036854775808 : Int) ≤ A; omega, by show A ≤ 9223372036854775807; omega⟩
  have oB : Hid (fixOk (⟨#[120]⟩, B)) := ⟨by show ByteArray.size ⟨#[120]⟩ ≤ maxLen; decide, by show (-9223372036854775808 : Int) ≤ B; omega, by show B ≤ 9223372036854775807; omega⟩
  go_wp2_with fail
  refine (fix_in HI0.out _ _ _ oA.out 0 ⟨[((⟨#[120]⟩, A), V)], []⟩ (by simp [fixE, nmx, hdA.out, hdB.out, hv0.out, hv1.out, hv2.out, KW.fixed, hne.out]) (by simp [fixN, fixE, nmx, hdA.out, hdB.out, hv0.out, hv1.out, hv2.out, KW.fixed, hne.out])).mono ?_
  rintro e w1 ⟨rfl, hi⟩
  have HI1 : Hid (In w w1 p f c ⟨[((⟨#[120]⟩, A), V)], []⟩) := hi
  clear hi HI0
  go_wp2_with fail
  refine (ch_in HI1.out _ _ _ _ ⟨by show ByteArray.size ⟨#[116]⟩ ≤ maxLen; decide, by show ByteArray.size ⟨#[108]⟩ ≤ maxLen; decide⟩ 0 ⟨[((⟨#[120]⟩, A), V)], [((⟨#[116]⟩, ⟨#[108]⟩), (1, A))]⟩ (by simp [chE, nmt, nml, nmu, hdA.out, hdB.out, pickB, KW.chosen]) (by simp [chN, chE, nmt, nml, nmu, hdA.out, hdB.out, pickB, KW.chosen])).mono ?_
  rintro e w2 ⟨rfl, hi⟩
  have HI2 : Hid (In w w2 p f c ⟨[((⟨#[120]⟩, A), V)], [((⟨#[116]⟩, ⟨#[108]⟩), (1, A))]⟩) := hi
  clear hi HI1
  go_wp2_with fail
  refine (clone_in HI2.out).mono ?_
  rintro e w3 ⟨b, g, d, rfl, hi⟩
  have HI3 : Hid (Two w w3 p f c ⟨[((⟨#[120]⟩, A), V)], [((⟨#[116]⟩, ⟨#[108]⟩), (1, A))]⟩ b g d ⟨[((⟨#[120]⟩, A), V)], [((⟨#[116]⟩, ⟨#[108]⟩), (1, A))]⟩) := hi
  clear hi HI2
  go_wp2_with fail
  refine (two_fix HI3.out.symm _ _ _ oB.out 0 ⟨[((⟨#[120]⟩, A), V), ((⟨#[120]⟩, B), V + 1)], [((⟨#[116]⟩, ⟨#[108]⟩), (1, A))]⟩ (by simp [fixE, nmx, hdA.out, hdB.out, hv0.out, hv1.out, hv2.out, KW.fixed, hne.out]) (by simp [fixN, fixE, nmx, hdA.out, hdB.out, hv0.out, hv1.out, hv2.out, KW.fixed, hne.out])).mono ?_
  rintro e w4 ⟨rfl, hi⟩
  have HI4 : Hid (Two w w4 p f c ⟨[((⟨#[120]⟩, A), V)], [((⟨#[116]⟩, ⟨#[108]⟩), (1, A))]⟩ b g d ⟨[((⟨#[120]⟩, A), V), ((⟨#[120]⟩, B), V + 1)], [((⟨#[116]⟩, ⟨#[108]⟩), (1, A))]⟩) := hi.symm
  clear hi HI3
  go_wp2_with fail
  refine (two_fix HI4.out _ _ _ oB.out 0 ⟨[((⟨#[120]⟩, A), V), ((⟨#[120]⟩, B), V + 2)], [((⟨#[116]⟩, ⟨#[108]⟩), (1, A))]⟩ (by simp [fixE, nmx, hdA.out, hdB.out, hv0.out, hv1.out, hv2.out, KW.fixed, hne.out]) (by simp [fixN, fixE, nmx, hdA.out, hdB.out, hv0.out, hv1.out, hv2.out, KW.fixed, hne.out])).mono ?_
  rintro e w5 ⟨rfl, hi⟩
  have HI5 : Hid (Two w w5 p f c ⟨[((⟨#[120]⟩, A), V), ((⟨#[120]⟩, B), V + 2)], [((⟨#[116]⟩, ⟨#[108]⟩), (1, A))]⟩ b g d ⟨[((⟨#[120]⟩, A), V), ((⟨#[120]⟩, B), V + 1)], [((⟨#[116]⟩, ⟨#[108]⟩), (1, A))]⟩) := hi
  clear hi HI4
  go_wp2_with fail
  refine (two_ch HI5.out _ _ _ _ ⟨by show ByteArray.size ⟨#[117]⟩ ≤ maxLen; decide, by show ByteArray.size ⟨#[108]⟩ ≤ maxLen; decide⟩ 0 ⟨[((⟨#[120]⟩, A), V), ((⟨#[120]⟩, B), V + 2)], [((⟨#[116]⟩, ⟨#[108]⟩), (1, A)), ((⟨#[117]⟩, ⟨#[108]⟩), (0, B))]⟩ (by simp [chE, nmt, nml, nmu, hdA.out, hdB.out, pickB, KW.chosen]) (by simp [chN, chE, nmt, nml, nmu, hdA.out, hdB.out, pickB, KW.chosen])).mono ?_
  rintro e w6 ⟨rfl, hi⟩
  have HI6 : Hid (Two w w6 p f c ⟨[((⟨#[120]⟩, A), V), ((⟨#[120]⟩, B), V + 2)], [((⟨#[116]⟩, ⟨#[108]⟩), (1, A)), ((⟨#[117]⟩, ⟨#[108]⟩), (0, B))]⟩ b g d ⟨[((⟨#[120]⟩, A), V), ((⟨#[120]⟩, B), V + 1)], [((⟨#[116]⟩, ⟨#[108]⟩), (1, A))]⟩) := hi
  clear hi HI5
  go_wp2_with fail
  refine (two_ch HI6.out.symm _ _ _ _ ⟨by show ByteArray.size ⟨#[117]⟩ ≤ maxLen; decide, by show ByteArray.size ⟨#[108]⟩ ≤ maxLen; decide⟩ 0 ⟨[((⟨#[120]⟩, A), V), ((⟨#[120]⟩, B), V + 1)], [((⟨#[116]⟩, ⟨#[108]⟩), (1, A)), ((⟨#[117]⟩, ⟨#[108]⟩), (1, A))]⟩ (by simp [chE, nmt, nml, nmu, hdA.out, hdB.out, pickB, KW.chosen]) (by simp [chN, chE, nmt, nml, nmu, hdA.out, hdB.out, pickB, KW.chosen])).mono ?_
  rintro e w7 ⟨rfl, hi⟩
  have HI7 : Hid (Two w w7 p f c ⟨[((⟨#[120]⟩, A), V), ((⟨#[120]⟩, B), V + 2)], [((⟨#[116]⟩, ⟨#[108]⟩), (1, A)), ((⟨#[117]⟩, ⟨#[108]⟩), (0, B))]⟩ b g d ⟨[((⟨#[120]⟩, A), V), ((⟨#[120]⟩, B), V + 1)], [((⟨#[116]⟩, ⟨#[108]⟩), (1, A)), ((⟨#[117]⟩, ⟨#[108]⟩), (1, A))]⟩) := hi.symm
  clear hi HI6
  go_wp2_with fail
  refine (two_fixed HI7.out.symm _ _ oA.out (some V) (by simp [KW.fixed, hne.out])).mono ?_
  rintro e w8 ⟨rfl, hi⟩
  have HI8 : Hid (Two w w8 p f c ⟨[((⟨#[120]⟩, A), V), ((⟨#[120]⟩, B), V + 2)], [((⟨#[116]⟩, ⟨#[108]⟩), (1, A)), ((⟨#[117]⟩, ⟨#[108]⟩), (0, B))]⟩ b g d ⟨[((⟨#[120]⟩, A), V), ((⟨#[120]⟩, B), V + 1)], [((⟨#[116]⟩, ⟨#[108]⟩), (1, A)), ((⟨#[117]⟩, ⟨#[108]⟩), (1, A))]⟩) := hi.symm
  clear hi HI7
  go_wp2_with fail
  refine (two_fixed HI8.out.symm _ _ oB.out (some (V + 1)) (by simp [KW.fixed, hne.out])).mono ?_
  rintro e w9 ⟨rfl, hi⟩
  have HI9 : Hid (Two w w9 p f c ⟨[((⟨#[120]⟩, A), V), ((⟨#[120]⟩, B), V + 2)], [((⟨#[116]⟩, ⟨#[108]⟩), (1, A)), ((⟨#[117]⟩, ⟨#[108]⟩), (0, B))]⟩ b g d ⟨[((⟨#[120]⟩, A), V), ((⟨#[120]⟩, B), V + 1)], [((⟨#[116]⟩, ⟨#[108]⟩), (1, A)), ((⟨#[117]⟩, ⟨#[108]⟩), (1, A))]⟩) := hi.symm
  clear hi HI8
  go_wp2_with fail
  refine (two_fixed HI9.out _ _ oB.out (some (V + 2)) (by simp [KW.fixed, hne.out])).mono ?_
  rintro e w10 ⟨rfl, hi⟩
  have HI10 : Hid (Two w w10 p f c ⟨[((⟨#[120]⟩, A), V), ((⟨#[120]⟩, B), V + 2)], [((⟨#[116]⟩, ⟨#[108]⟩), (1, A)), ((⟨#[117]⟩, ⟨#[108]⟩), (0, B))]⟩ b g d ⟨[((⟨#[120]⟩, A), V), ((⟨#[120]⟩, B), V + 1)], [((⟨#[116]⟩, ⟨#[108]⟩), (1, A)), ((⟨#[117]⟩, ⟨#[108]⟩), (1, A))]⟩) := hi
  clear hi HI9
  go_wp2_with fail
  refine (two_chosen HI10.out _ _ ⟨by show ByteArray.size ⟨#[117]⟩ ≤ maxLen; decide, by show ByteArray.size ⟨#[108]⟩ ≤ maxLen; decide⟩ (some (0, B)) (by simp [KW.chosen])).mono ?_
  rintro e w11 ⟨rfl, hi⟩
  have HI11 : Hid (Two w w11 p f c ⟨[((⟨#[120]⟩, A), V), ((⟨#[120]⟩, B), V + 2)], [((⟨#[116]⟩, ⟨#[108]⟩), (1, A)), ((⟨#[117]⟩, ⟨#[108]⟩), (0, B))]⟩ b g d ⟨[((⟨#[120]⟩, A), V), ((⟨#[120]⟩, B), V + 1)], [((⟨#[116]⟩, ⟨#[108]⟩), (1, A)), ((⟨#[117]⟩, ⟨#[108]⟩), (1, A))]⟩) := hi
  clear hi HI10
  go_wp2_with fail
  refine (two_chosen HI11.out.symm _ _ ⟨by show ByteArray.size ⟨#[117]⟩ ≤ maxLen; decide, by show ByteArray.size ⟨#[108]⟩ ≤ maxLen; decide⟩ (some (1, A)) (by simp [KW.chosen])).mono ?_
  rintro e w12 ⟨rfl, hi⟩
  have HI12 : Hid (Two w w12 p f c ⟨[((⟨#[120]⟩, A), V), ((⟨#[120]⟩, B), V + 2)], [((⟨#[116]⟩, ⟨#[108]⟩), (1, A)), ((⟨#[117]⟩, ⟨#[108]⟩), (0, B))]⟩ b g d ⟨[((⟨#[120]⟩, A), V), ((⟨#[120]⟩, B), V + 1)], [((⟨#[116]⟩, ⟨#[108]⟩), (1, A)), ((⟨#[117]⟩, ⟨#[108]⟩), (1, A))]⟩) := hi.symm
  clear hi HI11
  go_wp2_with fail
  refine (two_chosen HI12.out _ _ ⟨by show ByteArray.size ⟨#[108]⟩ ≤ maxLen; decide, by show ByteArray.size ⟨#[117]⟩ ≤ maxLen; decide⟩ none (by simp [KW.chosen])).mono ?_
  rintro e w13 ⟨rfl, hi⟩
  have HI13 : Hid (Two w w13 p f c ⟨[((⟨#[120]⟩, A), V), ((⟨#[120]⟩, B), V + 2)], [((⟨#[116]⟩, ⟨#[108]⟩), (1, A)), ((⟨#[117]⟩, ⟨#[108]⟩), (0, B))]⟩ b g d ⟨[((⟨#[120]⟩, A), V), ((⟨#[120]⟩, B), V + 1)], [((⟨#[116]⟩, ⟨#[108]⟩), (1, A)), ((⟨#[117]⟩, ⟨#[108]⟩), (1, A))]⟩) := hi
  clear hi HI12
  go_wp2_with fail
  refine (wakes8_any _).mono ?_
  rintro e w19 ⟨rfl, hb⟩
  go_wp2_with fail
  go_ret
  exact ⟨rfl, HI13.out.one.below.trans (hb.mono HI13.out.one.below.size)⟩

end Go.Proofs.Ythjgpodpnoaieaa.Wd
