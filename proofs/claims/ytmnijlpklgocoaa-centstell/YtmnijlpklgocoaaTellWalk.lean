/- The walk of the statement CentsTell. -/
import Derived.Test.YtmnijlpklgocoaaSumsWalk
namespace Go.Proofs.Ytmnijlpklgocoaa
open Go.RowKit
set_option linter.unusedVariables false

theorem own_any {w : World} {B : Nat} {e : TypeId} {v : Value} {m : Nat} {g : Nat → Int} (h : w.ownsRow B e 1 v m (cellsF g m)) : ∃ ao cap, v = .slice ao m cap ∧ cap ≤ 9223372036854775807 ∧ HasRow w ao m g ∧ (∀ k, k < m → ∃ b, ao = some ⟨b, 0, none⟩ ∧ B ≤ b) := by
  rcases h.2 with ⟨rfl, rfl⟩ | ⟨b, cap, cur, rfl, hb, _, _, hcm, _⟩
  · exact ⟨none, 0, rfl, by omega, fun i hi => absurd hi (by omega), fun k hk => absurd hk (by omega)⟩
  · exact ⟨some ⟨b, 0, none⟩, cap, rfl, by unfold maxLen at hcm; omega, own_row h, fun _ _ => ⟨b, rfl, hb⟩⟩

set_option maxHeartbeats 2000000 in
set_option maxRecDepth 100000 in
theorem tell_walk (a b how other : Int) (la : Option Addr) (ll lc : Nat) (lf : Nat → Int) (w : World) (ha1 : -9223372036854775808 ≤ a) (ha2 : a ≤ 9223372036854775807) (hb1 : -9223372036854775808 ≤ b) (hb2 : b ≤ 9223372036854775807) (hh1 : -9223372036854775808 ≤ how) (hh2 : how ≤ 9223372036854775807) (ho1 : -9223372036854775808 ≤ other) (ho2 : other ≤ 9223372036854775807) (hl : HasInts w la ll lf) (hk : SliceOk la ll lc) :
    Calls Try.prog 5 #[.int .i64 a, .int .i64 b, .int .i64 how, .int .i64 other, .slice la ll lc] w fun e w' => e = .returned (.bool true) ∧ Below w.heap.size w w' := by
  have hfit : Fit lf (min ll 8) := fun i hi => by
    obtain ⟨_, _, _, _, _, h⟩ := hl i (by omega)
    exact h
  have HL : Hid (HasRow w la ll lf) := hl.row
  have HK : Hid (SliceOk la ll lc) := hk
  clear hl hk
  go_enter Try.func5, Try.ntmps5
  go_wp2_with fail
  refine calls_near (near_any a how w ha1 ha2 hh1 hh2) ?_
  intro A hA1 hA2
  go_wp2_with fail
  refine calls_near (near_any b other _ hb1 hb2 ho1 ho2) ?_
  intro B hB1 hB2
  clear ha1 ha2 hb1 hb2 hh1 hh2 ho1 ho2 hA1 hA2 hB1 hB2
  go_wp2_with fail
  refine calls_same (add_any _ _ _) ?_
  go_wp2_with fail
  refine calls_same (refAdd_any _ _ _) ?_
  generalize addR A B = X
  obtain ⟨x, ok⟩ := X
  go_wp2_with fail
  refine calls_same (mul_any _ _ _) ?_
  go_wp2_with fail
  refine calls_same (refMul_any _ _ _) ?_
  generalize mulR A B = P
  obtain ⟨p, has⟩ := P
  go_wp2_with fail
  refine calls_same (neg_any _ _) ?_
  have hv3 : vB A = true → -1000000000000 ≤ A ∧ A ≤ 1000000000000 := (vB_iff A).1
  have HN : Hid (negR A = (if vB A then -A else 0, vB A)) := by unfold Hid negR; cases vB A <;> rfl
  rw [HN.out]
  cases hv : vB A
  all_goals
    first | (have hv4 := hv3 hv) | skip
    clear hv3
    go_wp2_with fail
    refine calls_same (refValid_any _ _) ?_
    rw [hv]
    go_wp2_with fail
    refine calls_same (valid_any _ _) ?_
    rw [hv]
    go_wp2_with fail
    refine calls_same (refValid_any _ _) ?_
    rw [hv]
    go_wp2_with fail
    refine (cut_any la ll lc 8 lf w HL.out HK.out (by omega)).mono ?_
    rintro e w1 ⟨v, rfl, hown, hb⟩
  all_goals
    have hm8 : min ll 8 ≤ 8 := by omega
    generalize min ll 8 = m at *
    have hwh := wrap_bd
    have HWH : Hid (∀ x : Int, -9223372036854775808 ≤ wrap64 x ∧ wrap64 x ≤ 9223372036854775807) := hwh
    clear hwh HL HK HN hv
    obtain ⟨ao, cap, rfl, hcap, _, hsome⟩ := own_any hown
    have HSM : Hid (∀ k, k < m → ∃ b, ao = some ⟨b, 0, none⟩ ∧ w.heap.size ≤ b) := hsome
    clear hsome
    go_wp2_with fail
    go_loopw [115] (fun s115 wr => ∃ (k : Nat) (f : Nat → Int), k ≤ m ∧ s115 = .int .i64 k ∧ wr.ownsRow w.heap.size 3 1 (.slice ao m cap) m (cellsF f m) ∧ Below w.heap.size w wr ∧ Fit f m) (fun s115 _ => m - (intOf s115).toNat)
    case atStart => exact ⟨0, lf, by omega, rfl, hown, hb, hfit⟩
    case round =>
      clear hown hb hfit
      obtain ⟨k, f, hk, rfl, hownr, hbr, hfr⟩ := hrel
      by_cases hlt : k < m
      · have hlt' : (k : Int) < (m : Int) := by omega
        obtain ⟨g, rfl, hgB⟩ := HSM.out k hlt
        have hc : wr.cell? ⟨g, k, none⟩ = some (.int .i64 (f k)) := (hownr.cellAt k (by omega)).trans (cellsF_get _ _ _ hlt)
        have hf : wr.frozen? ⟨g, k, none⟩ = false := hownr.frozenAt k
        obtain ⟨hf1, hf2⟩ := hfr k hlt
        have hwb := HWH.out (how + (k : Int))
        go_wp2_with fail
        refine calls_near (near_any _ _ _ hf1 hf2 hwb.1 hwb.2) ?_
        intro y hy1 hy2
        have hst := hownr.stored k (.int .i64 y)
        rw [cellsF_set f m k y hlt] at hst
        obtain ⟨hst1, hst2⟩ := hst
        have hbr2 : Below w.heap.size w (wr.setCell ⟨g, k, none⟩ (.int .i64 y)) := hbr.grown hst2 hbr.size (fun j hj => by injection hj with hj; omega)
        have hfr2 := hfr.set k y hy1 hy2
        clear hst2 hownr hbr hfr hwb
        go_wp2_with fail
        go_roundw
        case rel => exact ⟨k + 1, _, by omega, by go_num, hst1, hbr2, hfr2⟩
        case measure => simp [intOf]; omega
      · have hlt' : ¬ (k : Int) < (m : Int) := by omega
        obtain ⟨ao', cap', heq, _, hR, _⟩ := own_any hownr
        injection heq with h1 _ h2
        subst h1 h2
        have HR : Hid (HasRow wr ao m f) := hR
        clear hR hownr hfr
        go_wp2_with fail
        refine calls_same (sum_any _ _ _ f _ HR.out (by omega)) ?_
        go_wp2_with fail
        refine calls_same (refSum_any _ _ _ f _ HR.out (by omega)) ?_
        generalize sumF f m = R at *
        obtain ⟨t, every⟩ := R
        have hs : (0 < A ∧ Hid (A.sign = 1)) ∨ (A < 0 ∧ Hid (A.sign = -1)) ∨ (A = 0 ∧ Hid (A.sign = 0)) := by
          rcases Int.lt_trichotomy A 0 with h | h | h
          · exact .inr (.inl ⟨h, Int.sign_eq_neg_one_of_neg h⟩)
          · exact .inr (.inr ⟨h, by subst h; rfl⟩)
          · exact .inl ⟨h, Int.sign_eq_one_of_pos h⟩
        rcases hs with ⟨hs, HS⟩ | ⟨hs, HS⟩ | ⟨hs, HS⟩
        all_goals
          go_wp2_with fail
          refine calls_same (sign_any _ _) ?_
          first | rw [HS.out] | rw [show Int.sign 0 = 0 from rfl]
          go_wp2_with fail
          refine calls_same (wakes_any _) ?_
          go_wp2_with fail
          go_ret
          exact ⟨rfl, hbr⟩

end Go.Proofs.Ytmnijlpklgocoaa
