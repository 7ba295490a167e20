/- The walk of the statement CentsSums. -/
import Derived.Test.YtmnijlpklgocoaaSignsWalk
namespace Go.Proofs.Ytmnijlpklgocoaa
open Go.RowKit
set_option linter.unusedVariables false

theorem cellsF_set (g : Nat → Int) (m k : Nat) (y : Int) (hk : k < m) : (cellsF g m).set k (.int .i64 y) = cellsF (fun i => if i = k then y else g i) m := by
  apply List.ext_getElem?
  intro i
  by_cases hi : i < m
  · rw [List.getElem?_set]
    by_cases e : k = i
    · subst e; rw [if_pos rfl, if_pos (by rw [cellsF_length]; exact hi), cellsF_get _ _ _ hi, if_pos rfl]
    · rw [if_neg e, cellsF_get _ _ _ hi, cellsF_get _ _ _ hi, if_neg (fun h => e h.symm)]
  · rw [List.getElem?_eq_none (by rw [List.length_set, cellsF_length]; omega), List.getElem?_eq_none (by rw [cellsF_length]; omega)]

/-- What is known of a list that came in: its elements are whole numbers of 64 bits. -/
def HasInts (w : World) (a : Option Addr) (len : Nat) (f : Nat → Int) : Prop :=
  ∀ i, i < len → ∃ b off, a = some ⟨b, off, none⟩ ∧ b < w.heap.size ∧ w.cell? ⟨b, off + i, none⟩ = some (.int .i64 (f i)) ∧ -9223372036854775808 ≤ f i ∧ f i ≤ 9223372036854775807
theorem HasInts.row {w : World} {a : Option Addr} {len : Nat} {f : Nat → Int} (h : HasInts w a len f) : HasRow w a len f := by
  intro i hi
  obtain ⟨b, off, e, _, hc, _⟩ := h i hi
  exact ⟨b, off, e, hc⟩

def Fit (g : Nat → Int) (m : Nat) : Prop := ∀ i, i < m → -9223372036854775808 ≤ g i ∧ g i ≤ 9223372036854775807
theorem Fit.set {g : Nat → Int} {m : Nat} (h : Fit g m) (k : Nat) (y : Int) (h1 : -9223372036854775808 ≤ y) (h2 : y ≤ 9223372036854775807) : Fit (fun i => if i = k then y else g i) m := by
  intro i hi
  show _ ≤ (if i = k then y else g i) ∧ (if i = k then y else g i) ≤ _
  split
  · exact ⟨h1, h2⟩
  · exact h i hi

theorem own_row {w : World} {B : Nat} {e : TypeId} {b cap m : Nat} {g : Nat → Int} (h : w.ownsRow B e 1 (.slice (some ⟨b, 0, none⟩) m cap) m (cellsF g m)) : HasRow w (some ⟨b, 0, none⟩) m g := by
  intro i hi
  refine ⟨b, 0, rfl, ?_⟩
  rw [Nat.zero_add, h.cellAt i (by omega), cellsF_get _ _ _ hi]

theorem wrap_bd (x : Int) : -9223372036854775808 ≤ wrap64 x ∧ wrap64 x ≤ 9223372036854775807 := by
  unfold wrap64
  omega

set_option maxHeartbeats 2000000 in
set_option maxRecDepth 100000 in
theorem sums_walk (la : Option Addr) (ll lc : Nat) (lf : Nat → Int) (how cut : Int) (w : World) (hl : HasInts w la ll lf) (hk : SliceOk la ll lc) (hh1 : -9223372036854775808 ≤ how) (hh2 : how ≤ 9223372036854775807) (hc1 : -9223372036854775808 ≤ cut) (hc2 : cut ≤ 9223372036854775807) :
    Calls Try.prog 4 #[.slice la ll lc, .int .i64 how, .int .i64 cut] w fun e w' => e = .returned (.bool true) ∧ Below w.heap.size w w' := by
  have hfit : Fit lf (min ll 9) := fun i hi => by
    obtain ⟨_, _, _, _, _, h⟩ := hl i (by omega)
    exact h
  have HL : Hid (HasRow w la ll lf) := hl.row
  have HK : Hid (SliceOk la ll lc) := hk
  clear hl hk
  go_enter Try.func4, Try.ntmps4
  go_wp2_with fail
  refine (cut_any la ll lc 9 lf w HL.out HK.out (by omega)).mono ?_
  rintro e w1 ⟨v, rfl, hown, hb⟩
  have hm9 : min ll 9 ≤ 9 := by omega
  generalize min ll 9 = m at *
  clear HL HK
  rcases hown.2 with ⟨rfl, rfl⟩ | ⟨g, cap, cur, rfl, hgB, hg, hmc, hcm, _⟩
  · clear hown
    go_wp2_with fail
    refine wp_loop_rounds 1 ?_
    rw [rounds_succ]
    go_wp2_with fail
    refine calls_same (within_any cut 1 _ (by omega) (by omega) hc1 hc2) ?_
    rw [Int.emod_one]
    go_wp2_with fail
    refine calls_same (sum_any none 0 0 (fun _ => 0) _ (fun i hi => absurd hi (by omega)) (by omega)) ?_
    go_wp2_with fail
    refine calls_same (sum_any none 0 0 (fun _ => 0) _ (fun i hi => absurd hi (by omega)) (by omega)) ?_
    rw [show sumF (fun _ => 0) 0 = (0, true) from rfl]
    go_wp2_with fail
    refine wp_loop_rounds 1 ?_
    rw [rounds_succ]
    go_wp2_with fail
    refine calls_same (sum_any none 0 0 (fun _ => 0) _ (fun i hi => absurd hi (by omega)) (by omega)) ?_
    rw [show sumF (fun _ => 0) 0 = (0, true) from rfl]
    go_wp2_with fail
    refine calls_same (wakes_any _) ?_
    go_wp2_with fail
    go_ret
    exact ⟨rfl, hb⟩
  · unfold maxLen at hcm
    clear hg
    go_wp2_with fail
    go_loopw [24] (fun s24 wr => ∃ (k : Nat) (f : Nat → Int), k ≤ m ∧ s24 = .int .i64 k ∧ wr.ownsRow w.heap.size 3 1 (.slice (some ⟨g, 0, none⟩) m cap) m (cellsF f m) ∧ Below w.heap.size w wr ∧ Fit f m) (fun s24 _ => m - (intOf s24).toNat)
    case atStart => exact ⟨0, lf, by omega, rfl, hown, hb, hfit⟩
    case round =>
      obtain ⟨k, f, hk, rfl, hownr, hbr, hfr⟩ := hrel
      by_cases hlt : k < m
      · have hlt' : (k : Int) < (m : Int) := by omega
        have hc : wr.cell? ⟨g, k, none⟩ = some (.int .i64 (f k)) := (hownr.cellAt k (by omega)).trans (cellsF_get _ _ _ hlt)
        have hf : wr.frozen? ⟨g, k, none⟩ = false := hownr.frozenAt k
        obtain ⟨hf1, hf2⟩ := hfr k hlt
        have hwb := wrap_bd (how + (k : Int))
        go_wp2_with fail
        refine calls_near (near_any _ _ _ hf1 hf2 hwb.1 hwb.2) ?_
        intro y hy1 hy2
        have hst := hownr.stored k (.int .i64 y)
        rw [cellsF_set f m k y hlt] at hst
        obtain ⟨hst1, hst2⟩ := hst
        have hbr2 : Below w.heap.size w (wr.setCell ⟨g, k, none⟩ (.int .i64 y)) := hbr.grown hst2 hbr.size (fun j hj => by injection hj with hj; omega)
        have hfr2 := hfr.set k y hy1 hy2
        clear hst2 hownr hbr hfr hwb
        go_wp2_with fail
        go_roundw
        case rel => exact ⟨k + 1, _, by omega, by go_num, hst1, hbr2, hfr2⟩
        case measure => simp [intOf]; omega
      · have hlt' : ¬ (k : Int) < (m : Int) := by omega
        have hR := own_row hownr
        have HR : Hid (HasRow wr (some ⟨g, 0, none⟩) m f) := hR
        clear hR hownr hown hfit hfr
        obtain ⟨n, hn⟩ : ∃ n : Nat, cut % ((m : Int) + 1) = n := ⟨(cut % ((m : Int) + 1)).toNat, by
          have := Int.emod_nonneg cut (show (m : Int) + 1 ≠ 0 by omega); omega⟩
        have hnm : n ≤ m := by
          have := Int.emod_lt_of_pos cut (show 0 < (m : Int) + 1 by omega); omega
        go_wp2_with fail
        refine calls_same (within_any cut ((m : Int) + 1) _ (by omega) (by omega) hc1 hc2) ?_
        rw [hn]
        go_wp2_with fail
        refine calls_same (sum_any _ _ _ f _ (HR.out.cut hnm) (by omega)) ?_
        go_wp2_with fail
        refine calls_same (sum_any _ _ _ f _ HR.out (by omega)) ?_
        have HE : Hid (∀ j, (sumF f j).2 = false → sumF f j = (0, false)) := sumF_shape f
        have HT : Hid (∀ j t, sumF f j = (t, true) → sumF f (j + 1) = addR t (f j)) := sumF_step f
        have HY : Hid (∀ j, sumF f j = (0, false) → sumF f (j + 1) = (0, false)) := fun j h => sumF_stays f j h (j + 1) (by omega)
        by_cases hlast : n = m
        · subst hlast
          by_cases hcn : cap = n
          · subst hcn
            go_wp2_with fail
            refine wp_loop_rounds 1 ?_
            rw [rounds_succ]
            have HE2 : Hid ((sumF f cap).2 = false → sumF f cap = (0, false)) := HE.out cap
            generalize sumF f cap = R at *
            obtain ⟨t, ok⟩ := R
            cases ok
            · have ht : t = 0 := by have := HE2.out rfl; injection this
              subst ht
              go_wp2_with fail
              refine calls_same (sum_any none 0 0 (fun _ => 0) _ (fun i hi => absurd hi (by omega)) (by omega)) ?_
              rw [show sumF (fun _ => 0) 0 = (0, true) from rfl]
              go_wp2_with fail
              refine calls_same (wakes_any _) ?_
              go_wp2_with fail
              go_ret
              exact ⟨rfl, hbr⟩
            · go_wp2_with fail
              refine calls_same (sum_any none 0 0 (fun _ => 0) _ (fun i hi => absurd hi (by omega)) (by omega)) ?_
              rw [show sumF (fun _ => 0) 0 = (0, true) from rfl]
              go_wp2_with fail
              refine calls_same (wakes_any _) ?_
              go_wp2_with fail
              go_ret
              exact ⟨rfl, hbr⟩
          · have HCN : Hid (¬ cap = n) := hcn
            go_wp2_with fail
            refine wp_loop_rounds 1 ?_
            rw [rounds_succ]
            have HE2 : Hid ((sumF f n).2 = false → sumF f n = (0, false)) := HE.out n
            generalize sumF f n = R at *
            obtain ⟨t, ok⟩ := R
            cases ok
            · have ht : t = 0 := by have := HE2.out rfl; injection this
              subst ht
              go_wp2_with fail
              refine calls_same (sum_any none 0 0 (fun _ => 0) _ (fun i hi => absurd hi (by omega)) (by omega)) ?_
              rw [show sumF (fun _ => 0) 0 = (0, true) from rfl]
              go_wp2_with fail
              refine calls_same (wakes_any _) ?_
              go_wp2_with fail
              go_ret
              exact ⟨rfl, hbr⟩
            · go_wp2_with fail
              refine calls_same (sum_any none 0 0 (fun _ => 0) _ (fun i hi => absurd hi (by omega)) (by omega)) ?_
              rw [show sumF (fun _ => 0) 0 = (0, true) from rfl]
              go_wp2_with fail
              refine calls_same (wakes_any _) ?_
              go_wp2_with fail
              go_ret
              exact ⟨rfl, hbr⟩
        · have hlt2 : n < m := by omega
          have hcn : ¬ cap = n := by omega
          go_wp2_with fail
          go_loop [62, 14, 15] (fun s62 s14 s15 => ∃ j : Nat, j ≤ m - n ∧ s62 = .int .i64 j ∧ s14 = .int .i64 (sumF f (n + j)).1 ∧ s15 = .bool (sumF f (n + j)).2) (fun s62 _ _ => m - n - (intOf s62).toNat)
          case atStart => exact ⟨0, by omega, rfl, rfl, rfl⟩
          case round =>
            obtain ⟨j, hj, rfl, rfl, rfl⟩ := hrel
            by_cases hjl : j < m - n
            · have hjl' : (j : Int) < (m : Int) - (n : Int) := by omega
              have hcell : wr.cell? ⟨g, n + j, none⟩ = some (.int .i64 (f (n + j))) := by
                obtain ⟨b, off, e, hc⟩ := HR.out (n + j) (by omega)
                injection e with e
                injection e with e1 e2 e3
                subst e1 e2
                rw [Nat.zero_add] at hc
                exact hc
              have HE2 : Hid ((sumF f (n + j)).2 = false → sumF f (n + j) = (0, false)) := HE.out _
              have HT2 : Hid (∀ t, sumF f (n + j) = (t, true) → sumF f (n + (j + 1)) = addR t (f (n + j))) := HT.out (n + j)
              have HY2 : Hid (sumF f (n + j) = (0, false) → sumF f (n + (j + 1)) = (0, false)) := HY.out (n + j)
              generalize sumF f (n + j) = R at *
              obtain ⟨t, ok⟩ := R
              generalize f (n + j) = x at *
              cases ok
              · have ht : t = 0 := by have := HE2.out rfl; injection this
                subst ht
                have h3 := HY2.out rfl
                have H3 : Hid (sumF f (n + (j + 1)) = (0, false)) := h3
                clear h3
                go_wp2_with fail
                go_round
                case rel => exact ⟨j + 1, by omega, by go_num, by rw [H3.out], by rw [H3.out]⟩
                case measure => simp [intOf]; omega
              · have H3 : Hid (sumF f (n + (j + 1)) = addR t x) := HT2.out t rfl
                go_wp2_with fail
                refine calls_same (add_any _ _ _) ?_
                go_wp2_with fail
                go_round
                case rel => exact ⟨j + 1, by omega, by go_num, by rw [H3.out], by rw [H3.out]⟩
                case measure => simp [intOf]; omega
            · have hjl' : ¬ (j : Int) < (m : Int) - (n : Int) := by omega
              have hjm : n + j = m := by omega
              rw [hjm]
              have HE2 : Hid ((sumF f m).2 = false → sumF f m = (0, false)) := HE.out m
              generalize sumF f m = R at *
              obtain ⟨t, ok⟩ := R
              cases ok
              · have ht : t = 0 := by have := HE2.out rfl; injection this
                subst ht
                go_wp2_with fail
                refine calls_same (sum_any none 0 0 (fun _ => 0) _ (fun i hi => absurd hi (by omega)) (by omega)) ?_
                rw [show sumF (fun _ => 0) 0 = (0, true) from rfl]
                go_wp2_with fail
                refine calls_same (wakes_any _) ?_
                go_wp2_with fail
                go_ret
                exact ⟨rfl, hbr⟩
              · go_wp2_with fail
                refine calls_same (sum_any none 0 0 (fun _ => 0) _ (fun i hi => absurd hi (by omega)) (by omega)) ?_
                rw [show sumF (fun _ => 0) 0 = (0, true) from rfl]
                go_wp2_with fail
                refine calls_same (wakes_any _) ?_
                go_wp2_with fail
                go_ret
                exact ⟨rfl, hbr⟩

end Go.Proofs.Ytmnijlpklgocoaa
