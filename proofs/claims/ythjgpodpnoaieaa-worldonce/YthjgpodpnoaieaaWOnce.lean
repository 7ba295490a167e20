/- The walk of the statement WorldOnce. -/
import Derived.Test.YthjgpodpnoaieaaKi
namespace Go.Proofs.Ythjgpodpnoaieaa
/-- What is known of a list that came in: its elements are whole numbers of 64 bits. -/
def HasInts (w : World) (a : Option Addr) (len : Nat) (f : Nat → Int) : Prop :=
  ∀ i, i < len → ∃ b off, a = some ⟨b, off, none⟩ ∧ b < w.heap.size ∧ w.cell? ⟨b, off + i, none⟩ = some (.int .i64 (f i)) ∧ -9223372036854775808 ≤ f i ∧ f i ≤ 9223372036854775807
end Go.Proofs.Ythjgpodpnoaieaa
namespace Go.Proofs.Ythjgpodpnoaieaa.Wd
open Go.RowKit Go.Maps
set_option linter.unusedVariables false
set_option linter.unusedSimpArgs false

def xT : ByteArray := ⟨#[120]⟩
/-- The value that is fixed on day i; what is known after n days. -/
def vi (ll : Nat) (lf : Nat → Int) (i : Nat) : Int := if i < ll then lf i % 1000 else i
def onceF (ll : Nat) (lf : Nat → Int) (n : Nat) : List ((ByteArray × Int) × Int) := (List.range n).map fun (i : Nat) => ((xT, (i : Int)), vi ll lf i)
def onceK (ll : Nat) (lf : Nat → Int) (n : Nat) : KW := ⟨onceF ll lf n, []⟩
theorem onceF_succ (ll : Nat) (lf : Nat → Int) (n : Nat) : onceF ll lf (n + 1) = onceF ll lf n ++ [((xT, (n : Int)), vi ll lf n)] := by simp [onceF, List.range_succ]
theorem onceF_length (ll : Nat) (lf : Nat → Int) (n : Nat) : (onceF ll lf n).length = n := by simp [onceF]
theorem vi_bd (ll : Nat) (lf : Nat → Int) (i : Nat) (hi : i ≤ 32) : 0 ≤ vi ll lf i ∧ vi ll lf i < 1000 := by
  unfold vi
  split
  · exact ⟨Int.emod_nonneg _ (by omega), Int.emod_lt_of_pos _ (by omega)⟩
  · omega
theorem once_none (ll : Nat) (lf : Nat → Int) (n i : Nat) (h : n ≤ i) : (onceK ll lf n).fixed (xT, (i : Int)) = none := by
  refine (find_none (onceF ll lf n) _).2 ?_
  intro q hq e
  obtain ⟨j, hj, rfl⟩ := List.mem_map.1 hq
  simp at e hj
  omega
theorem once_some (ll : Nat) (lf : Nat → Int) (i : Nat) : ∀ n, i < n → (onceK ll lf n).fixed (xT, (i : Int)) = some (vi ll lf i)
  | 0, h => by omega
  | n + 1, h => by
    have hs := onceF_succ ll lf n
    by_cases e : i = n
    · subst e
      have hn := once_none ll lf i i (Nat.le_refl _)
      unfold KW.fixed onceK at hn ⊢
      simp only at hn ⊢
      rw [hs, List.find?_append]
      have hn' : (onceF ll lf i).find? (fun q => decide (q.1 = (xT, (i : Int)))) = none := by simpa using hn
      rw [hn']
      simp
    · have ih := once_some ll lf i n (by omega)
      unfold KW.fixed onceK at ih ⊢
      simp only at ih ⊢
      rw [hs, List.find?_append]
      rw [Option.map_eq_some_iff] at ih
      obtain ⟨q, hq, hv⟩ := ih
      rw [hq]
      simpa using hv
theorem day_of (i : Nat) (h : i ≤ 32) : dayB (i : Int) = true := by simp [dayB]; omega
theorem once_new (ll : Nat) (lf : Nat → Int) (i : Nat) (v : Int) (hv : vB v = true) (h : i < 32) : fixE (onceK ll lf i) xT i v = 0 := by
  unfold fixE
  rw [once_none ll lf i i (Nat.le_refl _), day_of i (by omega), hv, show nameGo 0 (runesOf xT) = true from nmx, show (onceK ll lf i).F.length = i from onceF_length ll lf i, if_neg (by decide), if_neg (by decide), if_neg (by omega)]
theorem once_full (ll : Nat) (lf : Nat → Int) (v : Int) (hv : vB v = true) : fixE (onceK ll lf 32) xT (32 : Nat) v = 5 := by
  unfold fixE
  rw [once_none ll lf 32 32 (Nat.le_refl _), day_of 32 (by omega), hv, show nameGo 0 (runesOf xT) = true from nmx, show (onceK ll lf 32).F.length = 32 from onceF_length ll lf 32, if_neg (by decide), if_neg (by decide), if_pos (by omega)]
theorem once_there (ll : Nat) (lf : Nat → Int) (i : Nat) (v : Int) (hv : vB v = true) (h : i < 32) : fixE (onceK ll lf (i + 1)) xT i v = 4 := by
  unfold fixE
  rw [once_some ll lf i (i + 1) (by omega), day_of i (by omega), hv, show nameGo 0 (runesOf xT) = true from nmx, if_neg (by decide), if_pos (by rfl)]
theorem once_okey (i : Nat) (h : i ≤ 32) : fixOk (xT, (i : Int)) := ⟨by show ByteArray.size xT ≤ maxLen; decide, by show (-9223372036854775808 : Int) ≤ (i : Int); omega, by show (i : Int) ≤ 9223372036854775807; omega⟩

theorem fix_first {w0 W : World} {p f c : Nat} {ll : Nat} {lf : Nat → Int} (i : Nat) (h : In w0 W p f c (onceK ll lf i)) (hi : i < 32) (v : Int) (hv : v = vi ll lf i) :
    Calls Try.prog 9 #[.pointer (some ⟨p, 0, none⟩), .string ⟨#[120]⟩, .int .i64 i, .int .i64 v] W fun e w' => e = .returned (.int .i64 0) ∧ In w0 w' p f c (onceK ll lf (i + 1)) := by
  subst hv
  have hb := vi_bd ll lf i (by omega)
  have hE := once_new ll lf i (vi ll lf i) (by simp [vB]; omega) hi
  refine fix_in h xT i (vi ll lf i) (once_okey i (by omega)) 0 (onceK ll lf (i + 1)) hE ?_
  rw [fixN, if_pos hE]
  unfold onceK
  rw [onceF_succ]
theorem fix_last {w0 W : World} {p f c : Nat} {ll : Nat} {lf : Nat → Int} (h : In w0 W p f c (onceK ll lf 32)) (v : Int) (hv : v = vi ll lf 32) :
    Calls Try.prog 9 #[.pointer (some ⟨p, 0, none⟩), .string ⟨#[120]⟩, .int .i64 32, .int .i64 v] W fun e w' => e = .returned (.int .i64 5) ∧ In w0 w' p f c (onceK ll lf 32) := by
  subst hv
  have hb := vi_bd ll lf 32 (by omega)
  have hE := once_full ll lf (vi ll lf 32) (by simp [vB]; omega)
  refine fix_in h xT (32 : Nat) (vi ll lf 32) (once_okey 32 (by omega)) 5 (onceK ll lf 32) hE ?_
  rw [fixN, if_neg (by rw [hE]; decide)]
theorem fix_again {w0 W : World} {p f c : Nat} {ll : Nat} {lf : Nat → Int} (i : Nat) (h : In w0 W p f c (onceK ll lf (i + 1))) (hi : i < 32) (v : Int) (hv : vB v = true) :
    Calls Try.prog 9 #[.pointer (some ⟨p, 0, none⟩), .string ⟨#[120]⟩, .int .i64 i, .int .i64 v] W fun e w' => e = .returned (.int .i64 4) ∧ In w0 w' p f c (onceK ll lf (i + 1)) := by
  have hE := once_there ll lf i v hv hi
  refine fix_in h xT i v (once_okey i (by omega)) 4 (onceK ll lf (i + 1)) hE ?_
  rw [fixN, if_neg (by rw [hE]; decide)]
theorem fixed_once {w0 W : World} {p f c : Nat} {ll : Nat} {lf : Nat → Int} (i : Nat) (h : In w0 W p f c (onceK ll lf 32)) (hi : i < 32) :
    Calls Try.prog 11 #[.pointer (some ⟨p, 0, none⟩), .string ⟨#[120]⟩, .int .i64 i] W fun e w' => e = .returned (.tuple #[.int .i64 (vi ll lf i), .bool true]) ∧ In w0 w' p f c (onceK ll lf 32) :=
  fixed_in h xT i (once_okey i (by omega)) (some (vi ll lf i)) (once_some ll lf i 32 hi)

set_option maxHeartbeats 4000000 in
set_option maxRecDepth 100000 in
theorem once_walk (la : Option Addr) (ll lc : Nat) (lf : Nat → Int) (more : Int) (w : World) (hl : HasInts w la ll lf) (hk : ll ≤ 9223372036854775807) (hm1 : -9223372036854775808 ≤ more) (hm2 : more ≤ 9223372036854775807) :
    Calls Try.prog 6 #[.slice la ll lc, .int .i64 more] w fun e w' => e = .returned (.bool true) ∧ Below w.heap.size w w' := by
  go_enter Try.func6, Try.ntmps6
  go_wp2_with fail
  refine (new_in' w).mono ?_
  rintro e w0 ⟨p, f, c, rfl, hi⟩
  have HI0 : Hid (In w w0 p f c (onceK ll lf 0)) := hi
  clear hi
  have HL : Hid (HasInts w la ll lf) := hl
  clear hl
  go_wp2_with fail
  go_loopw [6] (fun s6 wr => ∃ i : Nat, i ≤ 33 ∧ s6 = .int .i64 i ∧ In w wr p f c (onceK ll lf (min i 32))) (fun s6 _ => 33 - (intOf s6).toNat)
  case atStart => exact ⟨0, by omega, rfl, HI0.out⟩
  case round =>
    obtain ⟨i, hi, rfl, hin⟩ := hrel
    have HIN : Hid (In w wr p f c (onceK ll lf (min i 32))) := hin
    clear hin HI0
    by_cases h32 : i < 32
    · have a1 : (i : Int) ≤ 32 := by omega
      have a2 : (i : Int) < 32 := by omega
      have a3 : ((i : Int) == 32) = false := by rw [beq_eq_false_iff_ne]; omega
      have HIN1 : Hid (In w wr p f c (onceK ll lf i)) := by have := HIN.out; rwa [Nat.min_eq_left (by omega)] at this
      clear HIN
      have hvb := vi_bd ll lf i (by omega)
      have HV1 : Hid (vB (vi ll lf i + 1) = true) := by show vB _ = true; simp [vB]; omega
      by_cases hil : i < ll
      · have a4 : (i : Int) < (ll : Int) := by omega
        obtain ⟨bb, off, rfl, hbb, hcell, g1, g2⟩ := HL.out i hil
        have hcell1 : wr.cell? ⟨bb, off + i, none⟩ = some (.int .i64 (lf i)) := (HIN1.out.below.cell (p := ⟨bb, off + i, none⟩) hbb).trans hcell
        have HVE : Hid (lf i % 1000 = vi ll lf i) := by show lf i % 1000 = _; unfold vi; rw [if_pos hil]
        clear hcell
        go_wp2_with fail
        refine calls_same (within_any (lf i) 1000 _ (by omega) (by omega) g1 g2) ?_
        rw [HVE.out]
        generalize hvx : vi ll lf i = vx at *
        have HVX : Hid (vx = vi ll lf i) := hvx.symm
        clear hvx HVE
        go_wp2_with fail
        refine (fix_first i HIN1.out h32 _ HVX.out).mono ?_
        rintro e w1 ⟨rfl, hi1⟩
        have HIN2 : Hid (In w w1 p f c (onceK ll lf (i + 1))) := hi1
        clear hi1 HIN1
        go_wp2_with fail
        refine (fix_again i HIN2.out h32 _ HV1.out).mono ?_
        rintro e w2 ⟨rfl, hi1⟩
        have HIN3 : Hid (In w w2 p f c (onceK ll lf (i + 1))) := hi1
        clear hi1 HIN2
        go_wp2_with fail
        go_roundw
        case rel => exact ⟨i + 1, by omega, by go_num, by rw [Nat.min_eq_left (by omega)]; exact HIN3.out⟩
        case measure => simp [intOf]; omega
      · have a4 : ¬ (i : Int) < (ll : Int) := by omega
        have HVX : Hid ((i : Int) = vi ll lf i) := by show (i : Int) = _; unfold vi; rw [if_neg hil]
        have HV2 : Hid (vB ((i : Int) + 1) = true) := by rw [HVX.out]; exact HV1
        go_wp2_with fail
        refine (fix_first i HIN1.out h32 _ HVX.out).mono ?_
        rintro e w1 ⟨rfl, hi1⟩
        have HIN2 : Hid (In w w1 p f c (onceK ll lf (i + 1))) := hi1
        clear hi1 HIN1
        go_wp2_with fail
        refine (fix_again i HIN2.out h32 _ HV2.out).mono ?_
        rintro e w2 ⟨rfl, hi1⟩
        have HIN3 : Hid (In w w2 p f c (onceK ll lf (i + 1))) := hi1
        clear hi1 HIN2
        go_wp2_with fail
        go_roundw
        case rel => exact ⟨i + 1, by omega, by go_num, by rw [Nat.min_eq_left (by omega)]; exact HIN3.out⟩
        case measure => simp [intOf]; omega
    · have HIN1 : Hid (In w wr p f c (onceK ll lf 32)) := by have := HIN.out; rwa [Nat.min_eq_right (by omega)] at this
      clear HIN
      by_cases h33 : i = 32
      · subst h33
        by_cases hil : 32 < ll
        · have a4 : (32 : Int) < (ll : Int) := by omega
          obtain ⟨bb, off, rfl, hbb, hcell, g1, g2⟩ := HL.out 32 hil
          have hcell1 : wr.cell? ⟨bb, off + 32, none⟩ = some (.int .i64 (lf 32)) := (HIN1.out.below.cell (p := ⟨bb, off + 32, none⟩) hbb).trans hcell
          have HVE : Hid (lf 32 % 1000 = vi ll lf 32) := by show lf 32 % 1000 = _; unfold vi; rw [if_pos hil]
          clear hcell
          go_wp2_with fail
          refine calls_same (within_any (lf 32) 1000 _ (by omega) (by omega) g1 g2) ?_
          rw [HVE.out]
          generalize hvx : vi ll lf 32 = vx at *
          have HVX : Hid (vx = vi ll lf 32) := hvx.symm
          clear hvx HVE
          go_wp2_with fail
          refine (fix_last HIN1.out _ HVX.out).mono ?_
          rintro e w1 ⟨rfl, hi1⟩
          have HIN2 : Hid (In w w1 p f c (onceK ll lf 32)) := hi1
          clear hi1 HIN1
          go_wp2_with fail
          go_roundw
          case rel => exact ⟨33, by omega, by go_num, HIN2.out⟩
          case measure => simp [intOf]
        · have a4 : ¬ (32 : Int) < (ll : Int) := by omega
          have HVX : Hid ((32 : Int) = vi ll lf 32) := by show (32 : Int) = _; unfold vi; rw [if_neg hil]; rfl
          go_wp2_with fail
          refine (fix_last HIN1.out _ HVX.out).mono ?_
          rintro e w1 ⟨rfl, hi1⟩
          have HIN2 : Hid (In w w1 p f c (onceK ll lf 32)) := hi1
          clear hi1 HIN1
          go_wp2_with fail
          go_roundw
          case rel => exact ⟨33, by omega, by go_num, HIN2.out⟩
          case measure => simp [intOf]
      · have a1 : ¬ (i : Int) ≤ 32 := by omega
        go_wp2_with fail
        go_loopw [9] (fun s9 wq => ∃ j : Nat, j ≤ 32 ∧ s9 = .int .i64 j ∧ In w wq p f c (onceK ll lf 32)) (fun s9 _ => 32 - (intOf s9).toNat)
        case atStart => exact ⟨0, by omega, rfl, HIN1.out⟩
        case round =>
          obtain ⟨j, hj, rfl, hin⟩ := hrel
          have HIN : Hid (In w wr p f c (onceK ll lf 32)) := hin
          clear hin HIN1
          by_cases hj2 : j < 32
          · have b1 : (j : Int) < 32 := by omega
            by_cases hil : j < ll
            · have b2 : (j : Int) < (ll : Int) := by omega
              obtain ⟨bb, off, rfl, hbb, hcell, g1, g2⟩ := HL.out j hil
              have hcell1 : wr.cell? ⟨bb, off + j, none⟩ = some (.int .i64 (lf j)) := (HIN.out.below.cell (p := ⟨bb, off + j, none⟩) hbb).trans hcell
              have HVE : Hid (lf j % 1000 = vi ll lf j) := by show lf j % 1000 = _; unfold vi; rw [if_pos hil]
              clear hcell
              go_wp2_with fail
              refine calls_same (within_any (lf j) 1000 _ (by omega) (by omega) g1 g2) ?_
              rw [HVE.out]
              clear HVE
              go_wp2_with fail
              refine (fixed_once j HIN.out hj2).mono ?_
              rintro e w1 ⟨rfl, hi1⟩
              have HIN2 : Hid (In w w1 p f c (onceK ll lf 32)) := hi1
              clear hi1 HIN
              generalize vi ll lf j = vx at *
              go_wp2_with fail
              go_roundw
              case rel => exact ⟨j + 1, by omega, by go_num, HIN2.out⟩
              case measure => simp [intOf]; omega
            · have b2 : ¬ (j : Int) < (ll : Int) := by omega
              have HVX : Hid (vi ll lf j = (j : Int)) := by show vi ll lf j = _; unfold vi; rw [if_neg hil]
              go_wp2_with fail
              refine (fixed_once j HIN.out hj2).mono ?_
              rintro e w1 ⟨rfl, hi1⟩
              have HIN2 : Hid (In w w1 p f c (onceK ll lf 32)) := hi1
              clear hi1 HIN
              rw [HVX.out]
              go_wp2_with fail
              go_roundw
              case rel => exact ⟨j + 1, by omega, by go_num, HIN2.out⟩
              case measure => simp [intOf]; omega
          · have b1 : ¬ (j : Int) < 32 := by omega
            go_wp2_with fail
            refine calls_same (within_any more 2 _ (by omega) (by omega) hm1 hm2) ?_
            have q1 : 0 ≤ more % 2 := Int.emod_nonneg _ (by omega)
            have q2 : more % 2 < 2 := Int.emod_lt_of_pos _ (by omega)
            generalize more % 2 = q at *
            have HQ : Hid (pickB q = true) := by show pickB q = true; simp [pickB]; omega
            have HQ1 : Hid (pickB (1 - q) = true) := by show pickB (1 - q) = true; simp [pickB]; omega
            clear hm1 hm2
            have HF : Hid ((onceK ll lf 32).F.length = 32) := onceF_length ll lf 32
            unfold onceK at HIN HF
            generalize onceF ll lf 32 = F at *
            clear HL
            go_wp2_with fail
            refine (ch_in HIN.out _ _ _ _ ⟨by show ByteArray.size ⟨#[97]⟩ ≤ maxLen; decide, by show ByteArray.size ⟨#[98]⟩ ≤ maxLen; decide⟩ 0 ⟨F, [((⟨#[97]⟩, ⟨#[98]⟩), (q, 3))]⟩ (by simp [chE, nma, nmb, dayB, HQ.out, KW.chosen]) (by simp [chN, chE, nma, nmb, dayB, HQ.out, KW.chosen])).mono ?_
            rintro e w1 ⟨rfl, hi1⟩
            have HI1 : Hid (In w w1 p f c ⟨F, [((⟨#[97]⟩, ⟨#[98]⟩), (q, 3))]⟩) := hi1
            clear hi1 HIN
            go_wp2_with fail
            refine (ch_in HI1.out _ _ _ _ ⟨by show ByteArray.size ⟨#[97]⟩ ≤ maxLen; decide, by show ByteArray.size ⟨#[98]⟩ ≤ maxLen; decide⟩ 4 ⟨F, [((⟨#[97]⟩, ⟨#[98]⟩), (q, 3))]⟩ (by simp [chE, nma, nmb, dayB, HQ1.out, KW.chosen]) (by simp [chN, chE, nma, nmb, dayB, HQ1.out, KW.chosen])).mono ?_
            rintro e w2 ⟨rfl, hi1⟩
            have HI2 : Hid (In w w2 p f c ⟨F, [((⟨#[97]⟩, ⟨#[98]⟩), (q, 3))]⟩) := hi1
            clear hi1 HI1
            go_wp2_with fail
            refine (ch_in HI2.out _ _ _ _ ⟨by show ByteArray.size ⟨#[98]⟩ ≤ maxLen; decide, by show ByteArray.size ⟨#[97]⟩ ≤ maxLen; decide⟩ 0 ⟨F, [((⟨#[97]⟩, ⟨#[98]⟩), (q, 3)), ((⟨#[98]⟩, ⟨#[97]⟩), (1 - q, 4))]⟩ (by simp [chE, nma, nmb, dayB, HQ1.out, KW.chosen]) (by simp [chN, chE, nma, nmb, dayB, HQ1.out, KW.chosen])).mono ?_
            rintro e w3 ⟨rfl, hi1⟩
            have HI3 : Hid (In w w3 p f c ⟨F, [((⟨#[97]⟩, ⟨#[98]⟩), (q, 3)), ((⟨#[98]⟩, ⟨#[97]⟩), (1 - q, 4))]⟩) := hi1
            clear hi1 HI2
            go_wp2_with fail
            refine (chosen_in HI3.out _ _ ⟨by show ByteArray.size ⟨#[97]⟩ ≤ maxLen; decide, by show ByteArray.size ⟨#[98]⟩ ≤ maxLen; decide⟩ (some (q, 3)) (by simp [KW.chosen])).mono ?_
            rintro e w4 ⟨rfl, hi1⟩
            have HI4 : Hid (In w w4 p f c ⟨F, [((⟨#[97]⟩, ⟨#[98]⟩), (q, 3)), ((⟨#[98]⟩, ⟨#[97]⟩), (1 - q, 4))]⟩) := hi1
            clear hi1 HI3
            go_wp2_with fail
            refine (fixes_in HI4.out 32 HF.out).mono ?_
            rintro e w5 ⟨rfl, hi1⟩
            have HB5 : Hid (Below w.heap.size w w5) := hi1.below
            clear hi1 HI4
            go_wp2_with fail
            refine (wakes8_any _).mono ?_
            rintro e w6 ⟨rfl, hb6⟩
            go_wp2_with fail
            go_ret
            exact ⟨rfl, HB5.out.trans (hb6.mono HB5.out.size)⟩

end Go.Proofs.Ythjgpodpnoaieaa.Wd
