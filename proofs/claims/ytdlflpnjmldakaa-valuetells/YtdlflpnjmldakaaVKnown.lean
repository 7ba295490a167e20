/- Known: a few fixings in both worlds. -/
import Derived.Test.YtdlflpnjmldakaaV4
import Derived.Test.YtdlflpnjmldakaaMaker
namespace Go.Proofs.Ytdlflpnjmldakaa.Vl
open Go.RowKit Wd Cn
set_option linter.unusedVariables false

theorem tdiv_range (a b : Int) (hb : 2 ≤ b) (h1 : -9223372036854775808 ≤ a) (h2 : a ≤ 9223372036854775807) : -9223372036854775808 ≤ a.tdiv b ∧ a.tdiv b ≤ 9223372036854775807 := by
  by_cases h : 0 ≤ a
  · have h3 := Int.tdiv_nonneg h (by omega : 0 ≤ b)
    have h4 : a.tdiv b ≤ a := Int.tdiv_le_self b h
    omega
  · have h3 := Int.tdiv_nonneg (by omega : 0 ≤ -a) (by omega : 0 ≤ b)
    have h4 : (-a).tdiv b ≤ -a := Int.tdiv_le_self b (by omega)
    rw [Int.neg_tdiv] at h3 h4
    omega
theorem three_cells (w : World) (m : Nat) (hm : m < 3) : ∃ s : ByteArray, s.size ≤ 5 ∧ (w.alloc (.cells #[.string ⟨#[108, 105, 98, 111, 114]⟩, .string ⟨#[114, 97, 105, 110]⟩, .string ⟨#[195, 182, 108]⟩] 9)).cell? ⟨w.heap.size, m, none⟩ = some (.string s) := by
  rcases (by omega : m = 0 ∨ m = 1 ∨ m = 2) with rfl | rfl | rfl
  · exact ⟨_, by decide, cell_of_row _ _ _ _ _ _ (heap_alloc_new _ _)⟩
  · exact ⟨_, by decide, cell_of_row _ _ _ _ _ _ (heap_alloc_new _ _)⟩
  · exact ⟨_, by decide, cell_of_row _ _ _ _ _ _ (heap_alloc_new _ _)⟩

set_option maxHeartbeats 8000000 in
set_option maxRecDepth 100000 in
theorem known_any (w0 w : World) (p f c r B : Nat) (la : Option Addr) (ll lc : Nat) (lf : Nat → Int) (h : Bo w0 w p f c r B ⟨[], []⟩ ⟨[], []⟩) (hl : HasInts w0 la ll lf) (hll : ll ≤ 9223372036854775807) :
    Calls Try.prog 15 #[.pointer (some ⟨p, 0, none⟩), .pointer (some ⟨r, 0, none⟩), .slice la ll lc] w fun e w' => e = .returned (.tuple #[]) ∧ ∃ K, Bo w0 w' p f c r B K K ∧ KW.Vals K ∧ K.F.length ≤ 12 := by
  have HB := hidV h
  have HL := hidV hl
  clear h hl
  go_enter Try.func15, Try.ntmps15
  go_wp2_with fail
  go_loopw [6] (fun s6 wr => ∃ (i : Nat) (K : KW), s6 = .int .i64 i ∧ i ≤ 12 ∧ i ≤ ll ∧ Bo w0 wr p f c r B K K ∧ KW.Vals K ∧ K.F.length ≤ i) (fun s6 _ => 12 - (intOf s6).toNat)
  case atStart => exact ⟨0, ⟨[], []⟩, rfl, by omega, by omega, HB.out, (fun q hq => by simp at hq), by simp⟩
  case round =>
    obtain ⟨i, K, rfl, hi12, hil, hbo, hvals, hlen⟩ := hrel
    have HBO := hidV hbo
    have HVL := hidV hvals
    have HLN := hidV hlen
    clear hbo hvals hlen
    by_cases hlt : i < ll ∧ i < 12
    · obtain ⟨h1, h2⟩ := hlt
      have h1' : (i : Int) < (ll : Int) := by omega
      have h2' : (i : Int) < 12 := by omega
      obtain ⟨lb, lo, rfl, hlb, hlc, hf1, hf2⟩ := HL.out i h1
      have HLC : Hid (∀ w', Below w0.heap.size w0 w' → w'.cell? ⟨lb, lo + i, none⟩ = some (.int .i64 (lf i))) := fun w' hw' => (hw'.cell (p := ⟨lb, lo + i, none⟩) hlb).trans hlc
      obtain ⟨q1, q2⟩ := tdiv_range (lf i) 8 (by omega) hf1 hf2
      have HW40 := hidV (fun w : World => within_any ((lf i).tdiv 8) 40 w (by omega) (by omega) q1 q2)
      have HW8 := hidV (fun w : World => within_any (lf i) 8 w (by omega) (by omega) hf1 hf2)
      obtain ⟨u, hu⟩ : ∃ u : Nat, (lf i).tdiv 8 % 40 = u := ⟨((lf i).tdiv 8 % 40).toNat, by omega⟩
      have hu40 : u < 40 := by omega
      rw [hu] at HW40
      obtain ⟨d, hd⟩ : ∃ d : Nat, lf i % 8 = d := ⟨(lf i % 8).toNat, by omega⟩
      have hd8 : d < 8 := by omega
      rw [hd] at HW8
      clear hlc hu hd
      obtain ⟨m, hm⟩ : ∃ m : Nat, i % 3 = m := ⟨_, rfl⟩
      have hm3 : m < 3 := by omega
      have htm : Int.tmod (i : Int) 3 = (m : Int) := by rw [← hm]; rw [Int.tmod_eq_emod_of_nonneg (by omega)]; omega
      have hm3' : ¬ ((3 : Int) ≤ (m : Int)) := by omega
      obtain ⟨sn, hsz, hcell⟩ := three_cells wr m hm3
      have HSZ := hidV hsz
      clear hm hsz
      have hb0 := HLC.out wr HBO.out.i.below
      have hb1 : (wr.alloc (.cells #[.string ⟨#[108, 105, 98, 111, 114]⟩, .string ⟨#[114, 97, 105, 110]⟩, .string ⟨#[195, 182, 108]⟩] 9)).cell? ⟨lb, lo + i, none⟩ = some (.int .i64 (lf i)) := HLC.out _ (HBO.out.step (below_alloc (Below.refl _ _) _)).i.below
      have HB1 := hidV (HBO.out.step (below_alloc (Below.refl wr.heap.size wr) (.cells #[.string ⟨#[108, 105, 98, 111, 114]⟩, .string ⟨#[114, 97, 105, 110]⟩, .string ⟨#[195, 182, 108]⟩] 9)))
      have HFK : Hid (fixOk (sn, (d : Int))) := ⟨Nat.le_trans HSZ.out (by decide), by omega, by omega⟩
      have HREM : Hid (Int.tmod (lf i) 29 = 28 ∨ (Int.tmod (lf i) 29 == 28) = false) := by
        by_cases h : Int.tmod (lf i) 29 = 28
        · exact .inl h
        · exact .inr (by simpa using h)
      go_wp2_with fail
      refine calls_same (HW40.out _) ?_
      rcases HREM.out with h29 | h29
      all_goals
        go_wp2_with fail
        refine calls_same (HW8.out _) ?_
        go_wp2_with fail
        generalize wr.alloc (.cells #[.string ⟨#[108, 105, 98, 111, 114]⟩, .string ⟨#[114, 97, 105, 110]⟩, .string ⟨#[195, 182, 108]⟩] 9) = W1 at *
        refine (bo_fix HB1.out sn d _ HFK.out).mono ?_
        rintro e w2 ⟨rfl, hb2, hg2⟩
        have HB2 := hidV hb2
        have hb3 := HLC.out w2 HB2.out.i.below
        clear hb2 hg2 hb0 hb1 hcell
        go_wp2_with fail
        refine calls_same (HW8.out _) ?_
        go_wp2_with fail
        refine (bo_rfix HB2.out sn d _ (Nat.le_trans HSZ.out (by decide)) (by have := HLN.out; omega)).mono ?_
        rintro e w3 ⟨rfl, hb4, hr4⟩
        have HB3 := hidV hb4
        clear hb4 hr4 hb3
        go_wp2_with fail
        go_roundw
        case rel => exact ⟨i + 1, _, by go_num, by omega, by omega, HB3.out, fixN_vals _ _ _ _ HVL.out, Nat.le_trans (fixN_length _ _ _ _) (by have := HLN.out; omega)⟩
        case measure => simp [intOf] <;> omega
    · rcases (by omega : ((i : Int) < (ll : Int) ∧ ¬ (i : Int) < 12) ∨ ¬ (i : Int) < (ll : Int)) with ⟨h1, h3⟩ | h1
      all_goals
        clear hlt
        go_wp2_with fail
        go_end0
        exact ⟨rfl, K, HBO.out, HVL.out, Nat.le_trans HLN.out hi12⟩

end Go.Proofs.Ytdlflpnjmldakaa.Vl
