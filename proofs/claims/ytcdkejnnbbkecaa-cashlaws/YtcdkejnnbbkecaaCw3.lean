/- Known: fixings and choices in both worlds. -/
import Derived.Test.YtcdkejnnbbkecaaCw2
import Derived.Test.YtcdkejnnbbkecaaMakerC0
import Derived.Test.YtcdkejnnbbkecaaCw1
import Derived.Test.YtcdkejnnbbkecaaRows2
import Derived.Deep.CutRange
namespace Go.Proofs.Ytcdkejnnbbkecaa.Ca
open Go.RowKit Wd Cn Vl
set_option linter.unusedVariables false

theorem Bo.mapC {w0 W : World} {p f c r B : Nat} {Kc Kr : KW} (h : Bo w0 W p f c r B Kc Kr) : ∃ es cl, W.heap[c]? = some (.map es cl) := by
  obtain ⟨es, cl, hm, _⟩ := h.i.kin.ch
  exact ⟨es, cl, hm⟩
theorem bo_ch {w0 W : World} {p f c r B : Nat} {Kc Kr : KW} (h : Bo w0 W p f c r B Kc Kr) (s t : ByteArray) (q d : Int) (hk : chOk (s, t)) :
    Calls Try.prog 21 #[.pointer (some ⟨p, 0, none⟩), .string s, .string t, .int .i64 q, .int .i64 d] W fun e w' => e = .returned (.int .i64 (chE Kc s t q d)) ∧ Bo w0 w' p f c r B (chN Kc s t q d) Kr :=
  (ch_any W p f c Kc h.i.kin s t q d hk).mono fun e w' h1 => ⟨h1.1, h.gr h1.2.1 h1.2.2 h.i.hc (Bo.mapC h)⟩
theorem bo_rch {w0 W : World} {p f c r B : Nat} {Kc Kr : KW} (h : Bo w0 W p f c r B Kc Kr) (s t : ByteArray) (q d : Int) (hs : s.size ≤ 1000000) (ht : t.size ≤ 1000000) (hl : Kr.C.length ≤ 1000) :
    Calls Try.prog 22 #[.pointer (some ⟨r, 0, none⟩), .string s, .string t, .int .i64 q, .int .i64 d] W fun e w' => e = .returned (.int .i64 (chE Kr s t q d)) ∧ Bo w0 w' p f c r B Kc (chN Kr s t q d) := by
  obtain ⟨vF, vC, hr⟩ := h.rr
  exact (refCh_any W _ r Kr vF vC hr h.hBW s t q d hs ht hl).mono fun e w' h1 => ⟨h1.1, h.rt h1.2.1 h1.2.2⟩
theorem chN_vals {K : KW} (s t : ByteArray) (q d : Int) (h : KW.Vals K) : KW.Vals (chN K s t q d) := by
  unfold chN
  split
  · exact h
  · exact h
theorem chN_F (K : KW) (s t : ByteArray) (q d : Int) : (chN K s t q d).F = K.F := by
  unfold chN
  split <;> rfl
theorem chN_len (K : KW) (s t : ByteArray) (q d : Int) : (chN K s t q d).C.length ≤ K.C.length + 1 := by
  unfold chN
  split <;> simp
theorem pickB_iff (q : Int) : pickB q = true ↔ q = 0 ∨ q = 1 := by simp [pickB]
theorem chE_ok {K : KW} {s t : ByteArray} {q d : Int} (h : chE K s t q d = 0) : pickB q = true ∧ Wd.dayB d = true := by
  unfold chE at h
  split at h
  · cases h
  · rename_i h1
    simp only [Bool.not_eq_false, Bool.and_eq_true] at h1
    exact ⟨h1.1.2, h1.2⟩
theorem chN_chs {K : KW} (s t : ByteArray) (q d : Int) (h : KW.Chs K) : KW.Chs (chN K s t q d) := by
  unfold chN
  split
  · rename_i h1
    obtain ⟨h2, h3⟩ := chE_ok h1
    intro x hx
    rcases List.mem_append.1 hx with hx | hx
    · exact h x hx
    · simp at hx
      subst hx
      exact ⟨(pickB_iff q).1 h2, (Wd.dayB_iff d).1 h3⟩
  · exact h
/-- Fixings alone: nothing is chosen. -/
theorem fixN_C (K : KW) (s : ByteArray) (d v : Int) : (fixN K s d v).C = K.C := by
  unfold fixN
  split <;> rfl

set_option maxHeartbeats 8000000 in
set_option maxRecDepth 100000 in
theorem known9_any (w0 w : World) (p f c r B : Nat) (la : Option Addr) (ll lc : Nat) (lf : Nat → Int) (h : Bo w0 w p f c r B ⟨[], []⟩ ⟨[], []⟩) (hl : HasInts w0 la ll lf) (hll : ll ≤ 9223372036854775807) :
    Calls Try.prog 19 #[.pointer (some ⟨p, 0, none⟩), .pointer (some ⟨r, 0, none⟩), .slice la ll lc] w fun e w' => e = .returned (.tuple #[]) ∧ ∃ K, Bo w0 w' p f c r B K K ∧ KW.Vals K ∧ K.F.length ≤ 12 ∧ K.C = [] := by
  have HB := hidV h
  have HL := hidV hl
  clear h hl
  go_enter Try.func19, Try.ntmps19
  go_wp2_with fail
  go_loopw [6] (fun s6 wr => ∃ (i : Nat) (K : KW), s6 = .int .i64 i ∧ i ≤ 12 ∧ i ≤ ll ∧ Bo w0 wr p f c r B K K ∧ KW.Vals K ∧ K.F.length ≤ i ∧ K.C = []) (fun s6 _ => 12 - (intOf s6).toNat)
  case atStart => exact ⟨0, ⟨[], []⟩, rfl, by omega, by omega, HB.out, (fun q hq => by simp at hq), by simp, rfl⟩
  case round =>
    obtain ⟨i, K, rfl, hi12, hil, hbo, hvals, hlen, hkc⟩ := hrel
    have HKC := hidV hkc
    clear hkc
    have HBO := hidV hbo
    have HVL := hidV hvals
    have HLN := hidV hlen
    clear hbo hvals hlen
    by_cases hlt : i < ll ∧ i < 12
    · obtain ⟨h1, h2⟩ := hlt
      have h1' : (i : Int) < (ll : Int) := by omega
      have h2' : (i : Int) < 12 := by omega
      obtain ⟨lb, lo, rfl, hlb, hlc, hf1, hf2⟩ := HL.out i h1
      have HLC : Hid (∀ w', Below w0.heap.size w0 w' → w'.cell? ⟨lb, lo + i, none⟩ = some (.int .i64 (lf i))) := fun w' hw' => (hw'.cell (p := ⟨lb, lo + i, none⟩) hlb).trans hlc
      obtain ⟨q1, q2⟩ := tdiv_range (lf i) 8 (by omega) hf1 hf2
      have HW40 := hidV (fun w : World => within_any ((lf i).tdiv 8) 40 w (by omega) (by omega) q1 q2)
      have HW8 := hidV (fun w : World => within_any (lf i) 8 w (by omega) (by omega) hf1 hf2)
      obtain ⟨u, hu⟩ : ∃ u : Nat, (lf i).tdiv 8 % 40 = u := ⟨((lf i).tdiv 8 % 40).toNat, by omega⟩
      have hu40 : u < 40 := by omega
      rw [hu] at HW40
      obtain ⟨d, hd⟩ : ∃ d : Nat, lf i % 8 = d := ⟨(lf i % 8).toNat, by omega⟩
      have hd8 : d < 8 := by omega
      rw [hd] at HW8
      clear hlc hu hd
      obtain ⟨m, hm⟩ : ∃ m : Nat, i % 3 = m := ⟨_, rfl⟩
      have hm3 : m < 3 := by omega
      have htm : Int.tmod (i : Int) 3 = (m : Int) := by rw [← hm]; rw [Int.tmod_eq_emod_of_nonneg (by omega)]; omega
      have hm3' : ¬ ((3 : Int) ≤ (m : Int)) := by omega
      obtain ⟨sn, hsz, hcell⟩ := three_cells wr m hm3
      have HSZ := hidV hsz
      clear hm hsz
      have hb0 := HLC.out wr HBO.out.i.below
      have hb1 : (wr.alloc (.cells #[.string ⟨#[108, 105, 98, 111, 114]⟩, .string ⟨#[114, 97, 105, 110]⟩, .string ⟨#[195, 182, 108]⟩] 9)).cell? ⟨lb, lo + i, none⟩ = some (.int .i64 (lf i)) := HLC.out _ (HBO.out.step (below_alloc (Below.refl _ _) _)).i.below
      have HB1 := hidV (HBO.out.step (below_alloc (Below.refl wr.heap.size wr) (.cells #[.string ⟨#[108, 105, 98, 111, 114]⟩, .string ⟨#[114, 97, 105, 110]⟩, .string ⟨#[195, 182, 108]⟩] 9)))
      have HFK : Hid (fixOk (sn, (d : Int))) := ⟨Nat.le_trans HSZ.out (by decide), by omega, by omega⟩
      have HREM : Hid (Int.tmod (lf i) 29 = 28 ∨ (Int.tmod (lf i) 29 == 28) = false) := by
        by_cases h : Int.tmod (lf i) 29 = 28
        · exact .inl h
        · exact .inr (by simpa using h)
      go_wp2_with fail
      refine calls_same (HW40.out _) ?_
      rcases HREM.out with h29 | h29
      all_goals
        go_wp2_with fail
        refine calls_same (HW8.out _) ?_
        go_wp2_with fail
        generalize wr.alloc (.cells #[.string ⟨#[108, 105, 98, 111, 114]⟩, .string ⟨#[114, 97, 105, 110]⟩, .string ⟨#[195, 182, 108]⟩] 9) = W1 at *
        refine (bo_fix HB1.out sn d _ HFK.out).mono ?_
        rintro e w2 ⟨rfl, hb2, hg2⟩
        have HB2 := hidV hb2
        have hb3 := HLC.out w2 HB2.out.i.below
        clear hb2 hg2 hb0 hb1 hcell
        go_wp2_with fail
        refine calls_same (HW8.out _) ?_
        go_wp2_with fail
        refine (bo_rfix HB2.out sn d _ (Nat.le_trans HSZ.out (by decide)) (by have := HLN.out; omega)).mono ?_
        rintro e w3 ⟨rfl, hb4, hr4⟩
        have HB3 := hidV hb4
        clear hb4 hr4 hb3
        go_wp2_with fail
        go_roundw
        case rel => exact ⟨i + 1, _, by go_num, by omega, by omega, HB3.out, fixN_vals _ _ _ _ HVL.out, Nat.le_trans (fixN_length _ _ _ _) (by have := HLN.out; omega), by rw [fixN_C]; exact HKC.out⟩
        case measure => simp [intOf] <;> omega
    · rcases (by omega : ((i : Int) < (ll : Int) ∧ ¬ (i : Int) < 12) ∨ ¬ (i : Int) < (ll : Int)) with ⟨h1, h3⟩ | h1
      all_goals
        clear hlt
        go_wp2_with fail
        go_end0
        exact ⟨rfl, K, HBO.out, HVL.out, Nat.le_trans HLN.out hi12, HKC.out⟩

set_option maxHeartbeats 8000000 in
set_option maxRecDepth 100000 in
theorem known10_any (la : Option Addr) (ll lc : Nat) (lf : Nat → Int) (ca : Option Addr) (cl cc : Nat) (cf : Nat → Int) (w : World) (hl : HasInts w la ll lf) (hll : ll ≤ 9223372036854775807) (hc : HasInts w ca cl cf) (hcl : cl ≤ 9223372036854775807) :
    Calls Try.prog 6 #[.slice la ll lc, .slice ca cl cc] w fun e w' => ∃ p f c r, e = .returned (.tuple #[.pointer (some ⟨p, 0, none⟩), .pointer (some ⟨r, 0, none⟩)]) ∧ ∃ B K, Bo w w' p f c r B K K ∧ KW.Vals K ∧ KW.Chs K ∧ K.F.length ≤ 12 ∧ K.C.length ≤ 4 := by
  have HLI := hidC hl
  have HCI := hidC hc
  clear hl hc
  go_enter Try.func6, Try.ntmps6
  go_wp2_with fail
  refine (new_in' w).mono ?_
  rintro e w1 ⟨p, f, c, rfl, hi⟩
  have HBO0 := hidC (bo_new hi)
  clear hi
  go_wp2_with fail
  obtain ⟨r, hr⟩ : ∃ r, w1.heap.size = r := ⟨_, rfl⟩
  rw [hr] at HBO0
  simp only [hr]
  generalize w1.alloc (.cells #[.slice none 0 0, .slice none 0 0] 77) = V at *
  clear hr
  refine (known9_any w V p f c r r la ll lc lf HBO0.out HLI.out hll).mono ?_
  rintro e w2 ⟨rfl, K0, hbo, hv0, hf0, hk0⟩
  have HKC := hidC hk0
  have HB2 := hidC hbo
  have HV2 := hidC hv0
  have HF2 := hidC hf0
  clear hbo hv0 hf0 hk0
  go_wp2_with fail
  go_loopw [8] (fun s8 wr => ∃ (i : Nat) (K : KW), s8 = .int .i64 i ∧ i ≤ 4 ∧ i ≤ cl ∧ Bo w wr p f c r r K K ∧ KW.Vals K ∧ KW.Chs K ∧ K.F.length ≤ 12 ∧ K.C.length ≤ i) (fun s8 _ => 4 - (intOf s8).toNat)
  case atStart => exact ⟨0, K0, rfl, by omega, by omega, HB2.out, HV2.out, (fun q hq => by rw [HKC.out] at hq; cases hq), HF2.out, by rw [HKC.out]; simp⟩
  case round =>
    obtain ⟨i, K, rfl, hi4, hil, hbo, hvals, hchs, hfl, hclen⟩ := hrel
    have HBO := hidC hbo
    have HVL := hidC hvals
    have HCH := hidC hchs
    have HFL := hidC hfl
    have HCL := hidC hclen
    clear hbo hvals hchs hfl hclen
    by_cases hlt : i < cl ∧ i < 4
    · obtain ⟨h1, h2⟩ := hlt
      have h1' : (i : Int) < (cl : Int) := by omega
      have h2' : (i : Int) < 4 := by omega
      obtain ⟨lb, lo, rfl, hlb, hlc, hf1, hf2⟩ := HCI.out i h1
      have HLC : Hid (∀ w', Below w.heap.size w w' → w'.cell? ⟨lb, lo + i, none⟩ = some (.int .i64 (cf i))) := fun w' hw' => (hw'.cell (p := ⟨lb, lo + i, none⟩) hlb).trans hlc
      obtain ⟨q1, q2⟩ := tdiv_range (cf i) 2 (by omega) hf1 hf2
      have HW6 := hidC (fun w : World => within_any ((cf i).tdiv 2) 6 w (by omega) (by omega) q1 q2)
      have HW2 := hidC (fun w : World => within_any (cf i) 2 w (by omega) (by omega) hf1 hf2)
      obtain ⟨u, hu⟩ : ∃ u, (cf i).tdiv 2 % 6 = u := ⟨_, rfl⟩
      obtain ⟨d, hd⟩ : ∃ d, cf i % 2 = d := ⟨_, rfl⟩
      have hu1 : 0 ≤ u := by omega
      have hu2 : u < 6 := by omega
      have hd1 : 0 ≤ d := by omega
      have hd2 : d < 2 := by omega
      rw [hu] at HW6
      rw [hd] at HW2
      clear hu hd hlc
      have HDG : Hid (∀ w : World, Calls Try.prog 20 #[.int .i64 ((i : Int) + 1)] w fun e w' => e = .returned (.string (digT (i + 1))) ∧ Below w.heap.size w w') := fun w => by
        have h := digT_any (i + 1) (by omega) w
        rwa [show ((i + 1 : Nat) : Int) = (i : Int) + 1 by omega] at h
      go_wp2_with fail
      refine (HDG.out wr).mono ?_
      rintro e w3 ⟨rfl, hb3⟩
      have HB3 := hidC (HBO.out.step hb3)
      have q0 := HLC.out w3 HB3.out.i.below
      have hsz := digT_size (i + 1)
      generalize hDG : digT (i + 1) = D at *
      have HSZ : Hid (((⟨#[99, 104]⟩ : ByteArray) ++ D).size ≤ 1000000) := by
        have h := chT_size (i + 1)
        unfold chT at h
        rw [hDG] at h
        exact Nat.le_trans h (by decide)
      clear hDG
      clear hb3
      rcases (show Int.tmod (cf i) 3 = 0 ∨ (Int.tmod (cf i) 3 != 0) = true by by_cases h : Int.tmod (cf i) 3 = 0; exact .inl h; exact .inr (by simpa using h)) with h3 | h3
      · have h3' : (Int.tmod (cf i) 3 != 0) = false := by simp [h3]
        clear h3
        go_wp2_with fail
        go_roundw
        case rel => exact ⟨i + 1, K, by go_num, by omega, by omega, HB3.out, HVL.out, HCH.out, HFL.out, Nat.le_trans HCL.out (by omega)⟩
        case measure => simp [intOf] <;> omega
      · go_wp2_with fail
        clear q0 h3
        have HBD := hidC (HB3.out.step (below_drew (Below.refl w3.heap.size w3)))
        refine Mx.wp_region_mix (fun w' => Below w.heap.size w w') [(0, false), (1, false), (2, false), (3, false), (4, false), (5, false), (7, false), (8, false), (9, false), (10, false), (11, false), (6, true), (12, true), (13, true)] (by kernel_rfl) (by kernel_rfl) HBD.out.i.below ?_ (by kernel_rfl)
        simp only [List.map_cons, List.map_nil, List.getD_cons_zero, List.getD_cons_succ]
        generalize hops : (#[_, _, _, _, _, _, _, _, _, _, _, _, _, _] : Array Oper) = ops
        clear hops
        refine Mx.m_pure (.pointer (some ⟨p, 0, none⟩)) (Mx.wanted_none rfl) (fun w' hw' => ?_) ?_
        · go_simp
        simp only [Act.put, List.setIfInBounds_toArray, List.set_cons_zero, List.set_cons_succ]
        refine Mx.m_pure (.string ((⟨#[99, 104]⟩ : ByteArray) ++ D)) (Mx.wanted_none rfl) (fun w' hw' => ?_) ?_
        · go_simp
        simp only [Act.put, List.setIfInBounds_toArray, List.set_cons_zero, List.set_cons_succ]
        refine Mx.m_pure (.slice (some ⟨lb, lo, none⟩) cl cc) (Mx.wanted_none rfl) (fun w' hw' => ?_) ?_
        · go_simp
        simp only [Act.put, List.setIfInBounds_toArray, List.set_cons_zero, List.set_cons_succ]
        refine Mx.m_pure (.int .i64 i) (Mx.wanted_none rfl) (fun w' hw' => ?_) ?_
        · go_simp
        simp only [Act.put, List.setIfInBounds_toArray, List.set_cons_zero, List.set_cons_succ]
        refine Mx.m_pure (.pointer (some ⟨lb, lo + i, none⟩)) (Mx.wanted_none rfl) (fun w' hw' => ?_) ?_
        · go_simp
        simp only [Act.put, List.setIfInBounds_toArray, List.set_cons_zero, List.set_cons_succ]
        refine Mx.m_pure (.int .i64 (cf i)) (Mx.wanted_none rfl) (fun w' hw' => ?_) ?_
        · have q0 := HLC.out w' hw'
          go_simp
        simp only [Act.put, List.setIfInBounds_toArray, List.set_cons_zero, List.set_cons_succ]
        refine Mx.m_pure (.slice (some ⟨lb, lo, none⟩) cl cc) (Mx.wanted_none rfl) (fun w' hw' => ?_) ?_
        · go_simp
        simp only [Act.put, List.setIfInBounds_toArray, List.set_cons_zero, List.set_cons_succ]
        refine Mx.m_pure (.int .i64 i) (Mx.wanted_none rfl) (fun w' hw' => ?_) ?_
        · go_simp
        simp only [Act.put, List.setIfInBounds_toArray, List.set_cons_zero, List.set_cons_succ]
        refine Mx.m_pure (.pointer (some ⟨lb, lo + i, none⟩)) (Mx.wanted_none rfl) (fun w' hw' => ?_) ?_
        · go_simp
        simp only [Act.put, List.setIfInBounds_toArray, List.set_cons_zero, List.set_cons_succ]
        refine Mx.m_pure (.int .i64 (cf i)) (Mx.wanted_none rfl) (fun w' hw' => ?_) ?_
        · have q0 := HLC.out w' hw'
          go_simp
        simp only [Act.put, List.setIfInBounds_toArray, List.set_cons_zero, List.set_cons_succ]
        refine Mx.m_pure (.int .i64 ((cf i).tdiv 2)) (Mx.wanted_none rfl) (fun w' hw' => ?_) ?_
        · go_simp
          exact wrap_small _ q1 q2
        simp only [Act.put, List.setIfInBounds_toArray, List.set_cons_zero, List.set_cons_succ]
        refine Mx.m_call 7 #[.int .i64 (cf i), .int .i64 2] (Mx.wanted_none rfl) ?_ ?_
        · go_simp
        refine (HW2.out _).mono ?_
        rintro e1 w1 ⟨rfl, rfl⟩
        refine ⟨_, rfl, HBD.out.i.below, ?_⟩
        simp only [Act.put, List.setIfInBounds_toArray, List.set_cons_zero, List.set_cons_succ]
        refine Mx.m_call 7 #[.int .i64 ((cf i).tdiv 2), .int .i64 6] (Mx.wanted_none rfl) ?_ ?_
        · go_simp
        refine (HW6.out _).mono ?_
        rintro e1 w1 ⟨rfl, rfl⟩
        refine ⟨_, rfl, HBD.out.i.below, ?_⟩
        simp only [Act.put, List.setIfInBounds_toArray, List.set_cons_zero, List.set_cons_succ]
        refine Mx.m_call 21 #[.pointer (some ⟨p, 0, none⟩), .string ⟨#[116]⟩, .string ((⟨#[99, 104]⟩ : ByteArray) ++ D), .int .i64 d, .int .i64 u] (Mx.wanted_none rfl) ?_ ?_
        · go_simp
        refine (bo_ch HBD.out ⟨#[116]⟩ ((⟨#[99, 104]⟩ : ByteArray) ++ D) d u ⟨show (⟨#[116]⟩ : ByteArray).size ≤ maxLen by decide, Nat.le_trans HSZ.out (by decide)⟩).mono ?_
        rintro e w4 ⟨rfl, hb4⟩
        have HB4 := hidC hb4
        clear hb4
        refine ⟨_, rfl, HB4.out.i.below, ?_⟩
        clear HBD HB3
        simp only [Act.put, List.setIfInBounds_toArray, List.set_cons_zero, List.set_cons_succ]
        refine Mx.m_nil ?_
        intro _
        go_wp2_with fail
        have HBD := hidC (HB4.out.step (below_drew (Below.refl w4.heap.size w4)))
        clear HB4
        refine Mx.wp_region_mix (fun w' => Below w.heap.size w w') [(0, false), (1, false), (2, false), (3, false), (4, false), (5, false), (7, false), (8, false), (9, false), (10, false), (11, false), (6, true), (12, true), (13, true)] (by kernel_rfl) (by kernel_rfl) HBD.out.i.below ?_ (by kernel_rfl)
        simp only [List.map_cons, List.map_nil, List.getD_cons_zero, List.getD_cons_succ]
        generalize hops : (#[_, _, _, _, _, _, _, _, _, _, _, _, _, _] : Array Oper) = ops
        clear hops
        refine Mx.m_pure (.pointer (some ⟨r, 0, none⟩)) (Mx.wanted_none rfl) (fun w' hw' => ?_) ?_
        · go_simp
        simp only [Act.put, List.setIfInBounds_toArray, List.set_cons_zero, List.set_cons_succ]
        refine Mx.m_pure (.string ((⟨#[99, 104]⟩ : ByteArray) ++ D)) (Mx.wanted_none rfl) (fun w' hw' => ?_) ?_
        · go_simp
        simp only [Act.put, List.setIfInBounds_toArray, List.set_cons_zero, List.set_cons_succ]
        refine Mx.m_pure (.slice (some ⟨lb, lo, none⟩) cl cc) (Mx.wanted_none rfl) (fun w' hw' => ?_) ?_
        · go_simp
        simp only [Act.put, List.setIfInBounds_toArray, List.set_cons_zero, List.set_cons_succ]
        refine Mx.m_pure (.int .i64 i) (Mx.wanted_none rfl) (fun w' hw' => ?_) ?_
        · go_simp
        simp only [Act.put, List.setIfInBounds_toArray, List.set_cons_zero, List.set_cons_succ]
        refine Mx.m_pure (.pointer (some ⟨lb, lo + i, none⟩)) (Mx.wanted_none rfl) (fun w' hw' => ?_) ?_
        · go_simp
        simp only [Act.put, List.setIfInBounds_toArray, List.set_cons_zero, List.set_cons_succ]
        refine Mx.m_pure (.int .i64 (cf i)) (Mx.wanted_none rfl) (fun w' hw' => ?_) ?_
        · have q0 := HLC.out w' hw'
          go_simp
        simp only [Act.put, List.setIfInBounds_toArray, List.set_cons_zero, List.set_cons_succ]
        refine Mx.m_pure (.slice (some ⟨lb, lo, none⟩) cl cc) (Mx.wanted_none rfl) (fun w' hw' => ?_) ?_
        · go_simp
        simp only [Act.put, List.setIfInBounds_toArray, List.set_cons_zero, List.set_cons_succ]
        refine Mx.m_pure (.int .i64 i) (Mx.wanted_none rfl) (fun w' hw' => ?_) ?_
        · go_simp
        simp only [Act.put, List.setIfInBounds_toArray, List.set_cons_zero, List.set_cons_succ]
        refine Mx.m_pure (.pointer (some ⟨lb, lo + i, none⟩)) (Mx.wanted_none rfl) (fun w' hw' => ?_) ?_
        · go_simp
        simp only [Act.put, List.setIfInBounds_toArray, List.set_cons_zero, List.set_cons_succ]
        refine Mx.m_pure (.int .i64 (cf i)) (Mx.wanted_none rfl) (fun w' hw' => ?_) ?_
        · have q0 := HLC.out w' hw'
          go_simp
        simp only [Act.put, List.setIfInBounds_toArray, List.set_cons_zero, List.set_cons_succ]
        refine Mx.m_pure (.int .i64 ((cf i).tdiv 2)) (Mx.wanted_none rfl) (fun w' hw' => ?_) ?_
        · go_simp
          exact wrap_small _ q1 q2
        simp only [Act.put, List.setIfInBounds_toArray, List.set_cons_zero, List.set_cons_succ]
        refine Mx.m_call 7 #[.int .i64 (cf i), .int .i64 2] (Mx.wanted_none rfl) ?_ ?_
        · go_simp
        refine (HW2.out _).mono ?_
        rintro e1 w1 ⟨rfl, rfl⟩
        refine ⟨_, rfl, HBD.out.i.below, ?_⟩
        simp only [Act.put, List.setIfInBounds_toArray, List.set_cons_zero, List.set_cons_succ]
        refine Mx.m_call 7 #[.int .i64 ((cf i).tdiv 2), .int .i64 6] (Mx.wanted_none rfl) ?_ ?_
        · go_simp
        refine (HW6.out _).mono ?_
        rintro e1 w1 ⟨rfl, rfl⟩
        refine ⟨_, rfl, HBD.out.i.below, ?_⟩
        simp only [Act.put, List.setIfInBounds_toArray, List.set_cons_zero, List.set_cons_succ]
        refine Mx.m_call 22 #[.pointer (some ⟨r, 0, none⟩), .string ⟨#[116]⟩, .string ((⟨#[99, 104]⟩ : ByteArray) ++ D), .int .i64 d, .int .i64 u] (Mx.wanted_none rfl) ?_ ?_
        · go_simp
        refine (bo_rch HBD.out ⟨#[116]⟩ ((⟨#[99, 104]⟩ : ByteArray) ++ D) d u (by decide) HSZ.out (by have := HCL.out; omega)).mono ?_
        rintro e w5 ⟨rfl, hb5⟩
        have HB5 := hidC hb5
        clear hb5
        refine ⟨_, rfl, HB5.out.i.below, ?_⟩
        simp only [Act.put, List.setIfInBounds_toArray, List.set_cons_zero, List.set_cons_succ]
        refine Mx.m_nil ?_
        intro _
        go_wp2_with fail
        go_roundw
        case rel => exact ⟨i + 1, _, by go_num, by omega, by omega, HB5.out, chN_vals _ _ _ _ HVL.out, chN_chs _ _ _ _ HCH.out, by rw [chN_F]; exact HFL.out, Nat.le_trans (chN_len _ _ _ _ _) (by have := HCL.out; omega)⟩
        case measure => simp [intOf] <;> omega
    · rcases (by omega : ((i : Int) < (cl : Int) ∧ ¬ (i : Int) < 4) ∨ ¬ (i : Int) < (cl : Int)) with ⟨h1, h3⟩ | h1
      all_goals
        clear hlt
        go_wp2_with fail
        go_ret2
        exact ⟨p, f, c, r, rfl, r, K, HBO.out, HVL.out, HCH.out, HFL.out, Nat.le_trans HCL.out hi4⟩

end Go.Proofs.Ytcdkejnnbbkecaa.Ca
namespace Go.Proofs.Ytcdkejnnbbkecaa.Ca
open Go.RowKit Wd Cn Vl
set_option linter.unusedVariables false

theorem rightP_chk (p : Pl) : chkC (rightP p) = 0 := by
  unfold rightP
  split
  · assumption
  · rfl
theorem right_made {p : Pl} {W X : World} (hP : PlanIn W p) (hX : Below W.heap.size W X) : Calls Try.prog 5 #[.agg #[.slice p.na p.nl p.nc, .slice p.wa p.wl p.wc]] X (fun e w' => ∃ v, e = .returned v ∧ Below X.heap.size X w' ∧ TIn w' 0 (plainC (rightP p)) v) := by
  have h := right_any p X (hP.below hX)
  unfold planV at h
  exact h.mono fun e w' ⟨v, h1, h2, h3⟩ => ⟨v, h1, h3, h2.low (Nat.zero_le _)⟩
theorem right_term {p : Pl} {X : World} {v : Value} (ht : TIn X 0 (plainC (rightP p)) v) : Calls Try.prog 4 #[v] X (fun e w' => e = .returned (rightP p).val ∧ Below X.heap.size X w') :=
  termP_any (rightP p) (rightP_whole p) X v 0 ht
theorem rightP_ok (p : Pl) : (rightP p).Ok := cwhole_ok _ (rightP_whole p)
/-- What is known of an answer. -/
theorem ofK_at {K : KW} {id : ByteArray} {c : C} {d : Int} (hc : chkC c = 0) (h1 : 0 ≤ d) (h2 : d ≤ 10000) : ofK K id c d = if (ck K id c d 1).e = 0 then ⟨(ck K id c d 1).f, addW [] (ck K id c d 1).w, 0⟩ else ⟨[], [], (ck K id c d 1).e⟩ := by
  unfold ofK
  rw [if_pos ⟨hc, h1, h2⟩]
theorem ofK_e {K : KW} {id : ByteArray} {c : C} {d : Int} (hc : chkC c = 0) (h1 : 0 ≤ d) (h2 : d ≤ 10000) : (ofK K id c d).e = (ck K id c d 1).e := by
  rw [ofK_at hc h1 h2]
  split
  · rename_i h; exact h.symm
  · rfl
theorem ofK_errs {K : KW} (hK : KW.Vals K) {id : ByteArray} {c : C} {d : Int} (hc : chkC c = 0) (h1 : 0 ≤ d) (h2 : d ≤ 10000) : (ofK K id c d).e = 0 ∨ (ofK K id c d).e = 6 := by
  rw [ofK_e hc h1 h2]
  exact ck_errs K hK id c (chkC_ok hc).1 d 1
theorem ofK_fl {K : KW} (hC : KW.Chs K) {id : ByteArray} {c : C} {d : Int} (hc : chkC c = 0) (h1 : 0 ≤ d) (h2 : d ≤ 10000) : ∀ x ∈ (ofK K id c d).f, x.In d := by
  rw [ofK_at hc h1 h2]
  split
  · exact ck_flows K hC id c (chkC_ok hc).1 d 1 h2 (by decide) (by rfl)
  · intro x hx; cases hx
theorem ofK_wt {K : KW} (hC : KW.Chs K) {id : ByteArray} {c : C} (hok : c.Ok) {d : Int} (hc : chkC c = 0) (h1 : 0 ≤ d) (h2 : d ≤ 10000) : ∀ y ∈ (ofK K id c d).w, y.In K id c.labels d := by
  rw [ofK_at hc h1 h2]
  split
  · intro y hy
    exact ck_waits K hC id c (chkC_ok hc).1 hok d 1 h2 y (((addW_mem _ [] y).1 hy).elim (fun h => by cases h) (fun h => h))
  · intro x hx; cases hx
theorem ofK_len' (K : KW) (id : ByteArray) (c : C) (d : Int) : (ofK K id c d).f.length ≤ c.weight ∧ (ofK K id c d).w.length ≤ c.weight := by
  have h := ck_len K id c d 1
  have h2 := addW_len (ck K id c d 1).w []
  unfold ofK
  split
  · split
    · simp at h2 ⊢; omega
    · simp
  · simp
theorem ofK_scale0 (K : KW) (id : ByteArray) (x : C) (d : Int) (hc : chkC (.scale (.const 0) x) = 0) (h1 : 0 ≤ d) (h2 : d ≤ 10000) : ofK K id (.scale (.const 0) x) d = ⟨[], [], 0⟩ := by
  rw [ofK_at hc h1 h2]
  rfl
theorem ofK_turned {K : KW} (hK : KW.Vals K) (id : ByteArray) (x t : C) (d n : Int) (hn : n ≠ 0) (hx : chkC x = 0) (ht : chkC t = 0) (h1 : 0 ≤ d) (h2 : d ≤ 10000) (he : ck K id t d 1 = ck K id x d n) (h0 : (ofK K id t d).e = 0) :
    (ofK K id x d).e = 0 ∧ (ofK K id t d).f = (ofK K id x d).f.map (Fl.times n) ∧ (ofK K id t d).w = (ofK K id x d).w.map (Wt.turn n) := by
  rw [ofK_e ht h1 h2, he] at h0
  have hh := ck_times K hK id n hn x (chkC_ok hx).1 d 1 (by decide) (by rw [Int.mul_one]; exact h0)
  rw [Int.mul_one] at hh
  obtain ⟨g1, g2, g3⟩ := hh
  rw [ofK_e hx h1 h2, ofK_at hx h1 h2, ofK_at ht h1 h2, he, if_pos h0, if_pos g1]
  exact ⟨g1, g2, by rw [g3]; exact addW_turn n _ []⟩
theorem scale_is (K : KW) (id : ByteArray) (x : C) (d n : Int) (hn : n ≠ 0) (h1 : -4 ≤ n) (h2 : n ≤ 4) : ck K id (.scale (.const n) x) d 1 = ck K id x d n := by
  have vn : vB n = true := (vB_iff n).2 ⟨by omega, by omega⟩
  have hm : mulR 1 n = (n, true) := by rw [mulR_ok rfl vn (by rw [Int.one_mul]; exact vn), Int.one_mul]
  simp [ck, rk, hm, hn]

end Go.Proofs.Ytcdkejnnbbkecaa.Ca
namespace Go.Proofs.Ytcdkejnnbbkecaa.Ca
open Go.RowKit Wd Cn Vl
set_option linter.unusedVariables false

theorem snoc_same {α : Type} {a b : List α} {i : Nat} (h : ∀ j, j < i → a[j]? = b[j]?) (hi : a[i]? = b[i]?) : ∀ j, j < i + 1 → a[j]? = b[j]? := fun j hj => by
  rcases (by omega : j < i ∨ j = i) with h1 | rfl
  · exact h j h1
  · exact hi

set_option maxHeartbeats 4000000 in
set_option maxRecDepth 100000 in
theorem sameF_any (w : World) (ao bo : Option Addr) (cap cap2 : Nat) (l m : List Fl) (hl : HasFls w ao l) (hm : HasFls w bo m) (h1 : l.length ≤ 1000000) (h2 : m.length ≤ 1000000) :
    Calls Try.prog 11 #[.slice ao l.length cap, .slice bo m.length cap2] w fun e w' => e = .returned (.bool (decide (l = m))) ∧ Below w.heap.size w w' := by
  have HL := hidC hl
  have HM := hidC hm
  clear hl hm
  by_cases hn : l.length = m.length
  rotate_left
  · have HQ : Hid (decide (l = m) = false) := decide_eq_false (fun e => hn (by rw [e]))
    have hn' : ((l.length : Int) != (m.length : Int)) = true := by simp; omega
    go_enter Try.func11, Try.ntmps11
    go_wp2_with fail
    go_ret
    rw [HQ.out]
    exact ⟨rfl, Below.refl _ _⟩
  · have hn' : ((l.length : Int) != (m.length : Int)) = false := by simp; omega
    have HN := hidC hn
    have hml : (m.length : Int) = (l.length : Int) := by omega
    go_enter Try.func11, Try.ntmps11
    go_wp2_with fail
    clear hml hn'
    go_loopw [5] (fun s5 wr => ∃ i : Nat, i ≤ l.length ∧ s5 = .int .i64 i ∧ Hid (∀ j, j < i → l[j]? = m[j]?) ∧ Below w.heap.size w wr) (fun s5 _ => l.length - (intOf s5).toNat)
    case atStart => exact ⟨0, by omega, rfl, (fun j hj => absurd hj (by omega)), Below.refl _ _⟩
    case round =>
      obtain ⟨i, hi, rfl, HA, hb⟩ := hrel
      have HB := hidC hb
      clear hb
      by_cases hlt : i < l.length
      · have hlt' : (i : Int) < (l.length : Int) := by omega
        have hltm : (i : Int) < (m.length : Int) := by omega
        obtain ⟨x, hx⟩ : ∃ x, l[i]? = some x := ⟨_, List.getElem?_eq_getElem hlt⟩
        obtain ⟨y, hy⟩ : ∃ y, m[i]? = some y := ⟨_, List.getElem?_eq_getElem (by omega)⟩
        obtain ⟨g, rfl, hg, d0, d1, d2⟩ := (HL.out.below HB.out) i x hx
        obtain ⟨g', rfl, hg', e0, e1, e2⟩ := (HM.out.below HB.out) i y hy
        have HX := hidC hx
        have HY := hidC hy
        clear hx hy hg hg'
        obtain ⟨xd, xc, xa⟩ := x
        obtain ⟨yd, yc, ya⟩ := y
        simp only at d0 d1 d2 e0 e1 e2
        by_cases he : xd = yd ∧ xc = yc ∧ xa = ya
        · obtain ⟨rfl, rfl, rfl⟩ := he
          have HA' : Hid (∀ j, j < i + 1 → l[j]? = m[j]?) := snoc_same HA.out (by rw [HX.out, HY.out])
          have q1 : (xc.toList == xc.toList) = true := beq_self_eq_true _
          go_wp2_with fail
          go_region
          go_wp2_with fail
          all_goals go_roundw
          case rel => exact ⟨i + 1, by omega, by go_num, HA', HB.out.drew⟩
          case measure => simp [intOf] <;> omega
        · have HQ : Hid (decide (l = m) = false) := decide_eq_false (fun e => by
            subst e
            rw [HX.out] at HY
            have := HY.out
            injection this with e
            injection e with a1 a2 a3
            exact he ⟨a1, a2, a3⟩)
          have ways : (xd == yd) = false ∨ (xd = yd ∧ (xc.toList == yc.toList) = false) ∨ (xd = yd ∧ (xc.toList == yc.toList) = true ∧ (xa == ya) = false) := by
            by_cases g0 : xd = yd
            · by_cases g1 : xc = yc
              · have g2 : xa ≠ ya := fun g2 => he ⟨g0, g1, g2⟩
                exact .inr (.inr ⟨g0, by rw [g1]; exact beq_self_eq_true _, by simpa using g2⟩)
              · exact .inr (.inl ⟨g0, beq_eq_false_iff_ne.2 fun e => g1 (bytes_inj e)⟩)
            · exact .inl (by simpa using g0)
          clear he
          rcases ways with f0 | ⟨rfl, f1⟩ | ⟨rfl, f1, f2⟩
          all_goals
            go_wp2_with fail
            go_region
            go_wp2_with fail
            all_goals go_ret
            all_goals rw [HQ.out]
            all_goals exact ⟨rfl, HB.out.drew⟩
      · have hle : i = l.length := by omega
        subst hle
        have HQ : Hid (decide (l = m) = true) := decide_eq_true (List.ext_getElem? fun j => by
          by_cases hj : j < l.length
          · exact HA.out j hj
          · rw [List.getElem?_eq_none (by omega), List.getElem?_eq_none (by have := HN.out; omega)])
        go_wp2_with fail
        go_ret
        rw [HQ.out]
        exact ⟨rfl, HB.out⟩

set_option maxHeartbeats 8000000 in
set_option maxRecDepth 100000 in
theorem sameW_any (w : World) (ao bo : Option Addr) (cap cap2 : Nat) (l m : List Wt) (hl : HasWts w ao l) (hm : HasWts w bo m) (h1 : l.length ≤ 1000000) (h2 : m.length ≤ 1000000) :
    Calls Try.prog 14 #[.slice ao l.length cap, .slice bo m.length cap2] w fun e w' => e = .returned (.bool (decide (l = m))) ∧ Below w.heap.size w w' := by
  have HL := hidC hl
  have HM := hidC hm
  clear hl hm
  by_cases hn : l.length = m.length
  rotate_left
  · have HQ : Hid (decide (l = m) = false) := decide_eq_false (fun e => hn (by rw [e]))
    have hn' : ((l.length : Int) != (m.length : Int)) = true := by simp; omega
    go_enter Try.func14, Try.ntmps14
    go_wp2_with fail
    go_ret
    rw [HQ.out]
    exact ⟨rfl, Below.refl _ _⟩
  · have hn' : ((l.length : Int) != (m.length : Int)) = false := by simp; omega
    have HN := hidC hn
    have hml : (m.length : Int) = (l.length : Int) := by omega
    go_enter Try.func14, Try.ntmps14
    go_wp2_with fail
    clear hml hn'
    go_loopw [5] (fun s5 wr => ∃ i : Nat, i ≤ l.length ∧ s5 = .int .i64 i ∧ Hid (∀ j, j < i → l[j]? = m[j]?) ∧ Below w.heap.size w wr) (fun s5 _ => l.length - (intOf s5).toNat)
    case atStart => exact ⟨0, by omega, rfl, (fun j hj => absurd hj (by omega)), Below.refl _ _⟩
    case round =>
      obtain ⟨i, hi, rfl, HA, hb⟩ := hrel
      have HB := hidC hb
      clear hb
      by_cases hlt : i < l.length
      · have hlt' : (i : Int) < (l.length : Int) := by omega
        have hltm : (i : Int) < (m.length : Int) := by omega
        obtain ⟨x, hx⟩ : ∃ x, l[i]? = some x := ⟨_, List.getElem?_eq_getElem hlt⟩
        obtain ⟨y, hy⟩ : ∃ y, m[i]? = some y := ⟨_, List.getElem?_eq_getElem (by omega)⟩
        obtain ⟨g, rfl, hg, d0, d1, d2, d3, d4⟩ := (HL.out.below HB.out) i x hx
        obtain ⟨g', rfl, hg', e0, e1, e2, e3, e4⟩ := (HM.out.below HB.out) i y hy
        have HX := hidC hx
        have HY := hidC hy
        clear hx hy hg hg'
        obtain ⟨c, nm, lb, d, s⟩ := x
        obtain ⟨xc, xn, xl, xd, xs⟩ := y
        simp only at d0 d1 d2 d3 d4 e0 e1 e2 e3 e4
        by_cases he : c = xc ∧ nm = xn ∧ lb = xl ∧ d = xd ∧ s = xs
        · obtain ⟨rfl, rfl, rfl, rfl, rfl⟩ := he
          have HA' : Hid (∀ j, j < i + 1 → l[j]? = m[j]?) := snoc_same HA.out (by rw [HX.out, HY.out])
          have q1 : (nm.toList == nm.toList) = true := beq_self_eq_true _
          have q2 : (lb.toList == lb.toList) = true := beq_self_eq_true _
          go_wp2_with fail
          go_region
          go_wp2_with fail
          all_goals go_roundw
          case rel => exact ⟨i + 1, by omega, by go_num, HA', HB.out.drew⟩
          case measure => simp [intOf] <;> omega
        · have HQ : Hid (decide (l = m) = false) := decide_eq_false (fun e => by
            subst e
            rw [HX.out] at HY
            have := HY.out
            injection this with e
            injection e with a1 a2 a3 a4 a5
            exact he ⟨a1, a2, a3, a4, a5⟩)
          have ways : (c = true ∧ xc = false) ∨ (c = false ∧ xc = true) ∨ (c = xc ∧ (nm.toList == xn.toList) = false) ∨ (c = xc ∧ (nm.toList == xn.toList) = true ∧ (lb.toList == xl.toList) = false) ∨ (c = xc ∧ (nm.toList == xn.toList) = true ∧ (lb.toList == xl.toList) = true ∧ (d == xd) = false) ∨ (c = xc ∧ (nm.toList == xn.toList) = true ∧ (lb.toList == xl.toList) = true ∧ (d == xd) = true ∧ (s == xs) = false) := by
            by_cases g0 : c = xc
            · by_cases g1 : nm = xn
              · by_cases g2 : lb = xl
                · by_cases g3 : d = xd
                  · have g4 : s ≠ xs := fun g4 => he ⟨g0, g1, g2, g3, g4⟩
                    exact .inr (.inr (.inr (.inr (.inr ⟨g0, by rw [g1]; exact beq_self_eq_true _, by rw [g2]; exact beq_self_eq_true _, by simpa using g3, by simpa using g4⟩))))
                  · exact .inr (.inr (.inr (.inr (.inl ⟨g0, by rw [g1]; exact beq_self_eq_true _, by rw [g2]; exact beq_self_eq_true _, by simpa using g3⟩))))
                · exact .inr (.inr (.inr (.inl ⟨g0, by rw [g1]; exact beq_self_eq_true _, beq_eq_false_iff_ne.2 fun e => g2 (bytes_inj e)⟩)))
              · exact .inr (.inr (.inl ⟨g0, beq_eq_false_iff_ne.2 fun e => g1 (bytes_inj e)⟩))
            · cases c <;> cases xc <;> simp at g0 ⊢
          clear he
          rcases ways with ⟨rfl, rfl⟩ | ⟨rfl, rfl⟩ | ⟨rfl, f1⟩ | ⟨rfl, f1, f2⟩ | ⟨rfl, f1, f2, f3⟩ | ⟨rfl, f1, f2, f3, f4⟩
          all_goals
            go_wp2_with fail
            go_region
            go_wp2_with fail
            all_goals go_ret
            all_goals rw [HQ.out]
            all_goals exact ⟨rfl, HB.out.drew⟩
      · have hle : i = l.length := by omega
        subst hle
        have HQ : Hid (decide (l = m) = true) := decide_eq_true (List.ext_getElem? fun j => by
          by_cases hj : j < l.length
          · exact HA.out j hj
          · rw [List.getElem?_eq_none (by omega), List.getElem?_eq_none (by have := HN.out; omega)])
        go_wp2_with fail
        go_ret
        rw [HQ.out]
        exact ⟨rfl, HB.out⟩

end Go.Proofs.Ytcdkejnnbbkecaa.Ca
namespace Go.Proofs.Ytcdkejnnbbkecaa.Ca
open Go.RowKit Wd Cn Vl
set_option linter.unusedVariables false

theorem rowFl_len (l : List Fl) : (rowFl l).length = l.length * 3 := by
  induction l with
  | nil => rfl
  | cons x l ih =>
    have e : rowFl (x :: l) = Fl.cells x ++ rowFl l := by simp [rowFl]
    rw [e, List.length_append, ih]
    simp [Fl.cells]
    omega
theorem rowFl_one (l : List Fl) : ∀ u ∈ rowFl l, u.oneCell' = true := by
  intro u hu
  unfold rowFl at hu
  obtain ⟨x, _, hx⟩ := List.mem_flatMap.1 hu
  simp [Fl.cells] at hx
  rcases hx with rfl | rfl | rfl <;> rfl
theorem fl_cellAt {w : World} {B n g cap : Nat} {m : List Fl} (h : w.ownsRow B 44 3 (.slice (some ⟨g, 0, none⟩) n cap) m.length (rowFl m)) (j : Nat) (hj : j < m.length * 3) : w.cell? ⟨g, j, none⟩ = (rowFl m)[j]? := by
  have hlt : j < (rowFl m).length := by rw [rowFl_len]; exact hj
  have := h.cells (g := g) rfl j _ (List.getElem?_eq_getElem hlt)
  rw [Addr.add_lit, Nat.zero_add] at this
  rw [this, List.getElem?_eq_getElem hlt]
theorem wpList_append_fls {ops : Array Oper} {rest : List Oper} {o : Oper} {a : Act} {Q : Exit → Act → World → Prop} (w : World) (hgd : o.guard = none) (s x : Operand)
    (ho : o.op = .call { callee := .builtin .append, args := #[s, x], argTypes := #[37, 37] })
    (base : Nat) (v : Value) (l : List Fl) (hs : a.eval s = v) (hown : w.ownsRow base 44 3 v l.length (rowFl l))
    (B : Nat) (xv : Value) (m : List Fl) (hx : a.eval x = xv) (hox : w.ownsRow B 44 3 xv m.length (rowFl m)) (hlen : l.length + m.length ≤ 1000000) (hbase : base ≤ w.heap.size)
    (h : ∀ v' w', w'.ownsRow base 44 3 v' (l ++ m).length (rowFl (l ++ m)) → w.grownBy w' v.ownBlock → (v'.ownBlock = v.ownBlock ∨ v'.ownBlock = some w.heap.size) → wpList Try.prog ops Q rest (a.put o.dst v') w') : wpList Try.prog ops Q (o :: rest) a w := by
  obtain ⟨i0, gi, gz0, gz1, gz2⟩ := info_parts infoFl
  have hox2 := hox
  rcases hox2.2 with ⟨rfl, h0⟩ | ⟨g, cap, cur, rfl, hb, hg, hnc, hcm, _⟩
  · have hm : m = [] := List.length_eq_zero_iff.1 h0
    subst hm
    refine wpList_append_own_none hgd s x 37 ho base 44 i0 3 Try.underlying37 gi v l.length (rowFl l) hs hown hx ?_
    exact h v w (by simpa using hown) (grownBy_refl w _) (.inl rfl)
  · refine wpList_append_own_at w hgd s x 37 ho base 44 i0 (.agg #[.int .i64 0, .string ByteArray.empty, .int .i64 0]) 3 32 Try.underlying37 gi gz0 gz1 gz2 rfl (by decide) v l.length (rowFl l) hs hown ⟨g, 0, none⟩ m.length cap (rowFl m) hx (rowFl_len m) ?_ ?_ (by unfold maxLen; omega) (by omega) hbase ?_
    · intro j u hj
      rw [Addr.add_lit, Nat.zero_add]
      have hjl : j < m.length * 3 := by
        have := (List.getElem?_eq_some_iff.1 hj).1
        rwa [rowFl_len] at this
      rw [fl_cellAt hox j hjl]
      exact hj
    · intro u hu
      exact rowFl_one m u hu
    · intro v' w' h1 h2 _ h3
      refine h v' w' ?_ h2 h3
      rw [rowFl_app, List.length_append]
      exact h1
theorem wpList_append_fls_met {ops : Array Oper} {rest : List Oper} {o : Oper} {a : Act} {Q : Exit → Act → World → Prop} (w : World) (hw : Region.wanted o (yielded ops a.tmps) = true) (s x : Operand)
    (ho : o.op = .call { callee := .builtin .append, args := #[s, x], argTypes := #[37, 37] })
    (base : Nat) (v : Value) (l : List Fl) (hs : a.eval s = v) (hown : w.ownsRow base 44 3 v l.length (rowFl l))
    (B : Nat) (xv : Value) (m : List Fl) (hx : a.eval x = xv) (hox : w.ownsRow B 44 3 xv m.length (rowFl m)) (hlen : l.length + m.length ≤ 1000000) (hbase : base ≤ w.heap.size)
    (h : ∀ v' w', w'.ownsRow base 44 3 v' (l ++ m).length (rowFl (l ++ m)) → w.grownBy w' v.ownBlock → wpList Try.prog ops Q rest (a.put o.dst v') w') : wpList Try.prog ops Q (o :: rest) a w := by
  obtain ⟨i0, gi, gz0, gz1, gz2⟩ := info_parts infoFl
  have hox2 := hox
  simp only [wpList, hw, if_true]
  rcases hox2.2 with ⟨rfl, h0⟩ | ⟨g, cap, cur, rfl, hb, hg, hnc, hcm, _⟩
  · have hm : m = [] := List.length_eq_zero_iff.1 h0
    subst hm
    left
    have hrun := run_append_owned_none (P := Try.prog) (w := w) base 37 o.type 44 i0 3 Try.underlying37 gi v l.length (rowFl l) hown
    have hk := h v w (by simpa using hown) (grownBy_refl w _)
    unfold Oper.wp
    simp [execOp, ho, resolve, invoke, builtin, hs, hx, hrun, Result.andThen]
    exact hk
  · left
    refine wp_append_own w s x 37 ho base 44 i0 (.agg #[.int .i64 0, .string ByteArray.empty, .int .i64 0]) 3 32 Try.underlying37 gi gz0 gz1 gz2 rfl (by decide) v l.length (rowFl l) hs hown ⟨g, 0, none⟩ m.length cap (rowFl m) hx (rowFl_len m) ?_ ?_ (by unfold maxLen; omega) (by omega) hbase ?_
    · intro j u hj
      rw [Addr.add_lit, Nat.zero_add]
      have hjl : j < m.length * 3 := by
        have := (List.getElem?_eq_some_iff.1 hj).1
        rwa [rowFl_len] at this
      rw [fl_cellAt hox j hjl]
      exact hj
    · intro u hu
      exact rowFl_one m u hu
    · intro v' w' h1 h2 _
      refine h v' w' ?_ h2
      rw [rowFl_app, List.length_append]
      exact h1

def Fl.neg (x : Fl) : Fl := ⟨x.day, x.cur, -x.amt⟩
theorem neg_times (l : List Fl) : l.map (Fl.times (-1)) = l.map Fl.neg := List.map_congr_left fun x _ => by simp [Fl.times, Fl.neg]
theorem neg_neg' (l : List Fl) : (l.map Fl.neg).map Fl.neg = l := by
  rw [List.map_map]
  conv => rhs; rw [← List.map_id l]
  exact List.map_congr_left fun x _ => by simp [Fl.neg]
theorem neg_snoc (l : List Fl) (i : Nat) (x : Fl) (h : l[i]? = some x) : (l.take (i + 1)).map Fl.neg = (l.take i).map Fl.neg ++ [x.neg] := by
  rw [take_more l i x h, List.map_append]
  rfl
/-- A row of payments in memory. -/
def FlRow (w : World) (B : Nat) (v : Value) (l : List Fl) : Prop := w.ownsRow B 44 3 v l.length (rowFl l)

set_option maxHeartbeats 4000000 in
set_option maxRecDepth 100000 in
theorem turned_any (w : World) (ao : Option Addr) (cap : Nat) (l : List Fl) (hl : HasFls w ao l) (hn : l.length ≤ 1000) (hv : ∀ x ∈ l, vB x.amt = true) :
    Calls Try.prog 12 #[.slice ao l.length cap] w fun e w' => ∃ v, e = .returned v ∧ FlRow w' w.heap.size v (l.map Fl.neg) ∧ Below w.heap.size w w' := by
  obtain ⟨i0, hi, hz⟩ := Option.map_eq_some_iff.1 infoFl
  simp only [Prod.mk.injEq] at hz
  obtain ⟨hz0, hz1, hz2⟩ := hz
  have HL := hidC hl
  have HV := hidC hv
  clear hl hv
  go_enter Try.func12, Try.ntmps12
  go_wp2_with fail
  go_loopw [8, 3] (fun s8 s3 wr => ∃ i : Nat, i ≤ l.length ∧ s8 = .int .i64 i ∧ FlRow wr w.heap.size s3 ((l.take i).map Fl.neg) ∧ Below w.heap.size w wr) (fun s8 _ _ => l.length - (intOf s8).toNat)
  case atStart => exact ⟨0, by omega, rfl, World.ownsRow_nil _ _ _ _, Below.refl _ _⟩
  case round =>
    obtain ⟨i, hi', rfl, hrow, hb⟩ := hrel
    obtain ⟨vo, vc, rfl⟩ := row_shape hrow
    have HROW := hidC hrow
    have HB := hidC hb
    clear hrow hb
    by_cases hlt : i < l.length
    · have hlt' : (i : Int) < (l.length : Int) := by omega
      obtain ⟨x, hx⟩ : ∃ x, l[i]? = some x := ⟨_, List.getElem?_eq_getElem hlt⟩
      have HSN := hidC (neg_snoc l i x hx)
      have hvx := vB_i64 (HV.out x (List.mem_of_getElem? hx))
      obtain ⟨g, rfl, hg, d0, d1, d2⟩ := (HL.out.below HB.out) i x hx
      have hal : ((l.take i).map Fl.neg).length ≤ 1000 := by rw [List.length_map, List.length_take]; omega
      obtain ⟨xd, xc, xa⟩ := x
      simp only at d0 d1 d2 hvx
      obtain ⟨hv1, hv2⟩ := hvx
      clear hx hg
      have HB1 := hidC (below_alloc HB.out (.cells #[.int .i64 xd, .string xc, .int .i64 xa] 44))
      have HROW1 : Hid (FlRow (wr.alloc (.cells #[.int .i64 xd, .string xc, .int .i64 xa] 44)) w.heap.size (.slice vo ((l.take i).map Fl.neg).length vc) ((l.take i).map Fl.neg)) := World.ownsRow.alloc HROW.out _
      generalize (l.take i).map Fl.neg = ac at *
      go_wp2_with (first
        | (at_builtin; refine wpList_append_own _ rfl _ _ 37 rfl w.heap.size 44 i0 (.agg #[.int .i64 0, .string ByteArray.empty, .int .i64 0]) 3 32 Try.underlying37 hi hz0 hz1 hz2 rfl (by decide) _ _ _ rfl (World.ownsRow.alloc HROW1.out _) ⟨wr.heap.size + 1, 0, none⟩ 1 1 [.int .i64 xd, .string xc, .int .i64 (-xa)] rfl rfl (by intro j u hj; rw [Addr.add_lit, Nat.zero_add]; have hs := heap_alloc_new (wr.alloc (.cells #[.int .i64 xd, .string xc, .int .i64 xa] 44)) (.cells #[.int .i64 xd, .string xc, .int .i64 (-xa)] 44); rw [size_alloc] at hs; rw [cell_of_row _ _ _ _ _ _ hs]; simpa using hj) (by intro u hu; simp at hu; rcases hu with rfl | rfl | rfl <;> rfl) (by unfold maxLen; omega) (by omega) (by have := HB.out.size; simp; omega) ?_; intro v4 w4 hown4 hgrow4 _)
        | go_in)
      have HR4 : Hid (FlRow w4 w.heap.size v4 (ac ++ [(⟨xd, xc, -xa⟩ : Fl)])) := by
        unfold Hid FlRow
        rw [rowFl_app, List.length_append]
        exact hown4
      have HB4 : Hid (Below w.heap.size w w4) := (below_alloc HB1.out _).grown hgrow4 (by have := HB.out.size; simp; omega) (fun j hj => (World.ownsRow.lt HROW.out j hj).1)
      clear hown4 hgrow4
      go_wp2_with fail
      go_roundw
      case rel => exact ⟨i + 1, by omega, by go_num, by rw [HSN.out]; exact HR4.out, HB4.out⟩
      case measure => simp [intOf] <;> omega
    · have hle : i = l.length := by omega
      subst hle
      rw [List.take_length] at HROW
      go_wp2_with fail
      go_ret
      exact ⟨_, rfl, by rw [List.take_length]; exact HROW.out, HB.out⟩

set_option maxHeartbeats 1000000 in
theorem copyF_any (w : World) (B : Nat) (v : Value) (l : List Fl) (h : FlRow w B v l) (hn : l.length ≤ 1000) :
    Calls Try.prog 13 #[v] w fun e w' => ∃ v', e = .returned v' ∧ FlRow w' w.heap.size v' l ∧ Below w.heap.size w w' := by
  go_enter Try.func13, Try.ntmps13
  go_wp2_with (first
    | (at_builtin; refine wpList_append_fls _ rfl _ _ rfl w.heap.size _ [] rfl (World.ownsRow_nil _ _ _ _) B v l rfl h (by simp; omega) (Nat.le_refl _) ?_; intro v4 w4 hown4 hgrow4 _)
    | go_in)
  have hb : Below w.heap.size w w4 := (Below.refl w.heap.size w).grown hgrow4 (Nat.le_refl _) (fun j hj => by cases hj)
  have HB := hidC hb
  have HO := hidC hown4
  clear hb hown4 hgrow4
  go_wp2_with fail
  go_ret
  have h9 := HO.out
  rw [List.nil_append] at h9
  exact ⟨_, rfl, h9, HB.out⟩

theorem ofK_give {K : KW} (hK : KW.Vals K) (id : ByteArray) (x : C) (d : Int) (hx : chkC x = 0) (ht : chkC (.give x) = 0) (h1 : 0 ≤ d) (h2 : d ≤ 10000) (h0 : (ofK K id x d).e = 0) :
    (ofK K id (.give x) d).e = 0 ∧ (ofK K id (.give x) d).f = (ofK K id x d).f.map Fl.neg ∧ (ofK K id (.give x) d).w = (ofK K id x d).w.map (Wt.turn (-1)) := by
  rw [ofK_e hx h1 h2] at h0
  have he : ck K id (.give x) d 1 = ck K id x d (-1) := rfl
  have hh := ck_times K hK id (-1) (by decide) x (chkC_ok hx).1 d (-1) (by decide) (by rw [show (-1 : Int) * -1 = 1 by decide]; exact h0)
  obtain ⟨g1, g2, g3⟩ := hh
  have e1 : (-1 : Int) * -1 = 1 := by decide
  rw [e1] at g2 g3
  rw [ofK_e ht h1 h2, ofK_at hx h1 h2, ofK_at ht h1 h2, he, if_pos h0, if_pos g1]
  refine ⟨g1, ?_, ?_⟩
  · simp only
    rw [g2, neg_times, neg_neg']
  · simp only
    rw [g3]
    have := addW_turn (-1) (ck K id x d (-1)).w []
    rw [List.map_nil] at this
    rw [this, List.map_map]
    conv => lhs; rw [← List.map_id (addW [] (ck K id x d (-1)).w)]
    exact List.map_congr_left fun y _ => (turn_turn (-1) y).symm
theorem ofK_and {K : KW} (id : ByteArray) (x y : C) (d : Int) (hx : chkC x = 0) (hy : chkC y = 0) (ht : chkC (.and x y) = 0) (h1 : 0 ≤ d) (h2 : d ≤ 10000) (e1 : (ofK K id x d).e = 0) (e2 : (ofK K id y d).e = 0) :
    (ofK K id (.and x y) d).e = 0 ∧ (ofK K id (.and x y) d).f = (ofK K id x d).f ++ (ofK K id y d).f := by
  rw [ofK_e hx h1 h2] at e1
  rw [ofK_e hy h1 h2] at e2
  have he : ck K id (.and x y) d 1 = ⟨(ck K id x d 1).f ++ (ck K id y d 1).f, (ck K id x d 1).w ++ (ck K id y d 1).w, (ck K id y d 1).e⟩ := by
    simp only [ck, Ck.seq]
    rw [if_neg (by simpa using e1)]
  rw [ofK_e ht h1 h2, ofK_at hx h1 h2, ofK_at hy h1 h2, ofK_at ht h1 h2, he]
  simp only
  rw [if_pos e2, if_pos e2, if_pos e1]
  exact ⟨e2, rfl⟩
theorem ofK_when {K : KW} (id : ByteArray) (x : C) (d n m : Int) (hx : chkC x = 0) (ht : chkC (.when n x) = 0) (h1 : 0 ≤ d) (h2 : d ≤ 10000) (hm : Max.max d n = m) (h3 : m ≤ 10000) : ofK K id (.when n x) d = ofK K id x m := by
  rw [ofK_at ht h1 h2, ofK_at hx (by omega) h3]
  simp only [ck, hm]

end Go.Proofs.Ytcdkejnnbbkecaa.Ca
namespace Go.Proofs.Ytcdkejnnbbkecaa.Ca
open Go.RowKit Wd Cn Vl
set_option linter.unusedVariables false

theorem ofK_none {K : KW} {id : ByteArray} {c : C} {d : Int} (h : (ofK K id c d).e ≠ 0) : (ofK K id c d).f = [] ∧ (ofK K id c d).w = [] := by
  unfold ofK at h ⊢
  split
  · rename_i h1
    rw [if_pos h1] at h
    split
    · rename_i h2
      rw [if_pos h2] at h
      exact absurd rfl h
    · exact ⟨rfl, rfl⟩
  · exact ⟨rfl, rfl⟩
/-- What cash.Of answers: rows of the call's own. -/
def OfOwn (w : World) (x : Ck) (e : Ending) (w' : World) : Prop := ∃ ao cap bo cap2, e = .returned (.tuple #[.slice ao x.f.length cap, .slice bo x.w.length cap2, .int .i64 x.e]) ∧ FlRow w' w.heap.size (.slice ao x.f.length cap) x.f ∧ HasFls w' ao x.f ∧ HasWts w' bo x.w ∧ Below w.heap.size w w'
theorem cash_own (c : C) (hok : c.Ok) (hsz : c.weight ≤ 1000000) (w : World) (p f q : Nat) (K : KW) (id : ByteArray) (hE : Env w p f q K id) (d : Int) (hd : dayOk d) (x : Ck) (hx : ofK K id c d = x) :
    Calls Try.prog 8 #[.string id, c.val, .int .i64 d, .pointer (some ⟨p, 0, none⟩)] w (OfOwn w x) := by
  refine (cash_any c hok hsz w p f q K id hE d hd).mono ?_
  rintro e w' ⟨vF, vW, rfl, h1, h2, hb⟩
  rw [hx] at h1 h2
  have h1' := h1
  obtain ⟨ao, cap, rfl, h3⟩ := own_fls h1
  obtain ⟨bo, cap2, rfl, h4⟩ := own_wts h2
  exact ⟨ao, cap, bo, cap2, by rw [hx], h1', h3, h4, hb⟩
theorem below_drewN {B : Nat} {w w' : World} (h : Below B w w') (n : Nat) : Below B w (w'.drewN n) := ⟨h.os, h.tape, h.output, h.size, h.block⟩
theorem turn_one {l : List Wt} {i : Nat} {y : Wt} (h : l[i]? = some y) : (l.map (Wt.turn (-1)))[i]? = some ⟨y.ch, y.name, y.label, y.day, if y.ch = true then 1 - y.side else y.side⟩ := by
  rw [List.getElem?_map, h]
  simp only [Option.map_some, Option.some.injEq, Wt.turn]
  cases hc : y.ch
  · simp; cases y; simp at hc; simp [hc]
  · simp

theorem mix3_named {P : Program} {id : Nat} {Q : Exit → Act → World → Prop} {a : Act} {w : World} {l : List Oper} (C C2 : World → Prop) (jj : Nat) (plan : List (Nat × Bool)) (hm : P.follows .mixedOrders = true)
    (hB : (Region.noSelect l.toArray && Mx.planB .any l.toArray plan (Array.replicate l.length false) && plan.length == l.length) = true) (hC : C w.drew)
    (h : ∀ ops : Array Oper, ops = l.toArray → Mx.mix3 P ops C C2 jj (fun a w => Q .normal a w) false (plan.map fun p => (l.getD p.1 default, p.1, p.2)) a w.drew) (hin : (plan.all (fun p => p.1 < l.length) && decide (jj < l.length)) = true) : (Code.region id l.toArray true).wp P Q a w :=
  Mx.wp_region_mix3 C C2 jj plan hm hB hC (h _ rfl) hin
theorem region_class_named {P : Program} (C : World → Prop) {id : Nat} {Q : Exit → Act → World → Prop} {a : Act} {w : World} {l : List Oper} (hm : P.follows .mixedOrders = true) (hB : Region.lexB .any l.toArray = true) (hC : C w.drew)
    (h : ∀ ops : Array Oper, ops = l.toArray → wpQuiet P ops C (fun a' => ∀ w', C w' → Q .normal a' w') l a) : (Code.region id l.toArray true).wp P Q a w :=
  wp_region_class C hm hB hC (h _ rfl)
structure Box (G : Prop) : Prop where
  out : G
/-- What CashLaws is to come to. -/
def Laws10 : Prop := ∀ (pl ql : Pl) (la : Option Addr) (ll lc : Nat) (lf : Nat → Int) (ca : Option Addr) (cl cc : Nat) (cf : Nat → Int) (day when : Int) (w : World) (hp : PlanIn w pl) (hq : PlanIn w ql) (hl : HasInts w la ll lf) (hll : ll ≤ 9223372036854775807) (hc : HasInts w ca cl cf) (hcl : cl ≤ 9223372036854775807) (hd1 : -9223372036854775808 ≤ day) (hd2 : day ≤ 9223372036854775807) (hn1 : -9223372036854775808 ≤ when) (hn2 : when ≤ 9223372036854775807),
    Calls Try.prog 3 #[planV pl, planV ql, .slice la ll lc, .slice ca cl cc, .int .i64 day, .int .i64 when] w fun e w' => e = .returned (.bool true) ∧ Below w.heap.size w w'
set_option maxHeartbeats 40000000 in
set_option maxRecDepth 100000 in
def laws10_1 : {G : Prop // Box G → Laws10} := by
  refine' ⟨_, fun hG => ?_⟩
  rotate_left
  focus
    intro pl ql la ll lc lf ca cl cc cf day when w hp hq hl hll hc hcl hd1 hd2 hn1 hn2
    have HWD := hidC (fun w : World => within_any day 7 w (by omega) (by omega) hd1 hd2)
    have HWN := hidC (fun w : World => within_any when 9 w (by omega) (by omega) hn1 hn2)
    obtain ⟨d, hd⟩ : ∃ d, day % 7 = d := ⟨_, rfl⟩
    obtain ⟨n, hn⟩ : ∃ n, when % 9 = n := ⟨_, rfl⟩
    have hdd1 : 0 ≤ d := by omega
    have hdd2 : d < 7 := by omega
    have hnn1 : 0 ≤ n := by omega
    have hnn2 : n < 9 := by omega
    rw [hd] at HWD
    rw [hn] at HWN
    clear hd hn hn1 hn2 hd1 hd2
    have HP := hidC hp
    have HQ := hidC hq
    have HL := hidC hl
    have HCI := hidC hc
    clear hp hq hl hc
    unfold planV
    go_enter Try.func3, Try.ntmps3
    go_wp2_with fail
    have HB0 := hidC (below_alloc (below_alloc (Below.refl w.heap.size w) (.cells #[.slice pl.na pl.nl pl.nc, .slice pl.wa pl.wl pl.wc] 25)) (.cells #[.slice ql.na ql.nl ql.nc, .slice ql.wa ql.wl ql.wc] 25))
    have hx0 : ((w.alloc (.cells #[.slice pl.na pl.nl pl.nc, .slice pl.wa pl.wl pl.wc] 25)).alloc (.cells #[.slice ql.na ql.nl ql.nc, .slice ql.wa ql.wl ql.wc] 25)).heap[w.heap.size]? = some (.cells #[.slice pl.na pl.nl pl.nc, .slice pl.wa pl.wl pl.wc] 25) := heap_keeps (heap_alloc_new _ _) _
    have hx1 : ((w.alloc (.cells #[.slice pl.na pl.nl pl.nc, .slice pl.wa pl.wl pl.wc] 25)).alloc (.cells #[.slice ql.na ql.nl ql.nc, .slice ql.wa ql.wl ql.wc] 25)).heap[w.heap.size + 1]? = some (.cells #[.slice ql.na ql.nl ql.nc, .slice ql.wa ql.wl ql.wc] 25) := alloc_1 _ _ _
    have HX0 := hidC hx0
    have HX1 := hidC hx1
    clear hx0 hx1
    generalize (w.alloc (.cells #[.slice pl.na pl.nl pl.nc, .slice pl.wa pl.wl pl.wc] 25)).alloc (.cells #[.slice ql.na ql.nl ql.nc, .slice ql.wa ql.wl ql.wc] 25) = V at *
    have HFC : Hid (∀ w', Below V.heap.size V w' → w'.cell? ⟨w.heap.size, 0, none⟩ = some (.slice pl.na pl.nl pl.nc) ∧ w'.cell? ⟨w.heap.size, 1, none⟩ = some (.slice pl.wa pl.wl pl.wc) ∧ w'.cell? ⟨w.heap.size + 1, 0, none⟩ = some (.slice ql.na ql.nl ql.nc) ∧ w'.cell? ⟨w.heap.size + 1, 1, none⟩ = some (.slice ql.wa ql.wl ql.wc)) := fun w' hw' => by
      have h0 := (hw'.block _ (Array.getElem?_eq_some_iff.1 HX0.out).1).trans HX0.out
      have h1 := (hw'.block _ (Array.getElem?_eq_some_iff.1 HX1.out).1).trans HX1.out
      exact ⟨cell_of_row _ _ 0 _ _ _ h0, cell_of_row _ _ 1 _ _ _ h0, cell_of_row _ _ 0 _ _ _ h1, cell_of_row _ _ 1 _ _ _ h1⟩
    have HC0 := hidC (below_drew (Below.refl V.heap.size V))
    obtain ⟨c, hcx⟩ : ∃ c, rightP pl = c := ⟨_, rfl⟩
    obtain ⟨cy, hcy⟩ : ∃ cy, rightP ql = cy := ⟨_, rfl⟩
    have HCHK : Hid (chkC c = 0) := by rw [← hcx]; exact rightP_chk pl
    have HOK : Hid c.Ok := by rw [← hcx]; exact rightP_ok pl
    have HCHKY : Hid (chkC cy = 0) := by rw [← hcy]; exact rightP_chk ql
    have HOKY : Hid cy.Ok := by rw [← hcy]; exact rightP_ok ql
    have HT1 := hidC (fun (X : World) (v : Value) (ht : TIn X 0 (plainC (rightP pl)) v) => right_term ht)
    have HT2 := hidC (fun (X : World) (v : Value) (ht : TIn X 0 (plainC (rightP ql)) v) => right_term ht)
    have HR1 := hidC (fun (X : World) (hX : Below w.heap.size w X) => right_made HP.out hX)
    have HR2 := hidC (fun (X : World) (hX : Below w.heap.size w X) => right_made HQ.out hX)
    rw [hcx] at HT1 HR1
    rw [hcy] at HT2 HR2
    obtain ⟨tc, xc, hval⟩ := form_val c (chkC_ok HCHK.out).1
    obtain ⟨tc2, xc2, hval2⟩ := form_val cy (chkC_ok HCHKY.out).1
    have HVAL := hidC hval
    have HVAL2 := hidC hval2
    have HWT : Hid (c.weight ≤ 60) := by unfold Hid; rw [form_weight c (chkC_ok HCHK.out).1]; exact (chkC_ok HCHK.out).2.1
    have HWTY : Hid (cy.weight ≤ 60) := by unfold Hid; rw [form_weight cy (chkC_ok HCHKY.out).1]; exact (chkC_ok HCHKY.out).2.1
    rw [hval] at HT1
    rw [hval2] at HT2
    clear hcx hcy hval hval2 HP HQ
    refine Mx.wp_region_mix (fun w' => Below V.heap.size V w') [(0, false), (3, false), (1, true), (2, true), (4, true), (5, true), (6, false), (7, false)] (by kernel_rfl) (by kernel_rfl) HC0.out ?_ (by kernel_rfl)
    simp only [List.map_cons, List.map_nil, List.getD_cons_zero, List.getD_cons_succ]
    generalize hops : (#[_, _, _, _, _, _, _, _] : Array Oper) = ops
    clear hops
    refine Mx.m_pure (.agg #[.slice pl.na pl.nl pl.nc, .slice pl.wa pl.wl pl.wc]) (Mx.wanted_none rfl) (fun w' hw' => ?_) ?_
    · obtain ⟨q0, q1, q2, q3⟩ := HFC.out w' hw'
      go_simp
    simp only [Act.put, List.setIfInBounds_toArray, List.set_cons_zero, List.set_cons_succ]
    refine Mx.m_pure (.agg #[.slice ql.na ql.nl ql.nc, .slice ql.wa ql.wl ql.wc]) (Mx.wanted_none rfl) (fun w' hw' => ?_) ?_
    · obtain ⟨q0, q1, q2, q3⟩ := HFC.out w' hw'
      go_simp
    simp only [Act.put, List.setIfInBounds_toArray, List.set_cons_zero, List.set_cons_succ]
    refine Mx.m_call 5 #[.agg #[.slice pl.na pl.nl pl.nc, .slice pl.wa pl.wl pl.wc]] (Mx.wanted_none rfl) ?_ ?_
    · go_simp
    refine (HR1.out _ (HB0.out.trans (HC0.out.mono HB0.out.size))).mono ?_
    rintro e wa1 ⟨ta, rfl, hb, ht⟩
    have HZ1 := hidC (HC0.out.trans (hb.mono HC0.out.size))
    have HTVta := hidC ht
    refine ⟨_, rfl, HZ1.out, ?_⟩
    clear hb ht
    simp only [Act.put, List.setIfInBounds_toArray, List.set_cons_zero, List.set_cons_succ]
    refine Mx.m_call 4 #[ta] (Mx.wanted_none rfl) ?_ ?_
    · go_simp
    refine (HT1.out _ _ HTVta.out).mono ?_
    rintro e wa2 ⟨rfl, hb⟩
    have HZ2 := hidC (HZ1.out.trans (hb.mono HZ1.out.size))
    refine ⟨_, rfl, HZ2.out, ?_⟩
    clear hb
    simp only [Act.put, List.setIfInBounds_toArray, List.set_cons_zero, List.set_cons_succ]
    refine Mx.m_call 5 #[.agg #[.slice ql.na ql.nl ql.nc, .slice ql.wa ql.wl ql.wc]] (Mx.wanted_none rfl) ?_ ?_
    · go_simp
    refine (HR2.out _ (HB0.out.trans (HZ2.out.mono HB0.out.size))).mono ?_
    rintro e wa3 ⟨tb, rfl, hb, ht⟩
    have HZ3 := hidC (HZ2.out.trans (hb.mono HZ2.out.size))
    have HTVtb := hidC ht
    refine ⟨_, rfl, HZ3.out, ?_⟩
    clear hb ht
    simp only [Act.put, List.setIfInBounds_toArray, List.set_cons_zero, List.set_cons_succ]
    refine Mx.m_call 4 #[tb] (Mx.wanted_none rfl) ?_ ?_
    · go_simp
    refine (HT2.out _ _ HTVtb.out).mono ?_
    rintro e wa4 ⟨rfl, hb⟩
    have HZ4 := hidC (HZ3.out.trans (hb.mono HZ3.out.size))
    refine ⟨_, rfl, HZ4.out, ?_⟩
    clear hb
    simp only [Act.put, List.setIfInBounds_toArray, List.set_cons_zero, List.set_cons_succ]
    refine Mx.m_pure (.iface tc xc) (Mx.wanted_none rfl) (fun w' hw' => ?_) ?_
    · go_simp
    simp only [Act.put, List.setIfInBounds_toArray, List.set_cons_zero, List.set_cons_succ]
    refine Mx.m_pure (.iface tc2 xc2) (Mx.wanted_none rfl) (fun w' hw' => ?_) ?_
    · go_simp
    simp only [Act.put, List.setIfInBounds_toArray, List.set_cons_zero, List.set_cons_succ]
    refine Mx.m_nil ?_
    intro _
    have HB2 : Hid (Below w.heap.size w wa4) := HB0.out.trans (HZ4.out.mono HB0.out.size)
    have HLI := hidC (ints_below HL.out HB2.out)
    have HCI2 := hidC (ints_below HCI.out HB2.out)
    clear HL HCI HT1 HT2 HR1 HR2 HFC HX0 HX1 HTVta HTVtb HZ1 HZ2 HZ3 HZ4 HC0
    generalize wa4 = w2 at *
    go_wp2_with fail
    refine (known10_any la ll lc lf ca cl cc cf w2 HLI.out hll HCI2.out hcl).mono ?_
    rintro e w4 ⟨p, f, q, r, rfl, B, K, hb4, hvals, hchs, hfl, hcln⟩
    have HE := hidC (show Env w4 p f q K ⟨#[116]⟩ from ⟨hb4.i.kin, hvals, hchs, by decide⟩)
    have HW4 := hidC (HB2.out.trans (hb4.i.below.mono HB2.out.size))
    clear hb4 hvals hchs hfl hcln HLI HCI2
    have HCX := hidC (fun (w' : World) (hb : Below w4.heap.size w4 w') (m : Int) (hm1 : 0 ≤ m) (hm2 : m ≤ 10000) => cash_own c HOK.out (by have := HWT.out; omega) w' p f q K ⟨#[116]⟩ (HE.out.below hb) m ⟨by omega, by omega⟩ _ rfl)
    have HCY := hidC (fun (w' : World) (hb : Below w4.heap.size w4 w') => cash_own cy HOKY.out (by have := HWTY.out; omega) w' p f q K ⟨#[116]⟩ (HE.out.below hb) d ⟨by omega, by omega⟩ _ rfl)
    rw [HVAL.out] at HCX
    rw [HVAL2.out] at HCY
    have HGV : Hid ((C.give c).val = .iface 47 (.agg #[c.val])) := rfl
    have HAV : Hid ((C.and c cy).val = .iface 53 (.agg #[c.val, cy.val])) := rfl
    have HWV : Hid ((C.when n c).val = .iface 55 (.agg #[.int .i64 n, c.val])) := rfl
    have HSV : Hid ((C.scale (.const 0) c).val = .iface 61 (.agg #[.iface 58 (.agg #[.int .i64 0]), c.val])) := rfl
    rw [HVAL.out] at HGV HAV HWV HSV
    rw [HVAL2.out] at HAV
    have HGO : Hid ((C.give c).Ok ∧ (C.give c).weight ≤ 1000000) := ⟨HOK.out, by have := HWT.out; simp only [C.weight]; omega⟩
    have HAO : Hid ((C.and c cy).Ok ∧ (C.and c cy).weight ≤ 1000000) := ⟨⟨HOK.out, HOKY.out⟩, by have := HWT.out; have := HWTY.out; simp only [C.weight]; omega⟩
    have HWO : Hid ((C.when n c).Ok ∧ (C.when n c).weight ≤ 1000000) := ⟨⟨⟨by omega, by omega⟩, HOK.out⟩, by have := HWT.out; simp only [C.weight]; omega⟩
    have HSO : Hid ((C.scale (.const 0) c).Ok ∧ (C.scale (.const 0) c).weight ≤ 1000000) := ⟨⟨⟨by omega, by omega⟩, HOK.out⟩, by have := HWT.out; simp only [C.weight, O.nodes]; omega⟩
    have HCG := hidC (fun (w' : World) (hb : Below w4.heap.size w4 w') => cash_own (C.give c) HGO.out.1 HGO.out.2 w' p f q K ⟨#[116]⟩ (HE.out.below hb) d ⟨by omega, by omega⟩ _ rfl)
    have HCN := hidC (fun (w' : World) (hb : Below w4.heap.size w4 w') => cash_own (C.and c cy) HAO.out.1 HAO.out.2 w' p f q K ⟨#[116]⟩ (HE.out.below hb) d ⟨by omega, by omega⟩ _ rfl)
    have HCW := hidC (fun (w' : World) (hb : Below w4.heap.size w4 w') => cash_own (C.when n c) HWO.out.1 HWO.out.2 w' p f q K ⟨#[116]⟩ (HE.out.below hb) d ⟨by omega, by omega⟩ _ rfl)
    have HCS := hidC (fun (w' : World) (hb : Below w4.heap.size w4 w') => cash_own (C.scale (.const 0) c) HSO.out.1 HSO.out.2 w' p f q K ⟨#[116]⟩ (HE.out.below hb) d ⟨by omega, by omega⟩ _ rfl)
    have HKG := hidC (fun w : World => checkT_any (C.give c) HGO.out.1 HGO.out.2 w)
    have HKN := hidC (fun w : World => checkT_any (C.and c cy) HAO.out.1 HAO.out.2 w)
    have HKW := hidC (fun w : World => checkT_any (C.when n c) HWO.out.1 HWO.out.2 w)
    have HKS := hidC (fun w : World => checkT_any (C.scale (.const 0) c) HSO.out.1 HSO.out.2 w)
    rw [HGV.out] at HCG HKG
    rw [HAV.out] at HCN HKN
    rw [HWV.out] at HCW HKW
    rw [HSV.out] at HCS HKS
    have HFG := hidC (fun (h : chkC (C.give c) = 0) (h0 : (ofK K ⟨#[116]⟩ c d).e = 0) => ofK_give HE.out.vals ⟨#[116]⟩ c d HCHK.out h hdd1 (by omega) h0)
    have HFN := hidC (fun (h : chkC (C.and c cy) = 0) (h1 : (ofK K ⟨#[116]⟩ c d).e = 0) (h2 : (ofK K ⟨#[116]⟩ cy d).e = 0) => ofK_and ⟨#[116]⟩ c cy d HCHK.out HCHKY.out h hdd1 (by omega) h1 h2)
    have HFW := hidC (fun (h : chkC (C.when n c) = 0) (m : Int) (hm : Max.max d n = m) (h3 : m ≤ 10000) => ofK_when (K := K) ⟨#[116]⟩ c d n m HCHK.out h hdd1 (by omega) hm h3)
    have HFS := hidC (fun (h : chkC (C.scale (.const 0) c) = 0) => ofK_scale0 K ⟨#[116]⟩ c d h hdd1 (by omega))
    have HFL := hidC (ofK_fl HE.out.chs (id := ⟨#[116]⟩) HCHK.out hdd1 (show d ≤ 10000 by omega))
    have HWTA := hidC (ofK_wt HE.out.chs (id := ⟨#[116]⟩) HOK.out HCHK.out hdd1 (show d ≤ 10000 by omega))
    have HNO := hidC (fun h => ofK_none (K := K) (id := ⟨#[116]⟩) (c := c) (d := d) h)
    have HLA := hidC (ofK_len' K ⟨#[116]⟩ c d)
    have HLB := hidC (ofK_len' K ⟨#[116]⟩ cy d)
    have HLM := hidC (fun m => ofK_len' K ⟨#[116]⟩ c m)
    go_wp2_with fail
    refine calls_same (HWD.out _) ?_
    go_wp2_with fail
    refine calls_same (HWN.out _) ?_
    go_wp2_with fail
    refine (HCX.out w4 (Below.refl _ _) d hdd1 (by omega)).mono ?_
    rintro e w5 ⟨ao, cap, bo, cap2, rfl, hF, hA, hB, hb5⟩
    have HRA := hidC hF
    have HAF := hidC hA
    have HAW := hidC hB
    have HB5 := hidC hb5
    clear hF hA hB hb5 HWD HWN
    go_wp2_with fail
    refine (HCY.out w5 HB5.out).mono ?_
    rintro e w6 ⟨co, cap3, do', cap4, rfl, hF, hA, hB, hb6⟩
    have HRB := hidC hF
    have HRA6 := hidC (ownsRow_below HRA.out hb6)
    have HAF6 := hidC (HAF.out.below hb6)
    have HAW6 := hidC (HAW.out.below hb6)
    have HB6 := hidC (HB5.out.trans (hb6.mono HB5.out.size))
    clear hF hA hB hb6 HCY HRA HAF HAW
    generalize hAq : ofK K ⟨#[116]⟩ c d = A at *
    generalize hBq : ofK K ⟨#[116]⟩ cy d = Bq at *
    have HAQ := hidC hAq
    clear hAq hBq
    obtain ⟨af, aw, ae⟩ := A
    obtain ⟨bf, bw, be⟩ := Bq
    simp only at HFG HFN HFL HWTA HNO HLA HLB HRB HRA6 HAF6 HAW6 ⊢
    have hla : af.length ≤ 60 := by have := HLA.out.1; have := HWT.out; omega
    have hlw : aw.length ≤ 60 := by have := HLA.out.2; have := HWT.out; omega
    have hlb : bf.length ≤ 60 := by have := HLB.out.1; have := HWTY.out; omega
    have HW6 := hidC (HW4.out.trans (HB6.out.mono HW4.out.size))
    by_cases hea : ae = 0
    rotate_left
    · have hea' : (ae != 0) = true := by simpa using hea
      obtain ⟨rfl, rfl⟩ := HNO.out hea
      clear hea
      simp only [List.length_nil]
      go_wp2_with fail
      refine (wakes10_any w6).mono ?_
      rintro e w8 ⟨rfl, hb8⟩
      have HEND := hidC (HW6.out.trans (hb8.mono HW6.out.size))
      clear hb8
      go_wp2_with fail
      go_ret
      exact ⟨rfl, HEND.out⟩
    subst hea
    clear HNO
    go_wp2_with fail
    go_loopw [92] (fun s92 wr => ∃ i : Nat, i ≤ af.length ∧ s92 = .int .i64 i ∧ Below w6.heap.size w6 wr) (fun s92 _ => af.length - (intOf s92).toNat)
    case atStart => exact ⟨0, by omega, rfl, Below.refl _ _⟩
    case round =>
      obtain ⟨i, hi, rfl, hbr⟩ := hrel
      have HBR := hidC hbr
      clear hbr
      by_cases hlt : i < af.length
      · have hlt' : (i : Int) < (af.length : Int) := by omega
        obtain ⟨x, hx⟩ : ∃ x, af[i]? = some x := ⟨_, List.getElem?_eq_getElem hlt⟩
        obtain ⟨v1, v2, v3, v4⟩ := HFL.out x (List.mem_of_getElem? hx)
        obtain ⟨g, rfl, hg, d0, d1, d2⟩ := (HAF6.out.below HBR.out) i x hx
        obtain ⟨xd, xcu, xa⟩ := x
        simp only at v1 v2 v3 v4 d0 d1 d2
        have v3' : (xa == 0) = false := by simpa using v3
        clear hx hg v3 v4
        go_wp2_with fail
        go_roundw
        case rel => exact ⟨i + 1, by omega, by go_num, HBR.out⟩
        case measure => simp [intOf] <;> omega
      · generalize hW0 : wr = W0 at *
        clear hW0
        have HB0' : Hid (Below w4.heap.size w4 W0) := HB6.out.trans (HBR.out.mono HB6.out.size)
        have HWW0 : Hid (Below w.heap.size w W0) := HW4.out.trans (HB0'.out.mono HW4.out.size)
        have HRA0 := hidC (ownsRow_below HRA6.out HBR.out)
        have HRB0 := hidC (ownsRow_below HRB.out HBR.out)
        have HAF0 := hidC (HAF6.out.below HBR.out)
        have HAW0 := hidC (HAW6.out.below HBR.out)
        clear HB6 HBR HRA6 HRB HAF6 HAW6 HB5 HB2 HB0
        rename_i Q9 A9 K9 B9
        clear A9
        revert pl ql la ll lc lf ca cl cc cf day when w hll hcl d n hdd1 hdd2 hnn1 hnn2 Q9 V c cy HCHK HOK HCHKY HOKY tc xc tc2 xc2 HVAL HVAL2 HWT HWTY ops wa1 ta wa2 wa3 tb wa4 w2 w4 p f q r B K HE HW4 HCX HGV HAV HWV HSV HGO HAO HWO HSO HCG HCN HCW HCS HKG HKN HKW HKS HFW HFS HLM w5 ao cap bo cap2 w6 co cap3 do' cap4 af aw HFL HWTA HLA bf bw be HLB hla hlw hlb HW6 HAQ K9 B9 HFG HFN wr u12 u23 u93 u94 u95 u96 u97 u98 u99 u100 u101 u102 u103 u104 u105 u106 u107 u108 u109 u110 i hi hlt W0 HB0' HWW0 HRA0 HRB0 HAF0 HAW0
        exact hG.out

end Go.Proofs.Ytcdkejnnbbkecaa.Ca
namespace Go.Proofs.Ytcdkejnnbbkecaa.Ca
open Go.RowKit Wd Cn Vl
set_option linter.unusedVariables false
set_option linter.unusedSimpArgs false

set_option maxHeartbeats 40000000 in
set_option maxRecDepth 100000 in
def laws10_2 : {G : Prop // Box G → laws10_1.1} := by
  refine' ⟨_, fun hG => ?_⟩
  rotate_left
  focus
    intro pl ql la ll lc lf ca cl cc cf day when w hll hcl d n hdd1 hdd2 hnn1 hnn2 Q9 V c cy HCHK HOK HCHKY HOKY tc xc tc2 xc2 HVAL HVAL2 HWT HWTY ops wa1 ta wa2 wa3 tb wa4 w2 w4 p f q r B K HE HW4 HCX HGV HAV HWV HSV HGO HAO HWO HSO HCG HCN HCW HCS HKG HKN HKW HKS HFW HFS HLM w5 ao cap bo cap2 w6 co cap3 do' cap4 af aw HFL HWTA HLA bf bw be HLB hla hlw hlb HW6 HAQ K9 B9 HFG HFN wr u12 u23 u93 u94 u95 u96 u97 u98 u99 u100 u101 u102 u103 u104 u105 u106 u107 u108 u109 u110 i hi hlt W0 HB0' HWW0 HRA0 HRB0 HAF0 HAW0
    go_wp2_with fail
    clear hlt hi
    refine (HKG.out W0).mono ?_
    rintro e w10 ⟨rfl, hb10⟩
    have HB10 := hidC hb10
    clear hb10
    obtain ⟨kg, hkg⟩ : ∃ kg, chkC (C.give c) = kg := ⟨_, rfl⟩
    rw [hkg]
    have HKGE := hidC hkg
    clear hkg
    go_upto_if 115 with fail
    go_cut [12] from 114 to 218 (fun s12 wx => Below W0.heap.size W0 wx)
    case first =>
      by_cases hk0 : kg = 0
      rotate_left
      · have hk0' : (kg == 0) = false := by simpa using hk0
        clear hk0
        go_wp2_with fail
        go_meet
        case rel => exact HB10.out
      · subst hk0
        obtain ⟨g1, g2, g3⟩ := HFG.out HKGE.out trivial
        have HG2 := hidC g2
        have HG3 := hidC g3
        have HG1 := hidC g1
        clear g1 g2 g3
        go_wp2_with fail
        refine (HCG.out w10 (HB0'.out.trans (HB10.out.mono HB0'.out.size))).mono ?_
        rintro e w11 ⟨fo, cap5, ho, cap6, rfl, hF, hA, hB, hb11⟩
        rw [HG1.out]
        rw [HG2.out] at hA ⊢
        rw [HG3.out] at hB ⊢
        simp only [List.length_map] at hA hB ⊢
        have HGF := hidC hA
        have HGW := hidC hB
        have HB11 := hidC (HB10.out.trans (hb11.mono HB10.out.size))
        clear hF hA hB hb11
        go_wp2_with fail
        refine (turned_any w11 ao cap af (HAF0.out.below HB11.out) (by omega) (fun x hx => (HFL.out x hx).2.2.2)).mono ?_
        rintro e w12 ⟨tv, rfl, htv, hb12⟩
        obtain ⟨to', tcap, rfl, htf⟩ := own_fls htv
        have HTF := hidC htf
        have HB12 := hidC (HB11.out.trans (hb12.mono HB11.out.size))
        have HGF12 := hidC (HGF.out.below hb12)
        have HGW12 := hidC (HGW.out.below hb12)
        clear htv htf hb12 HGF HGW
        have HSF := hidC (sameF_any w12 fo to' cap5 tcap (af.map Fl.neg) (af.map Fl.neg) HGF12.out HTF.out (by rw [List.length_map]; omega) (by rw [List.length_map]; omega))
        rw [List.length_map, decide_eq_true rfl] at HSF
        simp only [List.length_map]
        go_wp2_with fail
        refine HSF.out.mono ?_
        rintro e w13 ⟨rfl, hb13⟩
        have HB13 := hidC (HB12.out.trans (hb13.mono HB12.out.size))
        have HGW13 := hidC (HGW12.out.below hb13)
        have HAW13 := hidC (HAW0.out.below HB13.out)
        clear hb13 HSF HGF12 HTF HGW12
        go_wp2_with fail
        go_loopw [144] (fun s144 wr => ∃ i : Nat, i ≤ aw.length ∧ s144 = .int .i64 i ∧ Below w13.heap.size w13 wr) (fun s144 _ => aw.length - (intOf s144).toNat)
        case atStart => exact ⟨0, by omega, rfl, Below.refl _ _⟩
        case round =>
          obtain ⟨j, hj, rfl, hbz⟩ := hrel
          have HBZ := hidC hbz
          clear hbz
          by_cases hltj : j < aw.length
          · have hltj' : (j : Int) < (aw.length : Int) := by omega
            obtain ⟨y, hy⟩ : ∃ y, aw[j]? = some y := ⟨_, List.getElem?_eq_getElem hltj⟩
            have hyb := turn_one hy
            have HSD := hidC (HWTA.out y (List.mem_of_getElem? hy)).side
            obtain ⟨g, rfl, hg, d0, d1, d2, d3, d4⟩ := HAW13.out j y hy
            obtain ⟨g', rfl, hg', e0, e1, e2, e3, e4⟩ := HGW13.out j _ hyb
            obtain ⟨yc, yn, yl, yd, ys⟩ := y
            simp only at d0 d1 d2 d3 d4 e0 e1 e2 e3 e4 HSD
            have hsb : 0 ≤ ys ∧ ys ≤ 1 := by rcases HSD.out with h | h <;> omega
            obtain ⟨hs1, hs2⟩ := hsb
            clear hy hyb HSD
            have q8 : (yn.toList == yn.toList) = true := beq_self_eq_true _
            have q9 : (yl.toList == yl.toList) = true := beq_self_eq_true _
            obtain ⟨zs, hzs⟩ : ∃ zs, (if yc = true then 1 - ys else ys) = zs := ⟨_, rfl⟩
            rw [hzs] at e4
            have HZS := hidIn hzs
            clear hzs
            go_wp2_with fail
            have HC0 := hidC HBZ.out.drew
            have HFC : Hid (∀ w', Below w13.heap.size w13 w' → w'.cell? ⟨g', j * 5, none⟩ = some (.bool yc) ∧ w'.cell? ⟨g', j * 5 + 1, none⟩ = some (.string yn) ∧ w'.cell? ⟨g', j * 5 + 2, none⟩ = some (.string yl) ∧ w'.cell? ⟨g', j * 5 + 3, none⟩ = some (.int .i64 yd) ∧ w'.cell? ⟨g', j * 5 + 4, none⟩ = some (.int .i64 zs) ∧ w'.cell? ⟨g, j * 5, none⟩ = some (.bool yc) ∧ w'.cell? ⟨g, j * 5 + 1, none⟩ = some (.string yn) ∧ w'.cell? ⟨g, j * 5 + 2, none⟩ = some (.string yl) ∧ w'.cell? ⟨g, j * 5 + 3, none⟩ = some (.int .i64 yd) ∧ w'.cell? ⟨g, j * 5 + 4, none⟩ = some (.int .i64 ys)) := fun w' hw' => by
              have hc := fun o => hw'.cell (p := ⟨g, o, none⟩) hg
              have hc' := fun o => hw'.cell (p := ⟨g', o, none⟩) hg'
              exact ⟨(hc' _).trans e0, (hc' _).trans e1, (hc' _).trans e2, (hc' _).trans e3, (hc' _).trans e4, (hc _).trans d0, (hc _).trans d1, (hc _).trans d2, (hc _).trans d3, (hc _).trans d4⟩
            clear d0 d1 d2 d3 d4 e0 e1 e2 e3 e4
            obtain ⟨x157, hx157⟩ : ∃ x, (!(yc == yc)) = x := ⟨_, rfl⟩
            have Hx157 := hidIn hx157
            clear hx157
            obtain ⟨x176, hx176⟩ : ∃ x, (!(zs == (1 - ys))) = x := ⟨_, rfl⟩
            have Hx176 := hidIn hx176
            clear hx176
            obtain ⟨x177, hx177⟩ : ∃ x, (yc && x176) = x := ⟨_, rfl⟩
            have Hx177 := hidIn hx177
            clear hx177
            obtain ⟨x178, hx178⟩ : ∃ x, (x157 || x177) = x := ⟨_, rfl⟩
            have Hx178 := hidIn hx178
            clear hx178
            obtain ⟨x190, hx190⟩ : ∃ x, (!(yd == yd)) = x := ⟨_, rfl⟩
            have Hx190 := hidIn hx190
            clear hx190
            obtain ⟨x191, hx191⟩ : ∃ x, (x178 || x190) = x := ⟨_, rfl⟩
            have Hx191 := hidIn hx191
            clear hx191
            obtain ⟨x203, hx203⟩ : ∃ x, (!(yn.toList == yn.toList)) = x := ⟨_, rfl⟩
            have Hx203 := hidIn hx203
            clear hx203
            obtain ⟨x204, hx204⟩ : ∃ x, (x191 || x203) = x := ⟨_, rfl⟩
            have Hx204 := hidIn hx204
            clear hx204
            obtain ⟨x216, hx216⟩ : ∃ x, (!(yl.toList == yl.toList)) = x := ⟨_, rfl⟩
            have Hx216 := hidIn hx216
            clear hx216
            obtain ⟨x217, hx217⟩ : ∃ x, (x204 || x216) = x := ⟨_, rfl⟩
            have Hx217 := hidIn hx217
            clear hx217
            refine region_class_named (fun w' => Below w13.heap.size w13 w') (by kernel_rfl) (by kernel_rfl) HC0.out (fun ops hops => ?_)
            have HD11 : Hid ((ops[11]?).bind (·.dst) = some 158) := by rw [hops]; exact rfl
            have HD17 : Hid ((ops[17]?).bind (·.dst) = some 164) := by rw [hops]; exact rfl
            have HD32 : Hid ((ops[32]?).bind (·.dst) = some 179) := by rw [hops]; exact rfl
            have HD45 : Hid ((ops[45]?).bind (·.dst) = some 192) := by rw [hops]; exact rfl
            have HD58 : Hid ((ops[58]?).bind (·.dst) = some 205) := by rw [hops]; exact rfl
            clear hops
            refine quiet_runs ((.slice (some ⟨g', 0, none⟩) aw.length cap6)) (wanted_none rfl) (fun w' hw' => ?_) ?_
            · go_simp
            simp only [Act.put, List.setIfInBounds_toArray, List.set_cons_zero, List.set_cons_succ]
            refine quiet_runs (.int .i64 j) (wanted_none rfl) (fun w' hw' => ?_) ?_
            · go_simp
            simp only [Act.put, List.setIfInBounds_toArray, List.set_cons_zero, List.set_cons_succ]
            refine quiet_runs (.pointer (some ⟨g', j * 5, none⟩)) (wanted_none rfl) (fun w' hw' => ?_) ?_
            · go_simp
            simp only [Act.put, List.setIfInBounds_toArray, List.set_cons_zero, List.set_cons_succ]
            refine quiet_runs (.pointer (some ⟨g', j * 5, none⟩)) (wanted_none rfl) (fun w' hw' => ?_) ?_
            · go_simp
            simp only [Act.put, List.setIfInBounds_toArray, List.set_cons_zero, List.set_cons_succ]
            refine quiet_runs (.bool yc) (wanted_none rfl) (fun w' hw' => ?_) ?_
            · have q0 := (HFC.out w' hw').1
              go_simp
            simp only [Act.put, List.setIfInBounds_toArray, List.set_cons_zero, List.set_cons_succ]
            refine quiet_runs ((.slice (some ⟨g, 0, none⟩) aw.length cap2)) (wanted_none rfl) (fun w' hw' => ?_) ?_
            · go_simp
            simp only [Act.put, List.setIfInBounds_toArray, List.set_cons_zero, List.set_cons_succ]
            refine quiet_runs (.int .i64 j) (wanted_none rfl) (fun w' hw' => ?_) ?_
            · go_simp
            simp only [Act.put, List.setIfInBounds_toArray, List.set_cons_zero, List.set_cons_succ]
            refine quiet_runs (.pointer (some ⟨g, j * 5, none⟩)) (wanted_none rfl) (fun w' hw' => ?_) ?_
            · go_simp
            simp only [Act.put, List.setIfInBounds_toArray, List.set_cons_zero, List.set_cons_succ]
            refine quiet_runs (.pointer (some ⟨g, j * 5, none⟩)) (wanted_none rfl) (fun w' hw' => ?_) ?_
            · go_simp
            simp only [Act.put, List.setIfInBounds_toArray, List.set_cons_zero, List.set_cons_succ]
            refine quiet_runs (.bool yc) (wanted_none rfl) (fun w' hw' => ?_) ?_
            · have q0 := (HFC.out w' hw').2.2.2.2.2.1
              go_simp
            simp only [Act.put, List.setIfInBounds_toArray, List.set_cons_zero, List.set_cons_succ]
            refine quiet_runs (.bool x157) (wanted_none rfl) (fun w' hw' => ?_) ?_
            · rw [← Hx157.out]
              go_simp
              try rfl
            simp only [Act.put, List.setIfInBounds_toArray, List.set_cons_zero, List.set_cons_succ]
            refine quiet_runs (.bool x157) (wanted_none rfl) (fun w' hw' => ?_) ?_
            · go_simp
            simp only [Act.put, List.setIfInBounds_toArray, List.set_cons_zero, List.set_cons_succ]
            refine mb_runs (!x157) ((.slice (some ⟨g', 0, none⟩) aw.length cap6)) (want_no 11 158 x157 rfl HD11.out rfl) (fun hb w' hw' => ?_) ?_
            · simp only [Bool.not_eq_true'] at hb
              subst hb
              try simp only [mb_true, Bool.not_false, Bool.not_true]
              go_simp
            simp only [Act.put, List.setIfInBounds_toArray, List.set_cons_zero, List.set_cons_succ]
            refine mb_runs (!x157) (.int .i64 j) (want_no 11 158 x157 rfl HD11.out rfl) (fun hb w' hw' => ?_) ?_
            · simp only [Bool.not_eq_true'] at hb
              subst hb
              try simp only [mb_true, Bool.not_false, Bool.not_true]
              go_simp
            simp only [Act.put, List.setIfInBounds_toArray, List.set_cons_zero, List.set_cons_succ]
            refine mb_runs (!x157) (.pointer (some ⟨g', j * 5, none⟩)) (want_no 11 158 x157 rfl HD11.out rfl) (fun hb w' hw' => ?_) ?_
            · simp only [Bool.not_eq_true'] at hb
              subst hb
              try simp only [mb_true, Bool.not_false, Bool.not_true]
              go_simp
            simp only [Act.put, List.setIfInBounds_toArray, List.set_cons_zero, List.set_cons_succ]
            refine mb_runs (!x157) (.pointer (some ⟨g', j * 5, none⟩)) (want_no 11 158 x157 rfl HD11.out rfl) (fun hb w' hw' => ?_) ?_
            · simp only [Bool.not_eq_true'] at hb
              subst hb
              try simp only [mb_true, Bool.not_false, Bool.not_true]
              go_simp
            simp only [Act.put, List.setIfInBounds_toArray, List.set_cons_zero, List.set_cons_succ]
            refine mb_runs (!x157) (.bool yc) (want_no 11 158 x157 rfl HD11.out rfl) (fun hb w' hw' => ?_) ?_
            · simp only [Bool.not_eq_true'] at hb
              subst hb
              try simp only [mb_true, Bool.not_false, Bool.not_true]
              have q0 := (HFC.out w' hw').1
              go_simp
            simp only [Act.put, List.setIfInBounds_toArray, List.set_cons_zero, List.set_cons_succ]
            refine mb_runs (!x157) (.bool yc) (want_no 11 158 x157 rfl HD11.out rfl) (fun hb w' hw' => ?_) ?_
            · simp only [Bool.not_eq_true'] at hb
              subst hb
              try simp only [mb_true, Bool.not_false, Bool.not_true]
              go_simp
            simp only [Act.put, List.setIfInBounds_toArray, List.set_cons_zero, List.set_cons_succ]
            refine mb_runs (!x157 && yc) ((.slice (some ⟨g', 0, none⟩) aw.length cap6)) (want_mb_yes 17 164 (!x157) yc rfl HD17.out rfl) (fun hb w' hw' => ?_) ?_
            · simp only [Bool.and_eq_true, Bool.not_eq_true'] at hb
              obtain ⟨hb1, hb2⟩ := hb
              subst hb1 hb2
              try simp only [mb_true, Bool.true_and, Bool.and_true, Bool.not_false, Bool.not_true]
              go_simp
            simp only [Act.put, List.setIfInBounds_toArray, List.set_cons_zero, List.set_cons_succ]
            refine mb_runs (!x157 && yc) (.int .i64 j) (want_mb_yes 17 164 (!x157) yc rfl HD17.out rfl) (fun hb w' hw' => ?_) ?_
            · simp only [Bool.and_eq_true, Bool.not_eq_true'] at hb
              obtain ⟨hb1, hb2⟩ := hb
              subst hb1 hb2
              try simp only [mb_true, Bool.true_and, Bool.and_true, Bool.not_false, Bool.not_true]
              go_simp
            simp only [Act.put, List.setIfInBounds_toArray, List.set_cons_zero, List.set_cons_succ]
            refine mb_runs (!x157 && yc) (.pointer (some ⟨g', j * 5, none⟩)) (want_mb_yes 17 164 (!x157) yc rfl HD17.out rfl) (fun hb w' hw' => ?_) ?_
            · simp only [Bool.and_eq_true, Bool.not_eq_true'] at hb
              obtain ⟨hb1, hb2⟩ := hb
              subst hb1 hb2
              try simp only [mb_true, Bool.true_and, Bool.and_true, Bool.not_false, Bool.not_true]
              go_simp
            simp only [Act.put, List.setIfInBounds_toArray, List.set_cons_zero, List.set_cons_succ]
            refine mb_runs (!x157 && yc) (.pointer (some ⟨g', j * 5 + 4, none⟩)) (want_mb_yes 17 164 (!x157) yc rfl HD17.out rfl) (fun hb w' hw' => ?_) ?_
            · simp only [Bool.and_eq_true, Bool.not_eq_true'] at hb
              obtain ⟨hb1, hb2⟩ := hb
              subst hb1 hb2
              try simp only [mb_true, Bool.true_and, Bool.and_true, Bool.not_false, Bool.not_true]
              go_simp
            simp only [Act.put, List.setIfInBounds_toArray, List.set_cons_zero, List.set_cons_succ]
            refine mb_runs (!x157 && yc) (.int .i64 zs) (want_mb_yes 17 164 (!x157) yc rfl HD17.out rfl) (fun hb w' hw' => ?_) ?_
            · simp only [Bool.and_eq_true, Bool.not_eq_true'] at hb
              obtain ⟨hb1, hb2⟩ := hb
              subst hb1 hb2
              try simp only [mb_true, Bool.true_and, Bool.and_true, Bool.not_false, Bool.not_true]
              have q0 := (HFC.out w' hw').2.2.2.2.1
              go_simp
            simp only [Act.put, List.setIfInBounds_toArray, List.set_cons_zero, List.set_cons_succ]
            refine mb_runs (!x157 && yc) ((.slice (some ⟨g, 0, none⟩) aw.length cap2)) (want_mb_yes 17 164 (!x157) yc rfl HD17.out rfl) (fun hb w' hw' => ?_) ?_
            · simp only [Bool.and_eq_true, Bool.not_eq_true'] at hb
              obtain ⟨hb1, hb2⟩ := hb
              subst hb1 hb2
              try simp only [mb_true, Bool.true_and, Bool.and_true, Bool.not_false, Bool.not_true]
              go_simp
            simp only [Act.put, List.setIfInBounds_toArray, List.set_cons_zero, List.set_cons_succ]
            refine mb_runs (!x157 && yc) (.int .i64 j) (want_mb_yes 17 164 (!x157) yc rfl HD17.out rfl) (fun hb w' hw' => ?_) ?_
            · simp only [Bool.and_eq_true, Bool.not_eq_true'] at hb
              obtain ⟨hb1, hb2⟩ := hb
              subst hb1 hb2
              try simp only [mb_true, Bool.true_and, Bool.and_true, Bool.not_false, Bool.not_true]
              go_simp
            simp only [Act.put, List.setIfInBounds_toArray, List.set_cons_zero, List.set_cons_succ]
            refine mb_runs (!x157 && yc) (.pointer (some ⟨g, j * 5, none⟩)) (want_mb_yes 17 164 (!x157) yc rfl HD17.out rfl) (fun hb w' hw' => ?_) ?_
            · simp only [Bool.and_eq_true, Bool.not_eq_true'] at hb
              obtain ⟨hb1, hb2⟩ := hb
              subst hb1 hb2
              try simp only [mb_true, Bool.true_and, Bool.and_true, Bool.not_false, Bool.not_true]
              go_simp
            simp only [Act.put, List.setIfInBounds_toArray, List.set_cons_zero, List.set_cons_succ]
            refine mb_runs (!x157 && yc) (.pointer (some ⟨g, j * 5 + 4, none⟩)) (want_mb_yes 17 164 (!x157) yc rfl HD17.out rfl) (fun hb w' hw' => ?_) ?_
            · simp only [Bool.and_eq_true, Bool.not_eq_true'] at hb
              obtain ⟨hb1, hb2⟩ := hb
              subst hb1 hb2
              try simp only [mb_true, Bool.true_and, Bool.and_true, Bool.not_false, Bool.not_true]
              go_simp
            simp only [Act.put, List.setIfInBounds_toArray, List.set_cons_zero, List.set_cons_succ]
            refine mb_runs (!x157 && yc) (.int .i64 ys) (want_mb_yes 17 164 (!x157) yc rfl HD17.out rfl) (fun hb w' hw' => ?_) ?_
            · simp only [Bool.and_eq_true, Bool.not_eq_true'] at hb
              obtain ⟨hb1, hb2⟩ := hb
              subst hb1 hb2
              try simp only [mb_true, Bool.true_and, Bool.and_true, Bool.not_false, Bool.not_true]
              have q0 := (HFC.out w' hw').2.2.2.2.2.2.2.2.2
              go_simp
            simp only [Act.put, List.setIfInBounds_toArray, List.set_cons_zero, List.set_cons_succ]
            refine mb_runs (!x157 && yc) (.int .i64 (1 - ys)) (want_mb_yes 17 164 (!x157) yc rfl HD17.out rfl) (fun hb w' hw' => ?_) ?_
            · simp only [Bool.and_eq_true, Bool.not_eq_true'] at hb
              obtain ⟨hb1, hb2⟩ := hb
              subst hb1 hb2
              try simp only [mb_true, Bool.true_and, Bool.and_true, Bool.not_false, Bool.not_true]
              have hws : IntKind.i64.wrap (1 - ys) = 1 - ys := by rw [IntKind.wrap_i64]; omega
              go_simp
            simp only [Act.put, List.setIfInBounds_toArray, List.set_cons_zero, List.set_cons_succ]
            refine mb_runs (!x157 && yc) (.bool x176) (want_mb_yes 17 164 (!x157) yc rfl HD17.out rfl) (fun hb w' hw' => ?_) ?_
            · simp only [Bool.and_eq_true, Bool.not_eq_true'] at hb
              obtain ⟨hb1, hb2⟩ := hb
              subst hb1 hb2
              try simp only [mb_true, Bool.true_and, Bool.and_true, Bool.not_false, Bool.not_true]
              rw [← Hx176.out]
              go_simp
              try rfl
            simp only [Act.put, List.setIfInBounds_toArray, List.set_cons_zero, List.set_cons_succ]
            refine mb_runs (!x157) (.bool x177) (want_no 11 158 x157 rfl HD11.out rfl) (fun hb w' hw' => ?_) ?_
            · simp only [Bool.not_eq_true'] at hb
              subst hb
              try simp only [mb_true, Bool.not_false, Bool.not_true]
              rw [← Hx177.out]
              cases yc <;> (simp only [mb_true, mb_false, Bool.true_and, Bool.not_true, Bool.not_false]; go_simp)
            simp only [Act.put, List.setIfInBounds_toArray, List.set_cons_zero, List.set_cons_succ]
            refine quiet_runs (.bool x178) (wanted_none rfl) (fun w' hw' => ?_) ?_
            · rw [← Hx178.out]
              cases x157 <;> (simp only [mb_true, mb_false, Bool.true_and, Bool.not_true, Bool.not_false]; go_simp)
            simp only [Act.put, List.setIfInBounds_toArray, List.set_cons_zero, List.set_cons_succ]
            refine quiet_runs (.bool x178) (wanted_none rfl) (fun w' hw' => ?_) ?_
            · go_simp
            simp only [Act.put, List.setIfInBounds_toArray, List.set_cons_zero, List.set_cons_succ]
            refine mb_runs (!x178) ((.slice (some ⟨g', 0, none⟩) aw.length cap6)) (want_no 32 179 x178 rfl HD32.out rfl) (fun hb w' hw' => ?_) ?_
            · simp only [Bool.not_eq_true'] at hb
              subst hb
              try simp only [mb_true, Bool.not_false, Bool.not_true]
              go_simp
            simp only [Act.put, List.setIfInBounds_toArray, List.set_cons_zero, List.set_cons_succ]
            refine mb_runs (!x178) (.int .i64 j) (want_no 32 179 x178 rfl HD32.out rfl) (fun hb w' hw' => ?_) ?_
            · simp only [Bool.not_eq_true'] at hb
              subst hb
              try simp only [mb_true, Bool.not_false, Bool.not_true]
              go_simp
            simp only [Act.put, List.setIfInBounds_toArray, List.set_cons_zero, List.set_cons_succ]
            refine mb_runs (!x178) (.pointer (some ⟨g', j * 5, none⟩)) (want_no 32 179 x178 rfl HD32.out rfl) (fun hb w' hw' => ?_) ?_
            · simp only [Bool.not_eq_true'] at hb
              subst hb
              try simp only [mb_true, Bool.not_false, Bool.not_true]
              go_simp
            simp only [Act.put, List.setIfInBounds_toArray, List.set_cons_zero, List.set_cons_succ]
            refine mb_runs (!x178) (.pointer (some ⟨g', j * 5 + 3, none⟩)) (want_no 32 179 x178 rfl HD32.out rfl) (fun hb w' hw' => ?_) ?_
            · simp only [Bool.not_eq_true'] at hb
              subst hb
              try simp only [mb_true, Bool.not_false, Bool.not_true]
              go_simp
            simp only [Act.put, List.setIfInBounds_toArray, List.set_cons_zero, List.set_cons_succ]
            refine mb_runs (!x178) (.int .i64 yd) (want_no 32 179 x178 rfl HD32.out rfl) (fun hb w' hw' => ?_) ?_
            · simp only [Bool.not_eq_true'] at hb
              subst hb
              try simp only [mb_true, Bool.not_false, Bool.not_true]
              have q0 := (HFC.out w' hw').2.2.2.1
              go_simp
            simp only [Act.put, List.setIfInBounds_toArray, List.set_cons_zero, List.set_cons_succ]
            refine mb_runs (!x178) ((.slice (some ⟨g, 0, none⟩) aw.length cap2)) (want_no 32 179 x178 rfl HD32.out rfl) (fun hb w' hw' => ?_) ?_
            · simp only [Bool.not_eq_true'] at hb
              subst hb
              try simp only [mb_true, Bool.not_false, Bool.not_true]
              go_simp
            simp only [Act.put, List.setIfInBounds_toArray, List.set_cons_zero, List.set_cons_succ]
            refine mb_runs (!x178) (.int .i64 j) (want_no 32 179 x178 rfl HD32.out rfl) (fun hb w' hw' => ?_) ?_
            · simp only [Bool.not_eq_true'] at hb
              subst hb
              try simp only [mb_true, Bool.not_false, Bool.not_true]
              go_simp
            simp only [Act.put, List.setIfInBounds_toArray, List.set_cons_zero, List.set_cons_succ]
            refine mb_runs (!x178) (.pointer (some ⟨g, j * 5, none⟩)) (want_no 32 179 x178 rfl HD32.out rfl) (fun hb w' hw' => ?_) ?_
            · simp only [Bool.not_eq_true'] at hb
              subst hb
              try simp only [mb_true, Bool.not_false, Bool.not_true]
              go_simp
            simp only [Act.put, List.setIfInBounds_toArray, List.set_cons_zero, List.set_cons_succ]
            refine mb_runs (!x178) (.pointer (some ⟨g, j * 5 + 3, none⟩)) (want_no 32 179 x178 rfl HD32.out rfl) (fun hb w' hw' => ?_) ?_
            · simp only [Bool.not_eq_true'] at hb
              subst hb
              try simp only [mb_true, Bool.not_false, Bool.not_true]
              go_simp
            simp only [Act.put, List.setIfInBounds_toArray, List.set_cons_zero, List.set_cons_succ]
            refine mb_runs (!x178) (.int .i64 yd) (want_no 32 179 x178 rfl HD32.out rfl) (fun hb w' hw' => ?_) ?_
            · simp only [Bool.not_eq_true'] at hb
              subst hb
              try simp only [mb_true, Bool.not_false, Bool.not_true]
              have q0 := (HFC.out w' hw').2.2.2.2.2.2.2.2.1
              go_simp
            simp only [Act.put, List.setIfInBounds_toArray, List.set_cons_zero, List.set_cons_succ]
            refine mb_runs (!x178) (.bool x190) (want_no 32 179 x178 rfl HD32.out rfl) (fun hb w' hw' => ?_) ?_
            · simp only [Bool.not_eq_true'] at hb
              subst hb
              try simp only [mb_true, Bool.not_false, Bool.not_true]
              rw [← Hx190.out]
              go_simp
              try rfl
            simp only [Act.put, List.setIfInBounds_toArray, List.set_cons_zero, List.set_cons_succ]
            refine quiet_runs (.bool x191) (wanted_none rfl) (fun w' hw' => ?_) ?_
            · rw [← Hx191.out]
              cases x178 <;> (simp only [mb_true, mb_false, Bool.true_and, Bool.not_true, Bool.not_false]; go_simp)
            simp only [Act.put, List.setIfInBounds_toArray, List.set_cons_zero, List.set_cons_succ]
            refine quiet_runs (.bool x191) (wanted_none rfl) (fun w' hw' => ?_) ?_
            · go_simp
            simp only [Act.put, List.setIfInBounds_toArray, List.set_cons_zero, List.set_cons_succ]
            refine mb_runs (!x191) ((.slice (some ⟨g', 0, none⟩) aw.length cap6)) (want_no 45 192 x191 rfl HD45.out rfl) (fun hb w' hw' => ?_) ?_
            · simp only [Bool.not_eq_true'] at hb
              subst hb
              try simp only [mb_true, Bool.not_false, Bool.not_true]
              go_simp
            simp only [Act.put, List.setIfInBounds_toArray, List.set_cons_zero, List.set_cons_succ]
            refine mb_runs (!x191) (.int .i64 j) (want_no 45 192 x191 rfl HD45.out rfl) (fun hb w' hw' => ?_) ?_
            · simp only [Bool.not_eq_true'] at hb
              subst hb
              try simp only [mb_true, Bool.not_false, Bool.not_true]
              go_simp
            simp only [Act.put, List.setIfInBounds_toArray, List.set_cons_zero, List.set_cons_succ]
            refine mb_runs (!x191) (.pointer (some ⟨g', j * 5, none⟩)) (want_no 45 192 x191 rfl HD45.out rfl) (fun hb w' hw' => ?_) ?_
            · simp only [Bool.not_eq_true'] at hb
              subst hb
              try simp only [mb_true, Bool.not_false, Bool.not_true]
              go_simp
            simp only [Act.put, List.setIfInBounds_toArray, List.set_cons_zero, List.set_cons_succ]
            refine mb_runs (!x191) (.pointer (some ⟨g', j * 5 + 1, none⟩)) (want_no 45 192 x191 rfl HD45.out rfl) (fun hb w' hw' => ?_) ?_
            · simp only [Bool.not_eq_true'] at hb
              subst hb
              try simp only [mb_true, Bool.not_false, Bool.not_true]
              go_simp
            simp only [Act.put, List.setIfInBounds_toArray, List.set_cons_zero, List.set_cons_succ]
            refine mb_runs (!x191) (.string yn) (want_no 45 192 x191 rfl HD45.out rfl) (fun hb w' hw' => ?_) ?_
            · simp only [Bool.not_eq_true'] at hb
              subst hb
              try simp only [mb_true, Bool.not_false, Bool.not_true]
              have q0 := (HFC.out w' hw').2.1
              go_simp
            simp only [Act.put, List.setIfInBounds_toArray, List.set_cons_zero, List.set_cons_succ]
            refine mb_runs (!x191) ((.slice (some ⟨g, 0, none⟩) aw.length cap2)) (want_no 45 192 x191 rfl HD45.out rfl) (fun hb w' hw' => ?_) ?_
            · simp only [Bool.not_eq_true'] at hb
              subst hb
              try simp only [mb_true, Bool.not_false, Bool.not_true]
              go_simp
            simp only [Act.put, List.setIfInBounds_toArray, List.set_cons_zero, List.set_cons_succ]
            refine mb_runs (!x191) (.int .i64 j) (want_no 45 192 x191 rfl HD45.out rfl) (fun hb w' hw' => ?_) ?_
            · simp only [Bool.not_eq_true'] at hb
              subst hb
              try simp only [mb_true, Bool.not_false, Bool.not_true]
              go_simp
            simp only [Act.put, List.setIfInBounds_toArray, List.set_cons_zero, List.set_cons_succ]
            refine mb_runs (!x191) (.pointer (some ⟨g, j * 5, none⟩)) (want_no 45 192 x191 rfl HD45.out rfl) (fun hb w' hw' => ?_) ?_
            · simp only [Bool.not_eq_true'] at hb
              subst hb
              try simp only [mb_true, Bool.not_false, Bool.not_true]
              go_simp
            simp only [Act.put, List.setIfInBounds_toArray, List.set_cons_zero, List.set_cons_succ]
            refine mb_runs (!x191) (.pointer (some ⟨g, j * 5 + 1, none⟩)) (want_no 45 192 x191 rfl HD45.out rfl) (fun hb w' hw' => ?_) ?_
            · simp only [Bool.not_eq_true'] at hb
              subst hb
              try simp only [mb_true, Bool.not_false, Bool.not_true]
              go_simp
            simp only [Act.put, List.setIfInBounds_toArray, List.set_cons_zero, List.set_cons_succ]
            refine mb_runs (!x191) (.string yn) (want_no 45 192 x191 rfl HD45.out rfl) (fun hb w' hw' => ?_) ?_
            · simp only [Bool.not_eq_true'] at hb
              subst hb
              try simp only [mb_true, Bool.not_false, Bool.not_true]
              have q0 := (HFC.out w' hw').2.2.2.2.2.2.1
              go_simp
            simp only [Act.put, List.setIfInBounds_toArray, List.set_cons_zero, List.set_cons_succ]
            refine mb_runs (!x191) (.bool x203) (want_no 45 192 x191 rfl HD45.out rfl) (fun hb w' hw' => ?_) ?_
            · simp only [Bool.not_eq_true'] at hb
              subst hb
              try simp only [mb_true, Bool.not_false, Bool.not_true]
              rw [← Hx203.out]
              go_simp
              try rfl
            simp only [Act.put, List.setIfInBounds_toArray, List.set_cons_zero, List.set_cons_succ]
            refine quiet_runs (.bool x204) (wanted_none rfl) (fun w' hw' => ?_) ?_
            · rw [← Hx204.out]
              cases x191 <;> (simp only [mb_true, mb_false, Bool.true_and, Bool.not_true, Bool.not_false]; go_simp)
            simp only [Act.put, List.setIfInBounds_toArray, List.set_cons_zero, List.set_cons_succ]
            refine quiet_runs (.bool x204) (wanted_none rfl) (fun w' hw' => ?_) ?_
            · go_simp
            simp only [Act.put, List.setIfInBounds_toArray, List.set_cons_zero, List.set_cons_succ]
            refine mb_runs (!x204) ((.slice (some ⟨g', 0, none⟩) aw.length cap6)) (want_no 58 205 x204 rfl HD58.out rfl) (fun hb w' hw' => ?_) ?_
            · simp only [Bool.not_eq_true'] at hb
              subst hb
              try simp only [mb_true, Bool.not_false, Bool.not_true]
              go_simp
            simp only [Act.put, List.setIfInBounds_toArray, List.set_cons_zero, List.set_cons_succ]
            refine mb_runs (!x204) (.int .i64 j) (want_no 58 205 x204 rfl HD58.out rfl) (fun hb w' hw' => ?_) ?_
            · simp only [Bool.not_eq_true'] at hb
              subst hb
              try simp only [mb_true, Bool.not_false, Bool.not_true]
              go_simp
            simp only [Act.put, List.setIfInBounds_toArray, List.set_cons_zero, List.set_cons_succ]
            refine mb_runs (!x204) (.pointer (some ⟨g', j * 5, none⟩)) (want_no 58 205 x204 rfl HD58.out rfl) (fun hb w' hw' => ?_) ?_
            · simp only [Bool.not_eq_true'] at hb
              subst hb
              try simp only [mb_true, Bool.not_false, Bool.not_true]
              go_simp
            simp only [Act.put, List.setIfInBounds_toArray, List.set_cons_zero, List.set_cons_succ]
            refine mb_runs (!x204) (.pointer (some ⟨g', j * 5 + 2, none⟩)) (want_no 58 205 x204 rfl HD58.out rfl) (fun hb w' hw' => ?_) ?_
            · simp only [Bool.not_eq_true'] at hb
              subst hb
              try simp only [mb_true, Bool.not_false, Bool.not_true]
              go_simp
            simp only [Act.put, List.setIfInBounds_toArray, List.set_cons_zero, List.set_cons_succ]
            refine mb_runs (!x204) (.string yl) (want_no 58 205 x204 rfl HD58.out rfl) (fun hb w' hw' => ?_) ?_
            · simp only [Bool.not_eq_true'] at hb
              subst hb
              try simp only [mb_true, Bool.not_false, Bool.not_true]
              have q0 := (HFC.out w' hw').2.2.1
              go_simp
            simp only [Act.put, List.setIfInBounds_toArray, List.set_cons_zero, List.set_cons_succ]
            refine mb_runs (!x204) ((.slice (some ⟨g, 0, none⟩) aw.length cap2)) (want_no 58 205 x204 rfl HD58.out rfl) (fun hb w' hw' => ?_) ?_
            · simp only [Bool.not_eq_true'] at hb
              subst hb
              try simp only [mb_true, Bool.not_false, Bool.not_true]
              go_simp
            simp only [Act.put, List.setIfInBounds_toArray, List.set_cons_zero, List.set_cons_succ]
            refine mb_runs (!x204) (.int .i64 j) (want_no 58 205 x204 rfl HD58.out rfl) (fun hb w' hw' => ?_) ?_
            · simp only [Bool.not_eq_true'] at hb
              subst hb
              try simp only [mb_true, Bool.not_false, Bool.not_true]
              go_simp
            simp only [Act.put, List.setIfInBounds_toArray, List.set_cons_zero, List.set_cons_succ]
            refine mb_runs (!x204) (.pointer (some ⟨g, j * 5, none⟩)) (want_no 58 205 x204 rfl HD58.out rfl) (fun hb w' hw' => ?_) ?_
            · simp only [Bool.not_eq_true'] at hb
              subst hb
              try simp only [mb_true, Bool.not_false, Bool.not_true]
              go_simp
            simp only [Act.put, List.setIfInBounds_toArray, List.set_cons_zero, List.set_cons_succ]
            refine mb_runs (!x204) (.pointer (some ⟨g, j * 5 + 2, none⟩)) (want_no 58 205 x204 rfl HD58.out rfl) (fun hb w' hw' => ?_) ?_
            · simp only [Bool.not_eq_true'] at hb
              subst hb
              try simp only [mb_true, Bool.not_false, Bool.not_true]
              go_simp
            simp only [Act.put, List.setIfInBounds_toArray, List.set_cons_zero, List.set_cons_succ]
            refine mb_runs (!x204) (.string yl) (want_no 58 205 x204 rfl HD58.out rfl) (fun hb w' hw' => ?_) ?_
            · simp only [Bool.not_eq_true'] at hb
              subst hb
              try simp only [mb_true, Bool.not_false, Bool.not_true]
              have q0 := (HFC.out w' hw').2.2.2.2.2.2.2.1
              go_simp
            simp only [Act.put, List.setIfInBounds_toArray, List.set_cons_zero, List.set_cons_succ]
            refine mb_runs (!x204) (.bool x216) (want_no 58 205 x204 rfl HD58.out rfl) (fun hb w' hw' => ?_) ?_
            · simp only [Bool.not_eq_true'] at hb
              subst hb
              try simp only [mb_true, Bool.not_false, Bool.not_true]
              rw [← Hx216.out]
              go_simp
              try rfl
            simp only [Act.put, List.setIfInBounds_toArray, List.set_cons_zero, List.set_cons_succ]
            refine quiet_runs (.bool x217) (wanted_none rfl) (fun w' hw' => ?_) ?_
            · rw [← Hx217.out]
              cases x204 <;> (simp only [mb_true, mb_false, Bool.true_and, Bool.not_true, Bool.not_false]; go_simp)
            simp only [Act.put, List.setIfInBounds_toArray, List.set_cons_zero, List.set_cons_succ]
            refine wpQuiet_nil ?_
            intro w9 hw9
            have hHB9 := hidC hw9
            have hfin : x217 = false := by
              rw [← Hx217.out, ← Hx216.out, ← Hx204.out, ← Hx203.out, ← Hx191.out, ← Hx190.out, ← Hx178.out, ← Hx177.out, ← Hx176.out, ← Hx157.out, ← HZS.out]
              cases yc <;> simp
            subst hfin
            clear hw9 q8 q9
            clear HFC
            clear Hx217
            clear Hx216
            clear Hx204
            clear Hx203
            clear Hx191
            clear Hx190
            clear Hx178
            clear Hx177
            clear Hx176
            clear Hx157
            go_wp2_with fail
            go_roundw
            case rel => exact ⟨j + 1, by omega, by go_num, hHB9.out⟩
            case measure => simp [intOf] <;> omega
          · go_wp2_with fail
            go_meet
            case rel => exact HB13.out.trans (HBZ.out.mono HB13.out.size)
    case rest =>
      have hbx := hcut
      clear hcut
      rename_i zz0 zz1 zz2 zz3 zz4 zz5
      revert pl ql la ll lc lf ca cl cc cf day when w hll hcl d n hdd1 hdd2 hnn1 hnn2 Q9 V c cy HCHK HOK HCHKY HOKY tc xc tc2 xc2 HVAL HVAL2 HWT HWTY ops wa1 ta wa2 wa3 tb wa4 w2 w4 p f q r B K HE HW4 HCX HGV HAV HWV HSV HGO HAO HWO HSO HCG HCN HCW HCS HKG HKN HKW HKS HFW HFS HLM w5 ao cap bo cap2 w6 co cap3 do' cap4 af aw HFL HWTA HLA bf bw be HLB hla hlw hlb HW6 HAQ K9 HFG HFN wr zz0 u23 u93 u94 u95 u96 u97 u98 u99 u100 u101 u102 u103 u104 u105 u106 u107 u108 u109 u110 i W0 HB0' HWW0 HRA0 HRB0 HAF0 HAW0 zz1 zz2 zz3 zz4 zz5 w10 HB10 kg HKGE wc u12 u24 u25 u26 u27 u114 u115 u116 u117 u118 u119 u120 u121 u122 u123 u124 u125 u126 u127 u128 u129 u130 u131 u132 u133 u134 u135 u136 u137 u138 u139 u140 u141 u142 u143 u144 u145 u146 u147 u148 u149 u150 u151 u152 u153 u154 u155 u156 u157 u158 u159 u160 u161 u162 u163 u164 u165 u166 u167 u168 u169 u170 u171 u172 u173 u174 u175 u176 u177 u178 u179 u180 u181 u182 u183 u184 u185 u186 u187 u188 u189 u190 u191 u192 u193 u194 u195 u196 u197 u198 u199 u200 u201 u202 u203 u204 u205 u206 u207 u208 u209 u210 u211 u212 u213 u214 u215 u216 u217 u218 hbx
      exact hG.out

end Go.Proofs.Ytcdkejnnbbkecaa.Ca
namespace Go.Proofs.Ytcdkejnnbbkecaa.Ca
open Go.RowKit Wd Cn Vl
set_option linter.unusedVariables false
set_option linter.unusedSimpArgs false

set_option maxHeartbeats 40000000 in
set_option maxRecDepth 100000 in
def laws10_3 : {G : Prop // Box G → laws10_2.1} := by
  refine' ⟨_, fun hG => ?_⟩
  rotate_left
  focus
    intro pl ql la ll lc lf ca cl cc cf day when w hll hcl d n hdd1 hdd2 hnn1 hnn2 Q9 V c cy HCHK HOK HCHKY HOKY tc xc tc2 xc2 HVAL HVAL2 HWT HWTY ops wa1 ta wa2 wa3 tb wa4 w2 w4 p f q r B K HE HW4 HCX HGV HAV HWV HSV HGO HAO HWO HSO HCG HCN HCW HCS HKG HKN HKW HKS HFW HFS HLM w5 ao cap bo cap2 w6 co cap3 do' cap4 af aw HFL HWTA HLA bf bw be HLB hla hlw hlb HW6 HAQ K9 HFG HFN wr zz0 u23 u93 u94 u95 u96 u97 u98 u99 u100 u101 u102 u103 u104 u105 u106 u107 u108 u109 u110 i W0 HB0' HWW0 HRA0 HRB0 HAF0 HAW0 zz1 zz2 zz3 zz4 zz5 w10 HB10 kg HKGE wc u12 u24 u25 u26 u27 u114 u115 u116 u117 u118 u119 u120 u121 u122 u123 u124 u125 u126 u127 u128 u129 u130 u131 u132 u133 u134 u135 u136 u137 u138 u139 u140 u141 u142 u143 u144 u145 u146 u147 u148 u149 u150 u151 u152 u153 u154 u155 u156 u157 u158 u159 u160 u161 u162 u163 u164 u165 u166 u167 u168 u169 u170 u171 u172 u173 u174 u175 u176 u177 u178 u179 u180 u181 u182 u183 u184 u185 u186 u187 u188 u189 u190 u191 u192 u193 u194 u195 u196 u197 u198 u199 u200 u201 u202 u203 u204 u205 u206 u207 u208 u209 u210 u211 u212 u213 u214 u215 u216 u217 u218 hbx
    generalize hWn : wc = W1 at *
    clear hWn
    have HBW1 : Hid (Below w4.heap.size w4 W1) := HB0'.out.trans (hbx.mono HB0'.out.size)
    have HWW1 : Hid (Below w.heap.size w W1) := HW4.out.trans (HBW1.out.mono HW4.out.size)
    have HRA1 := hidC (ownsRow_below HRA0.out hbx)
    have HRB1 := hidC (ownsRow_below HRB0.out hbx)
    clear hbx HB10 HKGE HFG HCG HKG HRA0 HRB0 HAF0 HAW0 HWTA
    go_upto_region 27 with fail
    have HBN := hidC (below_alloc (Below.refl W1.heap.size W1) (.cells #[.iface tc xc, .iface tc2 xc2] 53))
    have HXN := hidC (heap_alloc_new W1 (.cells #[.iface tc xc, .iface tc2 xc2] 53))
    generalize W1.alloc (.cells #[.iface tc xc, .iface tc2 xc2] 53) = VN at *
    obtain ⟨kn, hkn⟩ : ∃ kn, chkC (C.and c cy) = kn := ⟨_, rfl⟩
    have HKNE := hidC hkn
    clear hkn
    have HCE : Hid (∀ w', Below VN.heap.size VN w' → w'.cell? ⟨W1.heap.size, 0, none⟩ = some (.iface tc xc) ∧ w'.cell? ⟨W1.heap.size, 1, none⟩ = some (.iface tc2 xc2)) := fun w' hw' => by
      have hx := (hw'.block _ (Array.getElem?_eq_some_iff.1 HXN.out).1).trans HXN.out
      exact ⟨cell_of_row _ _ 0 _ _ _ hx, cell_of_row _ _ 1 _ _ _ hx⟩
    obtain ⟨v225, hv225⟩ : ∃ x, (kn == 0) = x := ⟨_, rfl⟩
    have Hv225 := hidIn hv225
    clear hv225
    obtain ⟨v228, hv228⟩ : ∃ x, (be == 0) = x := ⟨_, rfl⟩
    have Hv228 := hidIn hv228
    clear hv228
    obtain ⟨v229, hv229⟩ : ∃ x, (v225 && v228) = x := ⟨_, rfl⟩
    have Hv229 := hidIn hv229
    clear hv229
    refine wp_region_calm (fun w' => Below VN.heap.size VN w') (Below.refl _ _) ?_
    generalize hops : (#[_, _, _, _, _, _, _, _] : Array Oper) = ops
    have HD4 : Hid ((ops[4]?).bind (·.dst) = some 226) := by rw [← hops]; exact rfl
    clear hops
    refine quiet_runs (.agg #[.iface tc xc, .iface tc2 xc2]) (wanted_none rfl) (fun w' hw' => ?_) ?_
    · obtain ⟨t0, t1⟩ := HCE.out w' hw'
      go_simp
    simp only [Act.put, List.setIfInBounds_toArray, List.set_cons_zero, List.set_cons_succ]
    refine quiet_runs (.iface 53 (.agg #[.iface tc xc, .iface tc2 xc2])) (wanted_none rfl) (fun w' hw' => ?_) ?_
    · go_simp
    simp only [Act.put, List.setIfInBounds_toArray, List.set_cons_zero, List.set_cons_succ]
    refine quiet_calls 10 #[.iface 53 (.agg #[.iface tc xc, .iface tc2 xc2])] (.int .i64 kn) (wanted_none rfl) (fun w' hw' => ?_) (fun w' hw' => ?_) ?_
    · go_simp
    · refine (HKN.out w').mono ?_
      rintro e w2 ⟨rfl, hb⟩
      rw [HKNE.out]
      exact ⟨rfl, hw'.trans (hb.mono hw'.size)⟩
    simp only [Act.put, List.setIfInBounds_toArray, List.set_cons_zero, List.set_cons_succ]
    refine quiet_runs (.bool v225) (wanted_none rfl) (fun w' hw' => ?_) ?_
    · rw [← Hv225.out]
      go_simp
    simp only [Act.put, List.setIfInBounds_toArray, List.set_cons_zero, List.set_cons_succ]
    refine quiet_runs (.bool v225) (wanted_none rfl) (fun w' hw' => ?_) ?_
    · go_simp
    simp only [Act.put, List.setIfInBounds_toArray, List.set_cons_zero, List.set_cons_succ]
    refine mb_runs v225 (.int .i64 be) (want_yes 4 226 v225 rfl HD4.out rfl) (fun hb w' hw' => ?_) ?_
    · subst hb
      try simp only [mb_true]
      go_simp
    simp only [Act.put, List.setIfInBounds_toArray, List.set_cons_zero, List.set_cons_succ]
    refine mb_runs v225 (.bool v228) (want_yes 4 226 v225 rfl HD4.out rfl) (fun hb w' hw' => ?_) ?_
    · subst hb
      try simp only [mb_true]
      rw [← Hv228.out]
      go_simp
    simp only [Act.put, List.setIfInBounds_toArray, List.set_cons_zero, List.set_cons_succ]
    refine quiet_runs (.bool v229) (wanted_none rfl) (fun w' hw' => ?_) ?_
    · rw [← Hv229.out]
      cases v225 <;> (simp only [mb_true, mb_false, Bool.true_and, Bool.not_true, Bool.not_false]; go_simp)
    simp only [Act.put, List.setIfInBounds_toArray, List.set_cons_zero, List.set_cons_succ]
    refine wpQuiet_nil ?_
    intro w20 hw20
    obtain ⟨t0, t1⟩ := HCE.out w20 hw20
    have HB20 := hidC (HBN.out.trans (hw20.mono HBN.out.size))
    have hkb : v229 = (kn == 0 && be == 0) := by rw [← Hv229.out, ← Hv228.out, ← Hv225.out]
    clear hw20 HXN HCE Hv229 Hv228 Hv225
    subst hkb
    go_upto_if 229 with fail
    go_cut [12] from 222 to 249 (fun s12 wx => Below W1.heap.size W1 wx)
    case first =>
      by_cases hk0 : (kn == 0 && be == 0) = true
      rotate_left
      · have hk0' : (kn == 0 && be == 0) = false := by simpa using hk0
        rw [hk0']
        clear hk0 hk0'
        go_wp2_with fail
        go_meet
        case rel => exact HB20.out
      · rw [hk0]
        obtain ⟨rfl, rfl⟩ : kn = 0 ∧ be = 0 := by simpa using hk0
        clear hk0
        obtain ⟨g1, g2⟩ := HFN.out HKNE.out (by first | rfl | trivial) (by first | rfl | trivial)
        have HG1 := hidC g1
        have HG2 := hidC g2
        clear g1 g2
        go_wp2_with fail
        refine (HCN.out w20 (HBW1.out.trans (HB20.out.mono HBW1.out.size))).mono ?_
        rintro e w21 ⟨fo, cap5, ho, cap6, rfl, hF, hA, hB, hb21⟩
        rw [HG1.out]
        rw [HG2.out] at hA ⊢
        have HNF := hidC hA
        have HB21 := hidC (HB20.out.trans (hb21.mono HB20.out.size))
        have HRA21 := hidC (ownsRow_below HRA1.out HB21.out)
        clear hF hA hB hb21 t0 t1
        go_wp2_with fail
        refine (copyF_any w21 _ _ af HRA21.out (by omega)).mono ?_
        rintro e w22 ⟨cv, rfl, hcv, hb22⟩
        have HCV := hidC hcv
        have HB22 := hidC (HB21.out.trans (hb22.mono HB21.out.size))
        have HNFK : Hid (∀ w', Below w21.heap.size w22 w' → HasFls w' fo (af ++ bf)) := fun w' hw' => HNF.out.below (hb22.trans hw')
        have HRB22 := hidC (ownsRow_below HRB1.out HB22.out)
        have HSZ22 := hidC hb22.size
        clear hcv hb22 HNF HRA21
        go_wp2_with (first
          | (at_builtin; refine wpList_append_fls_met _ rfl _ _ rfl w21.heap.size _ af rfl HCV.out _ _ bf rfl HRB22.out (by omega) HSZ22.out ?_; intro v9 w23 hown9 hgrow9)
          | fail)
        have HB23 : Hid (Below w21.heap.size w22 w23) := (Below.refl _ _).grown hgrow9 (by have := HSZ22.out; omega) (fun k hk => (World.ownsRow.lt HCV.out k hk).1)
        obtain ⟨uo, ucap, rfl, huf⟩ := own_fls hown9
        have HUF := hidC huf
        have HNF23 : Hid (HasFls w23 fo (af ++ bf)) := HNFK.out w23 HB23.out
        have HW23 : Hid (Below W1.heap.size W1 w23) := HB22.out.trans (HB23.out.mono HB21.out.size)
        clear hown9 hgrow9 huf
        have hal : (af ++ bf).length ≤ 1000000 := by rw [List.length_append]; omega
        have HAL := hidC (show (af ++ bf).length = af.length + bf.length from List.length_append)
        generalize af ++ bf = abf at *
        have HSF := hidC (sameF_any w23 fo uo cap5 ucap abf abf HNF23.out HUF.out hal hal)
        rw [decide_eq_true rfl] at HSF
        go_wp2_with fail
        rw [← HAL.out]
        refine HSF.out.mono ?_
        rintro e w24 ⟨rfl, hb24⟩
        have HW24 := hidC (HW23.out.trans (hb24.mono HW23.out.size))
        clear hb24 HSF
        go_wp2_with fail
        go_meet
        case rel => exact HW24.out
    case rest =>
      have hbx := hcut
      clear hcut
      rename_i y3_0 y3_1 y3_2 y3_3 y3_4
      revert pl ql la ll lc lf ca cl cc cf day when w hll hcl d n hdd1 hdd2 hnn1 hnn2 Q9 V c cy HCHK HOK HCHKY HOKY tc xc tc2 xc2 HVAL HVAL2 HWT HWTY y3_0 wa1 ta wa2 wa3 tb wa4 w2 w4 p f q r B K HE HW4 HCX HGV HAV HWV HSV HGO HAO HWO HSO HCN HCW HCS HKN HKW HKS HFW HFS HLM w5 ao cap bo cap2 w6 co cap3 do' cap4 af aw HFL HLA bf bw be HLB hla hlw hlb HW6 HAQ K9 HFN wr zz0 u23 u93 u94 u95 u96 u97 u98 u99 u100 u101 u102 u103 u104 u105 u106 u107 u108 u109 u110 i W0 HB0' HWW0 zz1 zz2 zz3 w10 kg y3_1 y3_2 u24 u25 u26 u27 u114 u115 u116 u117 u118 u119 u120 u121 u122 u123 u124 u125 u126 u127 u128 u129 u130 u131 u132 u133 u134 u135 u136 u137 u138 u139 u140 u141 u142 u143 u144 u145 u146 u147 u148 u149 u150 u151 u152 u153 u154 u155 u156 u157 u158 u159 u160 u161 u162 u163 u164 u165 u166 u167 u168 u169 u170 u171 u172 u173 u174 u175 u176 u177 u178 u179 u180 u181 u182 u183 u184 u185 u186 u187 u188 u189 u190 u191 u192 u193 u194 u195 u196 u197 u198 u199 u200 u201 u202 u203 u204 u205 u206 u207 u208 u209 u210 u211 u212 u213 u214 u215 u216 u217 u218 W1 HBW1 HWW1 HRA1 HRB1 y3_3 y3_4 VN HBN kn HKNE v225 v228 ops HD4 w20 t0 t1 HB20 wc u12 u29 u30 u31 u222 u223 u224 u225 u226 u227 u228 u229 u230 u231 u232 u233 u234 u235 u236 u237 u238 u239 u240 u241 u242 u243 u244 u245 u246 u247 u248 u249 hbx
      exact hG.out

end Go.Proofs.Ytcdkejnnbbkecaa.Ca
namespace Go.Proofs.Ytcdkejnnbbkecaa.Ca
open Go.RowKit Wd Cn Vl
set_option linter.unusedVariables false
set_option linter.unusedSimpArgs false

set_option maxHeartbeats 40000000 in
set_option maxRecDepth 100000 in
def laws10_4 : {G : Prop // Box G → laws10_3.1} := by
  refine' ⟨_, fun hG => ?_⟩
  rotate_left
  focus
    intro pl ql la ll lc lf ca cl cc cf day when w hll hcl d n hdd1 hdd2 hnn1 hnn2 Q9 V c cy HCHK HOK HCHKY HOKY tc xc tc2 xc2 HVAL HVAL2 HWT HWTY y3_0 wa1 ta wa2 wa3 tb wa4 w2 w4 p f q r B K HE HW4 HCX HGV HAV HWV HSV HGO HAO HWO HSO HCN HCW HCS HKN HKW HKS HFW HFS HLM w5 ao cap bo cap2 w6 co cap3 do' cap4 af aw HFL HLA bf bw be HLB hla hlw hlb HW6 HAQ K9 HFN wr zz0 u23 u93 u94 u95 u96 u97 u98 u99 u100 u101 u102 u103 u104 u105 u106 u107 u108 u109 u110 i W0 HB0' HWW0 zz1 zz2 zz3 w10 kg y3_1 y3_2 u24 u25 u26 u27 u114 u115 u116 u117 u118 u119 u120 u121 u122 u123 u124 u125 u126 u127 u128 u129 u130 u131 u132 u133 u134 u135 u136 u137 u138 u139 u140 u141 u142 u143 u144 u145 u146 u147 u148 u149 u150 u151 u152 u153 u154 u155 u156 u157 u158 u159 u160 u161 u162 u163 u164 u165 u166 u167 u168 u169 u170 u171 u172 u173 u174 u175 u176 u177 u178 u179 u180 u181 u182 u183 u184 u185 u186 u187 u188 u189 u190 u191 u192 u193 u194 u195 u196 u197 u198 u199 u200 u201 u202 u203 u204 u205 u206 u207 u208 u209 u210 u211 u212 u213 u214 u215 u216 u217 u218 W1 HBW1 HWW1 HRA1 HRB1 y3_3 y3_4 VN HBN kn HKNE v225 v228 ops HD4 w20 t0 t1 HB20 wc u12 u29 u30 u31 u222 u223 u224 u225 u226 u227 u228 u229 u230 u231 u232 u233 u234 u235 u236 u237 u238 u239 u240 u241 u242 u243 u244 u245 u246 u247 u248 u249 hbx
    generalize hWn : wc = W2 at *
    clear hWn
    have HBW2 : Hid (Below w4.heap.size w4 W2) := HBW1.out.trans (hbx.mono HBW1.out.size)
    have HWW2 : Hid (Below w.heap.size w W2) := HW4.out.trans (HBW2.out.mono HW4.out.size)
    have HRA2 : Hid (Below W1.heap.size W1 W2) := hbx
    clear hbx HB20 HKNE HFN HCN HKN HRA1 HRB1 HBN HRA2
    go_wp2_with fail
    have HBM := hidC (below_alloc (Below.refl W2.heap.size W2) (.cells #[.int .i64 n, .iface tc xc] 55))
    have HXM := hidC (heap_alloc_new W2 (.cells #[.int .i64 n, .iface tc xc] 55))
    generalize W2.alloc (.cells #[.int .i64 n, .iface tc xc] 55) = VM at *
    refine (HKW.out VM).mono ?_
    rintro e w30 ⟨rfl, hb30⟩
    have HB30 := hidC (HBM.out.trans (hb30.mono HBM.out.size))
    have hx30 := (hb30.block _ (Array.getElem?_eq_some_iff.1 HXM.out).1).trans HXM.out
    have t0 : w30.cell? ⟨W2.heap.size, 0, none⟩ = some (.int .i64 n) := cell_of_row _ _ 0 _ _ _ hx30
    have t1 : w30.cell? ⟨W2.heap.size, 1, none⟩ = some (.iface tc xc) := cell_of_row _ _ 1 _ _ _ hx30
    clear hb30 hx30 HXM
    obtain ⟨kw, hkw⟩ : ∃ kw, chkC (C.when n c) = kw := ⟨_, rfl⟩
    rw [hkw]
    have HKWE := hidC hkw
    clear hkw
    go_upto_if 256 with fail
    go_cut [12] from 253 to 290 (fun s12 wx => Below W2.heap.size W2 wx)
    case first =>
      by_cases hk0 : kw = 0
      rotate_left
      · have hk0' : (kw == 0) = false := by simpa using hk0
        clear hk0
        go_wp2_with fail
        go_meet
        case rel => exact HB30.out
      · subst hk0
        obtain ⟨m, hm⟩ : ∃ m, Max.max d n = m := ⟨_, rfl⟩
        have hm1 : 0 ≤ m := by omega
        have hm2 : m ≤ 10000 := by omega
        have HOFM := hidC (HFW.out HKWE.out m hm hm2)
        have HOR : Hid ((d < n ∧ m = n) ∨ (n ≤ d ∧ m = d)) := by unfold Hid; omega
        clear hm
        have HLMM := hidC (HLM.out m)
        go_wp2_with fail
        refine (HCW.out w30 (HBW2.out.trans (HB30.out.mono HBW2.out.size))).mono ?_
        rw [HOFM.out]
        rintro e w31 ⟨fo, cap5, ho, cap6, rfl, hF, hA, hB, hb31⟩
        have HNF := hidC hA
        have HNW := hidC hB
        have HB31 := hidC (HB30.out.trans (hb31.mono HB30.out.size))
        clear hF hA hB hb31 t0 t1
        have HCX31 := hidC (HCX.out w31 (HBW2.out.trans (HB31.out.mono HBW2.out.size)) m hm1 hm2)
        generalize ofK K ⟨#[116]⟩ c m = zz at *
        have hlz := HLMM.out.1
        have hlz2 := HLMM.out.2
        have hwc := HWT.out
        rcases HOR.out with ⟨ho', rfl⟩ | ⟨ho', rfl⟩
        all_goals
          go_wp2_with fail
          refine HCX31.out.mono ?_
          rintro e w32 ⟨io, cap7, jo, cap8, rfl, hF, hA, hB, hb32⟩
          have HMF := hidC hA
          have HMW := hidC hB
          have HNF32 := hidC (HNF.out.below hb32)
          have HNW32 := hidC (HNW.out.below hb32)
          have HB32 := hidC (HB31.out.trans (hb32.mono HB31.out.size))
          clear hF hA hB hb32
          have HSF := hidC (sameF_any w32 fo io cap5 cap7 zz.f zz.f HNF32.out HMF.out (by omega) (by omega))
          rw [decide_eq_true rfl] at HSF
          go_wp2_with fail
          refine HSF.out.mono ?_
          rintro e w33 ⟨rfl, hb33⟩
          have HNW33 := hidC (HNW32.out.below hb33)
          have HMW33 := hidC (HMW.out.below hb33)
          have HB33 := hidC (HB32.out.trans (hb33.mono HB32.out.size))
          clear hb33 HSF
          have HSW := hidC (sameW_any w33 ho jo cap6 cap8 zz.w zz.w HNW33.out HMW33.out (by omega) (by omega))
          rw [decide_eq_true rfl] at HSW
          go_wp2_with fail
          refine HSW.out.mono ?_
          rintro e w34 ⟨rfl, hb34⟩
          have HB34 := hidC (HB33.out.trans (hb34.mono HB33.out.size))
          clear hb34 HSW
          go_wp2_with fail
          go_meet
          case rel => exact HB34.out
    case rest =>
      have hbx := hcut
      clear hcut
      rename_i y4_0 y4_1 y4_2 y4_3 y4_4 y4_5
      revert pl ql la ll lc lf ca cl cc cf day when w hll hcl d n hdd1 hdd2 hnn1 hnn2 Q9 V c cy HCHK HOK HCHKY HOKY tc xc tc2 xc2 HVAL HVAL2 HWT HWTY y3_0 wa1 ta wa2 wa3 tb wa4 w2 w4 p f q r B K HE HW4 HCX HGV HAV HWV HSV HGO HAO HWO HSO HCW HCS HKW HKS HFW HFS HLM w5 ao cap bo cap2 w6 co cap3 do' cap4 af aw HFL HLA bf bw be HLB hla hlw hlb HW6 HAQ K9 wr zz0 u23 u93 u94 u95 u96 u97 u98 u99 u100 u101 u102 u103 u104 u105 u106 u107 u108 u109 u110 i W0 HB0' HWW0 zz1 zz2 zz3 w10 kg y3_1 y3_2 u24 u25 u26 u27 u114 u115 u116 u117 u118 u119 u120 u121 u122 u123 u124 u125 u126 u127 u128 u129 u130 u131 u132 u133 u134 u135 u136 u137 u138 u139 u140 u141 u142 u143 u144 u145 u146 u147 u148 u149 u150 u151 u152 u153 u154 u155 u156 u157 u158 u159 u160 u161 u162 u163 u164 u165 u166 u167 u168 u169 u170 u171 u172 u173 u174 u175 u176 u177 u178 u179 u180 u181 u182 u183 u184 u185 u186 u187 u188 u189 u190 u191 u192 u193 u194 u195 u196 u197 u198 u199 u200 u201 u202 u203 u204 u205 u206 u207 u208 u209 u210 u211 u212 u213 u214 u215 u216 u217 u218 W1 HBW1 HWW1 VN kn v225 v228 ops HD4 w20 y4_0 y4_1 y4_2 y4_3 u29 u30 u31 u222 u223 u224 u225 u226 u227 u228 u229 u230 u231 u232 u233 u234 u235 u236 u237 u238 u239 u240 u241 u242 u243 u244 u245 u246 u247 u248 u249 W2 HBW2 HWW2 y4_4 y4_5 VM HBM w30 HB30 t0 t1 kw HKWE wc u12 u33 u34 u35 u36 u37 u38 u253 u254 u255 u256 u257 u258 u259 u260 u261 u262 u263 u264 u265 u266 u267 u268 u269 u270 u271 u272 u273 u274 u275 u276 u277 u278 u279 u280 u281 u282 u283 u284 u285 u286 u287 u288 u289 u290 hbx
      exact hG.out

end Go.Proofs.Ytcdkejnnbbkecaa.Ca
namespace Go.Proofs.Ytcdkejnnbbkecaa.Ca
open Go.RowKit Wd Cn Vl
set_option linter.unusedVariables false
set_option linter.unusedSimpArgs false

set_option maxHeartbeats 40000000 in
set_option maxRecDepth 100000 in
theorem laws10_5 : laws10_4.1 := by
  intro pl ql la ll lc lf ca cl cc cf day when w hll hcl d n hdd1 hdd2 hnn1 hnn2 Q9 V c cy HCHK HOK HCHKY HOKY tc xc tc2 xc2 HVAL HVAL2 HWT HWTY y3_0 wa1 ta wa2 wa3 tb wa4 w2 w4 p f q r B K HE HW4 HCX HGV HAV HWV HSV HGO HAO HWO HSO HCW HCS HKW HKS HFW HFS HLM w5 ao cap bo cap2 w6 co cap3 do' cap4 af aw HFL HLA bf bw be HLB hla hlw hlb HW6 HAQ K9 wr zz0 u23 u93 u94 u95 u96 u97 u98 u99 u100 u101 u102 u103 u104 u105 u106 u107 u108 u109 u110 i W0 HB0' HWW0 zz1 zz2 zz3 w10 kg y3_1 y3_2 u24 u25 u26 u27 u114 u115 u116 u117 u118 u119 u120 u121 u122 u123 u124 u125 u126 u127 u128 u129 u130 u131 u132 u133 u134 u135 u136 u137 u138 u139 u140 u141 u142 u143 u144 u145 u146 u147 u148 u149 u150 u151 u152 u153 u154 u155 u156 u157 u158 u159 u160 u161 u162 u163 u164 u165 u166 u167 u168 u169 u170 u171 u172 u173 u174 u175 u176 u177 u178 u179 u180 u181 u182 u183 u184 u185 u186 u187 u188 u189 u190 u191 u192 u193 u194 u195 u196 u197 u198 u199 u200 u201 u202 u203 u204 u205 u206 u207 u208 u209 u210 u211 u212 u213 u214 u215 u216 u217 u218 W1 HBW1 HWW1 VN kn v225 v228 ops HD4 w20 y4_0 y4_1 y4_2 y4_3 u29 u30 u31 u222 u223 u224 u225 u226 u227 u228 u229 u230 u231 u232 u233 u234 u235 u236 u237 u238 u239 u240 u241 u242 u243 u244 u245 u246 u247 u248 u249 W2 HBW2 HWW2 y4_4 y4_5 VM HBM w30 HB30 t0 t1 kw HKWE wc u12 u33 u34 u35 u36 u37 u38 u253 u254 u255 u256 u257 u258 u259 u260 u261 u262 u263 u264 u265 u266 u267 u268 u269 u270 u271 u272 u273 u274 u275 u276 u277 u278 u279 u280 u281 u282 u283 u284 u285 u286 u287 u288 u289 u290 hbx
  generalize hWn : wc = W3 at *
  clear hWn
  have HBW3 : Hid (Below w4.heap.size w4 W3) := HBW2.out.trans (hbx.mono HBW2.out.size)
  have HWW3 : Hid (Below w.heap.size w W3) := HW4.out.trans (HBW3.out.mono HW4.out.size)
  clear hbx HB30 HKWE HFW HCW HKW HBM HLM HCX
  go_wp2_with fail
  have HBM := hidC (below_alloc (Below.refl W3.heap.size W3) (.cells #[.iface 58 (.agg #[.int .i64 0]), .iface tc xc] 61))
  have HXM := hidC (heap_alloc_new W3 (.cells #[.iface 58 (.agg #[.int .i64 0]), .iface tc xc] 61))
  generalize W3.alloc (.cells #[.iface 58 (.agg #[.int .i64 0]), .iface tc xc] 61) = VS at *
  refine (HKS.out VS).mono ?_
  rintro e w40 ⟨rfl, hb40⟩
  have HB40 := hidC (HBM.out.trans (hb40.mono HBM.out.size))
  have hx40 := (hb40.block _ (Array.getElem?_eq_some_iff.1 HXM.out).1).trans HXM.out
  have t0 : w40.cell? ⟨W3.heap.size, 0, none⟩ = some (.iface 58 (.agg #[.int .i64 0])) := cell_of_row _ _ 0 _ _ _ hx40
  have t1 : w40.cell? ⟨W3.heap.size, 1, none⟩ = some (.iface tc xc) := cell_of_row _ _ 1 _ _ _ hx40
  clear hb40 hx40 HXM
  obtain ⟨ks, hks⟩ : ∃ ks, chkC (C.scale (.const 0) c) = ks := ⟨_, rfl⟩
  rw [hks]
  have HKSE := hidC hks
  clear hks
  have HW40 := hidC (HWW3.out.trans (HB40.out.mono HWW3.out.size))
  by_cases hk0 : ks = 0
  rotate_left
  · have hk0' : (ks == 0) = false := by simpa using hk0
    clear hk0
    go_wp2_with fail
    refine (wakes10_any w40).mono ?_
    rintro e w43 ⟨rfl, hb43⟩
    have HEND := hidC (HW40.out.trans (hb43.mono HW40.out.size))
    clear hb43
    go_wp2_with fail
    go_ret
    exact ⟨rfl, HEND.out⟩
  · subst hk0
    have HS0 := hidC (HFS.out HKSE.out)
    go_wp2_with fail
    refine (HCS.out w40 (HBW3.out.trans (HB40.out.mono HBW3.out.size))).mono ?_
    rw [HS0.out]
    rintro e w41 ⟨fo, cap5, ho, cap6, rfl, hF, hA, hB, hb41⟩
    have HW41 := hidC (HW40.out.trans (hb41.mono HW40.out.size))
    clear hF hA hB hb41 t0 t1
    simp only [List.length_nil]
    go_wp2_with fail
    refine (wakes10_any w41).mono ?_
    rintro e w43 ⟨rfl, hb43⟩
    have HEND := hidC (HW41.out.trans (hb43.mono HW41.out.size))
    clear hb43
    go_wp2_with fail
    go_ret
    exact ⟨rfl, HEND.out⟩
theorem laws10_walk : Laws10 := laws10_1.2 ⟨laws10_2.2 ⟨laws10_3.2 ⟨laws10_4.2 ⟨laws10_5⟩⟩⟩⟩

end Go.Proofs.Ytcdkejnnbbkecaa.Ca
