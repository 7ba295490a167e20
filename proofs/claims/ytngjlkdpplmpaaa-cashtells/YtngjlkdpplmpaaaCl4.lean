/- Known: fixings and choices in both worlds. -/
import Derived.Test.YtngjlkdpplmpaaaCl3
import Derived.Test.YtngjlkdpplmpaaaMakerC0
import Derived.Test.YtngjlkdpplmpaaaCl1
import Derived.Test.YtngjlkdpplmpaaaTermP
import Derived.Test.YtngjlkdpplmpaaaTermWalk
import Derived.Test.YtngjlkdpplmpaaaPlainC
namespace Go.Proofs.Ytngjlkdpplmpaaa.Ca
open Go.RowKit Wd Cn Vl
set_option linter.unusedVariables false

theorem Bo.mapC {w0 W : World} {p f c r B : Nat} {Kc Kr : KW} (h : Bo w0 W p f c r B Kc Kr) : ∃ es cl, W.heap[c]? = some (.map es cl) := by
  obtain ⟨es, cl, hm, _⟩ := h.i.kin.ch
  exact ⟨es, cl, hm⟩
theorem bo_ch {w0 W : World} {p f c r B : Nat} {Kc Kr : KW} (h : Bo w0 W p f c r B Kc Kr) (s t : ByteArray) (q d : Int) (hk : chOk (s, t)) :
    Calls Try.prog 12 #[.pointer (some ⟨p, 0, none⟩), .string s, .string t, .int .i64 q, .int .i64 d] W fun e w' => e = .returned (.int .i64 (chE Kc s t q d)) ∧ Bo w0 w' p f c r B (chN Kc s t q d) Kr :=
  (ch_any W p f c Kc h.i.kin s t q d hk).mono fun e w' h1 => ⟨h1.1, h.gr h1.2.1 h1.2.2 h.i.hc (Bo.mapC h)⟩
theorem bo_rch {w0 W : World} {p f c r B : Nat} {Kc Kr : KW} (h : Bo w0 W p f c r B Kc Kr) (s t : ByteArray) (q d : Int) (hs : s.size ≤ 1000000) (ht : t.size ≤ 1000000) (hl : Kr.C.length ≤ 1000) :
    Calls Try.prog 37 #[.pointer (some ⟨r, 0, none⟩), .string s, .string t, .int .i64 q, .int .i64 d] W fun e w' => e = .returned (.int .i64 (chE Kr s t q d)) ∧ Bo w0 w' p f c r B Kc (chN Kr s t q d) := by
  obtain ⟨vF, vC, hr⟩ := h.rr
  exact (refCh_any W _ r Kr vF vC hr h.hBW s t q d hs ht hl).mono fun e w' h1 => ⟨h1.1, h.rt h1.2.1 h1.2.2⟩
theorem chN_vals {K : KW} (s t : ByteArray) (q d : Int) (h : KW.Vals K) : KW.Vals (chN K s t q d) := by
  unfold chN
  split
  · exact h
  · exact h
theorem chN_F (K : KW) (s t : ByteArray) (q d : Int) : (chN K s t q d).F = K.F := by
  unfold chN
  split <;> rfl
theorem chN_len (K : KW) (s t : ByteArray) (q d : Int) : (chN K s t q d).C.length ≤ K.C.length + 1 := by
  unfold chN
  split <;> simp
theorem pickB_iff (q : Int) : pickB q = true ↔ q = 0 ∨ q = 1 := by simp [pickB]
theorem chE_ok {K : KW} {s t : ByteArray} {q d : Int} (h : chE K s t q d = 0) : pickB q = true ∧ Wd.dayB d = true := by
  unfold chE at h
  split at h
  · cases h
  · rename_i h1
    simp only [Bool.not_eq_false, Bool.and_eq_true] at h1
    exact ⟨h1.1.2, h1.2⟩
theorem chN_chs {K : KW} (s t : ByteArray) (q d : Int) (h : KW.Chs K) : KW.Chs (chN K s t q d) := by
  unfold chN
  split
  · rename_i h1
    obtain ⟨h2, h3⟩ := chE_ok h1
    intro x hx
    rcases List.mem_append.1 hx with hx | hx
    · exact h x hx
    · simp at hx
      subst hx
      exact ⟨(pickB_iff q).1 h2, (Wd.dayB_iff d).1 h3⟩
  · exact h
/-- Fixings alone: nothing is chosen. -/
theorem fixN_C (K : KW) (s : ByteArray) (d v : Int) : (fixN K s d v).C = K.C := by
  unfold fixN
  split <;> rfl

set_option maxHeartbeats 8000000 in
set_option maxRecDepth 100000 in
theorem known9_any (w0 w : World) (p f c r B : Nat) (la : Option Addr) (ll lc : Nat) (lf : Nat → Int) (h : Bo w0 w p f c r B ⟨[], []⟩ ⟨[], []⟩) (hl : HasInts w0 la ll lf) (hll : ll ≤ 9223372036854775807) :
    Calls Try.prog 35 #[.pointer (some ⟨p, 0, none⟩), .pointer (some ⟨r, 0, none⟩), .slice la ll lc] w fun e w' => e = .returned (.tuple #[]) ∧ ∃ K, Bo w0 w' p f c r B K K ∧ KW.Vals K ∧ K.F.length ≤ 12 ∧ K.C = [] := by
  have HB := hidV h
  have HL := hidV hl
  clear h hl
  go_enter Try.func35, Try.ntmps35
  go_wp2_with fail
  go_loopw [6] (fun s6 wr => ∃ (i : Nat) (K : KW), s6 = .int .i64 i ∧ i ≤ 12 ∧ i ≤ ll ∧ Bo w0 wr p f c r B K K ∧ KW.Vals K ∧ K.F.length ≤ i ∧ K.C = []) (fun s6 _ => 12 - (intOf s6).toNat)
  case atStart => exact ⟨0, ⟨[], []⟩, rfl, by omega, by omega, HB.out, (fun q hq => by simp at hq), by simp, rfl⟩
  case round =>
    obtain ⟨i, K, rfl, hi12, hil, hbo, hvals, hlen, hkc⟩ := hrel
    have HKC := hidV hkc
    clear hkc
    have HBO := hidV hbo
    have HVL := hidV hvals
    have HLN := hidV hlen
    clear hbo hvals hlen
    by_cases hlt : i < ll ∧ i < 12
    · obtain ⟨h1, h2⟩ := hlt
      have h1' : (i : Int) < (ll : Int) := by omega
      have h2' : (i : Int) < 12 := by omega
      obtain ⟨lb, lo, rfl, hlb, hlc, hf1, hf2⟩ := HL.out i h1
      have HLC : Hid (∀ w', Below w0.heap.size w0 w' → w'.cell? ⟨lb, lo + i, none⟩ = some (.int .i64 (lf i))) := fun w' hw' => (hw'.cell (p := ⟨lb, lo + i, none⟩) hlb).trans hlc
      obtain ⟨q1, q2⟩ := tdiv_range (lf i) 8 (by omega) hf1 hf2
      have HW40 := hidV (fun w : World => within_any ((lf i).tdiv 8) 40 w (by omega) (by omega) q1 q2)
      have HW8 := hidV (fun w : World => within_any (lf i) 8 w (by omega) (by omega) hf1 hf2)
      obtain ⟨u, hu⟩ : ∃ u : Nat, (lf i).tdiv 8 % 40 = u := ⟨((lf i).tdiv 8 % 40).toNat, by omega⟩
      have hu40 : u < 40 := by omega
      rw [hu] at HW40
      obtain ⟨d, hd⟩ : ∃ d : Nat, lf i % 8 = d := ⟨(lf i % 8).toNat, by omega⟩
      have hd8 : d < 8 := by omega
      rw [hd] at HW8
      clear hlc hu hd
      obtain ⟨m, hm⟩ : ∃ m : Nat, i % 3 = m := ⟨_, rfl⟩
      have hm3 : m < 3 := by omega
      have htm : Int.tmod (i : Int) 3 = (m : Int) := by rw [← hm]; rw [Int.tmod_eq_emod_of_nonneg (by omega)]; omega
      have hm3' : ¬ ((3 : Int) ≤ (m : Int)) := by omega
      obtain ⟨sn, hsz, hcell⟩ := three_cells wr m hm3
      have HSZ := hidV hsz
      clear hm hsz
      have hb0 := HLC.out wr HBO.out.i.below
      have hb1 : (wr.alloc (.cells #[.string ⟨#[108, 105, 98, 111, 114]⟩, .string ⟨#[114, 97, 105, 110]⟩, .string ⟨#[195, 182, 108]⟩] 9)).cell? ⟨lb, lo + i, none⟩ = some (.int .i64 (lf i)) := HLC.out _ (HBO.out.step (below_alloc (Below.refl _ _) _)).i.below
      have HB1 := hidV (HBO.out.step (below_alloc (Below.refl wr.heap.size wr) (.cells #[.string ⟨#[108, 105, 98, 111, 114]⟩, .string ⟨#[114, 97, 105, 110]⟩, .string ⟨#[195, 182, 108]⟩] 9)))
      have HFK : Hid (fixOk (sn, (d : Int))) := ⟨Nat.le_trans HSZ.out (by decide), by omega, by omega⟩
      have HREM : Hid (Int.tmod (lf i) 29 = 28 ∨ (Int.tmod (lf i) 29 == 28) = false) := by
        by_cases h : Int.tmod (lf i) 29 = 28
        · exact .inl h
        · exact .inr (by simpa using h)
      go_wp2_with fail
      refine calls_same (HW40.out _) ?_
      rcases HREM.out with h29 | h29
      all_goals
        go_wp2_with fail
        refine calls_same (HW8.out _) ?_
        go_wp2_with fail
        generalize wr.alloc (.cells #[.string ⟨#[108, 105, 98, 111, 114]⟩, .string ⟨#[114, 97, 105, 110]⟩, .string ⟨#[195, 182, 108]⟩] 9) = W1 at *
        refine (bo_fix HB1.out sn d _ HFK.out).mono ?_
        rintro e w2 ⟨rfl, hb2, hg2⟩
        have HB2 := hidV hb2
        have hb3 := HLC.out w2 HB2.out.i.below
        clear hb2 hg2 hb0 hb1 hcell
        go_wp2_with fail
        refine calls_same (HW8.out _) ?_
        go_wp2_with fail
        refine (bo_rfix HB2.out sn d _ (Nat.le_trans HSZ.out (by decide)) (by have := HLN.out; omega)).mono ?_
        rintro e w3 ⟨rfl, hb4, hr4⟩
        have HB3 := hidV hb4
        clear hb4 hr4 hb3
        go_wp2_with fail
        go_roundw
        case rel => exact ⟨i + 1, _, by go_num, by omega, by omega, HB3.out, fixN_vals _ _ _ _ HVL.out, Nat.le_trans (fixN_length _ _ _ _) (by have := HLN.out; omega), by rw [fixN_C]; exact HKC.out⟩
        case measure => simp [intOf] <;> omega
    · rcases (by omega : ((i : Int) < (ll : Int) ∧ ¬ (i : Int) < 12) ∨ ¬ (i : Int) < (ll : Int)) with ⟨h1, h3⟩ | h1
      all_goals
        clear hlt
        go_wp2_with fail
        go_end0
        exact ⟨rfl, K, HBO.out, HVL.out, Nat.le_trans HLN.out hi12, HKC.out⟩

set_option maxHeartbeats 8000000 in
set_option maxRecDepth 100000 in
theorem known10_any (la : Option Addr) (ll lc : Nat) (lf : Nat → Int) (ca : Option Addr) (cl cc : Nat) (cf : Nat → Int) (w : World) (hl : HasInts w la ll lf) (hll : ll ≤ 9223372036854775807) (hc : HasInts w ca cl cf) (hcl : cl ≤ 9223372036854775807) :
    Calls Try.prog 18 #[.slice la ll lc, .slice ca cl cc] w fun e w' => ∃ p f c r, e = .returned (.tuple #[.pointer (some ⟨p, 0, none⟩), .pointer (some ⟨r, 0, none⟩)]) ∧ ∃ B K, Bo w w' p f c r B K K ∧ KW.Vals K ∧ KW.Chs K ∧ K.F.length ≤ 12 ∧ K.C.length ≤ 4 := by
  have HLI := hidC hl
  have HCI := hidC hc
  clear hl hc
  go_enter Try.func18, Try.ntmps18
  go_wp2_with fail
  refine (new_in' w).mono ?_
  rintro e w1 ⟨p, f, c, rfl, hi⟩
  have HBO0 := hidC (bo_new hi)
  clear hi
  go_wp2_with fail
  obtain ⟨r, hr⟩ : ∃ r, w1.heap.size = r := ⟨_, rfl⟩
  rw [hr] at HBO0
  simp only [hr]
  generalize w1.alloc (.cells #[.slice none 0 0, .slice none 0 0] 109) = V at *
  clear hr
  refine (known9_any w V p f c r r la ll lc lf HBO0.out HLI.out hll).mono ?_
  rintro e w2 ⟨rfl, K0, hbo, hv0, hf0, hk0⟩
  have HKC := hidC hk0
  have HB2 := hidC hbo
  have HV2 := hidC hv0
  have HF2 := hidC hf0
  clear hbo hv0 hf0 hk0
  go_wp2_with fail
  go_loopw [8] (fun s8 wr => ∃ (i : Nat) (K : KW), s8 = .int .i64 i ∧ i ≤ 4 ∧ i ≤ cl ∧ Bo w wr p f c r r K K ∧ KW.Vals K ∧ KW.Chs K ∧ K.F.length ≤ 12 ∧ K.C.length ≤ i) (fun s8 _ => 4 - (intOf s8).toNat)
  case atStart => exact ⟨0, K0, rfl, by omega, by omega, HB2.out, HV2.out, (fun q hq => by rw [HKC.out] at hq; cases hq), HF2.out, by rw [HKC.out]; simp⟩
  case round =>
    obtain ⟨i, K, rfl, hi4, hil, hbo, hvals, hchs, hfl, hclen⟩ := hrel
    have HBO := hidC hbo
    have HVL := hidC hvals
    have HCH := hidC hchs
    have HFL := hidC hfl
    have HCL := hidC hclen
    clear hbo hvals hchs hfl hclen
    by_cases hlt : i < cl ∧ i < 4
    · obtain ⟨h1, h2⟩ := hlt
      have h1' : (i : Int) < (cl : Int) := by omega
      have h2' : (i : Int) < 4 := by omega
      obtain ⟨lb, lo, rfl, hlb, hlc, hf1, hf2⟩ := HCI.out i h1
      have HLC : Hid (∀ w', Below w.heap.size w w' → w'.cell? ⟨lb, lo + i, none⟩ = some (.int .i64 (cf i))) := fun w' hw' => (hw'.cell (p := ⟨lb, lo + i, none⟩) hlb).trans hlc
      obtain ⟨q1, q2⟩ := tdiv_range (cf i) 2 (by omega) hf1 hf2
      have HW6 := hidC (fun w : World => within_any ((cf i).tdiv 2) 6 w (by omega) (by omega) q1 q2)
      have HW2 := hidC (fun w : World => within_any (cf i) 2 w (by omega) (by omega) hf1 hf2)
      obtain ⟨u, hu⟩ : ∃ u, (cf i).tdiv 2 % 6 = u := ⟨_, rfl⟩
      obtain ⟨d, hd⟩ : ∃ d, cf i % 2 = d := ⟨_, rfl⟩
      have hu1 : 0 ≤ u := by omega
      have hu2 : u < 6 := by omega
      have hd1 : 0 ≤ d := by omega
      have hd2 : d < 2 := by omega
      rw [hu] at HW6
      rw [hd] at HW2
      clear hu hd hlc
      have HDG : Hid (∀ w : World, Calls Try.prog 36 #[.int .i64 ((i : Int) + 1)] w fun e w' => e = .returned (.string (digT (i + 1))) ∧ Below w.heap.size w w') := fun w => by
        have h := digT_any (i + 1) (by omega) w
        rwa [show ((i + 1 : Nat) : Int) = (i : Int) + 1 by omega] at h
      go_wp2_with fail
      refine (HDG.out wr).mono ?_
      rintro e w3 ⟨rfl, hb3⟩
      have HB3 := hidC (HBO.out.step hb3)
      have q0 := HLC.out w3 HB3.out.i.below
      have hsz := digT_size (i + 1)
      generalize hDG : digT (i + 1) = D at *
      have HSZ : Hid (((⟨#[99, 104]⟩ : ByteArray) ++ D).size ≤ 1000000) := by
        have h := chT_size (i + 1)
        unfold chT at h
        rw [hDG] at h
        exact Nat.le_trans h (by decide)
      clear hDG
      clear hb3
      rcases (show Int.tmod (cf i) 3 = 0 ∨ (Int.tmod (cf i) 3 != 0) = true by by_cases h : Int.tmod (cf i) 3 = 0; exact .inl h; exact .inr (by simpa using h)) with h3 | h3
      · have h3' : (Int.tmod (cf i) 3 != 0) = false := by simp [h3]
        clear h3
        go_wp2_with fail
        go_roundw
        case rel => exact ⟨i + 1, K, by go_num, by omega, by omega, HB3.out, HVL.out, HCH.out, HFL.out, Nat.le_trans HCL.out (by omega)⟩
        case measure => simp [intOf] <;> omega
      · go_wp2_with fail
        clear q0 h3
        have HBD := hidC (HB3.out.step (below_drew (Below.refl w3.heap.size w3)))
        refine Mx.wp_region_mix (fun w' => Below w.heap.size w w') [(0, false), (1, false), (2, false), (3, false), (4, false), (5, false), (7, false), (8, false), (9, false), (10, false), (11, false), (6, true), (12, true), (13, true)] (by kernel_rfl) (by kernel_rfl) HBD.out.i.below ?_ (by kernel_rfl)
        simp only [List.map_cons, List.map_nil, List.getD_cons_zero, List.getD_cons_succ]
        generalize hops : (#[_, _, _, _, _, _, _, _, _, _, _, _, _, _] : Array Oper) = ops
        clear hops
        refine Mx.m_pure (.pointer (some ⟨p, 0, none⟩)) (Mx.wanted_none rfl) (fun w' hw' => ?_) ?_
        · go_simp
        simp only [Act.put, List.setIfInBounds_toArray, List.set_cons_zero, List.set_cons_succ]
        refine Mx.m_pure (.string ((⟨#[99, 104]⟩ : ByteArray) ++ D)) (Mx.wanted_none rfl) (fun w' hw' => ?_) ?_
        · go_simp
        simp only [Act.put, List.setIfInBounds_toArray, List.set_cons_zero, List.set_cons_succ]
        refine Mx.m_pure (.slice (some ⟨lb, lo, none⟩) cl cc) (Mx.wanted_none rfl) (fun w' hw' => ?_) ?_
        · go_simp
        simp only [Act.put, List.setIfInBounds_toArray, List.set_cons_zero, List.set_cons_succ]
        refine Mx.m_pure (.int .i64 i) (Mx.wanted_none rfl) (fun w' hw' => ?_) ?_
        · go_simp
        simp only [Act.put, List.setIfInBounds_toArray, List.set_cons_zero, List.set_cons_succ]
        refine Mx.m_pure (.pointer (some ⟨lb, lo + i, none⟩)) (Mx.wanted_none rfl) (fun w' hw' => ?_) ?_
        · go_simp
        simp only [Act.put, List.setIfInBounds_toArray, List.set_cons_zero, List.set_cons_succ]
        refine Mx.m_pure (.int .i64 (cf i)) (Mx.wanted_none rfl) (fun w' hw' => ?_) ?_
        · have q0 := HLC.out w' hw'
          go_simp
        simp only [Act.put, List.setIfInBounds_toArray, List.set_cons_zero, List.set_cons_succ]
        refine Mx.m_pure (.slice (some ⟨lb, lo, none⟩) cl cc) (Mx.wanted_none rfl) (fun w' hw' => ?_) ?_
        · go_simp
        simp only [Act.put, List.setIfInBounds_toArray, List.set_cons_zero, List.set_cons_succ]
        refine Mx.m_pure (.int .i64 i) (Mx.wanted_none rfl) (fun w' hw' => ?_) ?_
        · go_simp
        simp only [Act.put, List.setIfInBounds_toArray, List.set_cons_zero, List.set_cons_succ]
        refine Mx.m_pure (.pointer (some ⟨lb, lo + i, none⟩)) (Mx.wanted_none rfl) (fun w' hw' => ?_) ?_
        · go_simp
        simp only [Act.put, List.setIfInBounds_toArray, List.set_cons_zero, List.set_cons_succ]
        refine Mx.m_pure (.int .i64 (cf i)) (Mx.wanted_none rfl) (fun w' hw' => ?_) ?_
        · have q0 := HLC.out w' hw'
          go_simp
        simp only [Act.put, List.setIfInBounds_toArray, List.set_cons_zero, List.set_cons_succ]
        refine Mx.m_pure (.int .i64 ((cf i).tdiv 2)) (Mx.wanted_none rfl) (fun w' hw' => ?_) ?_
        · go_simp
          exact wrap_small _ q1 q2
        simp only [Act.put, List.setIfInBounds_toArray, List.set_cons_zero, List.set_cons_succ]
        refine Mx.m_call 9 #[.int .i64 (cf i), .int .i64 2] (Mx.wanted_none rfl) ?_ ?_
        · go_simp
        refine (HW2.out _).mono ?_
        rintro e1 w1 ⟨rfl, rfl⟩
        refine ⟨_, rfl, HBD.out.i.below, ?_⟩
        simp only [Act.put, List.setIfInBounds_toArray, List.set_cons_zero, List.set_cons_succ]
        refine Mx.m_call 9 #[.int .i64 ((cf i).tdiv 2), .int .i64 6] (Mx.wanted_none rfl) ?_ ?_
        · go_simp
        refine (HW6.out _).mono ?_
        rintro e1 w1 ⟨rfl, rfl⟩
        refine ⟨_, rfl, HBD.out.i.below, ?_⟩
        simp only [Act.put, List.setIfInBounds_toArray, List.set_cons_zero, List.set_cons_succ]
        refine Mx.m_call 12 #[.pointer (some ⟨p, 0, none⟩), .string ⟨#[116]⟩, .string ((⟨#[99, 104]⟩ : ByteArray) ++ D), .int .i64 d, .int .i64 u] (Mx.wanted_none rfl) ?_ ?_
        · go_simp
        refine (bo_ch HBD.out ⟨#[116]⟩ ((⟨#[99, 104]⟩ : ByteArray) ++ D) d u ⟨show (⟨#[116]⟩ : ByteArray).size ≤ maxLen by decide, Nat.le_trans HSZ.out (by decide)⟩).mono ?_
        rintro e w4 ⟨rfl, hb4⟩
        have HB4 := hidC hb4
        clear hb4
        refine ⟨_, rfl, HB4.out.i.below, ?_⟩
        clear HBD HB3
        simp only [Act.put, List.setIfInBounds_toArray, List.set_cons_zero, List.set_cons_succ]
        refine Mx.m_nil ?_
        intro _
        go_wp2_with fail
        have HBD := hidC (HB4.out.step (below_drew (Below.refl w4.heap.size w4)))
        clear HB4
        refine Mx.wp_region_mix (fun w' => Below w.heap.size w w') [(0, false), (1, false), (2, false), (3, false), (4, false), (5, false), (7, false), (8, false), (9, false), (10, false), (11, false), (6, true), (12, true), (13, true)] (by kernel_rfl) (by kernel_rfl) HBD.out.i.below ?_ (by kernel_rfl)
        simp only [List.map_cons, List.map_nil, List.getD_cons_zero, List.getD_cons_succ]
        generalize hops : (#[_, _, _, _, _, _, _, _, _, _, _, _, _, _] : Array Oper) = ops
        clear hops
        refine Mx.m_pure (.pointer (some ⟨r, 0, none⟩)) (Mx.wanted_none rfl) (fun w' hw' => ?_) ?_
        · go_simp
        simp only [Act.put, List.setIfInBounds_toArray, List.set_cons_zero, List.set_cons_succ]
        refine Mx.m_pure (.string ((⟨#[99, 104]⟩ : ByteArray) ++ D)) (Mx.wanted_none rfl) (fun w' hw' => ?_) ?_
        · go_simp
        simp only [Act.put, List.setIfInBounds_toArray, List.set_cons_zero, List.set_cons_succ]
        refine Mx.m_pure (.slice (some ⟨lb, lo, none⟩) cl cc) (Mx.wanted_none rfl) (fun w' hw' => ?_) ?_
        · go_simp
        simp only [Act.put, List.setIfInBounds_toArray, List.set_cons_zero, List.set_cons_succ]
        refine Mx.m_pure (.int .i64 i) (Mx.wanted_none rfl) (fun w' hw' => ?_) ?_
        · go_simp
        simp only [Act.put, List.setIfInBounds_toArray, List.set_cons_zero, List.set_cons_succ]
        refine Mx.m_pure (.pointer (some ⟨lb, lo + i, none⟩)) (Mx.wanted_none rfl) (fun w' hw' => ?_) ?_
        · go_simp
        simp only [Act.put, List.setIfInBounds_toArray, List.set_cons_zero, List.set_cons_succ]
        refine Mx.m_pure (.int .i64 (cf i)) (Mx.wanted_none rfl) (fun w' hw' => ?_) ?_
        · have q0 := HLC.out w' hw'
          go_simp
        simp only [Act.put, List.setIfInBounds_toArray, List.set_cons_zero, List.set_cons_succ]
        refine Mx.m_pure (.slice (some ⟨lb, lo, none⟩) cl cc) (Mx.wanted_none rfl) (fun w' hw' => ?_) ?_
        · go_simp
        simp only [Act.put, List.setIfInBounds_toArray, List.set_cons_zero, List.set_cons_succ]
        refine Mx.m_pure (.int .i64 i) (Mx.wanted_none rfl) (fun w' hw' => ?_) ?_
        · go_simp
        simp only [Act.put, List.setIfInBounds_toArray, List.set_cons_zero, List.set_cons_succ]
        refine Mx.m_pure (.pointer (some ⟨lb, lo + i, none⟩)) (Mx.wanted_none rfl) (fun w' hw' => ?_) ?_
        · go_simp
        simp only [Act.put, List.setIfInBounds_toArray, List.set_cons_zero, List.set_cons_succ]
        refine Mx.m_pure (.int .i64 (cf i)) (Mx.wanted_none rfl) (fun w' hw' => ?_) ?_
        · have q0 := HLC.out w' hw'
          go_simp
        simp only [Act.put, List.setIfInBounds_toArray, List.set_cons_zero, List.set_cons_succ]
        refine Mx.m_pure (.int .i64 ((cf i).tdiv 2)) (Mx.wanted_none rfl) (fun w' hw' => ?_) ?_
        · go_simp
          exact wrap_small _ q1 q2
        simp only [Act.put, List.setIfInBounds_toArray, List.set_cons_zero, List.set_cons_succ]
        refine Mx.m_call 9 #[.int .i64 (cf i), .int .i64 2] (Mx.wanted_none rfl) ?_ ?_
        · go_simp
        refine (HW2.out _).mono ?_
        rintro e1 w1 ⟨rfl, rfl⟩
        refine ⟨_, rfl, HBD.out.i.below, ?_⟩
        simp only [Act.put, List.setIfInBounds_toArray, List.set_cons_zero, List.set_cons_succ]
        refine Mx.m_call 9 #[.int .i64 ((cf i).tdiv 2), .int .i64 6] (Mx.wanted_none rfl) ?_ ?_
        · go_simp
        refine (HW6.out _).mono ?_
        rintro e1 w1 ⟨rfl, rfl⟩
        refine ⟨_, rfl, HBD.out.i.below, ?_⟩
        simp only [Act.put, List.setIfInBounds_toArray, List.set_cons_zero, List.set_cons_succ]
        refine Mx.m_call 37 #[.pointer (some ⟨r, 0, none⟩), .string ⟨#[116]⟩, .string ((⟨#[99, 104]⟩ : ByteArray) ++ D), .int .i64 d, .int .i64 u] (Mx.wanted_none rfl) ?_ ?_
        · go_simp
        refine (bo_rch HBD.out ⟨#[116]⟩ ((⟨#[99, 104]⟩ : ByteArray) ++ D) d u (by decide) HSZ.out (by have := HCL.out; omega)).mono ?_
        rintro e w5 ⟨rfl, hb5⟩
        have HB5 := hidC hb5
        clear hb5
        refine ⟨_, rfl, HB5.out.i.below, ?_⟩
        simp only [Act.put, List.setIfInBounds_toArray, List.set_cons_zero, List.set_cons_succ]
        refine Mx.m_nil ?_
        intro _
        go_wp2_with fail
        go_roundw
        case rel => exact ⟨i + 1, _, by go_num, by omega, by omega, HB5.out, chN_vals _ _ _ _ HVL.out, chN_chs _ _ _ _ HCH.out, by rw [chN_F]; exact HFL.out, Nat.le_trans (chN_len _ _ _ _ _) (by have := HCL.out; omega)⟩
        case measure => simp [intOf] <;> omega
    · rcases (by omega : ((i : Int) < (cl : Int) ∧ ¬ (i : Int) < 4) ∨ ¬ (i : Int) < (cl : Int)) with ⟨h1, h3⟩ | h1
      all_goals
        clear hlt
        go_wp2_with fail
        go_ret2
        exact ⟨p, f, c, r, rfl, r, K, HBO.out, HVL.out, HCH.out, HFL.out, Nat.le_trans HCL.out hi4⟩

end Go.Proofs.Ytngjlkdpplmpaaa.Ca
namespace Go.Proofs.Ytngjlkdpplmpaaa.Ca
open Go.RowKit Wd Cn Vl
set_option linter.unusedVariables false

theorem snoc_same {α : Type} {a b : List α} {i : Nat} (h : ∀ j, j < i → a[j]? = b[j]?) (hi : a[i]? = b[i]?) : ∀ j, j < i + 1 → a[j]? = b[j]? := fun j hj => by
  rcases (by omega : j < i ∨ j = i) with h1 | rfl
  · exact h j h1
  · exact hi

set_option maxHeartbeats 4000000 in
set_option maxRecDepth 100000 in
theorem sameF_any (w : World) (ao bo : Option Addr) (cap cap2 : Nat) (l m : List Fl) (hl : HasFls w ao l) (hm : HasFls w bo m) (h1 : l.length ≤ 1000000) (h2 : m.length ≤ 1000000) :
    Calls Try.prog 16 #[.slice ao l.length cap, .slice bo m.length cap2] w fun e w' => e = .returned (.bool (decide (l = m))) ∧ Below w.heap.size w w' := by
  have HL := hidC hl
  have HM := hidC hm
  clear hl hm
  by_cases hn : l.length = m.length
  rotate_left
  · have HQ : Hid (decide (l = m) = false) := decide_eq_false (fun e => hn (by rw [e]))
    have hn' : ((l.length : Int) != (m.length : Int)) = true := by simp; omega
    go_enter Try.func16, Try.ntmps16
    go_wp2_with fail
    go_ret
    rw [HQ.out]
    exact ⟨rfl, Below.refl _ _⟩
  · have hn' : ((l.length : Int) != (m.length : Int)) = false := by simp; omega
    have HN := hidC hn
    have hml : (m.length : Int) = (l.length : Int) := by omega
    go_enter Try.func16, Try.ntmps16
    go_wp2_with fail
    clear hml hn'
    go_loopw [5] (fun s5 wr => ∃ i : Nat, i ≤ l.length ∧ s5 = .int .i64 i ∧ Hid (∀ j, j < i → l[j]? = m[j]?) ∧ Below w.heap.size w wr) (fun s5 _ => l.length - (intOf s5).toNat)
    case atStart => exact ⟨0, by omega, rfl, (fun j hj => absurd hj (by omega)), Below.refl _ _⟩
    case round =>
      obtain ⟨i, hi, rfl, HA, hb⟩ := hrel
      have HB := hidC hb
      clear hb
      by_cases hlt : i < l.length
      · have hlt' : (i : Int) < (l.length : Int) := by omega
        have hltm : (i : Int) < (m.length : Int) := by omega
        obtain ⟨x, hx⟩ : ∃ x, l[i]? = some x := ⟨_, List.getElem?_eq_getElem hlt⟩
        obtain ⟨y, hy⟩ : ∃ y, m[i]? = some y := ⟨_, List.getElem?_eq_getElem (by omega)⟩
        obtain ⟨g, rfl, hg, d0, d1, d2⟩ := (HL.out.below HB.out) i x hx
        obtain ⟨g', rfl, hg', e0, e1, e2⟩ := (HM.out.below HB.out) i y hy
        have HX := hidC hx
        have HY := hidC hy
        clear hx hy hg hg'
        obtain ⟨xd, xc, xa⟩ := x
        obtain ⟨yd, yc, ya⟩ := y
        simp only at d0 d1 d2 e0 e1 e2
        by_cases he : xd = yd ∧ xc = yc ∧ xa = ya
        · obtain ⟨rfl, rfl, rfl⟩ := he
          have HA' : Hid (∀ j, j < i + 1 → l[j]? = m[j]?) := snoc_same HA.out (by rw [HX.out, HY.out])
          have q1 : (xc.toList == xc.toList) = true := beq_self_eq_true _
          go_wp2_with fail
          go_region
          go_wp2_with fail
          all_goals go_roundw
          case rel => exact ⟨i + 1, by omega, by go_num, HA', HB.out.drew⟩
          case measure => simp [intOf] <;> omega
        · have HQ : Hid (decide (l = m) = false) := decide_eq_false (fun e => by
            subst e
            rw [HX.out] at HY
            have := HY.out
            injection this with e
            injection e with a1 a2 a3
            exact he ⟨a1, a2, a3⟩)
          have ways : (xd == yd) = false ∨ (xd = yd ∧ (xc.toList == yc.toList) = false) ∨ (xd = yd ∧ (xc.toList == yc.toList) = true ∧ (xa == ya) = false) := by
            by_cases g0 : xd = yd
            · by_cases g1 : xc = yc
              · have g2 : xa ≠ ya := fun g2 => he ⟨g0, g1, g2⟩
                exact .inr (.inr ⟨g0, by rw [g1]; exact beq_self_eq_true _, by simpa using g2⟩)
              · exact .inr (.inl ⟨g0, beq_eq_false_iff_ne.2 fun e => g1 (bytes_inj e)⟩)
            · exact .inl (by simpa using g0)
          clear he
          rcases ways with f0 | ⟨rfl, f1⟩ | ⟨rfl, f1, f2⟩
          all_goals
            go_wp2_with fail
            go_region
            go_wp2_with fail
            all_goals go_ret
            all_goals rw [HQ.out]
            all_goals exact ⟨rfl, HB.out.drew⟩
      · have hle : i = l.length := by omega
        subst hle
        have HQ : Hid (decide (l = m) = true) := decide_eq_true (List.ext_getElem? fun j => by
          by_cases hj : j < l.length
          · exact HA.out j hj
          · rw [List.getElem?_eq_none (by omega), List.getElem?_eq_none (by have := HN.out; omega)])
        go_wp2_with fail
        go_ret
        rw [HQ.out]
        exact ⟨rfl, HB.out⟩

set_option maxHeartbeats 8000000 in
set_option maxRecDepth 100000 in
theorem sameW_any (w : World) (ao bo : Option Addr) (cap cap2 : Nat) (l m : List Wt) (hl : HasWts w ao l) (hm : HasWts w bo m) (h1 : l.length ≤ 1000000) (h2 : m.length ≤ 1000000) :
    Calls Try.prog 14 #[.slice ao l.length cap, .slice bo m.length cap2] w fun e w' => e = .returned (.bool (decide (l = m))) ∧ Below w.heap.size w w' := by
  have HL := hidC hl
  have HM := hidC hm
  clear hl hm
  by_cases hn : l.length = m.length
  rotate_left
  · have HQ : Hid (decide (l = m) = false) := decide_eq_false (fun e => hn (by rw [e]))
    have hn' : ((l.length : Int) != (m.length : Int)) = true := by simp; omega
    go_enter Try.func14, Try.ntmps14
    go_wp2_with fail
    go_ret
    rw [HQ.out]
    exact ⟨rfl, Below.refl _ _⟩
  · have hn' : ((l.length : Int) != (m.length : Int)) = false := by simp; omega
    have HN := hidC hn
    have hml : (m.length : Int) = (l.length : Int) := by omega
    go_enter Try.func14, Try.ntmps14
    go_wp2_with fail
    clear hml hn'
    go_loopw [5] (fun s5 wr => ∃ i : Nat, i ≤ l.length ∧ s5 = .int .i64 i ∧ Hid (∀ j, j < i → l[j]? = m[j]?) ∧ Below w.heap.size w wr) (fun s5 _ => l.length - (intOf s5).toNat)
    case atStart => exact ⟨0, by omega, rfl, (fun j hj => absurd hj (by omega)), Below.refl _ _⟩
    case round =>
      obtain ⟨i, hi, rfl, HA, hb⟩ := hrel
      have HB := hidC hb
      clear hb
      by_cases hlt : i < l.length
      · have hlt' : (i : Int) < (l.length : Int) := by omega
        have hltm : (i : Int) < (m.length : Int) := by omega
        obtain ⟨x, hx⟩ : ∃ x, l[i]? = some x := ⟨_, List.getElem?_eq_getElem hlt⟩
        obtain ⟨y, hy⟩ : ∃ y, m[i]? = some y := ⟨_, List.getElem?_eq_getElem (by omega)⟩
        obtain ⟨g, rfl, hg, d0, d1, d2, d3, d4⟩ := (HL.out.below HB.out) i x hx
        obtain ⟨g', rfl, hg', e0, e1, e2, e3, e4⟩ := (HM.out.below HB.out) i y hy
        have HX := hidC hx
        have HY := hidC hy
        clear hx hy hg hg'
        obtain ⟨c, nm, lb, d, s⟩ := x
        obtain ⟨xc, xn, xl, xd, xs⟩ := y
        simp only at d0 d1 d2 d3 d4 e0 e1 e2 e3 e4
        by_cases he : c = xc ∧ nm = xn ∧ lb = xl ∧ d = xd ∧ s = xs
        · obtain ⟨rfl, rfl, rfl, rfl, rfl⟩ := he
          have HA' : Hid (∀ j, j < i + 1 → l[j]? = m[j]?) := snoc_same HA.out (by rw [HX.out, HY.out])
          have q1 : (nm.toList == nm.toList) = true := beq_self_eq_true _
          have q2 : (lb.toList == lb.toList) = true := beq_self_eq_true _
          go_wp2_with fail
          go_region
          go_wp2_with fail
          all_goals go_roundw
          case rel => exact ⟨i + 1, by omega, by go_num, HA', HB.out.drew⟩
          case measure => simp [intOf] <;> omega
        · have HQ : Hid (decide (l = m) = false) := decide_eq_false (fun e => by
            subst e
            rw [HX.out] at HY
            have := HY.out
            injection this with e
            injection e with a1 a2 a3 a4 a5
            exact he ⟨a1, a2, a3, a4, a5⟩)
          have ways : (c = true ∧ xc = false) ∨ (c = false ∧ xc = true) ∨ (c = xc ∧ (nm.toList == xn.toList) = false) ∨ (c = xc ∧ (nm.toList == xn.toList) = true ∧ (lb.toList == xl.toList) = false) ∨ (c = xc ∧ (nm.toList == xn.toList) = true ∧ (lb.toList == xl.toList) = true ∧ (d == xd) = false) ∨ (c = xc ∧ (nm.toList == xn.toList) = true ∧ (lb.toList == xl.toList) = true ∧ (d == xd) = true ∧ (s == xs) = false) := by
            by_cases g0 : c = xc
            · by_cases g1 : nm = xn
              · by_cases g2 : lb = xl
                · by_cases g3 : d = xd
                  · have g4 : s ≠ xs := fun g4 => he ⟨g0, g1, g2, g3, g4⟩
                    exact .inr (.inr (.inr (.inr (.inr ⟨g0, by rw [g1]; exact beq_self_eq_true _, by rw [g2]; exact beq_self_eq_true _, by simpa using g3, by simpa using g4⟩))))
                  · exact .inr (.inr (.inr (.inr (.inl ⟨g0, by rw [g1]; exact beq_self_eq_true _, by rw [g2]; exact beq_self_eq_true _, by simpa using g3⟩))))
                · exact .inr (.inr (.inr (.inl ⟨g0, by rw [g1]; exact beq_self_eq_true _, beq_eq_false_iff_ne.2 fun e => g2 (bytes_inj e)⟩)))
              · exact .inr (.inr (.inl ⟨g0, beq_eq_false_iff_ne.2 fun e => g1 (bytes_inj e)⟩))
            · cases c <;> cases xc <;> simp at g0 ⊢
          clear he
          rcases ways with ⟨rfl, rfl⟩ | ⟨rfl, rfl⟩ | ⟨rfl, f1⟩ | ⟨rfl, f1, f2⟩ | ⟨rfl, f1, f2, f3⟩ | ⟨rfl, f1, f2, f3, f4⟩
          all_goals
            go_wp2_with fail
            go_region
            go_wp2_with fail
            all_goals go_ret
            all_goals rw [HQ.out]
            all_goals exact ⟨rfl, HB.out.drew⟩
      · have hle : i = l.length := by omega
        subst hle
        have HQ : Hid (decide (l = m) = true) := decide_eq_true (List.ext_getElem? fun j => by
          by_cases hj : j < l.length
          · exact HA.out j hj
          · rw [List.getElem?_eq_none (by omega), List.getElem?_eq_none (by have := HN.out; omega)])
        go_wp2_with fail
        go_ret
        rw [HQ.out]
        exact ⟨rfl, HB.out⟩

end Go.Proofs.Ytngjlkdpplmpaaa.Ca
namespace Go.Proofs.Ytngjlkdpplmpaaa
open Go.RowKit
set_option linter.unusedVariables false

theorem sc_leaf (t : T) (h : t.kind = 0 ∨ t.kind = 1 ∨ t.kind = 2 ∨ 8 < t.kind) (hs : t.s.size ≤ 2147483648) : SC t := by
  cases t
  exact .leaf _ _ _ _ h hs
theorem sc_n {t : T} (h : SC t) (n : Int) (hn : -9223372036854775808 ≤ n ∧ n ≤ 9223372036854775807) : SC (.mk t.kind t.s n t.k) := by
  cases h with
  | leaf kind s n0 k h hs => exact .leaf _ _ _ _ h hs
  | give s n0 a ha => exact .give _ _ _ ha
  | and s n0 a b ha hb => exact .and _ _ _ _ ha hb
  | or s n0 a b hs ha hb => exact .or _ _ _ _ hs ha hb
  | scale s n0 o a ho ha => exact .scale _ _ _ _ ho ha
  | when s n0 a hn0 ha => exact .when _ _ _ hn ha
  | iff s n0 o a b ho ha hb => exact .iff _ _ _ _ _ ho ha hb
theorem sc_s {t : T} (h : SC t) (s : ByteArray) (hs : s.size ≤ 2147483648) : SC (.mk t.kind s t.n t.k) := by
  cases h with
  | leaf kind s0 n0 k h hs0 => exact .leaf _ _ _ _ h hs
  | give s0 n0 a ha => exact .give _ _ _ ha
  | and s0 n0 a b ha hb => exact .and _ _ _ _ ha hb
  | or s0 n0 a b hs0 ha hb => exact .or _ _ _ _ hs ha hb
  | scale s0 n0 o a ho ha => exact .scale _ _ _ _ ho ha
  | when s0 n0 a hn0 ha => exact .when _ _ _ hn0 ha
  | iff s0 n0 o a b ho ha hb => exact .iff _ _ _ _ _ ho ha hb
theorem head_sc (q : Nat) (v : Int) (s : ByteArray) (hv : -9223372036854775808 ≤ v ∧ v ≤ 9223372036854775807) {t : T} (h : SC t) : SC (spoilHead q v s t) := by
  have he : (⟨#[]⟩ : ByteArray).size ≤ 2147483648 := by decide
  unfold spoilHead
  split
  · exact .leaf _ _ _ _ (.inl rfl) he
  · split
    · exact sc_s h _ (by have := cutTo_size s 20; omega)
    · split
      · exact sc_n h v hv
      · split
        · split
          · exact .leaf _ _ _ _ (.inr (.inl rfl)) he
          · exact .leaf _ _ _ _ (.inr (.inr (.inr (by decide)))) he
        · exact h
theorem spoilL_one (q : Nat) (v : Int) (s : ByteArray) (x : T) (a : Int) : ∃ x', (spoilL q v s [x] a).1 = [x'] ∧ (x' = x ∨ ∃ a', x' = (spoilT q v s x a').1) := by
  simp only [spoilL]
  split
  · exact ⟨_, rfl, .inr ⟨_, rfl⟩⟩
  · exact ⟨_, rfl, .inl rfl⟩
theorem spoilL_cons (q : Nat) (v : Int) (s : ByteArray) (x : T) (l : List T) (a : Int) : ∃ x' a2, (spoilL q v s (x :: l) a).1 = x' :: (spoilL q v s l a2).1 ∧ (x' = x ∨ ∃ a', x' = (spoilT q v s x a').1) := by
  simp only [spoilL]
  split
  · exact ⟨_, _, rfl, .inr ⟨_, rfl⟩⟩
  · refine ⟨x, a, ?_, .inl rfl⟩
    cases l with
    | nil => simp [spoilL]
    | cons y l => rename_i h; simp [spoilL, h]
theorem spoil_sc (q : Nat) (v : Int) (s : ByteArray) (hv : -9223372036854775808 ≤ v ∧ v ≤ 9223372036854775807) {t : T} (h : SC t) : ∀ a, SC (spoilT q v s t a).1 := by
  induction h with
  | leaf kind s0 n k h hs =>
    intro a
    unfold spoilT
    split
    · exact head_sc q v s hv (.leaf _ _ _ _ h hs)
    · exact .leaf _ _ _ _ h hs
  | give s0 n x hx ih =>
    intro a
    unfold spoilT
    split
    · exact head_sc q v s hv (.give _ _ _ hx)
    · obtain ⟨x', e, h⟩ := spoilL_one q v s x (a - 1)
      simp only
      rw [e]
      refine .give _ _ _ ?_
      rcases h with rfl | ⟨a', rfl⟩
      · exact hx
      · exact ih a'
  | and s0 n x y hx hy ihx ihy =>
    intro a
    unfold spoilT
    split
    · exact head_sc q v s hv (.and _ _ _ _ hx hy)
    · obtain ⟨x', a2, e, h⟩ := spoilL_cons q v s x [y] (a - 1)
      obtain ⟨y', e', h'⟩ := spoilL_one q v s y a2
      simp only
      rw [e, e']
      refine .and _ _ _ _ ?_ ?_
      · rcases h with rfl | ⟨a', rfl⟩
        · exact hx
        · exact ihx a'
      · rcases h' with rfl | ⟨a', rfl⟩
        · exact hy
        · exact ihy a'
  | or s0 n x y hs hx hy ihx ihy =>
    intro a
    unfold spoilT
    split
    · exact head_sc q v s hv (.or _ _ _ _ hs hx hy)
    · obtain ⟨x', a2, e, h⟩ := spoilL_cons q v s x [y] (a - 1)
      obtain ⟨y', e', h'⟩ := spoilL_one q v s y a2
      simp only
      rw [e, e']
      refine .or _ _ _ _ hs ?_ ?_
      · rcases h with rfl | ⟨a', rfl⟩
        · exact hx
        · exact ihx a'
      · rcases h' with rfl | ⟨a', rfl⟩
        · exact hy
        · exact ihy a'
  | scale s0 n o y ho hy ihy =>
    intro a
    unfold spoilT
    split
    · exact head_sc q v s hv (.scale _ _ _ _ ho hy)
    · obtain ⟨x', a2, e, h⟩ := spoilL_cons q v s o [y] (a - 1)
      obtain ⟨y', e', h'⟩ := spoilL_one q v s y a2
      simp only
      rw [e, e']
      refine .scale _ _ _ _ ?_ ?_
      · rcases h with rfl | ⟨a', rfl⟩
        · exact ho
        · exact spoil_shaped q v s hv o ho a'
      · rcases h' with rfl | ⟨a', rfl⟩
        · exact hy
        · exact ihy a'
  | when s0 n x hn hx ih =>
    intro a
    unfold spoilT
    split
    · exact head_sc q v s hv (.when _ _ _ hn hx)
    · obtain ⟨x', e, h⟩ := spoilL_one q v s x (a - 1)
      simp only
      rw [e]
      refine .when _ _ _ hn ?_
      rcases h with rfl | ⟨a', rfl⟩
      · exact hx
      · exact ih a'
  | iff s0 n o x y ho hx hy ihx ihy =>
    intro a
    unfold spoilT
    split
    · exact head_sc q v s hv (.iff _ _ _ _ _ ho hx hy)
    · obtain ⟨o', a2, e, h⟩ := spoilL_cons q v s o [x, y] (a - 1)
      obtain ⟨x', a3, e2, h2⟩ := spoilL_cons q v s x [y] a2
      obtain ⟨y', e', h'⟩ := spoilL_one q v s y a3
      simp only
      rw [e, e2, e']
      refine .iff _ _ _ _ _ ?_ ?_ ?_
      · rcases h with rfl | ⟨a', rfl⟩
        · exact ho
        · exact spoil_shaped q v s hv o ho a'
      · rcases h2 with rfl | ⟨a', rfl⟩
        · exact hx
        · exact ihx a'
      · rcases h' with rfl | ⟨a', rfl⟩
        · exact hy
        · exact ihy a'

end Go.Proofs.Ytngjlkdpplmpaaa
namespace Go.Proofs.Ytngjlkdpplmpaaa
open Go.RowKit
set_option linter.unusedVariables false

def OddPostC (w : World) (e : Ending) (w' : World) : Prop := ∃ c : C, e = .returned c.val ∧ c.Ok ∧ c.weight ≤ 10 ∧ Below w.heap.size w w'
theorem strangeC_of (t : TypeId) (x : Value) (h0 : t ≠ 62) (h1 : t ≠ 24) (h2 : t ≠ 34) (h3 : t ≠ 64) (h4 : t ≠ 32) (h5 : t ≠ 30) (h6 : t ≠ 56) (h7 : t ≠ 54) : (C.odd (.iface t x)).Ok := .inr ⟨t, x, rfl, h0, h1, h2, h3, h4, h5, h6, h7⟩

set_option maxHeartbeats 2000000 in
set_option maxRecDepth 100000 in
theorem oddC_any (n : Int) (w : World) (h1 : -9223372036854775808 ≤ n) (h2 : n ≤ 9223372036854775807) : Calls Try.prog 33 #[.int .i64 n] w (OddPostC w) := by
  obtain ⟨q, hq⟩ : ∃ q : Nat, n % 9 = q := ⟨(n % 9).toNat, by omega⟩
  have hq9 : q = 0 ∨ q = 1 ∨ q = 2 ∨ q = 3 ∨ q = 4 ∨ q = 5 ∨ q = 6 ∨ q = 7 ∨ q = 8 := by omega
  have hmm := @run_makeMap Try.prog
  go_enter Try.func33, Try.ntmps33
  go_wp2_with fail
  refine calls_same (within_any _ 9 _ (by omega) (by omega) h1 h2) ?_
  rw [hq]
  clear h1 h2 hq
  rcases hq9 with rfl | rfl | rfl | rfl | rfl | rfl | rfl | rfl | rfl
  all_goals
    go_wp2_with fail
    go_ret
    first
      | exact ⟨.odd .nilIface, rfl, .inl rfl, by simp [C.weight], by repeat first | exact Below.refl _ _ | refine below_alloc ?_ _⟩
      | exact ⟨.odd (.iface _ _), rfl, strangeC_of _ _ (by decide) (by decide) (by decide) (by decide) (by decide) (by decide) (by decide) (by decide), by simp [C.weight], by repeat first | exact Below.refl _ _ | refine below_alloc ?_ _⟩
theorem termOf_weight (t : T) (h : SC t) : (termOf t).weight ≤ 2 * t.cnt := by
  induction h with
  | leaf kind s n k h hs =>
    unfold termOf T.cnt
    split
    · simp only [C.weight]; omega
    · split
      · simp only [C.weight]; omega
      · split <;> first | omega | (simp only [C.weight]; omega)
  | give s n a ha iha => show (C.give (termOf a)).weight ≤ _; simp only [C.weight, T.cnt, cntL] at *; omega
  | and s n a b ha hb iha ihb => show (C.and (termOf a) (termOf b)).weight ≤ _; simp only [C.weight, T.cnt, cntL] at *; omega
  | or s n a b hs ha hb iha ihb => show (C.or s (termOf a) (termOf b)).weight ≤ _; simp only [C.weight, T.cnt, cntL] at *; omega
  | scale s n o a ho ha iha => have := obsOf_nodes o; show (C.scale (obsOf o) (termOf a)).weight ≤ _; simp only [C.weight, T.cnt, cntL] at *; omega
  | when s n a hn ha iha => show (C.when n (termOf a)).weight ≤ _; simp only [C.weight, T.cnt, cntL] at *; omega
  | iff s n o a b ho ha hb iha ihb => have := obsOf_nodes o; show (C.iff (obsOf o) (termOf a) (termOf b)).weight ≤ _; simp only [C.weight, T.cnt, cntL] at *; omega

end Go.Proofs.Ytngjlkdpplmpaaa
namespace Go.Proofs.Ytngjlkdpplmpaaa
open Go.RowKit
set_option linter.unusedVariables false

def SomePostC (w : World) (e : Ending) (w' : World) : Prop :=
  ∃ (c : C) (ka : Option Addr) (kc : Nat), e = .returned (.tuple #[c.val, .agg #[.int .i64 (plainC c).kind, .string (plainC c).s, .int .i64 (plainC c).n, .slice ka (plainC c).k.length kc]]) ∧ c.Ok ∧ c.weight ≤ 10000 ∧ TIn w' w.heap.size (plainC c) (.agg (four (plainC c) ka kc)) ∧ Below w.heap.size w w'

set_option maxHeartbeats 4000000 in
set_option maxRecDepth 100000 in
theorem some5_any (p : Pl) (at' what v : Int) (s : ByteArray) (odd : Int) (w : World) (hp : PlanIn w p) (ha1 : -9223372036854775808 ≤ at') (ha2 : at' ≤ 9223372036854775807) (hw1 : -9223372036854775808 ≤ what) (hw2 : what ≤ 9223372036854775807) (hv1 : -9223372036854775808 ≤ v) (hv2 : v ≤ 9223372036854775807) (hs : s.size ≤ maxLen) (ho1 : -9223372036854775808 ≤ odd) (ho2 : odd ≤ 9223372036854775807) :
    Calls Try.prog 17 #[planV p, .int .i64 at', .int .i64 what, .int .i64 v, .string s, .int .i64 odd] w (SomePostC w) := by
  unfold planV
  have HP := hidIn hp
  have HSS := hidIn hs
  clear hp hs
  go_enter Try.func17, Try.ntmps17
  go_wp2_with fail
  obtain ⟨W, hW⟩ : ∃ W, W = (w.alloc (.cells #[.slice p.na p.nl p.nc, .slice p.wa p.wl p.wc] 69)).alloc (.cells #[.int .i64 0, .string ⟨#[]⟩, .int .i64 0, .slice none 0 0] 72) := ⟨_, rfl⟩
  have HB : Hid (Below w.heap.size w W) := by rw [hW]; exact below_alloc (below_alloc (Below.refl _ _) _) _
  have HZ : Hid (Blk W (w.heap.size + 1) 72 zeroT) := by rw [hW]; exact blk_new (by simp)
  have HWS : Hid (W.heap.size = w.heap.size + 2) := by unfold Hid; rw [hW]; simp
  have HPW := hidIn (HP.out.below HB.out)
  rw [← hW]
  clear hW HP
  refine (contract_any p W HPW.out).mono ?_
  rintro e w1 ⟨v1, rfl, ht1, hb1⟩
  have ht1' := ht1
  obtain ⟨ka, kc, rfl, _, _, _⟩ := ht1'
  have HSH := hidIn (sc_plain _ (cwhole_ok _ (conP_whole p)))
  have HCN : Hid ((plainC (conP p)).cnt ≤ 2000) := by have h1 := plainC_cnt (conP p); have h2 := conP_weight p; show _ ≤ _; omega
  have HND : Hid (1 ≤ (plainC (conP p)).nodes ∧ (plainC (conP p)).nodes ≤ 2000) := by
    rw [plainC_nodes]
    have h2 := conP_weight p
    have h3 := weight_nodes (conP p)
    refine ⟨?_, by omega⟩
    have := conP_whole p
    cases h : conP p <;> simp [C.nodes]
    rw [h] at this
    exact this
  have HT1 := hidIn ht1
  have HB1 := hidIn hb1
  clear ht1 hb1
  generalize plainC (conP p) = t at *
  have hwi : ∀ w, Calls Try.prog 9 #[.int .i64 odd, .int .i64 30] w fun e w' => e = .returned (.int .i64 (odd % 30)) ∧ w' = w := fun w => within_any odd 30 w (by omega) (by omega) ho1 ho2
  have HWI := hidIn hwi
  clear hwi
  have hdv : -9223372036854775808 ≤ odd.tdiv 30 ∧ odd.tdiv 30 ≤ 9223372036854775807 := tdiv_in odd 30 (by omega) ho1 ho2
  have hwr : IntKind.i64.wrap (odd.tdiv 30) = odd.tdiv 30 := wrap_small _ hdv.1 hdv.2
  obtain ⟨q, hq⟩ : ∃ q : Nat, odd % 30 = q := ⟨(odd % 30).toNat, by omega⟩
  have hq30 : q < 30 := by omega
  have HQ := hidIn hq
  clear hq
  by_cases hwt : what.tmod 4 = 0
  · have hwt' : (what.tmod 4 == 0) = true := by rw [hwt]; rfl
    have hdq : -9223372036854775808 ≤ what.tdiv 4 ∧ what.tdiv 4 ≤ 9223372036854775807 := tdiv_in what 4 (by omega) hw1 hw2
    have hwq : IntKind.i64.wrap (what.tdiv 4) = what.tdiv 4 := wrap_small _ hdq.1 hdq.2
    go_wp2_with fail
    obtain ⟨Y, hY⟩ : ∃ Y, Y = w1.alloc (.cells #[.int .i64 t.kind, .string t.s, .int .i64 t.n, .slice ka t.k.length kc] 72) := ⟨_, rfl⟩
    have HBY1 : Hid (Below w1.heap.size w1 Y) := by rw [hY]; exact below_alloc (Below.refl _ _) _
    have HYS : Hid (Y.heap.size = w1.heap.size + 1) := by unfold Hid; rw [hY]; simp
    have HY14 : Hid (Blk Y w1.heap.size 72 #[.int .i64 t.kind, .string t.s, .int .i64 t.n, .slice ka t.k.length kc]) := by rw [hY]; exact blk_new rfl
    rw [← hY]
    clear hY
    refine (spoilt_any t at' _ v s ha1 ha2 hdq.1 hdq.2 HSS.out (by have := HCN.out; omega) HND.out.1 (by have := HND.out.2; omega) w1 Y _ (HT1.out.low (Nat.zero_le _)) HBY1.out).mono ?_
    rintro e w2 ⟨a, kb, kd, rfl, hsp, hb2⟩
    have HSH2 := hidIn (spoil_sc (what.tdiv 4 % 5).toNat v s ⟨hv1, hv2⟩ HSH.out a)
    have HCN2 : Hid ((spoilT (what.tdiv 4 % 5).toNat v s t a).1.cnt ≤ 2000) := Nat.le_trans (spoil_cnt _ v s t a) HCN.out
    generalize (spoilT (what.tdiv 4 % 5).toNat v s t a).1 = t2 at *
    have hk2 := HY14.out.below hb2 HY14.out.lt
    obtain ⟨c0, c1, c2, c3⟩ : w2.cell? ⟨w1.heap.size, 0, none⟩ = some (.int .i64 t.kind) ∧ w2.cell? ⟨w1.heap.size, 1, none⟩ = some (.string t.s) ∧ w2.cell? ⟨w1.heap.size, 2, none⟩ = some (.int .i64 t.n) ∧ w2.cell? ⟨w1.heap.size, 3, none⟩ = some (.slice ka t.k.length kc) := ⟨hk2.cell 0, hk2.cell 1, hk2.cell 2, hk2.cell 3⟩
    have f0 := hk2.frozen 0
    have f1 := hk2.frozen 1
    have f2 := hk2.frozen 2
    have f3 := hk2.frozen 3
    have HTX : Hid (TIn ((((w2.setCell ⟨w1.heap.size, 0, none⟩ (.int .i64 t2.kind)).setCell ⟨w1.heap.size, 1, none⟩ (.string t2.s)).setCell ⟨w1.heap.size, 2, none⟩ (.int .i64 t2.n)).setCell ⟨w1.heap.size, 3, none⟩ (.slice kb t2.k.length kd)) 0 t2 (.agg (four t2 kb kd))) := hsp _ (fun b o c hb hc => by have := HYS.out; rw [set4_cell' (by omega)]; exact hc)
    have HBX : Hid (Below W.heap.size W ((((w2.setCell ⟨w1.heap.size, 0, none⟩ (.int .i64 t2.kind)).setCell ⟨w1.heap.size, 1, none⟩ (.string t2.s)).setCell ⟨w1.heap.size, 2, none⟩ (.int .i64 t2.n)).setCell ⟨w1.heap.size, 3, none⟩ (.slice kb t2.k.length kd))) := by
      have h1 : Below W.heap.size W w2 := HB1.out.trans ((HBY1.out.trans (hb2.mono HBY1.out.size)).mono HB1.out.size)
      have hs := HB1.out.size
      exact (((h1.setCell hs _).setCell hs _).setCell hs _).setCell hs _
    clear hsp hb2 hk2
    unfold four
    go_wp2_with fail
    refine (termT_any HSH2.out _ _ HTX.out).mono ?_
    rintro e w3 ⟨rfl, hb3⟩
    have HB3 : Hid (Below W.heap.size W w3) := HBX.out.trans (hb3.mono HBX.out.size)
    have HO0 := hidIn (termOf_ok HSH2.out)
    have HN0 : Hid ((termOf t2).weight ≤ 4000) := by have h1 := termOf_weight t2 HSH2.out; have h2 := HCN2.out; show _ ≤ _; omega
    clear hb3
    generalize termOf t2 = c0 at *
    go_wp2_with fail
    refine calls_same (HWI.out _) ?_
    rw [HQ.out]
    have q0 := c0.one' HO0.out
    have cv0 := q0.cells
    have mv0 := q0.cells
    unfold Value.cells at mv0
    clear q0
    by_cases h27 : q = 27
    · subst h27
      go_wp2_with fail
      refine (oddC_any _ w3 hdv.1 hdv.2).mono ?_
      rintro e w5 ⟨c5, rfl, hok5, h5w, hb5⟩
      obtain ⟨c, ho⟩ : ∃ c, c = C.and c0 c5 := ⟨_, rfl⟩
      have HOK : Hid c.Ok := by rw [ho]; exact ⟨HO0.out, hok5⟩
      have HON : Hid (c.weight ≤ 10000) := by
        have h1 := HN0.out; rw [ho]; simp only [C.weight]; show _ ≤ _; omega
      have HOV : Hid (c.val = .iface 64 (.agg #[c0.val, c5.val])) := by rw [ho]; rfl
      have HB3' : Hid (Below W.heap.size W w5) := HB3.out.trans (hb5.mono HB3.out.size)
      clear HB3
      have HB3 := HB3'
      have q5 := c5.one' hok5
      have cv5 := q5.cells
      have mv5 := q5.cells
      unfold Value.cells at mv5
      clear hb5 hok5 ho q5 h5w
      go_wp2_with fail
      rw [← HOV.out]
      refine (plainCC_any c HOK.out _).mono ?_
      rintro e w4 ⟨la, lc, rfl, ht4, hb4⟩
      have HT4 := hidIn ht4
      have hb4' : Below W.heap.size W w4 := HB3.out.trans (hb4.mono HB3.out.size)
      have hZ4 := HZ.out.below hb4' HZ.out.lt
      obtain ⟨⟨z0, z1, z2, z3⟩, f0, f1, f2, f3⟩ := blk_zero hZ4
      have HZ4 := hidIn hZ4
      have HB4 := hidIn hb4'
      have HS3 := hidIn HB3.out.size
      clear ht4 hb4 hb4' hZ4
      go_wp2_with fail
      refine bodyPost_ret (results_slot_cell rfl _ _ (w.heap.size + 1) 72 (four (plainC c) la lc) (0, 0) _ rfl ?blk Try.underlying72 rfl infoT) rfl ?post
      case blk => change Blk _ _ _ _; unfold four; (with_reducible exact blk_set4' HZ4.out _ _ _ _)
      case post =>
        have hWS := HWS.out
        have hs3 := HS3.out
        have hbw : Below w.heap.size w w4 := HB.out.trans (HB4.out.mono HB.out.size)
        refine ⟨c, la, lc, rfl, HOK.out, HON.out, ?_, ?_⟩
        · refine HT4.out.kept (by omega) (fun k x c hk hc => ?_)
          rw [set4_cell' (by omega)]
          exact hc
        · (repeat first | with_reducible exact hbw | with_reducible refine below_set ?_ (by omega) _ _)
    by_cases h28 : q = 28
    · subst h28
      go_wp2_with fail
      refine (odd_any _ w3 hdv.1 hdv.2).mono ?_
      rintro e w5 ⟨c5, rfl, hok5, h51, hb5⟩
      obtain ⟨c, ho⟩ : ∃ c, c = C.scale c5 c0 := ⟨_, rfl⟩
      have HOK : Hid c.Ok := by rw [ho]; exact ⟨hok5, HO0.out⟩
      have HON : Hid (c.weight ≤ 10000) := by
        rw [ho]
        have h1 := HN0.out
        rcases h51 with rfl | ⟨v, rfl⟩
        · simp only [C.weight, O.nodes]; show _ ≤ _; omega
        · simp only [C.weight, O.nodes]; show _ ≤ _; omega
      have HOV : Hid (c.val = .iface 30 (.agg #[c5.val, c0.val])) := by rw [ho]; rfl
      have HB3' : Hid (Below W.heap.size W w5) := HB3.out.trans (hb5.mono HB3.out.size)
      clear HB3
      have HB3 := HB3'
      have q5 := c5.one' hok5
      have cv5 := q5.cells
      have mv5 := q5.cells
      unfold Value.cells at mv5
      clear hb5 hok5 ho q5 h51
      go_wp2_with fail
      rw [← HOV.out]
      refine (plainCC_any c HOK.out _).mono ?_
      rintro e w4 ⟨la, lc, rfl, ht4, hb4⟩
      have HT4 := hidIn ht4
      have hb4' : Below W.heap.size W w4 := HB3.out.trans (hb4.mono HB3.out.size)
      have hZ4 := HZ.out.below hb4' HZ.out.lt
      obtain ⟨⟨z0, z1, z2, z3⟩, f0, f1, f2, f3⟩ := blk_zero hZ4
      have HZ4 := hidIn hZ4
      have HB4 := hidIn hb4'
      have HS3 := hidIn HB3.out.size
      clear ht4 hb4 hb4' hZ4
      go_wp2_with fail
      refine bodyPost_ret (results_slot_cell rfl _ _ (w.heap.size + 1) 72 (four (plainC c) la lc) (0, 0) _ rfl ?blk Try.underlying72 rfl infoT) rfl ?post
      case blk => change Blk _ _ _ _; unfold four; (with_reducible exact blk_set4' HZ4.out _ _ _ _)
      case post =>
        have hWS := HWS.out
        have hs3 := HS3.out
        have hbw : Below w.heap.size w w4 := HB.out.trans (HB4.out.mono HB.out.size)
        refine ⟨c, la, lc, rfl, HOK.out, HON.out, ?_, ?_⟩
        · refine HT4.out.kept (by omega) (fun k x c hk hc => ?_)
          rw [set4_cell' (by omega)]
          exact hc
        · (repeat first | with_reducible exact hbw | with_reducible refine below_set ?_ (by omega) _ _)
    by_cases h29 : q = 29
    · subst h29
      go_wp2_with fail
      refine (oddC_any _ w3 hdv.1 hdv.2).mono ?_
      rintro e w5 ⟨c5, rfl, hok5, h5w, hb5⟩
      obtain ⟨c, ho⟩ : ∃ c, c = c5 := ⟨_, rfl⟩
      have HOK : Hid c.Ok := by rw [ho]; exact hok5
      have HON : Hid (c.weight ≤ 10000) := by
        rw [ho]; show _ ≤ _; omega
      have HOV : Hid (c.val = c5.val) := by rw [ho]; rfl
      have HB3' : Hid (Below W.heap.size W w5) := HB3.out.trans (hb5.mono HB3.out.size)
      clear HB3
      have HB3 := HB3'
      have q5 := c5.one' hok5
      have cv5 := q5.cells
      have mv5 := q5.cells
      unfold Value.cells at mv5
      clear hb5 hok5 ho q5 h5w
      go_wp2_with fail
      rw [← HOV.out]
      refine (plainCC_any c HOK.out _).mono ?_
      rintro e w4 ⟨la, lc, rfl, ht4, hb4⟩
      have HT4 := hidIn ht4
      have hb4' : Below W.heap.size W w4 := HB3.out.trans (hb4.mono HB3.out.size)
      have hZ4 := HZ.out.below hb4' HZ.out.lt
      obtain ⟨⟨z0, z1, z2, z3⟩, f0, f1, f2, f3⟩ := blk_zero hZ4
      have HZ4 := hidIn hZ4
      have HB4 := hidIn hb4'
      have HS3 := hidIn HB3.out.size
      clear ht4 hb4 hb4' hZ4
      go_wp2_with fail
      refine bodyPost_ret (results_slot_cell rfl _ _ (w.heap.size + 1) 72 (four (plainC c) la lc) (0, 0) _ rfl ?blk Try.underlying72 rfl infoT) rfl ?post
      case blk => change Blk _ _ _ _; unfold four; (with_reducible exact blk_set4' HZ4.out _ _ _ _)
      case post =>
        have hWS := HWS.out
        have hs3 := HS3.out
        have hbw : Below w.heap.size w w4 := HB.out.trans (HB4.out.mono HB.out.size)
        refine ⟨c, la, lc, rfl, HOK.out, HON.out, ?_, ?_⟩
        · refine HT4.out.kept (by omega) (fun k x c hk hc => ?_)
          rw [set4_cell' (by omega)]
          exact hc
        · (repeat first | with_reducible exact hbw | with_reducible refine below_set ?_ (by omega) _ _)
    have e27 : ((q : Int) == 27) = false := by rw [beq_eq_false_iff_ne]; omega
    have e28 : ((q : Int) == 28) = false := by rw [beq_eq_false_iff_ne]; omega
    have e29 : ((q : Int) == 29) = false := by rw [beq_eq_false_iff_ne]; omega
    obtain ⟨c, ho⟩ : ∃ c, c = c0 := ⟨_, rfl⟩
    subst ho
    have HOK := HO0
    have HON : Hid (c.weight ≤ 10000) := by have h1 := HN0.out; show _ ≤ _; omega
    go_wp2_with fail
    refine (plainCC_any c HOK.out _).mono ?_
    rintro e w4 ⟨la, lc, rfl, ht4, hb4⟩
    have HT4 := hidIn ht4
    have hb4' : Below W.heap.size W w4 := HB3.out.trans (hb4.mono HB3.out.size)
    have hZ4 := HZ.out.below hb4' HZ.out.lt
    obtain ⟨⟨z0, z1, z2, z3⟩, f0, f1, f2, f3⟩ := blk_zero hZ4
    have HZ4 := hidIn hZ4
    have HB4 := hidIn hb4'
    have HS3 := hidIn HB3.out.size
    clear ht4 hb4 hb4' hZ4
    go_wp2_with fail
    refine bodyPost_ret (results_slot_cell rfl _ _ (w.heap.size + 1) 72 (four (plainC c) la lc) (0, 0) _ rfl ?blk Try.underlying72 rfl infoT) rfl ?post
    case blk => change Blk _ _ _ _; unfold four; (with_reducible exact blk_set4' HZ4.out _ _ _ _)
    case post =>
      have hWS := HWS.out
      have hs3 := HS3.out
      have hbw : Below w.heap.size w w4 := HB.out.trans (HB4.out.mono HB.out.size)
      refine ⟨c, la, lc, rfl, HOK.out, HON.out, ?_, ?_⟩
      · refine HT4.out.kept (by omega) (fun k x c hk hc => ?_)
        rw [set4_cell' (by omega)]
        exact hc
      · (repeat first | with_reducible exact hbw | with_reducible refine below_set ?_ (by omega) _ _)
  · have hwt' : (what.tmod 4 == 0) = false := by rw [beq_eq_false_iff_ne]; exact hwt
    go_wp2_with fail
    have HSH2 := HSH
    have HCN2 := HCN
    have HTX : Hid (TIn (w1.alloc (.cells #[.int .i64 t.kind, .string t.s, .int .i64 t.n, .slice ka t.k.length kc] 72)) 0 t (.agg (four t ka kc))) := (HT1.out.below (below_alloc (Below.refl _ _) _)).low (Nat.zero_le _)
    have HBX : Hid (Below W.heap.size W (w1.alloc (.cells #[.int .i64 t.kind, .string t.s, .int .i64 t.n, .slice ka t.k.length kc] 72))) := below_alloc HB1.out _
    refine (termT_any HSH2.out _ _ HTX.out).mono ?_
    rintro e w3 ⟨rfl, hb3⟩
    have HB3 : Hid (Below W.heap.size W w3) := HBX.out.trans (hb3.mono HBX.out.size)
    have HO0 := hidIn (termOf_ok HSH2.out)
    have HN0 : Hid ((termOf t).weight ≤ 4000) := by have h1 := termOf_weight t HSH2.out; have h2 := HCN2.out; show _ ≤ _; omega
    clear hb3
    generalize termOf t = c0 at *
    go_wp2_with fail
    refine calls_same (HWI.out _) ?_
    rw [HQ.out]
    have q0 := c0.one' HO0.out
    have cv0 := q0.cells
    have mv0 := q0.cells
    unfold Value.cells at mv0
    clear q0
    by_cases h27 : q = 27
    · subst h27
      go_wp2_with fail
      refine (oddC_any _ w3 hdv.1 hdv.2).mono ?_
      rintro e w5 ⟨c5, rfl, hok5, h5w, hb5⟩
      obtain ⟨c, ho⟩ : ∃ c, c = C.and c0 c5 := ⟨_, rfl⟩
      have HOK : Hid c.Ok := by rw [ho]; exact ⟨HO0.out, hok5⟩
      have HON : Hid (c.weight ≤ 10000) := by
        have h1 := HN0.out; rw [ho]; simp only [C.weight]; show _ ≤ _; omega
      have HOV : Hid (c.val = .iface 64 (.agg #[c0.val, c5.val])) := by rw [ho]; rfl
      have HB3' : Hid (Below W.heap.size W w5) := HB3.out.trans (hb5.mono HB3.out.size)
      clear HB3
      have HB3 := HB3'
      have q5 := c5.one' hok5
      have cv5 := q5.cells
      have mv5 := q5.cells
      unfold Value.cells at mv5
      clear hb5 hok5 ho q5 h5w
      go_wp2_with fail
      rw [← HOV.out]
      refine (plainCC_any c HOK.out _).mono ?_
      rintro e w4 ⟨la, lc, rfl, ht4, hb4⟩
      have HT4 := hidIn ht4
      have hb4' : Below W.heap.size W w4 := HB3.out.trans (hb4.mono HB3.out.size)
      have hZ4 := HZ.out.below hb4' HZ.out.lt
      obtain ⟨⟨z0, z1, z2, z3⟩, f0, f1, f2, f3⟩ := blk_zero hZ4
      have HZ4 := hidIn hZ4
      have HB4 := hidIn hb4'
      have HS3 := hidIn HB3.out.size
      clear ht4 hb4 hb4' hZ4
      go_wp2_with fail
      refine bodyPost_ret (results_slot_cell rfl _ _ (w.heap.size + 1) 72 (four (plainC c) la lc) (0, 0) _ rfl ?blk Try.underlying72 rfl infoT) rfl ?post
      case blk => change Blk _ _ _ _; unfold four; (with_reducible exact blk_set4' HZ4.out _ _ _ _)
      case post =>
        have hWS := HWS.out
        have hs3 := HS3.out
        have hbw : Below w.heap.size w w4 := HB.out.trans (HB4.out.mono HB.out.size)
        refine ⟨c, la, lc, rfl, HOK.out, HON.out, ?_, ?_⟩
        · refine HT4.out.kept (by omega) (fun k x c hk hc => ?_)
          rw [set4_cell' (by omega)]
          exact hc
        · (repeat first | with_reducible exact hbw | with_reducible refine below_set ?_ (by omega) _ _)
    by_cases h28 : q = 28
    · subst h28
      go_wp2_with fail
      refine (odd_any _ w3 hdv.1 hdv.2).mono ?_
      rintro e w5 ⟨c5, rfl, hok5, h51, hb5⟩
      obtain ⟨c, ho⟩ : ∃ c, c = C.scale c5 c0 := ⟨_, rfl⟩
      have HOK : Hid c.Ok := by rw [ho]; exact ⟨hok5, HO0.out⟩
      have HON : Hid (c.weight ≤ 10000) := by
        rw [ho]
        have h1 := HN0.out
        rcases h51 with rfl | ⟨v, rfl⟩
        · simp only [C.weight, O.nodes]; show _ ≤ _; omega
        · simp only [C.weight, O.nodes]; show _ ≤ _; omega
      have HOV : Hid (c.val = .iface 30 (.agg #[c5.val, c0.val])) := by rw [ho]; rfl
      have HB3' : Hid (Below W.heap.size W w5) := HB3.out.trans (hb5.mono HB3.out.size)
      clear HB3
      have HB3 := HB3'
      have q5 := c5.one' hok5
      have cv5 := q5.cells
      have mv5 := q5.cells
      unfold Value.cells at mv5
      clear hb5 hok5 ho q5 h51
      go_wp2_with fail
      rw [← HOV.out]
      refine (plainCC_any c HOK.out _).mono ?_
      rintro e w4 ⟨la, lc, rfl, ht4, hb4⟩
      have HT4 := hidIn ht4
      have hb4' : Below W.heap.size W w4 := HB3.out.trans (hb4.mono HB3.out.size)
      have hZ4 := HZ.out.below hb4' HZ.out.lt
      obtain ⟨⟨z0, z1, z2, z3⟩, f0, f1, f2, f3⟩ := blk_zero hZ4
      have HZ4 := hidIn hZ4
      have HB4 := hidIn hb4'
      have HS3 := hidIn HB3.out.size
      clear ht4 hb4 hb4' hZ4
      go_wp2_with fail
      refine bodyPost_ret (results_slot_cell rfl _ _ (w.heap.size + 1) 72 (four (plainC c) la lc) (0, 0) _ rfl ?blk Try.underlying72 rfl infoT) rfl ?post
      case blk => change Blk _ _ _ _; unfold four; (with_reducible exact blk_set4' HZ4.out _ _ _ _)
      case post =>
        have hWS := HWS.out
        have hs3 := HS3.out
        have hbw : Below w.heap.size w w4 := HB.out.trans (HB4.out.mono HB.out.size)
        refine ⟨c, la, lc, rfl, HOK.out, HON.out, ?_, ?_⟩
        · refine HT4.out.kept (by omega) (fun k x c hk hc => ?_)
          rw [set4_cell' (by omega)]
          exact hc
        · (repeat first | with_reducible exact hbw | with_reducible refine below_set ?_ (by omega) _ _)
    by_cases h29 : q = 29
    · subst h29
      go_wp2_with fail
      refine (oddC_any _ w3 hdv.1 hdv.2).mono ?_
      rintro e w5 ⟨c5, rfl, hok5, h5w, hb5⟩
      obtain ⟨c, ho⟩ : ∃ c, c = c5 := ⟨_, rfl⟩
      have HOK : Hid c.Ok := by rw [ho]; exact hok5
      have HON : Hid (c.weight ≤ 10000) := by
        rw [ho]; show _ ≤ _; omega
      have HOV : Hid (c.val = c5.val) := by rw [ho]; rfl
      have HB3' : Hid (Below W.heap.size W w5) := HB3.out.trans (hb5.mono HB3.out.size)
      clear HB3
      have HB3 := HB3'
      have q5 := c5.one' hok5
      have cv5 := q5.cells
      have mv5 := q5.cells
      unfold Value.cells at mv5
      clear hb5 hok5 ho q5 h5w
      go_wp2_with fail
      rw [← HOV.out]
      refine (plainCC_any c HOK.out _).mono ?_
      rintro e w4 ⟨la, lc, rfl, ht4, hb4⟩
      have HT4 := hidIn ht4
      have hb4' : Below W.heap.size W w4 := HB3.out.trans (hb4.mono HB3.out.size)
      have hZ4 := HZ.out.below hb4' HZ.out.lt
      obtain ⟨⟨z0, z1, z2, z3⟩, f0, f1, f2, f3⟩ := blk_zero hZ4
      have HZ4 := hidIn hZ4
      have HB4 := hidIn hb4'
      have HS3 := hidIn HB3.out.size
      clear ht4 hb4 hb4' hZ4
      go_wp2_with fail
      refine bodyPost_ret (results_slot_cell rfl _ _ (w.heap.size + 1) 72 (four (plainC c) la lc) (0, 0) _ rfl ?blk Try.underlying72 rfl infoT) rfl ?post
      case blk => change Blk _ _ _ _; unfold four; (with_reducible exact blk_set4' HZ4.out _ _ _ _)
      case post =>
        have hWS := HWS.out
        have hs3 := HS3.out
        have hbw : Below w.heap.size w w4 := HB.out.trans (HB4.out.mono HB.out.size)
        refine ⟨c, la, lc, rfl, HOK.out, HON.out, ?_, ?_⟩
        · refine HT4.out.kept (by omega) (fun k x c hk hc => ?_)
          rw [set4_cell' (by omega)]
          exact hc
        · (repeat first | with_reducible exact hbw | with_reducible refine below_set ?_ (by omega) _ _)
    have e27 : ((q : Int) == 27) = false := by rw [beq_eq_false_iff_ne]; omega
    have e28 : ((q : Int) == 28) = false := by rw [beq_eq_false_iff_ne]; omega
    have e29 : ((q : Int) == 29) = false := by rw [beq_eq_false_iff_ne]; omega
    obtain ⟨c, ho⟩ : ∃ c, c = c0 := ⟨_, rfl⟩
    subst ho
    have HOK := HO0
    have HON : Hid (c.weight ≤ 10000) := by have h1 := HN0.out; show _ ≤ _; omega
    go_wp2_with fail
    refine (plainCC_any c HOK.out _).mono ?_
    rintro e w4 ⟨la, lc, rfl, ht4, hb4⟩
    have HT4 := hidIn ht4
    have hb4' : Below W.heap.size W w4 := HB3.out.trans (hb4.mono HB3.out.size)
    have hZ4 := HZ.out.below hb4' HZ.out.lt
    obtain ⟨⟨z0, z1, z2, z3⟩, f0, f1, f2, f3⟩ := blk_zero hZ4
    have HZ4 := hidIn hZ4
    have HB4 := hidIn hb4'
    have HS3 := hidIn HB3.out.size
    clear ht4 hb4 hb4' hZ4
    go_wp2_with fail
    refine bodyPost_ret (results_slot_cell rfl _ _ (w.heap.size + 1) 72 (four (plainC c) la lc) (0, 0) _ rfl ?blk Try.underlying72 rfl infoT) rfl ?post
    case blk => change Blk _ _ _ _; unfold four; (with_reducible exact blk_set4' HZ4.out _ _ _ _)
    case post =>
      have hWS := HWS.out
      have hs3 := HS3.out
      have hbw : Below w.heap.size w w4 := HB.out.trans (HB4.out.mono HB.out.size)
      refine ⟨c, la, lc, rfl, HOK.out, HON.out, ?_, ?_⟩
      · refine HT4.out.kept (by omega) (fun k x c hk hc => ?_)
        rw [set4_cell' (by omega)]
        exact hc
      · (repeat first | with_reducible exact hbw | with_reducible refine below_set ?_ (by omega) _ _)

end Go.Proofs.Ytngjlkdpplmpaaa
namespace Go.Proofs.Ytngjlkdpplmpaaa.Ca
open Go.RowKit Wd Cn Vl
set_option linter.unusedVariables false

theorem ref_at (c : C) (hok : c.Ok) (hsz : c.weight ≤ 300000) (w : World) (v : Value) (ht : TIn w 0 (plainC c) v) (B r : Nat) (K : KW) (id : ByteArray) (hE : EnvR w B r K id) (d : Int) (hd : dayOk d) (x : Ck) (hx : ofK K id c d = x) :
    Calls Try.prog 19 #[.string id, v, .int .i64 d, .pointer (some ⟨r, 0, none⟩)] w (OfIn w x) := by
  refine (refCash_any c hok hsz w v ht B r K id hE d hd).mono ?_
  rintro e w' ⟨vF, vW, rfl, h1, h2, hb⟩
  rw [hx] at h1 h2
  obtain ⟨ao, cap, rfl, h3⟩ := own_fls h1
  obtain ⟨bo, cap2, rfl, h4⟩ := own_wts h2
  exact ⟨ao, cap, bo, cap2, by rw [hx], h3, h4, hb⟩
theorem ofK_len (K : KW) (id : ByteArray) (c : C) (d : Int) : (ofK K id c d).f.length ≤ c.weight ∧ (ofK K id c d).w.length ≤ c.weight := by
  have h := ck_len K id c d 1
  have h2 := addW_len (ck K id c d 1).w []
  unfold ofK
  split
  · split
    · simp at h2 ⊢; omega
    · simp
  · simp

set_option maxHeartbeats 8000000 in
set_option maxRecDepth 100000 in
theorem tells10_walk (pl : Pl) (at' what v0 : Int) (s : ByteArray) (odd : Int) (la : Option Addr) (ll lc : Nat) (lf : Nat → Int) (ca : Option Addr) (cl cc : Nat) (cf : Nat → Int) (day : Int) (w : World) (hp : PlanIn w pl) (ha1 : -9223372036854775808 ≤ at') (ha2 : at' ≤ 9223372036854775807) (hw1 : -9223372036854775808 ≤ what) (hw2 : what ≤ 9223372036854775807)
    (hv1 : -9223372036854775808 ≤ v0) (hv2 : v0 ≤ 9223372036854775807) (hs : s.size ≤ 140737488351232) (ho1 : -9223372036854775808 ≤ odd) (ho2 : odd ≤ 9223372036854775807) (hl : HasInts w la ll lf) (hll : ll ≤ 9223372036854775807) (hc : HasInts w ca cl cf) (hcl : cl ≤ 9223372036854775807) (hd1 : -9223372036854775808 ≤ day) (hd2 : day ≤ 9223372036854775807) :
    Calls Try.prog 6 #[planV pl, .int .i64 at', .int .i64 what, .int .i64 v0, .string s, .int .i64 odd, .slice la ll lc, .slice ca cl cc, .int .i64 day] w fun e w' => e = .returned (.bool true) ∧ Below w.heap.size w w' := by
  have HWD := hidC (fun w : World => within_any day 7 w (by omega) (by omega) hd1 hd2)
  have HP := hidC hp
  have HL := hidC hl
  have HCI := hidC hc
  have HC1 : Hid (∀ W, PlanIn W pl → Calls Try.prog 17 #[.agg #[.slice pl.na pl.nl pl.nc, .slice pl.wa pl.wl pl.wc], .int .i64 at', .int .i64 what, .int .i64 v0, .string s, .int .i64 odd] W (SomePostC W)) := fun W hW => some5_any pl at' what v0 s odd W hW ha1 ha2 hw1 hw2 hv1 hv2 (by unfold maxLen; omega) ho1 ho2
  clear hp hl hc ha1 ha2 hw1 hw2 hv1 hv2 hs ho1 ho2
  unfold planV
  go_enter Try.func6, Try.ntmps6
  go_wp2_with fail
  have hb0 : Below w.heap.size w (w.alloc (.cells #[.slice pl.na pl.nl pl.nc, .slice pl.wa pl.wl pl.wc] 69)) := below_alloc (Below.refl _ _) _
  have HB0 := hidC hb0
  refine (HC1.out _ (HP.out.below HB0.out)).mono ?_
  rintro e w1 ⟨c, ka, kc, rfl, hok, hn, ht, hb1⟩
  have HOK := hidC hok
  have HWC : Hid (c.weight ≤ 10000) := hn
  have HB1 := hidC (HB0.out.trans (hb1.mono HB0.out.size))
  obtain ⟨W2, hW2⟩ : ∃ W2, W2 = w1.alloc (.cells #[.int .i64 (plainC c).kind, .string (plainC c).s, .int .i64 (plainC c).n, .slice ka (plainC c).k.length kc] 72) := ⟨_, rfl⟩
  have HB2 : Hid (Below w.heap.size w W2) := by rw [hW2]; exact below_alloc HB1.out _
  have HT2 : Hid (TIn W2 0 (plainC c) (.agg (four (plainC c) ka kc))) := by rw [hW2]; exact (ht.below (below_alloc (Below.refl _ _) _)).low (Nat.zero_le _)
  have HBK : Hid (W2.heap[w1.heap.size]? = some (.cells #[.int .i64 (plainC c).kind, .string (plainC c).s, .int .i64 (plainC c).n, .slice ka (plainC c).k.length kc] 72)) := by rw [hW2]; exact heap_alloc_new _ _
  have HD : Hid (∀ w', Below W2.heap.size W2 w' → TIn w' 0 (plainC c) (.agg (four (plainC c) ka kc)) ∧ w'.cell? ⟨w1.heap.size, 0, none⟩ = some (.int .i64 (plainC c).kind) ∧ w'.cell? ⟨w1.heap.size, 1, none⟩ = some (.string (plainC c).s) ∧ w'.cell? ⟨w1.heap.size, 2, none⟩ = some (.int .i64 (plainC c).n) ∧ w'.cell? ⟨w1.heap.size, 3, none⟩ = some (.slice ka (plainC c).k.length kc)) := fun w' hw' => by
    have hh := (hw'.block _ (Array.getElem?_eq_some_iff.1 HBK.out).1).trans HBK.out
    exact ⟨HT2.out.below hw', cell_of_row _ _ _ _ _ _ hh, cell_of_row _ _ _ _ _ _ hh, cell_of_row _ _ _ _ _ _ hh, cell_of_row _ _ _ _ _ _ hh⟩
  have HLI := hidC (ints_below HL.out HB2.out)
  have HCI2 := hidC (ints_below HCI.out HB2.out)
  clear hok hn ht hb1 hb0 HP HC1 HL HCI
  go_wp2_with fail
  rw [← hW2]
  refine (known10_any la ll lc lf ca cl cc cf W2 HLI.out hll HCI2.out hcl).mono ?_
  rintro e w4 ⟨p, f, q, r, rfl, B, K, hb4, hvals, hchs, hfl, hcln⟩
  have HB4 := hidC hb4
  have HVL := hidC hvals
  have HCH := hidC hchs
  have HFN := hidC hfl
  have HCN := hidC hcln
  clear hb4 hvals hchs hfl hcln HLI HCI2 hW2
  have HE := hidC (show Env w4 p f q K ⟨#[116]⟩ from ⟨HB4.out.i.kin, HVL.out, HCH.out, by decide⟩)
  have HCASH := hidC (fun (d : Int) (hd : dayOk d) => cash_at c HOK.out (by have := HWC.out; omega) w4 p f q K ⟨#[116]⟩ HE.out d hd _ rfl)
  have HREF := hidC (fun (d : Int) (hd : dayOk d) (w' : World) (hb : Below w4.heap.size w4 w') => ref_at c HOK.out (by have := HWC.out; omega) w' _ (HD.out w' (HB4.out.i.below.trans (hb.mono HB4.out.i.below.size))).1 B r K ⟨#[116]⟩ (by
    obtain ⟨vF, vC, hr⟩ := HB4.out.rr
    exact ⟨⟨vF, vC, hr.below hb⟩, HVL.out, HCH.out, by have := HFN.out; omega, by have := HCN.out; omega, by decide⟩) d hd _ rfl)
  have HLEN := hidC (fun d => ofK_len K ⟨#[116]⟩ c d)
  unfold four at HREF
  rcases (show Int.tmod day 11 = 10 ∨ (Int.tmod day 11 != 10) = true by by_cases h : Int.tmod day 11 = 10; exact .inl h; exact .inr (by simpa using h)) with h11 | h11
  · have h11' : (Int.tmod day 11 != 10) = false := by simp [h11]
    have HDO : Hid (dayOk day) := ⟨hd1, hd2⟩
    clear h11 hd1 hd2 HWD
    go_wp2_with fail
    refine (HCASH.out day HDO.out).mono ?_
    rintro e w5 ⟨ao, cap, bo, cap2, rfl, hA, hB, hb5⟩
    have HA5 := hidC hA
    have HB5w := hidC hB
    have HB5 := hidC hb5
    obtain ⟨x0, x1, x2, x3⟩ := (HD.out w5 (HB4.out.i.below.trans (hb5.mono HB4.out.i.below.size))).2
    clear hA hB hb5
    go_wp2_with fail
    refine (HREF.out day HDO.out w5 HB5.out).mono ?_
    rintro e w6 ⟨co, cap3, eo, cap4, rfl, hA, hB, hb6⟩
    have HA6 := hidC hA
    have HB6w := hidC hB
    have HB6 := hidC hb6
    have hlf := (HLEN.out day).1
    have hlw := (HLEN.out day).2
    have hwc := HWC.out
    clear hA hB hb6 x0 x1 x2 x3
    generalize ofK K ⟨#[116]⟩ c day = z at *
    go_wp2_with fail
    refine (sameF_any w6 ao co cap cap3 z.f z.f (HA5.out.below HB6.out) HA6.out (by omega) (by omega)).mono ?_
    rintro e w7 ⟨rfl, hb7⟩
    have HB7 := hidC hb7
    clear hb7
    rw [decide_eq_true rfl]
    go_wp2_with fail
    refine (sameW_any w7 bo eo cap2 cap4 z.w z.w ((HB5w.out.below HB6.out).below HB7.out) (HB6w.out.below HB7.out) (by omega) (by omega)).mono ?_
    rintro e w8 ⟨rfl, hb8⟩
    have HB8 := hidC hb8
    clear hb8
    rw [decide_eq_true rfl]
    go_wp2_with fail
    refine (wakes10_any w8).mono ?_
    rintro e w9 ⟨rfl, hb9⟩
    have h5 := HB2.out.trans ((HB4.out.i.below.trans (HB5.out.mono HB4.out.i.below.size)).mono HB2.out.size)
    have h6 := h5.trans (HB6.out.mono h5.size)
    have h7 := h6.trans (HB7.out.mono h6.size)
    have h8 := h7.trans (HB8.out.mono h7.size)
    have HEND := hidC (h8.trans (hb9.mono h8.size))
    clear h5 h6 h7 h8 hb9
    go_wp2_with fail
    go_ret
    exact ⟨rfl, HEND.out⟩
  · obtain ⟨d, hd⟩ : ∃ d, day % 7 = d := ⟨_, rfl⟩
    have HDO : Hid (dayOk d) := ⟨by omega, by omega⟩
    rw [hd] at HWD
    clear hd1 hd2 hd
    go_wp2_with fail
    refine calls_same (HWD.out _) ?_
    go_wp2_with fail
    refine (HCASH.out d HDO.out).mono ?_
    rintro e w5 ⟨ao, cap, bo, cap2, rfl, hA, hB, hb5⟩
    have HA5 := hidC hA
    have HB5w := hidC hB
    have HB5 := hidC hb5
    obtain ⟨x0, x1, x2, x3⟩ := (HD.out w5 (HB4.out.i.below.trans (hb5.mono HB4.out.i.below.size))).2
    clear hA hB hb5
    go_wp2_with fail
    refine (HREF.out d HDO.out w5 HB5.out).mono ?_
    rintro e w6 ⟨co, cap3, eo, cap4, rfl, hA, hB, hb6⟩
    have HA6 := hidC hA
    have HB6w := hidC hB
    have HB6 := hidC hb6
    have hlf := (HLEN.out d).1
    have hlw := (HLEN.out d).2
    have hwc := HWC.out
    clear hA hB hb6 x0 x1 x2 x3
    generalize ofK K ⟨#[116]⟩ c d = z at *
    go_wp2_with fail
    refine (sameF_any w6 ao co cap cap3 z.f z.f (HA5.out.below HB6.out) HA6.out (by omega) (by omega)).mono ?_
    rintro e w7 ⟨rfl, hb7⟩
    have HB7 := hidC hb7
    clear hb7
    rw [decide_eq_true rfl]
    go_wp2_with fail
    refine (sameW_any w7 bo eo cap2 cap4 z.w z.w ((HB5w.out.below HB6.out).below HB7.out) (HB6w.out.below HB7.out) (by omega) (by omega)).mono ?_
    rintro e w8 ⟨rfl, hb8⟩
    have HB8 := hidC hb8
    clear hb8
    rw [decide_eq_true rfl]
    go_wp2_with fail
    refine (wakes10_any w8).mono ?_
    rintro e w9 ⟨rfl, hb9⟩
    have h5 := HB2.out.trans ((HB4.out.i.below.trans (HB5.out.mono HB4.out.i.below.size)).mono HB2.out.size)
    have h6 := h5.trans (HB6.out.mono h5.size)
    have h7 := h6.trans (HB7.out.mono h6.size)
    have h8 := h7.trans (HB8.out.mono h7.size)
    have HEND := hidC (h8.trans (hb9.mono h8.size))
    clear h5 h6 h7 h8 hb9
    go_wp2_with fail
    go_ret
    exact ⟨rfl, HEND.out⟩

end Go.Proofs.Ytngjlkdpplmpaaa.Ca
