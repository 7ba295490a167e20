/- The walk of the statement WorldPlays. -/
import Derived.Test.YthjgpodpnoaieaaPlay8
import Derived.Test.YthjgpodpnoaieaaMix2
namespace Go.Proofs.Ythjgpodpnoaieaa.Wd
open Go.RowKit Go.Maps
set_option linter.unusedVariables false

/-- Both worlds in memory, and they know the same. -/
structure Bt (w0 W : World) (p f c r : Nat) (K : KW) : Prop where
  i : In w0 W p f c K
  rr : ∃ vF vC, RIn W w0.heap.size r K vF vC
theorem Bt.step {w0 W W' : World} {p f c r : Nat} {K : KW} (h : Bt w0 W p f c r K) (hb : Below W.heap.size W W') : Bt w0 W' p f c r K := by
  obtain ⟨vF, vC, hr⟩ := h.rr
  exact ⟨h.i.step hb, ⟨vF, vC, hr.below hb⟩⟩
section
variable {w0 W : World} {p f c r : Nat} {K : KW}
theorem b_name (h : Bt w0 W p f c r K) (a : Ac) (ok : a.Ok) (n : Int) (hn : I64 n) :
    Calls Try.prog 17 #[.agg #[.bool a.ch, .int .i64 a.A, .int .i64 a.B, .int .i64 a.D, .int .i64 a.V, .string a.W], .int .i64 n] W fun e w' => e = .returned (.string (nameA a n)) ∧ Bt w0 w' p f c r K :=
  (name8_any a ok n hn W).mono fun e w' h1 => ⟨h1.1, h.step h1.2⟩
theorem b_fixed (h : Bt w0 W p f c r K) (s : ByteArray) (d : Int) (hk : fixOk (s, d)) :
    Calls Try.prog 11 #[.pointer (some ⟨p, 0, none⟩), .string s, .int .i64 d] W fun e w' => e = .returned (.tuple #[.int .i64 ((K.fixed (s, d)).getD 0), .bool (K.fixed (s, d)).isSome]) ∧ Bt w0 w' p f c r K :=
  (fixed_any W p f c K h.i.kin s d hk).mono fun e w' h1 => ⟨h1.1, h1.2 ▸ h⟩
theorem b_rfixed (h : Bt w0 W p f c r K) (s : ByteArray) (d : Int) (hl : K.F.length ≤ 1000000) :
    Calls Try.prog 18 #[.pointer (some ⟨r, 0, none⟩), .string s, .int .i64 d] W fun e w' => e = .returned (.tuple #[.int .i64 ((K.fixed (s, d)).getD 0), .bool (K.fixed (s, d)).isSome]) ∧ Bt w0 w' p f c r K := by
  obtain ⟨vF, vC, hr⟩ := h.rr
  exact (refFixed_any W _ r K vF vC hr s d hl).mono fun e w' h1 => ⟨h1.1, h.step h1.2⟩
theorem b_chosen (h : Bt w0 W p f c r K) (s t : ByteArray) (hk : chOk (s, t)) :
    Calls Try.prog 12 #[.pointer (some ⟨p, 0, none⟩), .string s, .string t] W fun e w' => e = .returned (.tuple #[.int .i64 ((K.chosen (s, t)).getD (0, 0)).1, .int .i64 ((K.chosen (s, t)).getD (0, 0)).2, .bool (K.chosen (s, t)).isSome]) ∧ Bt w0 w' p f c r K :=
  (chosen_any W p f c K h.i.kin s t hk).mono fun e w' h1 => ⟨h1.1, h.step h1.2⟩
theorem b_rchosen (h : Bt w0 W p f c r K) (s t : ByteArray) (hl : K.C.length ≤ 1000000) :
    Calls Try.prog 19 #[.pointer (some ⟨r, 0, none⟩), .string s, .string t] W fun e w' => e = .returned (.tuple #[.int .i64 ((K.chosen (s, t)).getD (0, 0)).1, .int .i64 ((K.chosen (s, t)).getD (0, 0)).2, .bool (K.chosen (s, t)).isSome]) ∧ Bt w0 w' p f c r K := by
  obtain ⟨vF, vC, hr⟩ := h.rr
  exact (refChosen_any W _ r K vF vC hr s t hl).mono fun e w' h1 => ⟨h1.1, h.step h1.2⟩
theorem b_play (h : Bt w0 W p f c r K) (a : Ac) (ok : a.Ok) (hF : K.F.length ≤ 1000) (hC : K.C.length ≤ 1000) :
    Calls Try.prog 16 #[.pointer (some ⟨p, 0, none⟩), .pointer (some ⟨r, 0, none⟩), .agg #[.bool a.ch, .int .i64 a.A, .int .i64 a.B, .int .i64 a.D, .int .i64 a.V, .string a.W]] W fun e w' => e = .returned (.bool true) ∧ Bt w0 w' p f c r (actN K a) :=
  (play_any w0 W p f c r K h.i h.rr a ok hF hC).mono fun e w' h1 => ⟨h1.1, h1.2.1, h1.2.2⟩
/-- A clone goes its own way. -/
theorem b_clone (h : Bt w0 W p f c r K) :
    Calls Try.prog 15 #[.pointer (some ⟨p, 0, none⟩)] W fun e w' => ∃ b, e = .returned (.pointer (some ⟨b, 0, none⟩)) ∧ (∃ g d L, KIn w' b g d L ∧ W.heap.size ≤ g ∧ W.heap.size ≤ d) ∧ Below W.heap.size W w' := by
  refine (clone_any W p f c K h.i.kin).mono ?_
  rintro e w' ⟨b, rfl, g, d, k1, k2, k3, k4, k5⟩
  exact ⟨b, rfl, ⟨g, d, K, k1, k3, k4⟩, k5⟩
end
theorem c_fix (W0 W : World) (b : Nat) (hb : ∃ g d L, KIn W b g d L ∧ W0.heap.size ≤ g ∧ W0.heap.size ≤ d) (hw : Below W0.heap.size W0 W) (s : ByteArray) (d v : Int) (hk : fixOk (s, d)) :
    Calls Try.prog 9 #[.pointer (some ⟨b, 0, none⟩), .string s, .int .i64 d, .int .i64 v] W fun e w' => ∃ x, e = .returned (.int .i64 x) ∧ (∃ g d L, KIn w' b g d L ∧ W0.heap.size ≤ g ∧ W0.heap.size ≤ d) ∧ Below W0.heap.size W0 w' := by
  obtain ⟨g, y, L, h1, h2, h3⟩ := hb
  refine (fix_any W b g y L h1 s d v hk).mono ?_
  rintro e w' ⟨rfl, k1, k2⟩
  exact ⟨_, rfl, ⟨g, y, _, k1, h2, h3⟩, hw.trans (k2.below hw.size h2)⟩
theorem c_ch (W0 W : World) (b : Nat) (hb : ∃ g d L, KIn W b g d L ∧ W0.heap.size ≤ g ∧ W0.heap.size ≤ d) (hw : Below W0.heap.size W0 W) (s t : ByteArray) (q d : Int) (hk : chOk (s, t)) :
    Calls Try.prog 10 #[.pointer (some ⟨b, 0, none⟩), .string s, .string t, .int .i64 q, .int .i64 d] W fun e w' => ∃ x, e = .returned (.int .i64 x) ∧ Below W0.heap.size W0 w' := by
  obtain ⟨g, y, L, h1, h2, h3⟩ := hb
  refine (ch_any W b g y L h1 s t q d hk).mono ?_
  rintro e w' ⟨rfl, k1, k2⟩
  exact ⟨_, rfl, hw.trans (k2.below hw.size h3)⟩
theorem actN_len (K : KW) (a : Ac) : (actN K a).F.length ≤ K.F.length + 1 ∧ (actN K a).C.length ≤ K.C.length + 1 := by
  unfold actN chN fixN
  split
  · split
    · simp
    · omega
  · split
    · simp
    · omega
theorem rin_new (W : World) (B : Nat) (hB : B ≤ W.heap.size) : RIn (W.alloc (.cells #[.slice none 0 0, .slice none 0 0] 42)) B W.heap.size ⟨[], []⟩ (.slice none 0 0) (.slice none 0 0) :=
  ⟨blk_new _ _, World.ownsRow_nil _ _ _ _, World.ownsRow_nil _ _ _ _, hB⟩

set_option maxHeartbeats 40000000 in
set_option maxRecDepth 100000 in
theorem plays_walk (la : Option Addr) (ll lc : Nat) (lf : Nat → Ac) (w : World) (hl : HasActs w la ll lf) (hk : ll ≤ 9223372036854775807) :
    Calls Try.prog 5 #[.slice la ll lc] w fun e w' => e = .returned (.bool true) ∧ Below w.heap.size w w' := by
  have HL := hidInW hl
  clear hl
  go_enter Try.func5, Try.ntmps5
  go_wp2_with fail
  refine (new_in' w).mono ?_
  rintro e w0 ⟨p, f, c, rfl, hi⟩
  have HT0 : Hid (Bt w (w0.alloc (.cells #[.slice none 0 0, .slice none 0 0] 42)) p f c w0.heap.size ⟨[], []⟩) := ⟨hi.step (below_alloc (Below.refl _ _) _), _, _, rin_new w0 _ hi.below.size⟩
  clear hi
  go_upto_region 5 with fail
  generalize w0.alloc (.cells #[.slice none 0 0, .slice none 0 0] 42) = w1 at *
  generalize w0.heap.size = r at *
  go_loopw [5] (fun s5 wr => ∃ (i : Nat) (K : KW), i ≤ 40 ∧ s5 = .int .i64 i ∧ K.F.length ≤ i ∧ K.C.length ≤ i ∧ Bt w wr p f c r K) (fun s5 _ => 40 - (intOf s5).toNat)
  case atStart => exact ⟨0, ⟨[], []⟩, by omega, rfl, by simp, by simp, HT0.out⟩
  case round =>
    obtain ⟨i, K, hi, rfl, hF, hC, hbt⟩ := hrel
    have HT := hidInW hbt
    clear hbt HT0
    by_cases hil : i < ll
    rotate_left
    · have a1 : ¬ (i : Int) < (ll : Int) := by omega
      go_wp2_with fail
      refine (wakes8_any _).mono ?_
      rintro e w9 ⟨rfl, hb9⟩
      go_wp2_with fail
      go_ret
      exact ⟨rfl, HT.out.i.below.trans (hb9.mono HT.out.i.below.size)⟩
    · have a1 : (i : Int) < (ll : Int) := by omega
      by_cases hi40 : i < 40
      rotate_left
      · have a2 : ¬ (i : Int) < 40 := by omega
        go_wp2_with fail
        refine (wakes8_any _).mono ?_
        rintro e w9 ⟨rfl, hb9⟩
        go_wp2_with fail
        go_ret
        exact ⟨rfl, HT.out.i.below.trans (hb9.mono HT.out.i.below.size)⟩
      · have a2 : (i : Int) < 40 := by omega
        obtain ⟨hok, bb, off, rfl, hbb, k0, k1, k2, k3, k4, k5⟩ := HL.out i hil
        have HOK := hidInW hok
        have HBB := hidInW hbb
        have HA0 := hidInW k0
        have HA1 := hidInW k1
        have HA2 := hidInW k2
        have HA3 := hidInW k3
        have HA4 := hidInW k4
        have HA5 := hidInW k5
        clear hok hbb k0 k1 k2 k3 k4 k5
        generalize lf i = a at *
        have HAL := hidInW (actN_len K a)
        have HND : Hid (∀ j : Nat, j < 5 → fixOk (nameA a a.A, (j : Int))) := fun j hj => nameOk a a.A (j : Int) ⟨by omega, by omega⟩
        by_cases hi9 : i = 9
        · subst hi9
          go_wp2_with fail
          refine (b_clone HT.out).mono ?_
          rintro e v1 ⟨cb, rfl, hcb, hv1⟩
          have HCB := hidInW hcb
          have HV1 := hidInW hv1
          clear hcb hv1
          go_wp2_with fail
          refine (c_fix wr v1 cb HCB.out HV1.out _ _ _ ⟨by show ByteArray.size ⟨#[110, 97]⟩ ≤ maxLen; decide, by show (-9223372036854775808 : Int) ≤ 4; omega, by show (4 : Int) ≤ 9223372036854775807; omega⟩).mono ?_
          rintro e v2 ⟨x2, rfl, hcb, hv2⟩
          have HCB2 := hidInW hcb
          have HV2 := hidInW hv2
          clear hcb hv2 HCB HV1
          go_wp2_with fail
          refine (c_ch wr v2 cb HCB2.out HV2.out _ _ _ _ ⟨by show ByteArray.size ⟨#[110, 97]⟩ ≤ maxLen; decide, by show ByteArray.size ⟨#[110, 98]⟩ ≤ maxLen; decide⟩).mono ?_
          rintro e v3 ⟨x3, rfl, hv3⟩
          have HTC := hidInW (HT.out.step hv3)
          clear hv3 HCB2 HV2
          go_upto_region 13 with fail
          refine Mx.wp_region_mix2 (fun w' => Below w.heap.size w w') (fun w' => KIn w' p f c (actN K a)) 6 [(0, false), (1, false), (2, false), (3, false), (4, false), (5, false), (6, true), (7, true), (8, true), (9, false), (11, false), (12, false), (13, false), (10, false), (14, true), (15, true), (16, true), (17, true)] (by kernel_rfl) (by kernel_rfl) (Below.drew HTC.out.i.below) ?_ (by kernel_rfl)
          simp only [List.map_cons, List.map_nil, List.getD_cons_zero, List.getD_cons_succ]
          generalize hops : (#[_, _, _, _, _, _, _, _, _, _, _, _, _, _, _, _, _, _] : Array Oper) = ops
          have HD8 : Hid ((ops[8]?).bind (·.dst) = some 51) := by rw [← hops]; exact rfl
          clear hops
          have HTd := hidInW (HTC.out.step (Below.refl _ _).drew)
          refine Mx.n_pure (.pointer (some ⟨p, 0, none⟩)) (by decide) (Mx.wanted_none rfl) (fun w' hw' hw2 => ?_) ?_
          · clear hw2
            go_simp
          simp only [Act.put, List.setIfInBounds_toArray, List.set_cons_zero, List.set_cons_succ]
          refine Mx.n_pure (.pointer (some ⟨r, 0, none⟩)) (by decide) (Mx.wanted_none rfl) (fun w' hw' hw2 => ?_) ?_
          · clear hw2
            go_simp
          simp only [Act.put, List.setIfInBounds_toArray, List.set_cons_zero, List.set_cons_succ]
          refine Mx.n_pure (.slice (some ⟨bb, off, none⟩) ll lc) (by decide) (Mx.wanted_none rfl) (fun w' hw' hw2 => ?_) ?_
          · clear hw2
            go_simp
          simp only [Act.put, List.setIfInBounds_toArray, List.set_cons_zero, List.set_cons_succ]
          refine Mx.n_pure (.int .i64 9) (by decide) (Mx.wanted_none rfl) (fun w' hw' hw2 => ?_) ?_
          · clear hw2
            go_simp
          simp only [Act.put, List.setIfInBounds_toArray, List.set_cons_zero, List.set_cons_succ]
          refine Mx.n_pure (.pointer (some ⟨bb, off + 9 * 6, none⟩)) (by decide) (Mx.wanted_none rfl) (fun w' hw' hw2 => ?_) ?_
          · clear hw2
            go_simp
          simp only [Act.put, List.setIfInBounds_toArray, List.set_cons_zero, List.set_cons_succ]
          refine Mx.n_pure (.agg #[.bool a.ch, .int .i64 a.A, .int .i64 a.B, .int .i64 a.D, .int .i64 a.V, .string a.W]) (by decide) (Mx.wanted_none rfl) (fun w' hw' hw2 => ?_) ?_
          · clear hw2
            have y0 := (hw'.cell (p := ⟨bb, off + 9 * 6, none⟩) HBB.out).trans HA0.out
            have y1 := (hw'.cell (p := ⟨bb, off + 9 * 6 + 1, none⟩) HBB.out).trans HA1.out
            have y2 := (hw'.cell (p := ⟨bb, off + 9 * 6 + 2, none⟩) HBB.out).trans HA2.out
            have y3 := (hw'.cell (p := ⟨bb, off + 9 * 6 + 3, none⟩) HBB.out).trans HA3.out
            have y4 := (hw'.cell (p := ⟨bb, off + 9 * 6 + 4, none⟩) HBB.out).trans HA4.out
            have y5 := (hw'.cell (p := ⟨bb, off + 9 * 6 + 5, none⟩) HBB.out).trans HA5.out
            clear hw'
            go_simp
          simp only [Act.put, List.setIfInBounds_toArray, List.set_cons_zero, List.set_cons_succ]
          refine Mx.n_call 16 #[.pointer (some ⟨p, 0, none⟩), .pointer (some ⟨r, 0, none⟩), .agg #[.bool a.ch, .int .i64 a.A, .int .i64 a.B, .int .i64 a.D, .int .i64 a.V, .string a.W]] (Mx.wanted_none rfl) ?_ ?_
          · go_simp
          refine (b_play HTd.out a HOK.out (by omega) (by omega)).mono ?_
          rintro e w13 ⟨rfl, hs⟩
          have HT13 := hidInW hs
          clear hs HTd
          refine ⟨_, rfl, HT13.out.i.below, fun _ => HT13.out.i.kin, ?_⟩
          simp only [Act.put, List.setIfInBounds_toArray, List.set_cons_zero, List.set_cons_succ]
          refine Mx.n_run (.bool false) (Mx.wanted_none rfl) ?_ HT13.out.i.below (fun _ => HT13.out.i.kin) ?_
          · go_simp
          simp only [Act.put, List.setIfInBounds_toArray, List.set_cons_zero, List.set_cons_succ]
          refine Mx.n_run (.bool false) (Mx.wanted_none rfl) ?_ HT13.out.i.below (fun _ => HT13.out.i.kin) ?_
          · go_simp
          simp only [Act.put, List.setIfInBounds_toArray, List.set_cons_zero, List.set_cons_succ]
          refine Mx.n_pure (.pointer (some ⟨p, 0, none⟩)) (by decide) (Mx.wanted_met 8 51 false rfl HD8.out rfl) (fun w' hw' hw2 => ?_) ?_
          · clear hw2
            go_simp
          simp only [Act.put, List.setIfInBounds_toArray, List.set_cons_zero, List.set_cons_succ]
          refine Mx.n_pure (.pointer (some ⟨r, 0, none⟩)) (by decide) (Mx.wanted_met 8 51 false rfl HD8.out rfl) (fun w' hw' hw2 => ?_) ?_
          · clear hw2
            go_simp
          simp only [Act.put, List.setIfInBounds_toArray, List.set_cons_zero, List.set_cons_succ]
          refine Mx.n_pure (.pointer (some ⟨r, 0, none⟩)) (by decide) (Mx.wanted_met 8 51 false rfl HD8.out rfl) (fun w' hw' hw2 => ?_) ?_
          · clear hw2
            go_simp
          simp only [Act.put, List.setIfInBounds_toArray, List.set_cons_zero, List.set_cons_succ]
          refine Mx.n_pure (.pointer (some ⟨r, 0, none⟩)) (by decide) (Mx.wanted_met 8 51 false rfl HD8.out rfl) (fun w' hw' hw2 => ?_) ?_
          · clear hw2
            go_simp
          simp only [Act.put, List.setIfInBounds_toArray, List.set_cons_zero, List.set_cons_succ]
          refine Mx.n_reads 13 #[.pointer (some ⟨p, 0, none⟩)] (.int .i64 ((actN K a).F.length : Int)) (by decide) (Mx.wanted_met 8 51 false rfl HD8.out rfl) (fun w' hw' => ?_) (fun w' hw' hw2 => ?_) ?_
          · go_simp
          · exact fixes_any w' p f c (actN K a) (hw2 rfl)
          simp only [Act.put, List.setIfInBounds_toArray, List.set_cons_zero, List.set_cons_succ]
          obtain ⟨vF, vC, hrr⟩ := HT13.out.rr
          obtain ⟨ao, cap, hvF⟩ := row_shape hrr.rf
          have hcr := hrr.cell0
          rw [hvF] at hcr
          clear hvF hrr
          refine Mx.n_run (.slice ao (actN K a).F.length cap) (Mx.wanted_met 8 51 false rfl HD8.out rfl) ?_ HT13.out.i.below (fun _ => HT13.out.i.kin) ?_
          · go_simp
          simp only [Act.put, List.setIfInBounds_toArray, List.set_cons_zero, List.set_cons_succ]
          refine Mx.n_run (.int .i64 ((actN K a).F.length : Int)) (Mx.wanted_met 8 51 false rfl HD8.out rfl) ?_ HT13.out.i.below (fun _ => HT13.out.i.kin) ?_
          · go_simp
          simp only [Act.put, List.setIfInBounds_toArray, List.set_cons_zero, List.set_cons_succ]
          refine Mx.n_run (.bool false) (Mx.wanted_met 8 51 false rfl HD8.out rfl) ?_ HT13.out.i.below (fun _ => HT13.out.i.kin) ?_
          · go_simp
          simp only [Act.put, List.setIfInBounds_toArray, List.set_cons_zero, List.set_cons_succ]
          refine Mx.n_run (.bool false) (Mx.wanted_none rfl) ?_ HT13.out.i.below (fun _ => HT13.out.i.kin) ?_
          · go_simp
          simp only [Act.put, List.setIfInBounds_toArray, List.set_cons_zero, List.set_cons_succ]
          refine Mx.n_nil ?_
          intro _ _
          clear hcr
          go_wp2_with fail
          go_loopw [7] (fun s7 wq => ∃ j : Nat, j ≤ 5 ∧ s7 = .int .i64 j ∧ Bt w wq p f c r (actN K a)) (fun s7 _ => 5 - (intOf s7).toNat)
          case atStart => exact ⟨0, by omega, rfl, HT13.out⟩
          case round =>
            obtain ⟨j, hj, rfl, hbt⟩ := hrel
            have HTJ := hidInW hbt
            clear hbt HT13
            by_cases hj5 : j < 5
            · have b1 : (j : Int) < 5 := by omega
              go_upto_region 18 with fail
              have HTJd := hidInW (HTJ.out.step (Below.refl _ _).drew)
              refine Mx.wp_region_mix (fun w' => Below w.heap.size w w') [(0, false), (1, false), (2, false), (3, false), (4, false), (5, false), (6, false), (7, false), (8, false), (9, false), (11, false), (10, true), (12, true), (13, true), (14, false), (15, false), (16, true), (17, true)] (by kernel_rfl) (by kernel_rfl) (Below.drew HTJ.out.i.below) ?_ (by kernel_rfl)
              simp only [List.map_cons, List.map_nil, List.getD_cons_zero, List.getD_cons_succ]
              generalize hops : (#[_, _, _, _, _, _, _, _, _, _, _, _, _, _, _, _, _, _] : Array Oper) = ops
              clear hops
              refine Mx.m_pure (.pointer (some ⟨p, 0, none⟩)) (Mx.wanted_none rfl) (fun w' hw' => ?_) ?_
              · go_simp
              simp only [Act.put, List.setIfInBounds_toArray, List.set_cons_zero, List.set_cons_succ]
              refine Mx.m_pure (.slice (some ⟨bb, off, none⟩) ll lc) (Mx.wanted_none rfl) (fun w' hw' => ?_) ?_
              · go_simp
              simp only [Act.put, List.setIfInBounds_toArray, List.set_cons_zero, List.set_cons_succ]
              refine Mx.m_pure (.int .i64 9) (Mx.wanted_none rfl) (fun w' hw' => ?_) ?_
              · go_simp
              simp only [Act.put, List.setIfInBounds_toArray, List.set_cons_zero, List.set_cons_succ]
              refine Mx.m_pure (.pointer (some ⟨bb, off + 9 * 6, none⟩)) (Mx.wanted_none rfl) (fun w' hw' => ?_) ?_
              · go_simp
              simp only [Act.put, List.setIfInBounds_toArray, List.set_cons_zero, List.set_cons_succ]
              refine Mx.m_pure (.agg #[.bool a.ch, .int .i64 a.A, .int .i64 a.B, .int .i64 a.D, .int .i64 a.V, .string a.W]) (Mx.wanted_none rfl) (fun w' hw' => ?_) ?_
              · have y0 := (hw'.cell (p := ⟨bb, off + 9 * 6, none⟩) HBB.out).trans HA0.out
                have y1 := (hw'.cell (p := ⟨bb, off + 9 * 6 + 1, none⟩) HBB.out).trans HA1.out
                have y2 := (hw'.cell (p := ⟨bb, off + 9 * 6 + 2, none⟩) HBB.out).trans HA2.out
                have y3 := (hw'.cell (p := ⟨bb, off + 9 * 6 + 3, none⟩) HBB.out).trans HA3.out
                have y4 := (hw'.cell (p := ⟨bb, off + 9 * 6 + 4, none⟩) HBB.out).trans HA4.out
                have y5 := (hw'.cell (p := ⟨bb, off + 9 * 6 + 5, none⟩) HBB.out).trans HA5.out
                clear hw'
                go_simp
              simp only [Act.put, List.setIfInBounds_toArray, List.set_cons_zero, List.set_cons_succ]
              refine Mx.m_pure (.slice (some ⟨bb, off, none⟩) ll lc) (Mx.wanted_none rfl) (fun w' hw' => ?_) ?_
              · go_simp
              simp only [Act.put, List.setIfInBounds_toArray, List.set_cons_zero, List.set_cons_succ]
              refine Mx.m_pure (.int .i64 9) (Mx.wanted_none rfl) (fun w' hw' => ?_) ?_
              · go_simp
              simp only [Act.put, List.setIfInBounds_toArray, List.set_cons_zero, List.set_cons_succ]
              refine Mx.m_pure (.pointer (some ⟨bb, off + 9 * 6, none⟩)) (Mx.wanted_none rfl) (fun w' hw' => ?_) ?_
              · go_simp
              simp only [Act.put, List.setIfInBounds_toArray, List.set_cons_zero, List.set_cons_succ]
              refine Mx.m_pure (.pointer (some ⟨bb, off + 9 * 6 + 1, none⟩)) (Mx.wanted_none rfl) (fun w' hw' => ?_) ?_
              · go_simp
              simp only [Act.put, List.setIfInBounds_toArray, List.set_cons_zero, List.set_cons_succ]
              refine Mx.m_pure (.int .i64 a.A) (Mx.wanted_none rfl) (fun w' hw' => ?_) ?_
              · have y0 := (hw'.cell (p := ⟨bb, off + 9 * 6, none⟩) HBB.out).trans HA0.out
                have y1 := (hw'.cell (p := ⟨bb, off + 9 * 6 + 1, none⟩) HBB.out).trans HA1.out
                have y2 := (hw'.cell (p := ⟨bb, off + 9 * 6 + 2, none⟩) HBB.out).trans HA2.out
                have y3 := (hw'.cell (p := ⟨bb, off + 9 * 6 + 3, none⟩) HBB.out).trans HA3.out
                have y4 := (hw'.cell (p := ⟨bb, off + 9 * 6 + 4, none⟩) HBB.out).trans HA4.out
                have y5 := (hw'.cell (p := ⟨bb, off + 9 * 6 + 5, none⟩) HBB.out).trans HA5.out
                clear hw'
                go_simp
              simp only [Act.put, List.setIfInBounds_toArray, List.set_cons_zero, List.set_cons_succ]
              refine Mx.m_pure (.int .i64 j) (Mx.wanted_none rfl) (fun w' hw' => ?_) ?_
              · go_simp
              simp only [Act.put, List.setIfInBounds_toArray, List.set_cons_zero, List.set_cons_succ]
              refine Mx.m_call 17 #[.agg #[.bool a.ch, .int .i64 a.A, .int .i64 a.B, .int .i64 a.D, .int .i64 a.V, .string a.W], .int .i64 a.A] (Mx.wanted_none rfl) ?_ ?_
              · go_simp
              refine (b_name HTJd.out a HOK.out a.A HOK.out.hA).mono ?_
              rintro e w_18_1 ⟨rfl, hs⟩
              have HT_18_1 := hidInW hs
              clear hs
              refine ⟨_, rfl, HT_18_1.out.i.below, ?_⟩
              simp only [Act.put, List.setIfInBounds_toArray, List.set_cons_zero, List.set_cons_succ]
              refine Mx.m_call 11 #[.pointer (some ⟨p, 0, none⟩), .string (nameA a a.A), .int .i64 j] (Mx.wanted_none rfl) ?_ ?_
              · go_simp
              refine (b_fixed HT_18_1.out (nameA a a.A) (j : Int) (HND.out j hj5)).mono ?_
              rintro e w_18_2 ⟨rfl, hs⟩
              have HT_18_2 := hidInW hs
              clear hs HT_18_1
              refine ⟨_, rfl, HT_18_2.out.i.below, ?_⟩
              simp only [Act.put, List.setIfInBounds_toArray, List.set_cons_zero, List.set_cons_succ]
              refine Mx.m_run (.tuple #[.int .i64 (((actN K a).fixed (nameA a a.A, (j : Int))).getD 0), .bool ((actN K a).fixed (nameA a a.A, (j : Int))).isSome]) (Mx.wanted_none rfl) ?_ HT_18_2.out.i.below ?_
              · go_simp
              simp only [Act.put, List.setIfInBounds_toArray, List.set_cons_zero, List.set_cons_succ]
              refine Mx.m_pure (.int .i64 (((actN K a).fixed (nameA a a.A, (j : Int))).getD 0)) (Mx.wanted_none rfl) (fun w' hw' => ?_) ?_
              · go_simp
              simp only [Act.put, List.setIfInBounds_toArray, List.set_cons_zero, List.set_cons_succ]
              refine Mx.m_pure (.bool ((actN K a).fixed (nameA a a.A, (j : Int))).isSome) (Mx.wanted_none rfl) (fun w' hw' => ?_) ?_
              · go_simp
              simp only [Act.put, List.setIfInBounds_toArray, List.set_cons_zero, List.set_cons_succ]
              refine Mx.m_run (.int .i64 (((actN K a).fixed (nameA a a.A, (j : Int))).getD 0)) (Mx.wanted_none rfl) ?_ HT_18_2.out.i.below ?_
              · go_simp
              simp only [Act.put, List.setIfInBounds_toArray, List.set_cons_zero, List.set_cons_succ]
              refine Mx.m_run (.bool ((actN K a).fixed (nameA a a.A, (j : Int))).isSome) (Mx.wanted_none rfl) ?_ HT_18_2.out.i.below ?_
              · go_simp
              simp only [Act.put, List.setIfInBounds_toArray, List.set_cons_zero, List.set_cons_succ]
              refine Mx.m_nil ?_
              intro _
              go_upto_region 19 with fail
              have HT19d := hidInW (HT_18_2.out.step (Below.refl _ _).drew)
              refine Mx.wp_region_mix (fun w' => Below w.heap.size w w') [(0, false), (1, false), (2, false), (3, false), (4, false), (5, false), (6, false), (7, false), (8, false), (9, false), (11, false), (10, true), (12, true), (13, true), (14, false), (15, false), (16, true), (17, true)] (by kernel_rfl) (by kernel_rfl) (Below.drew HT_18_2.out.i.below) ?_ (by kernel_rfl)
              simp only [List.map_cons, List.map_nil, List.getD_cons_zero, List.getD_cons_succ]
              generalize hops : (#[_, _, _, _, _, _, _, _, _, _, _, _, _, _, _, _, _, _] : Array Oper) = ops
              clear hops
              refine Mx.m_pure (.pointer (some ⟨r, 0, none⟩)) (Mx.wanted_none rfl) (fun w' hw' => ?_) ?_
              · go_simp
              simp only [Act.put, List.setIfInBounds_toArray, List.set_cons_zero, List.set_cons_succ]
              refine Mx.m_pure (.slice (some ⟨bb, off, none⟩) ll lc) (Mx.wanted_none rfl) (fun w' hw' => ?_) ?_
              · go_simp
              simp only [Act.put, List.setIfInBounds_toArray, List.set_cons_zero, List.set_cons_succ]
              refine Mx.m_pure (.int .i64 9) (Mx.wanted_none rfl) (fun w' hw' => ?_) ?_
              · go_simp
              simp only [Act.put, List.setIfInBounds_toArray, List.set_cons_zero, List.set_cons_succ]
              refine Mx.m_pure (.pointer (some ⟨bb, off + 9 * 6, none⟩)) (Mx.wanted_none rfl) (fun w' hw' => ?_) ?_
              · go_simp
              simp only [Act.put, List.setIfInBounds_toArray, List.set_cons_zero, List.set_cons_succ]
              refine Mx.m_pure (.agg #[.bool a.ch, .int .i64 a.A, .int .i64 a.B, .int .i64 a.D, .int .i64 a.V, .string a.W]) (Mx.wanted_none rfl) (fun w' hw' => ?_) ?_
              · have y0 := (hw'.cell (p := ⟨bb, off + 9 * 6, none⟩) HBB.out).trans HA0.out
                have y1 := (hw'.cell (p := ⟨bb, off + 9 * 6 + 1, none⟩) HBB.out).trans HA1.out
                have y2 := (hw'.cell (p := ⟨bb, off + 9 * 6 + 2, none⟩) HBB.out).trans HA2.out
                have y3 := (hw'.cell (p := ⟨bb, off + 9 * 6 + 3, none⟩) HBB.out).trans HA3.out
                have y4 := (hw'.cell (p := ⟨bb, off + 9 * 6 + 4, none⟩) HBB.out).trans HA4.out
                have y5 := (hw'.cell (p := ⟨bb, off + 9 * 6 + 5, none⟩) HBB.out).trans HA5.out
                clear hw'
                go_simp
              simp only [Act.put, List.setIfInBounds_toArray, List.set_cons_zero, List.set_cons_succ]
              refine Mx.m_pure (.slice (some ⟨bb, off, none⟩) ll lc) (Mx.wanted_none rfl) (fun w' hw' => ?_) ?_
              · go_simp
              simp only [Act.put, List.setIfInBounds_toArray, List.set_cons_zero, List.set_cons_succ]
              refine Mx.m_pure (.int .i64 9) (Mx.wanted_none rfl) (fun w' hw' => ?_) ?_
              · go_simp
              simp only [Act.put, List.setIfInBounds_toArray, List.set_cons_zero, List.set_cons_succ]
              refine Mx.m_pure (.pointer (some ⟨bb, off + 9 * 6, none⟩)) (Mx.wanted_none rfl) (fun w' hw' => ?_) ?_
              · go_simp
              simp only [Act.put, List.setIfInBounds_toArray, List.set_cons_zero, List.set_cons_succ]
              refine Mx.m_pure (.pointer (some ⟨bb, off + 9 * 6 + 1, none⟩)) (Mx.wanted_none rfl) (fun w' hw' => ?_) ?_
              · go_simp
              simp only [Act.put, List.setIfInBounds_toArray, List.set_cons_zero, List.set_cons_succ]
              refine Mx.m_pure (.int .i64 a.A) (Mx.wanted_none rfl) (fun w' hw' => ?_) ?_
              · have y0 := (hw'.cell (p := ⟨bb, off + 9 * 6, none⟩) HBB.out).trans HA0.out
                have y1 := (hw'.cell (p := ⟨bb, off + 9 * 6 + 1, none⟩) HBB.out).trans HA1.out
                have y2 := (hw'.cell (p := ⟨bb, off + 9 * 6 + 2, none⟩) HBB.out).trans HA2.out
                have y3 := (hw'.cell (p := ⟨bb, off + 9 * 6 + 3, none⟩) HBB.out).trans HA3.out
                have y4 := (hw'.cell (p := ⟨bb, off + 9 * 6 + 4, none⟩) HBB.out).trans HA4.out
                have y5 := (hw'.cell (p := ⟨bb, off + 9 * 6 + 5, none⟩) HBB.out).trans HA5.out
                clear hw'
                go_simp
              simp only [Act.put, List.setIfInBounds_toArray, List.set_cons_zero, List.set_cons_succ]
              refine Mx.m_pure (.int .i64 j) (Mx.wanted_none rfl) (fun w' hw' => ?_) ?_
              · go_simp
              simp only [Act.put, List.setIfInBounds_toArray, List.set_cons_zero, List.set_cons_succ]
              refine Mx.m_call 17 #[.agg #[.bool a.ch, .int .i64 a.A, .int .i64 a.B, .int .i64 a.D, .int .i64 a.V, .string a.W], .int .i64 a.A] (Mx.wanted_none rfl) ?_ ?_
              · go_simp
              refine (b_name HT19d.out a HOK.out a.A HOK.out.hA).mono ?_
              rintro e w_19_1 ⟨rfl, hs⟩
              have HT_19_1 := hidInW hs
              clear hs
              refine ⟨_, rfl, HT_19_1.out.i.below, ?_⟩
              simp only [Act.put, List.setIfInBounds_toArray, List.set_cons_zero, List.set_cons_succ]
              refine Mx.m_call 18 #[.pointer (some ⟨r, 0, none⟩), .string (nameA a a.A), .int .i64 j] (Mx.wanted_none rfl) ?_ ?_
              · go_simp
              refine (b_rfixed HT_19_1.out (nameA a a.A) (j : Int) (by have := HAL.out; omega)).mono ?_
              rintro e w_19_2 ⟨rfl, hs⟩
              have HT_19_2 := hidInW hs
              clear hs HT_19_1
              refine ⟨_, rfl, HT_19_2.out.i.below, ?_⟩
              simp only [Act.put, List.setIfInBounds_toArray, List.set_cons_zero, List.set_cons_succ]
              refine Mx.m_run (.tuple #[.int .i64 (((actN K a).fixed (nameA a a.A, (j : Int))).getD 0), .bool ((actN K a).fixed (nameA a a.A, (j : Int))).isSome]) (Mx.wanted_none rfl) ?_ HT_19_2.out.i.below ?_
              · go_simp
              simp only [Act.put, List.setIfInBounds_toArray, List.set_cons_zero, List.set_cons_succ]
              refine Mx.m_pure (.int .i64 (((actN K a).fixed (nameA a a.A, (j : Int))).getD 0)) (Mx.wanted_none rfl) (fun w' hw' => ?_) ?_
              · go_simp
              simp only [Act.put, List.setIfInBounds_toArray, List.set_cons_zero, List.set_cons_succ]
              refine Mx.m_pure (.bool ((actN K a).fixed (nameA a a.A, (j : Int))).isSome) (Mx.wanted_none rfl) (fun w' hw' => ?_) ?_
              · go_simp
              simp only [Act.put, List.setIfInBounds_toArray, List.set_cons_zero, List.set_cons_succ]
              refine Mx.m_run (.int .i64 (((actN K a).fixed (nameA a a.A, (j : Int))).getD 0)) (Mx.wanted_none rfl) ?_ HT_19_2.out.i.below ?_
              · go_simp
              simp only [Act.put, List.setIfInBounds_toArray, List.set_cons_zero, List.set_cons_succ]
              refine Mx.m_run (.bool ((actN K a).fixed (nameA a a.A, (j : Int))).isSome) (Mx.wanted_none rfl) ?_ HT_19_2.out.i.below ?_
              · go_simp
              simp only [Act.put, List.setIfInBounds_toArray, List.set_cons_zero, List.set_cons_succ]
              refine Mx.m_nil ?_
              intro _
              generalize ((actN K a).fixed (nameA a a.A, (j : Int))).getD 0 = fx at *
              generalize ((actN K a).fixed (nameA a a.A, (j : Int))).isSome = fy at *
              go_wp2_with fail
              go_roundw
              case rel => exact ⟨j + 1, by omega, by go_num, HT_19_2.out⟩
              case measure => simp [intOf] <;> omega
            · have b1 : ¬ (j : Int) < 5 := by omega
              go_upto_region 22 with fail
              have HT22d := hidInW (HTJ.out.step (Below.refl _ _).drew)
              refine Mx.wp_region_mix (fun w' => Below w.heap.size w w') [(0, false), (1, false), (2, false), (3, false), (4, false), (5, false), (6, false), (7, false), (8, false), (9, false), (11, false), (12, false), (13, false), (14, false), (15, false), (16, false), (17, false), (18, false), (19, false), (10, true), (20, true), (21, true), (22, true), (23, false), (24, false), (25, false), (26, true), (27, true), (28, true)] (by kernel_rfl) (by kernel_rfl) (Below.drew HTJ.out.i.below) ?_ (by kernel_rfl)
              simp only [List.map_cons, List.map_nil, List.getD_cons_zero, List.getD_cons_succ]
              generalize hops : (#[_, _, _, _, _, _, _, _, _, _, _, _, _, _, _, _, _, _, _, _, _, _, _, _, _, _, _, _, _] : Array Oper) = ops
              clear hops
              refine Mx.m_pure (.pointer (some ⟨p, 0, none⟩)) (Mx.wanted_none rfl) (fun w' hw' => ?_) ?_
              · go_simp
              simp only [Act.put, List.setIfInBounds_toArray, List.set_cons_zero, List.set_cons_succ]
              refine Mx.m_pure (.slice (some ⟨bb, off, none⟩) ll lc) (Mx.wanted_none rfl) (fun w' hw' => ?_) ?_
              · go_simp
              simp only [Act.put, List.setIfInBounds_toArray, List.set_cons_zero, List.set_cons_succ]
              refine Mx.m_pure (.int .i64 9) (Mx.wanted_none rfl) (fun w' hw' => ?_) ?_
              · go_simp
              simp only [Act.put, List.setIfInBounds_toArray, List.set_cons_zero, List.set_cons_succ]
              refine Mx.m_pure (.pointer (some ⟨bb, off + 9 * 6, none⟩)) (Mx.wanted_none rfl) (fun w' hw' => ?_) ?_
              · go_simp
              simp only [Act.put, List.setIfInBounds_toArray, List.set_cons_zero, List.set_cons_succ]
              refine Mx.m_pure (.agg #[.bool a.ch, .int .i64 a.A, .int .i64 a.B, .int .i64 a.D, .int .i64 a.V, .string a.W]) (Mx.wanted_none rfl) (fun w' hw' => ?_) ?_
              · have y0 := (hw'.cell (p := ⟨bb, off + 9 * 6, none⟩) HBB.out).trans HA0.out
                have y1 := (hw'.cell (p := ⟨bb, off + 9 * 6 + 1, none⟩) HBB.out).trans HA1.out
                have y2 := (hw'.cell (p := ⟨bb, off + 9 * 6 + 2, none⟩) HBB.out).trans HA2.out
                have y3 := (hw'.cell (p := ⟨bb, off + 9 * 6 + 3, none⟩) HBB.out).trans HA3.out
                have y4 := (hw'.cell (p := ⟨bb, off + 9 * 6 + 4, none⟩) HBB.out).trans HA4.out
                have y5 := (hw'.cell (p := ⟨bb, off + 9 * 6 + 5, none⟩) HBB.out).trans HA5.out
                clear hw'
                go_simp
              simp only [Act.put, List.setIfInBounds_toArray, List.set_cons_zero, List.set_cons_succ]
              refine Mx.m_pure (.slice (some ⟨bb, off, none⟩) ll lc) (Mx.wanted_none rfl) (fun w' hw' => ?_) ?_
              · go_simp
              simp only [Act.put, List.setIfInBounds_toArray, List.set_cons_zero, List.set_cons_succ]
              refine Mx.m_pure (.int .i64 9) (Mx.wanted_none rfl) (fun w' hw' => ?_) ?_
              · go_simp
              simp only [Act.put, List.setIfInBounds_toArray, List.set_cons_zero, List.set_cons_succ]
              refine Mx.m_pure (.pointer (some ⟨bb, off + 9 * 6, none⟩)) (Mx.wanted_none rfl) (fun w' hw' => ?_) ?_
              · go_simp
              simp only [Act.put, List.setIfInBounds_toArray, List.set_cons_zero, List.set_cons_succ]
              refine Mx.m_pure (.pointer (some ⟨bb, off + 9 * 6 + 1, none⟩)) (Mx.wanted_none rfl) (fun w' hw' => ?_) ?_
              · go_simp
              simp only [Act.put, List.setIfInBounds_toArray, List.set_cons_zero, List.set_cons_succ]
              refine Mx.m_pure (.int .i64 a.A) (Mx.wanted_none rfl) (fun w' hw' => ?_) ?_
              · have y0 := (hw'.cell (p := ⟨bb, off + 9 * 6, none⟩) HBB.out).trans HA0.out
                have y1 := (hw'.cell (p := ⟨bb, off + 9 * 6 + 1, none⟩) HBB.out).trans HA1.out
                have y2 := (hw'.cell (p := ⟨bb, off + 9 * 6 + 2, none⟩) HBB.out).trans HA2.out
                have y3 := (hw'.cell (p := ⟨bb, off + 9 * 6 + 3, none⟩) HBB.out).trans HA3.out
                have y4 := (hw'.cell (p := ⟨bb, off + 9 * 6 + 4, none⟩) HBB.out).trans HA4.out
                have y5 := (hw'.cell (p := ⟨bb, off + 9 * 6 + 5, none⟩) HBB.out).trans HA5.out
                clear hw'
                go_simp
              simp only [Act.put, List.setIfInBounds_toArray, List.set_cons_zero, List.set_cons_succ]
              refine Mx.m_pure (.slice (some ⟨bb, off, none⟩) ll lc) (Mx.wanted_none rfl) (fun w' hw' => ?_) ?_
              · go_simp
              simp only [Act.put, List.setIfInBounds_toArray, List.set_cons_zero, List.set_cons_succ]
              refine Mx.m_pure (.int .i64 9) (Mx.wanted_none rfl) (fun w' hw' => ?_) ?_
              · go_simp
              simp only [Act.put, List.setIfInBounds_toArray, List.set_cons_zero, List.set_cons_succ]
              refine Mx.m_pure (.pointer (some ⟨bb, off + 9 * 6, none⟩)) (Mx.wanted_none rfl) (fun w' hw' => ?_) ?_
              · go_simp
              simp only [Act.put, List.setIfInBounds_toArray, List.set_cons_zero, List.set_cons_succ]
              refine Mx.m_pure (.agg #[.bool a.ch, .int .i64 a.A, .int .i64 a.B, .int .i64 a.D, .int .i64 a.V, .string a.W]) (Mx.wanted_none rfl) (fun w' hw' => ?_) ?_
              · have y0 := (hw'.cell (p := ⟨bb, off + 9 * 6, none⟩) HBB.out).trans HA0.out
                have y1 := (hw'.cell (p := ⟨bb, off + 9 * 6 + 1, none⟩) HBB.out).trans HA1.out
                have y2 := (hw'.cell (p := ⟨bb, off + 9 * 6 + 2, none⟩) HBB.out).trans HA2.out
                have y3 := (hw'.cell (p := ⟨bb, off + 9 * 6 + 3, none⟩) HBB.out).trans HA3.out
                have y4 := (hw'.cell (p := ⟨bb, off + 9 * 6 + 4, none⟩) HBB.out).trans HA4.out
                have y5 := (hw'.cell (p := ⟨bb, off + 9 * 6 + 5, none⟩) HBB.out).trans HA5.out
                clear hw'
                go_simp
              simp only [Act.put, List.setIfInBounds_toArray, List.set_cons_zero, List.set_cons_succ]
              refine Mx.m_pure (.slice (some ⟨bb, off, none⟩) ll lc) (Mx.wanted_none rfl) (fun w' hw' => ?_) ?_
              · go_simp
              simp only [Act.put, List.setIfInBounds_toArray, List.set_cons_zero, List.set_cons_succ]
              refine Mx.m_pure (.int .i64 9) (Mx.wanted_none rfl) (fun w' hw' => ?_) ?_
              · go_simp
              simp only [Act.put, List.setIfInBounds_toArray, List.set_cons_zero, List.set_cons_succ]
              refine Mx.m_pure (.pointer (some ⟨bb, off + 9 * 6, none⟩)) (Mx.wanted_none rfl) (fun w' hw' => ?_) ?_
              · go_simp
              simp only [Act.put, List.setIfInBounds_toArray, List.set_cons_zero, List.set_cons_succ]
              refine Mx.m_pure (.pointer (some ⟨bb, off + 9 * 6 + 2, none⟩)) (Mx.wanted_none rfl) (fun w' hw' => ?_) ?_
              · go_simp
              simp only [Act.put, List.setIfInBounds_toArray, List.set_cons_zero, List.set_cons_succ]
              refine Mx.m_pure (.int .i64 a.B) (Mx.wanted_none rfl) (fun w' hw' => ?_) ?_
              · have y0 := (hw'.cell (p := ⟨bb, off + 9 * 6, none⟩) HBB.out).trans HA0.out
                have y1 := (hw'.cell (p := ⟨bb, off + 9 * 6 + 1, none⟩) HBB.out).trans HA1.out
                have y2 := (hw'.cell (p := ⟨bb, off + 9 * 6 + 2, none⟩) HBB.out).trans HA2.out
                have y3 := (hw'.cell (p := ⟨bb, off + 9 * 6 + 3, none⟩) HBB.out).trans HA3.out
                have y4 := (hw'.cell (p := ⟨bb, off + 9 * 6 + 4, none⟩) HBB.out).trans HA4.out
                have y5 := (hw'.cell (p := ⟨bb, off + 9 * 6 + 5, none⟩) HBB.out).trans HA5.out
                clear hw'
                go_simp
              simp only [Act.put, List.setIfInBounds_toArray, List.set_cons_zero, List.set_cons_succ]
              refine Mx.m_call 17 #[.agg #[.bool a.ch, .int .i64 a.A, .int .i64 a.B, .int .i64 a.D, .int .i64 a.V, .string a.W], .int .i64 a.A] (Mx.wanted_none rfl) ?_ ?_
              · go_simp
              refine (b_name HT22d.out a HOK.out a.A HOK.out.hA).mono ?_
              rintro e w_22_1 ⟨rfl, hs⟩
              have HT_22_1 := hidInW hs
              clear hs
              refine ⟨_, rfl, HT_22_1.out.i.below, ?_⟩
              simp only [Act.put, List.setIfInBounds_toArray, List.set_cons_zero, List.set_cons_succ]
              refine Mx.m_call 17 #[.agg #[.bool a.ch, .int .i64 a.A, .int .i64 a.B, .int .i64 a.D, .int .i64 a.V, .string a.W], .int .i64 a.B] (Mx.wanted_none rfl) ?_ ?_
              · go_simp
              refine (b_name HT_22_1.out a HOK.out a.B HOK.out.hB).mono ?_
              rintro e w_22_2 ⟨rfl, hs⟩
              have HT_22_2 := hidInW hs
              clear hs HT_22_1
              refine ⟨_, rfl, HT_22_2.out.i.below, ?_⟩
              simp only [Act.put, List.setIfInBounds_toArray, List.set_cons_zero, List.set_cons_succ]
              refine Mx.m_call 12 #[.pointer (some ⟨p, 0, none⟩), .string (nameA a a.A), .string (nameA a a.B)] (Mx.wanted_none rfl) ?_ ?_
              · go_simp
              refine (b_chosen HT_22_2.out (nameA a a.A) (nameA a a.B) (nameOk2 a a.A a.B)).mono ?_
              rintro e w_22_3 ⟨rfl, hs⟩
              have HT_22_3 := hidInW hs
              clear hs HT_22_2
              refine ⟨_, rfl, HT_22_3.out.i.below, ?_⟩
              simp only [Act.put, List.setIfInBounds_toArray, List.set_cons_zero, List.set_cons_succ]
              refine Mx.m_run (.tuple #[.int .i64 (((actN K a).chosen (nameA a a.A, nameA a a.B)).getD (0, 0)).1, .int .i64 (((actN K a).chosen (nameA a a.A, nameA a a.B)).getD (0, 0)).2, .bool ((actN K a).chosen (nameA a a.A, nameA a a.B)).isSome]) (Mx.wanted_none rfl) ?_ HT_22_3.out.i.below ?_
              · go_simp
              simp only [Act.put, List.setIfInBounds_toArray, List.set_cons_zero, List.set_cons_succ]
              refine Mx.m_pure (.int .i64 (((actN K a).chosen (nameA a a.A, nameA a a.B)).getD (0, 0)).1) (Mx.wanted_none rfl) (fun w' hw' => ?_) ?_
              · go_simp
              simp only [Act.put, List.setIfInBounds_toArray, List.set_cons_zero, List.set_cons_succ]
              refine Mx.m_pure (.int .i64 (((actN K a).chosen (nameA a a.A, nameA a a.B)).getD (0, 0)).2) (Mx.wanted_none rfl) (fun w' hw' => ?_) ?_
              · go_simp
              simp only [Act.put, List.setIfInBounds_toArray, List.set_cons_zero, List.set_cons_succ]
              refine Mx.m_pure (.bool ((actN K a).chosen (nameA a a.A, nameA a a.B)).isSome) (Mx.wanted_none rfl) (fun w' hw' => ?_) ?_
              · go_simp
              simp only [Act.put, List.setIfInBounds_toArray, List.set_cons_zero, List.set_cons_succ]
              refine Mx.m_run (.int .i64 (((actN K a).chosen (nameA a a.A, nameA a a.B)).getD (0, 0)).1) (Mx.wanted_none rfl) ?_ HT_22_3.out.i.below ?_
              · go_simp
              simp only [Act.put, List.setIfInBounds_toArray, List.set_cons_zero, List.set_cons_succ]
              refine Mx.m_run (.int .i64 (((actN K a).chosen (nameA a a.A, nameA a a.B)).getD (0, 0)).2) (Mx.wanted_none rfl) ?_ HT_22_3.out.i.below ?_
              · go_simp
              simp only [Act.put, List.setIfInBounds_toArray, List.set_cons_zero, List.set_cons_succ]
              refine Mx.m_run (.bool ((actN K a).chosen (nameA a a.A, nameA a a.B)).isSome) (Mx.wanted_none rfl) ?_ HT_22_3.out.i.below ?_
              · go_simp
              simp only [Act.put, List.setIfInBounds_toArray, List.set_cons_zero, List.set_cons_succ]
              refine Mx.m_nil ?_
              intro _
              go_upto_region 23 with fail
              have HT23d := hidInW (HT_22_3.out.step (Below.refl _ _).drew)
              refine Mx.wp_region_mix (fun w' => Below w.heap.size w w') [(0, false), (1, false), (2, false), (3, false), (4, false), (5, false), (6, false), (7, false), (8, false), (9, false), (11, false), (12, false), (13, false), (14, false), (15, false), (16, false), (17, false), (18, false), (19, false), (10, true), (20, true), (21, true), (22, true), (23, false), (24, false), (25, false), (26, true), (27, true), (28, true)] (by kernel_rfl) (by kernel_rfl) (Below.drew HT_22_3.out.i.below) ?_ (by kernel_rfl)
              simp only [List.map_cons, List.map_nil, List.getD_cons_zero, List.getD_cons_succ]
              generalize hops : (#[_, _, _, _, _, _, _, _, _, _, _, _, _, _, _, _, _, _, _, _, _, _, _, _, _, _, _, _, _] : Array Oper) = ops
              clear hops
              refine Mx.m_pure (.pointer (some ⟨r, 0, none⟩)) (Mx.wanted_none rfl) (fun w' hw' => ?_) ?_
              · go_simp
              simp only [Act.put, List.setIfInBounds_toArray, List.set_cons_zero, List.set_cons_succ]
              refine Mx.m_pure (.slice (some ⟨bb, off, none⟩) ll lc) (Mx.wanted_none rfl) (fun w' hw' => ?_) ?_
              · go_simp
              simp only [Act.put, List.setIfInBounds_toArray, List.set_cons_zero, List.set_cons_succ]
              refine Mx.m_pure (.int .i64 9) (Mx.wanted_none rfl) (fun w' hw' => ?_) ?_
              · go_simp
              simp only [Act.put, List.setIfInBounds_toArray, List.set_cons_zero, List.set_cons_succ]
              refine Mx.m_pure (.pointer (some ⟨bb, off + 9 * 6, none⟩)) (Mx.wanted_none rfl) (fun w' hw' => ?_) ?_
              · go_simp
              simp only [Act.put, List.setIfInBounds_toArray, List.set_cons_zero, List.set_cons_succ]
              refine Mx.m_pure (.agg #[.bool a.ch, .int .i64 a.A, .int .i64 a.B, .int .i64 a.D, .int .i64 a.V, .string a.W]) (Mx.wanted_none rfl) (fun w' hw' => ?_) ?_
              · have y0 := (hw'.cell (p := ⟨bb, off + 9 * 6, none⟩) HBB.out).trans HA0.out
                have y1 := (hw'.cell (p := ⟨bb, off + 9 * 6 + 1, none⟩) HBB.out).trans HA1.out
                have y2 := (hw'.cell (p := ⟨bb, off + 9 * 6 + 2, none⟩) HBB.out).trans HA2.out
                have y3 := (hw'.cell (p := ⟨bb, off + 9 * 6 + 3, none⟩) HBB.out).trans HA3.out
                have y4 := (hw'.cell (p := ⟨bb, off + 9 * 6 + 4, none⟩) HBB.out).trans HA4.out
                have y5 := (hw'.cell (p := ⟨bb, off + 9 * 6 + 5, none⟩) HBB.out).trans HA5.out
                clear hw'
                go_simp
              simp only [Act.put, List.setIfInBounds_toArray, List.set_cons_zero, List.set_cons_succ]
              refine Mx.m_pure (.slice (some ⟨bb, off, none⟩) ll lc) (Mx.wanted_none rfl) (fun w' hw' => ?_) ?_
              · go_simp
              simp only [Act.put, List.setIfInBounds_toArray, List.set_cons_zero, List.set_cons_succ]
              refine Mx.m_pure (.int .i64 9) (Mx.wanted_none rfl) (fun w' hw' => ?_) ?_
              · go_simp
              simp only [Act.put, List.setIfInBounds_toArray, List.set_cons_zero, List.set_cons_succ]
              refine Mx.m_pure (.pointer (some ⟨bb, off + 9 * 6, none⟩)) (Mx.wanted_none rfl) (fun w' hw' => ?_) ?_
              · go_simp
              simp only [Act.put, List.setIfInBounds_toArray, List.set_cons_zero, List.set_cons_succ]
              refine Mx.m_pure (.pointer (some ⟨bb, off + 9 * 6 + 1, none⟩)) (Mx.wanted_none rfl) (fun w' hw' => ?_) ?_
              · go_simp
              simp only [Act.put, List.setIfInBounds_toArray, List.set_cons_zero, List.set_cons_succ]
              refine Mx.m_pure (.int .i64 a.A) (Mx.wanted_none rfl) (fun w' hw' => ?_) ?_
              · have y0 := (hw'.cell (p := ⟨bb, off + 9 * 6, none⟩) HBB.out).trans HA0.out
                have y1 := (hw'.cell (p := ⟨bb, off + 9 * 6 + 1, none⟩) HBB.out).trans HA1.out
                have y2 := (hw'.cell (p := ⟨bb, off + 9 * 6 + 2, none⟩) HBB.out).trans HA2.out
                have y3 := (hw'.cell (p := ⟨bb, off + 9 * 6 + 3, none⟩) HBB.out).trans HA3.out
                have y4 := (hw'.cell (p := ⟨bb, off + 9 * 6 + 4, none⟩) HBB.out).trans HA4.out
                have y5 := (hw'.cell (p := ⟨bb, off + 9 * 6 + 5, none⟩) HBB.out).trans HA5.out
                clear hw'
                go_simp
              simp only [Act.put, List.setIfInBounds_toArray, List.set_cons_zero, List.set_cons_succ]
              refine Mx.m_pure (.slice (some ⟨bb, off, none⟩) ll lc) (Mx.wanted_none rfl) (fun w' hw' => ?_) ?_
              · go_simp
              simp only [Act.put, List.setIfInBounds_toArray, List.set_cons_zero, List.set_cons_succ]
              refine Mx.m_pure (.int .i64 9) (Mx.wanted_none rfl) (fun w' hw' => ?_) ?_
              · go_simp
              simp only [Act.put, List.setIfInBounds_toArray, List.set_cons_zero, List.set_cons_succ]
              refine Mx.m_pure (.pointer (some ⟨bb, off + 9 * 6, none⟩)) (Mx.wanted_none rfl) (fun w' hw' => ?_) ?_
              · go_simp
              simp only [Act.put, List.setIfInBounds_toArray, List.set_cons_zero, List.set_cons_succ]
              refine Mx.m_pure (.agg #[.bool a.ch, .int .i64 a.A, .int .i64 a.B, .int .i64 a.D, .int .i64 a.V, .string a.W]) (Mx.wanted_none rfl) (fun w' hw' => ?_) ?_
              · have y0 := (hw'.cell (p := ⟨bb, off + 9 * 6, none⟩) HBB.out).trans HA0.out
                have y1 := (hw'.cell (p := ⟨bb, off + 9 * 6 + 1, none⟩) HBB.out).trans HA1.out
                have y2 := (hw'.cell (p := ⟨bb, off + 9 * 6 + 2, none⟩) HBB.out).trans HA2.out
                have y3 := (hw'.cell (p := ⟨bb, off + 9 * 6 + 3, none⟩) HBB.out).trans HA3.out
                have y4 := (hw'.cell (p := ⟨bb, off + 9 * 6 + 4, none⟩) HBB.out).trans HA4.out
                have y5 := (hw'.cell (p := ⟨bb, off + 9 * 6 + 5, none⟩) HBB.out).trans HA5.out
                clear hw'
                go_simp
              simp only [Act.put, List.setIfInBounds_toArray, List.set_cons_zero, List.set_cons_succ]
              refine Mx.m_pure (.slice (some ⟨bb, off, none⟩) ll lc) (Mx.wanted_none rfl) (fun w' hw' => ?_) ?_
              · go_simp
              simp only [Act.put, List.setIfInBounds_toArray, List.set_cons_zero, List.set_cons_succ]
              refine Mx.m_pure (.int .i64 9) (Mx.wanted_none rfl) (fun w' hw' => ?_) ?_
              · go_simp
              simp only [Act.put, List.setIfInBounds_toArray, List.set_cons_zero, List.set_cons_succ]
              refine Mx.m_pure (.pointer (some ⟨bb, off + 9 * 6, none⟩)) (Mx.wanted_none rfl) (fun w' hw' => ?_) ?_
              · go_simp
              simp only [Act.put, List.setIfInBounds_toArray, List.set_cons_zero, List.set_cons_succ]
              refine Mx.m_pure (.pointer (some ⟨bb, off + 9 * 6 + 2, none⟩)) (Mx.wanted_none rfl) (fun w' hw' => ?_) ?_
              · go_simp
              simp only [Act.put, List.setIfInBounds_toArray, List.set_cons_zero, List.set_cons_succ]
              refine Mx.m_pure (.int .i64 a.B) (Mx.wanted_none rfl) (fun w' hw' => ?_) ?_
              · have y0 := (hw'.cell (p := ⟨bb, off + 9 * 6, none⟩) HBB.out).trans HA0.out
                have y1 := (hw'.cell (p := ⟨bb, off + 9 * 6 + 1, none⟩) HBB.out).trans HA1.out
                have y2 := (hw'.cell (p := ⟨bb, off + 9 * 6 + 2, none⟩) HBB.out).trans HA2.out
                have y3 := (hw'.cell (p := ⟨bb, off + 9 * 6 + 3, none⟩) HBB.out).trans HA3.out
                have y4 := (hw'.cell (p := ⟨bb, off + 9 * 6 + 4, none⟩) HBB.out).trans HA4.out
                have y5 := (hw'.cell (p := ⟨bb, off + 9 * 6 + 5, none⟩) HBB.out).trans HA5.out
                clear hw'
                go_simp
              simp only [Act.put, List.setIfInBounds_toArray, List.set_cons_zero, List.set_cons_succ]
              refine Mx.m_call 17 #[.agg #[.bool a.ch, .int .i64 a.A, .int .i64 a.B, .int .i64 a.D, .int .i64 a.V, .string a.W], .int .i64 a.A] (Mx.wanted_none rfl) ?_ ?_
              · go_simp
              refine (b_name HT23d.out a HOK.out a.A HOK.out.hA).mono ?_
              rintro e w_23_1 ⟨rfl, hs⟩
              have HT_23_1 := hidInW hs
              clear hs
              refine ⟨_, rfl, HT_23_1.out.i.below, ?_⟩
              simp only [Act.put, List.setIfInBounds_toArray, List.set_cons_zero, List.set_cons_succ]
              refine Mx.m_call 17 #[.agg #[.bool a.ch, .int .i64 a.A, .int .i64 a.B, .int .i64 a.D, .int .i64 a.V, .string a.W], .int .i64 a.B] (Mx.wanted_none rfl) ?_ ?_
              · go_simp
              refine (b_name HT_23_1.out a HOK.out a.B HOK.out.hB).mono ?_
              rintro e w_23_2 ⟨rfl, hs⟩
              have HT_23_2 := hidInW hs
              clear hs HT_23_1
              refine ⟨_, rfl, HT_23_2.out.i.below, ?_⟩
              simp only [Act.put, List.setIfInBounds_toArray, List.set_cons_zero, List.set_cons_succ]
              refine Mx.m_call 19 #[.pointer (some ⟨r, 0, none⟩), .string (nameA a a.A), .string (nameA a a.B)] (Mx.wanted_none rfl) ?_ ?_
              · go_simp
              refine (b_rchosen HT_23_2.out (nameA a a.A) (nameA a a.B) (by have := HAL.out; omega)).mono ?_
              rintro e w_23_3 ⟨rfl, hs⟩
              have HT_23_3 := hidInW hs
              clear hs HT_23_2
              refine ⟨_, rfl, HT_23_3.out.i.below, ?_⟩
              simp only [Act.put, List.setIfInBounds_toArray, List.set_cons_zero, List.set_cons_succ]
              refine Mx.m_run (.tuple #[.int .i64 (((actN K a).chosen (nameA a a.A, nameA a a.B)).getD (0, 0)).1, .int .i64 (((actN K a).chosen (nameA a a.A, nameA a a.B)).getD (0, 0)).2, .bool ((actN K a).chosen (nameA a a.A, nameA a a.B)).isSome]) (Mx.wanted_none rfl) ?_ HT_23_3.out.i.below ?_
              · go_simp
              simp only [Act.put, List.setIfInBounds_toArray, List.set_cons_zero, List.set_cons_succ]
              refine Mx.m_pure (.int .i64 (((actN K a).chosen (nameA a a.A, nameA a a.B)).getD (0, 0)).1) (Mx.wanted_none rfl) (fun w' hw' => ?_) ?_
              · go_simp
              simp only [Act.put, List.setIfInBounds_toArray, List.set_cons_zero, List.set_cons_succ]
              refine Mx.m_pure (.int .i64 (((actN K a).chosen (nameA a a.A, nameA a a.B)).getD (0, 0)).2) (Mx.wanted_none rfl) (fun w' hw' => ?_) ?_
              · go_simp
              simp only [Act.put, List.setIfInBounds_toArray, List.set_cons_zero, List.set_cons_succ]
              refine Mx.m_pure (.bool ((actN K a).chosen (nameA a a.A, nameA a a.B)).isSome) (Mx.wanted_none rfl) (fun w' hw' => ?_) ?_
              · go_simp
              simp only [Act.put, List.setIfInBounds_toArray, List.set_cons_zero, List.set_cons_succ]
              refine Mx.m_run (.int .i64 (((actN K a).chosen (nameA a a.A, nameA a a.B)).getD (0, 0)).1) (Mx.wanted_none rfl) ?_ HT_23_3.out.i.below ?_
              · go_simp
              simp only [Act.put, List.setIfInBounds_toArray, List.set_cons_zero, List.set_cons_succ]
              refine Mx.m_run (.int .i64 (((actN K a).chosen (nameA a a.A, nameA a a.B)).getD (0, 0)).2) (Mx.wanted_none rfl) ?_ HT_23_3.out.i.below ?_
              · go_simp
              simp only [Act.put, List.setIfInBounds_toArray, List.set_cons_zero, List.set_cons_succ]
              refine Mx.m_run (.bool ((actN K a).chosen (nameA a a.A, nameA a a.B)).isSome) (Mx.wanted_none rfl) ?_ HT_23_3.out.i.below ?_
              · go_simp
              simp only [Act.put, List.setIfInBounds_toArray, List.set_cons_zero, List.set_cons_succ]
              refine Mx.m_nil ?_
              intro _
              generalize ((actN K a).chosen (nameA a a.A, nameA a a.B)).getD (0, 0) = cx at *
              generalize ((actN K a).chosen (nameA a a.A, nameA a a.B)).isSome = cy at *
              go_wp2_with fail
              go_roundw
              case rel => exact ⟨10, actN K a, by omega, by go_num, by have := HAL.out; omega, by have := HAL.out; omega, HT_23_3.out⟩
              case measure => simp [intOf] <;> omega
        · have hi9' : ((i : Int) == 9) = false := by rw [beq_eq_false_iff_ne]; omega
          go_upto_region 13 with fail
          refine Mx.wp_region_mix2 (fun w' => Below w.heap.size w w') (fun w' => KIn w' p f c (actN K a)) 6 [(0, false), (1, false), (2, false), (3, false), (4, false), (5, false), (6, true), (7, true), (8, true), (9, false), (11, false), (12, false), (13, false), (10, false), (14, true), (15, true), (16, true), (17, true)] (by kernel_rfl) (by kernel_rfl) (Below.drew HT.out.i.below) ?_ (by kernel_rfl)
          simp only [List.map_cons, List.map_nil, List.getD_cons_zero, List.getD_cons_succ]
          generalize hops : (#[_, _, _, _, _, _, _, _, _, _, _, _, _, _, _, _, _, _] : Array Oper) = ops
          have HD8 : Hid ((ops[8]?).bind (·.dst) = some 51) := by rw [← hops]; exact rfl
          clear hops
          have HTd := hidInW (HT.out.step (Below.refl _ _).drew)
          refine Mx.n_pure (.pointer (some ⟨p, 0, none⟩)) (by decide) (Mx.wanted_none rfl) (fun w' hw' hw2 => ?_) ?_
          · clear hw2
            go_simp
          simp only [Act.put, List.setIfInBounds_toArray, List.set_cons_zero, List.set_cons_succ]
          refine Mx.n_pure (.pointer (some ⟨r, 0, none⟩)) (by decide) (Mx.wanted_none rfl) (fun w' hw' hw2 => ?_) ?_
          · clear hw2
            go_simp
          simp only [Act.put, List.setIfInBounds_toArray, List.set_cons_zero, List.set_cons_succ]
          refine Mx.n_pure (.slice (some ⟨bb, off, none⟩) ll lc) (by decide) (Mx.wanted_none rfl) (fun w' hw' hw2 => ?_) ?_
          · clear hw2
            go_simp
          simp only [Act.put, List.setIfInBounds_toArray, List.set_cons_zero, List.set_cons_succ]
          refine Mx.n_pure (.int .i64 i) (by decide) (Mx.wanted_none rfl) (fun w' hw' hw2 => ?_) ?_
          · clear hw2
            go_simp
          simp only [Act.put, List.setIfInBounds_toArray, List.set_cons_zero, List.set_cons_succ]
          refine Mx.n_pure (.pointer (some ⟨bb, off + i * 6, none⟩)) (by decide) (Mx.wanted_none rfl) (fun w' hw' hw2 => ?_) ?_
          · clear hw2
            go_simp
          simp only [Act.put, List.setIfInBounds_toArray, List.set_cons_zero, List.set_cons_succ]
          refine Mx.n_pure (.agg #[.bool a.ch, .int .i64 a.A, .int .i64 a.B, .int .i64 a.D, .int .i64 a.V, .string a.W]) (by decide) (Mx.wanted_none rfl) (fun w' hw' hw2 => ?_) ?_
          · clear hw2
            have y0 := (hw'.cell (p := ⟨bb, off + i * 6, none⟩) HBB.out).trans HA0.out
            have y1 := (hw'.cell (p := ⟨bb, off + i * 6 + 1, none⟩) HBB.out).trans HA1.out
            have y2 := (hw'.cell (p := ⟨bb, off + i * 6 + 2, none⟩) HBB.out).trans HA2.out
            have y3 := (hw'.cell (p := ⟨bb, off + i * 6 + 3, none⟩) HBB.out).trans HA3.out
            have y4 := (hw'.cell (p := ⟨bb, off + i * 6 + 4, none⟩) HBB.out).trans HA4.out
            have y5 := (hw'.cell (p := ⟨bb, off + i * 6 + 5, none⟩) HBB.out).trans HA5.out
            clear hw'
            go_simp
          simp only [Act.put, List.setIfInBounds_toArray, List.set_cons_zero, List.set_cons_succ]
          refine Mx.n_call 16 #[.pointer (some ⟨p, 0, none⟩), .pointer (some ⟨r, 0, none⟩), .agg #[.bool a.ch, .int .i64 a.A, .int .i64 a.B, .int .i64 a.D, .int .i64 a.V, .string a.W]] (Mx.wanted_none rfl) ?_ ?_
          · go_simp
          refine (b_play HTd.out a HOK.out (by omega) (by omega)).mono ?_
          rintro e w13 ⟨rfl, hs⟩
          have HT13 := hidInW hs
          clear hs HTd
          refine ⟨_, rfl, HT13.out.i.below, fun _ => HT13.out.i.kin, ?_⟩
          simp only [Act.put, List.setIfInBounds_toArray, List.set_cons_zero, List.set_cons_succ]
          refine Mx.n_run (.bool false) (Mx.wanted_none rfl) ?_ HT13.out.i.below (fun _ => HT13.out.i.kin) ?_
          · go_simp
          simp only [Act.put, List.setIfInBounds_toArray, List.set_cons_zero, List.set_cons_succ]
          refine Mx.n_run (.bool false) (Mx.wanted_none rfl) ?_ HT13.out.i.below (fun _ => HT13.out.i.kin) ?_
          · go_simp
          simp only [Act.put, List.setIfInBounds_toArray, List.set_cons_zero, List.set_cons_succ]
          refine Mx.n_pure (.pointer (some ⟨p, 0, none⟩)) (by decide) (Mx.wanted_met 8 51 false rfl HD8.out rfl) (fun w' hw' hw2 => ?_) ?_
          · clear hw2
            go_simp
          simp only [Act.put, List.setIfInBounds_toArray, List.set_cons_zero, List.set_cons_succ]
          refine Mx.n_pure (.pointer (some ⟨r, 0, none⟩)) (by decide) (Mx.wanted_met 8 51 false rfl HD8.out rfl) (fun w' hw' hw2 => ?_) ?_
          · clear hw2
            go_simp
          simp only [Act.put, List.setIfInBounds_toArray, List.set_cons_zero, List.set_cons_succ]
          refine Mx.n_pure (.pointer (some ⟨r, 0, none⟩)) (by decide) (Mx.wanted_met 8 51 false rfl HD8.out rfl) (fun w' hw' hw2 => ?_) ?_
          · clear hw2
            go_simp
          simp only [Act.put, List.setIfInBounds_toArray, List.set_cons_zero, List.set_cons_succ]
          refine Mx.n_pure (.pointer (some ⟨r, 0, none⟩)) (by decide) (Mx.wanted_met 8 51 false rfl HD8.out rfl) (fun w' hw' hw2 => ?_) ?_
          · clear hw2
            go_simp
          simp only [Act.put, List.setIfInBounds_toArray, List.set_cons_zero, List.set_cons_succ]
          refine Mx.n_reads 13 #[.pointer (some ⟨p, 0, none⟩)] (.int .i64 ((actN K a).F.length : Int)) (by decide) (Mx.wanted_met 8 51 false rfl HD8.out rfl) (fun w' hw' => ?_) (fun w' hw' hw2 => ?_) ?_
          · go_simp
          · exact fixes_any w' p f c (actN K a) (hw2 rfl)
          simp only [Act.put, List.setIfInBounds_toArray, List.set_cons_zero, List.set_cons_succ]
          obtain ⟨vF, vC, hrr⟩ := HT13.out.rr
          obtain ⟨ao, cap, hvF⟩ := row_shape hrr.rf
          have hcr := hrr.cell0
          rw [hvF] at hcr
          clear hvF hrr
          refine Mx.n_run (.slice ao (actN K a).F.length cap) (Mx.wanted_met 8 51 false rfl HD8.out rfl) ?_ HT13.out.i.below (fun _ => HT13.out.i.kin) ?_
          · go_simp
          simp only [Act.put, List.setIfInBounds_toArray, List.set_cons_zero, List.set_cons_succ]
          refine Mx.n_run (.int .i64 ((actN K a).F.length : Int)) (Mx.wanted_met 8 51 false rfl HD8.out rfl) ?_ HT13.out.i.below (fun _ => HT13.out.i.kin) ?_
          · go_simp
          simp only [Act.put, List.setIfInBounds_toArray, List.set_cons_zero, List.set_cons_succ]
          refine Mx.n_run (.bool false) (Mx.wanted_met 8 51 false rfl HD8.out rfl) ?_ HT13.out.i.below (fun _ => HT13.out.i.kin) ?_
          · go_simp
          simp only [Act.put, List.setIfInBounds_toArray, List.set_cons_zero, List.set_cons_succ]
          refine Mx.n_run (.bool false) (Mx.wanted_none rfl) ?_ HT13.out.i.below (fun _ => HT13.out.i.kin) ?_
          · go_simp
          simp only [Act.put, List.setIfInBounds_toArray, List.set_cons_zero, List.set_cons_succ]
          refine Mx.n_nil ?_
          intro _ _
          clear hcr
          go_wp2_with fail
          go_loopw [7] (fun s7 wq => ∃ j : Nat, j ≤ 5 ∧ s7 = .int .i64 j ∧ Bt w wq p f c r (actN K a)) (fun s7 _ => 5 - (intOf s7).toNat)
          case atStart => exact ⟨0, by omega, rfl, HT13.out⟩
          case round =>
            obtain ⟨j, hj, rfl, hbt⟩ := hrel
            have HTJ := hidInW hbt
            clear hbt HT13
            by_cases hj5 : j < 5
            · have b1 : (j : Int) < 5 := by omega
              go_upto_region 18 with fail
              have HTJd := hidInW (HTJ.out.step (Below.refl _ _).drew)
              refine Mx.wp_region_mix (fun w' => Below w.heap.size w w') [(0, false), (1, false), (2, false), (3, false), (4, false), (5, false), (6, false), (7, false), (8, false), (9, false), (11, false), (10, true), (12, true), (13, true), (14, false), (15, false), (16, true), (17, true)] (by kernel_rfl) (by kernel_rfl) (Below.drew HTJ.out.i.below) ?_ (by kernel_rfl)
              simp only [List.map_cons, List.map_nil, List.getD_cons_zero, List.getD_cons_succ]
              generalize hops : (#[_, _, _, _, _, _, _, _, _, _, _, _, _, _, _, _, _, _] : Array Oper) = ops
              clear hops
              refine Mx.m_pure (.pointer (some ⟨p, 0, none⟩)) (Mx.wanted_none rfl) (fun w' hw' => ?_) ?_
              · go_simp
              simp only [Act.put, List.setIfInBounds_toArray, List.set_cons_zero, List.set_cons_succ]
              refine Mx.m_pure (.slice (some ⟨bb, off, none⟩) ll lc) (Mx.wanted_none rfl) (fun w' hw' => ?_) ?_
              · go_simp
              simp only [Act.put, List.setIfInBounds_toArray, List.set_cons_zero, List.set_cons_succ]
              refine Mx.m_pure (.int .i64 i) (Mx.wanted_none rfl) (fun w' hw' => ?_) ?_
              · go_simp
              simp only [Act.put, List.setIfInBounds_toArray, List.set_cons_zero, List.set_cons_succ]
              refine Mx.m_pure (.pointer (some ⟨bb, off + i * 6, none⟩)) (Mx.wanted_none rfl) (fun w' hw' => ?_) ?_
              · go_simp
              simp only [Act.put, List.setIfInBounds_toArray, List.set_cons_zero, List.set_cons_succ]
              refine Mx.m_pure (.agg #[.bool a.ch, .int .i64 a.A, .int .i64 a.B, .int .i64 a.D, .int .i64 a.V, .string a.W]) (Mx.wanted_none rfl) (fun w' hw' => ?_) ?_
              · have y0 := (hw'.cell (p := ⟨bb, off + i * 6, none⟩) HBB.out).trans HA0.out
                have y1 := (hw'.cell (p := ⟨bb, off + i * 6 + 1, none⟩) HBB.out).trans HA1.out
                have y2 := (hw'.cell (p := ⟨bb, off + i * 6 + 2, none⟩) HBB.out).trans HA2.out
                have y3 := (hw'.cell (p := ⟨bb, off + i * 6 + 3, none⟩) HBB.out).trans HA3.out
                have y4 := (hw'.cell (p := ⟨bb, off + i * 6 + 4, none⟩) HBB.out).trans HA4.out
                have y5 := (hw'.cell (p := ⟨bb, off + i * 6 + 5, none⟩) HBB.out).trans HA5.out
                clear hw'
                go_simp
              simp only [Act.put, List.setIfInBounds_toArray, List.set_cons_zero, List.set_cons_succ]
              refine Mx.m_pure (.slice (some ⟨bb, off, none⟩) ll lc) (Mx.wanted_none rfl) (fun w' hw' => ?_) ?_
              · go_simp
              simp only [Act.put, List.setIfInBounds_toArray, List.set_cons_zero, List.set_cons_succ]
              refine Mx.m_pure (.int .i64 i) (Mx.wanted_none rfl) (fun w' hw' => ?_) ?_
              · go_simp
              simp only [Act.put, List.setIfInBounds_toArray, List.set_cons_zero, List.set_cons_succ]
              refine Mx.m_pure (.pointer (some ⟨bb, off + i * 6, none⟩)) (Mx.wanted_none rfl) (fun w' hw' => ?_) ?_
              · go_simp
              simp only [Act.put, List.setIfInBounds_toArray, List.set_cons_zero, List.set_cons_succ]
              refine Mx.m_pure (.pointer (some ⟨bb, off + i * 6 + 1, none⟩)) (Mx.wanted_none rfl) (fun w' hw' => ?_) ?_
              · go_simp
              simp only [Act.put, List.setIfInBounds_toArray, List.set_cons_zero, List.set_cons_succ]
              refine Mx.m_pure (.int .i64 a.A) (Mx.wanted_none rfl) (fun w' hw' => ?_) ?_
              · have y0 := (hw'.cell (p := ⟨bb, off + i * 6, none⟩) HBB.out).trans HA0.out
                have y1 := (hw'.cell (p := ⟨bb, off + i * 6 + 1, none⟩) HBB.out).trans HA1.out
                have y2 := (hw'.cell (p := ⟨bb, off + i * 6 + 2, none⟩) HBB.out).trans HA2.out
                have y3 := (hw'.cell (p := ⟨bb, off + i * 6 + 3, none⟩) HBB.out).trans HA3.out
                have y4 := (hw'.cell (p := ⟨bb, off + i * 6 + 4, none⟩) HBB.out).trans HA4.out
                have y5 := (hw'.cell (p := ⟨bb, off + i * 6 + 5, none⟩) HBB.out).trans HA5.out
                clear hw'
                go_simp
              simp only [Act.put, List.setIfInBounds_toArray, List.set_cons_zero, List.set_cons_succ]
              refine Mx.m_pure (.int .i64 j) (Mx.wanted_none rfl) (fun w' hw' => ?_) ?_
              · go_simp
              simp only [Act.put, List.setIfInBounds_toArray, List.set_cons_zero, List.set_cons_succ]
              refine Mx.m_call 17 #[.agg #[.bool a.ch, .int .i64 a.A, .int .i64 a.B, .int .i64 a.D, .int .i64 a.V, .string a.W], .int .i64 a.A] (Mx.wanted_none rfl) ?_ ?_
              · go_simp
              refine (b_name HTJd.out a HOK.out a.A HOK.out.hA).mono ?_
              rintro e w_18_1 ⟨rfl, hs⟩
              have HT_18_1 := hidInW hs
              clear hs
              refine ⟨_, rfl, HT_18_1.out.i.below, ?_⟩
              simp only [Act.put, List.setIfInBounds_toArray, List.set_cons_zero, List.set_cons_succ]
              refine Mx.m_call 11 #[.pointer (some ⟨p, 0, none⟩), .string (nameA a a.A), .int .i64 j] (Mx.wanted_none rfl) ?_ ?_
              · go_simp
              refine (b_fixed HT_18_1.out (nameA a a.A) (j : Int) (HND.out j hj5)).mono ?_
              rintro e w_18_2 ⟨rfl, hs⟩
              have HT_18_2 := hidInW hs
              clear hs HT_18_1
              refine ⟨_, rfl, HT_18_2.out.i.below, ?_⟩
              simp only [Act.put, List.setIfInBounds_toArray, List.set_cons_zero, List.set_cons_succ]
              refine Mx.m_run (.tuple #[.int .i64 (((actN K a).fixed (nameA a a.A, (j : Int))).getD 0), .bool ((actN K a).fixed (nameA a a.A, (j : Int))).isSome]) (Mx.wanted_none rfl) ?_ HT_18_2.out.i.below ?_
              · go_simp
              simp only [Act.put, List.setIfInBounds_toArray, List.set_cons_zero, List.set_cons_succ]
              refine Mx.m_pure (.int .i64 (((actN K a).fixed (nameA a a.A, (j : Int))).getD 0)) (Mx.wanted_none rfl) (fun w' hw' => ?_) ?_
              · go_simp
              simp only [Act.put, List.setIfInBounds_toArray, List.set_cons_zero, List.set_cons_succ]
              refine Mx.m_pure (.bool ((actN K a).fixed (nameA a a.A, (j : Int))).isSome) (Mx.wanted_none rfl) (fun w' hw' => ?_) ?_
              · go_simp
              simp only [Act.put, List.setIfInBounds_toArray, List.set_cons_zero, List.set_cons_succ]
              refine Mx.m_run (.int .i64 (((actN K a).fixed (nameA a a.A, (j : Int))).getD 0)) (Mx.wanted_none rfl) ?_ HT_18_2.out.i.below ?_
              · go_simp
              simp only [Act.put, List.setIfInBounds_toArray, List.set_cons_zero, List.set_cons_succ]
              refine Mx.m_run (.bool ((actN K a).fixed (nameA a a.A, (j : Int))).isSome) (Mx.wanted_none rfl) ?_ HT_18_2.out.i.below ?_
              · go_simp
              simp only [Act.put, List.setIfInBounds_toArray, List.set_cons_zero, List.set_cons_succ]
              refine Mx.m_nil ?_
              intro _
              go_upto_region 19 with fail
              have HT19d := hidInW (HT_18_2.out.step (Below.refl _ _).drew)
              refine Mx.wp_region_mix (fun w' => Below w.heap.size w w') [(0, false), (1, false), (2, false), (3, false), (4, false), (5, false), (6, false), (7, false), (8, false), (9, false), (11, false), (10, true), (12, true), (13, true), (14, false), (15, false), (16, true), (17, true)] (by kernel_rfl) (by kernel_rfl) (Below.drew HT_18_2.out.i.below) ?_ (by kernel_rfl)
              simp only [List.map_cons, List.map_nil, List.getD_cons_zero, List.getD_cons_succ]
              generalize hops : (#[_, _, _, _, _, _, _, _, _, _, _, _, _, _, _, _, _, _] : Array Oper) = ops
              clear hops
              refine Mx.m_pure (.pointer (some ⟨r, 0, none⟩)) (Mx.wanted_none rfl) (fun w' hw' => ?_) ?_
              · go_simp
              simp only [Act.put, List.setIfInBounds_toArray, List.set_cons_zero, List.set_cons_succ]
              refine Mx.m_pure (.slice (some ⟨bb, off, none⟩) ll lc) (Mx.wanted_none rfl) (fun w' hw' => ?_) ?_
              · go_simp
              simp only [Act.put, List.setIfInBounds_toArray, List.set_cons_zero, List.set_cons_succ]
              refine Mx.m_pure (.int .i64 i) (Mx.wanted_none rfl) (fun w' hw' => ?_) ?_
              · go_simp
              simp only [Act.put, List.setIfInBounds_toArray, List.set_cons_zero, List.set_cons_succ]
              refine Mx.m_pure (.pointer (some ⟨bb, off + i * 6, none⟩)) (Mx.wanted_none rfl) (fun w' hw' => ?_) ?_
              · go_simp
              simp only [Act.put, List.setIfInBounds_toArray, List.set_cons_zero, List.set_cons_succ]
              refine Mx.m_pure (.agg #[.bool a.ch, .int .i64 a.A, .int .i64 a.B, .int .i64 a.D, .int .i64 a.V, .string a.W]) (Mx.wanted_none rfl) (fun w' hw' => ?_) ?_
              · have y0 := (hw'.cell (p := ⟨bb, off + i * 6, none⟩) HBB.out).trans HA0.out
                have y1 := (hw'.cell (p := ⟨bb, off + i * 6 + 1, none⟩) HBB.out).trans HA1.out
                have y2 := (hw'.cell (p := ⟨bb, off + i * 6 + 2, none⟩) HBB.out).trans HA2.out
                have y3 := (hw'.cell (p := ⟨bb, off + i * 6 + 3, none⟩) HBB.out).trans HA3.out
                have y4 := (hw'.cell (p := ⟨bb, off + i * 6 + 4, none⟩) HBB.out).trans HA4.out
                have y5 := (hw'.cell (p := ⟨bb, off + i * 6 + 5, none⟩) HBB.out).trans HA5.out
                clear hw'
                go_simp
              simp only [Act.put, List.setIfInBounds_toArray, List.set_cons_zero, List.set_cons_succ]
              refine Mx.m_pure (.slice (some ⟨bb, off, none⟩) ll lc) (Mx.wanted_none rfl) (fun w' hw' => ?_) ?_
              · go_simp
              simp only [Act.put, List.setIfInBounds_toArray, List.set_cons_zero, List.set_cons_succ]
              refine Mx.m_pure (.int .i64 i) (Mx.wanted_none rfl) (fun w' hw' => ?_) ?_
              · go_simp
              simp only [Act.put, List.setIfInBounds_toArray, List.set_cons_zero, List.set_cons_succ]
              refine Mx.m_pure (.pointer (some ⟨bb, off + i * 6, none⟩)) (Mx.wanted_none rfl) (fun w' hw' => ?_) ?_
              · go_simp
              simp only [Act.put, List.setIfInBounds_toArray, List.set_cons_zero, List.set_cons_succ]
              refine Mx.m_pure (.pointer (some ⟨bb, off + i * 6 + 1, none⟩)) (Mx.wanted_none rfl) (fun w' hw' => ?_) ?_
              · go_simp
              simp only [Act.put, List.setIfInBounds_toArray, List.set_cons_zero, List.set_cons_succ]
              refine Mx.m_pure (.int .i64 a.A) (Mx.wanted_none rfl) (fun w' hw' => ?_) ?_
              · have y0 := (hw'.cell (p := ⟨bb, off + i * 6, none⟩) HBB.out).trans HA0.out
                have y1 := (hw'.cell (p := ⟨bb, off + i * 6 + 1, none⟩) HBB.out).trans HA1.out
                have y2 := (hw'.cell (p := ⟨bb, off + i * 6 + 2, none⟩) HBB.out).trans HA2.out
                have y3 := (hw'.cell (p := ⟨bb, off + i * 6 + 3, none⟩) HBB.out).trans HA3.out
                have y4 := (hw'.cell (p := ⟨bb, off + i * 6 + 4, none⟩) HBB.out).trans HA4.out
                have y5 := (hw'.cell (p := ⟨bb, off + i * 6 + 5, none⟩) HBB.out).trans HA5.out
                clear hw'
                go_simp
              simp only [Act.put, List.setIfInBounds_toArray, List.set_cons_zero, List.set_cons_succ]
              refine Mx.m_pure (.int .i64 j) (Mx.wanted_none rfl) (fun w' hw' => ?_) ?_
              · go_simp
              simp only [Act.put, List.setIfInBounds_toArray, List.set_cons_zero, List.set_cons_succ]
              refine Mx.m_call 17 #[.agg #[.bool a.ch, .int .i64 a.A, .int .i64 a.B, .int .i64 a.D, .int .i64 a.V, .string a.W], .int .i64 a.A] (Mx.wanted_none rfl) ?_ ?_
              · go_simp
              refine (b_name HT19d.out a HOK.out a.A HOK.out.hA).mono ?_
              rintro e w_19_1 ⟨rfl, hs⟩
              have HT_19_1 := hidInW hs
              clear hs
              refine ⟨_, rfl, HT_19_1.out.i.below, ?_⟩
              simp only [Act.put, List.setIfInBounds_toArray, List.set_cons_zero, List.set_cons_succ]
              refine Mx.m_call 18 #[.pointer (some ⟨r, 0, none⟩), .string (nameA a a.A), .int .i64 j] (Mx.wanted_none rfl) ?_ ?_
              · go_simp
              refine (b_rfixed HT_19_1.out (nameA a a.A) (j : Int) (by have := HAL.out; omega)).mono ?_
              rintro e w_19_2 ⟨rfl, hs⟩
              have HT_19_2 := hidInW hs
              clear hs HT_19_1
              refine ⟨_, rfl, HT_19_2.out.i.below, ?_⟩
              simp only [Act.put, List.setIfInBounds_toArray, List.set_cons_zero, List.set_cons_succ]
              refine Mx.m_run (.tuple #[.int .i64 (((actN K a).fixed (nameA a a.A, (j : Int))).getD 0), .bool ((actN K a).fixed (nameA a a.A, (j : Int))).isSome]) (Mx.wanted_none rfl) ?_ HT_19_2.out.i.below ?_
              · go_simp
              simp only [Act.put, List.setIfInBounds_toArray, List.set_cons_zero, List.set_cons_succ]
              refine Mx.m_pure (.int .i64 (((actN K a).fixed (nameA a a.A, (j : Int))).getD 0)) (Mx.wanted_none rfl) (fun w' hw' => ?_) ?_
              · go_simp
              simp only [Act.put, List.setIfInBounds_toArray, List.set_cons_zero, List.set_cons_succ]
              refine Mx.m_pure (.bool ((actN K a).fixed (nameA a a.A, (j : Int))).isSome) (Mx.wanted_none rfl) (fun w' hw' => ?_) ?_
              · go_simp
              simp only [Act.put, List.setIfInBounds_toArray, List.set_cons_zero, List.set_cons_succ]
              refine Mx.m_run (.int .i64 (((actN K a).fixed (nameA a a.A, (j : Int))).getD 0)) (Mx.wanted_none rfl) ?_ HT_19_2.out.i.below ?_
              · go_simp
              simp only [Act.put, List.setIfInBounds_toArray, List.set_cons_zero, List.set_cons_succ]
              refine Mx.m_run (.bool ((actN K a).fixed (nameA a a.A, (j : Int))).isSome) (Mx.wanted_none rfl) ?_ HT_19_2.out.i.below ?_
              · go_simp
              simp only [Act.put, List.setIfInBounds_toArray, List.set_cons_zero, List.set_cons_succ]
              refine Mx.m_nil ?_
              intro _
              generalize ((actN K a).fixed (nameA a a.A, (j : Int))).getD 0 = fx at *
              generalize ((actN K a).fixed (nameA a a.A, (j : Int))).isSome = fy at *
              go_wp2_with fail
              go_roundw
              case rel => exact ⟨j + 1, by omega, by go_num, HT_19_2.out⟩
              case measure => simp [intOf] <;> omega
            · have b1 : ¬ (j : Int) < 5 := by omega
              go_upto_region 22 with fail
              have HT22d := hidInW (HTJ.out.step (Below.refl _ _).drew)
              refine Mx.wp_region_mix (fun w' => Below w.heap.size w w') [(0, false), (1, false), (2, false), (3, false), (4, false), (5, false), (6, false), (7, false), (8, false), (9, false), (11, false), (12, false), (13, false), (14, false), (15, false), (16, false), (17, false), (18, false), (19, false), (10, true), (20, true), (21, true), (22, true), (23, false), (24, false), (25, false), (26, true), (27, true), (28, true)] (by kernel_rfl) (by kernel_rfl) (Below.drew HTJ.out.i.below) ?_ (by kernel_rfl)
              simp only [List.map_cons, List.map_nil, List.getD_cons_zero, List.getD_cons_succ]
              generalize hops : (#[_, _, _, _, _, _, _, _, _, _, _, _, _, _, _, _, _, _, _, _, _, _, _, _, _, _, _, _, _] : Array Oper) = ops
              clear hops
              refine Mx.m_pure (.pointer (some ⟨p, 0, none⟩)) (Mx.wanted_none rfl) (fun w' hw' => ?_) ?_
              · go_simp
              simp only [Act.put, List.setIfInBounds_toArray, List.set_cons_zero, List.set_cons_succ]
              refine Mx.m_pure (.slice (some ⟨bb, off, none⟩) ll lc) (Mx.wanted_none rfl) (fun w' hw' => ?_) ?_
              · go_simp
              simp only [Act.put, List.setIfInBounds_toArray, List.set_cons_zero, List.set_cons_succ]
              refine Mx.m_pure (.int .i64 i) (Mx.wanted_none rfl) (fun w' hw' => ?_) ?_
              · go_simp
              simp only [Act.put, List.setIfInBounds_toArray, List.set_cons_zero, List.set_cons_succ]
              refine Mx.m_pure (.pointer (some ⟨bb, off + i * 6, none⟩)) (Mx.wanted_none rfl) (fun w' hw' => ?_) ?_
              · go_simp
              simp only [Act.put, List.setIfInBounds_toArray, List.set_cons_zero, List.set_cons_succ]
              refine Mx.m_pure (.agg #[.bool a.ch, .int .i64 a.A, .int .i64 a.B, .int .i64 a.D, .int .i64 a.V, .string a.W]) (Mx.wanted_none rfl) (fun w' hw' => ?_) ?_
              · have y0 := (hw'.cell (p := ⟨bb, off + i * 6, none⟩) HBB.out).trans HA0.out
                have y1 := (hw'.cell (p := ⟨bb, off + i * 6 + 1, none⟩) HBB.out).trans HA1.out
                have y2 := (hw'.cell (p := ⟨bb, off + i * 6 + 2, none⟩) HBB.out).trans HA2.out
                have y3 := (hw'.cell (p := ⟨bb, off + i * 6 + 3, none⟩) HBB.out).trans HA3.out
                have y4 := (hw'.cell (p := ⟨bb, off + i * 6 + 4, none⟩) HBB.out).trans HA4.out
                have y5 := (hw'.cell (p := ⟨bb, off + i * 6 + 5, none⟩) HBB.out).trans HA5.out
                clear hw'
                go_simp
              simp only [Act.put, List.setIfInBounds_toArray, List.set_cons_zero, List.set_cons_succ]
              refine Mx.m_pure (.slice (some ⟨bb, off, none⟩) ll lc) (Mx.wanted_none rfl) (fun w' hw' => ?_) ?_
              · go_simp
              simp only [Act.put, List.setIfInBounds_toArray, List.set_cons_zero, List.set_cons_succ]
              refine Mx.m_pure (.int .i64 i) (Mx.wanted_none rfl) (fun w' hw' => ?_) ?_
              · go_simp
              simp only [Act.put, List.setIfInBounds_toArray, List.set_cons_zero, List.set_cons_succ]
              refine Mx.m_pure (.pointer (some ⟨bb, off + i * 6, none⟩)) (Mx.wanted_none rfl) (fun w' hw' => ?_) ?_
              · go_simp
              simp only [Act.put, List.setIfInBounds_toArray, List.set_cons_zero, List.set_cons_succ]
              refine Mx.m_pure (.pointer (some ⟨bb, off + i * 6 + 1, none⟩)) (Mx.wanted_none rfl) (fun w' hw' => ?_) ?_
              · go_simp
              simp only [Act.put, List.setIfInBounds_toArray, List.set_cons_zero, List.set_cons_succ]
              refine Mx.m_pure (.int .i64 a.A) (Mx.wanted_none rfl) (fun w' hw' => ?_) ?_
              · have y0 := (hw'.cell (p := ⟨bb, off + i * 6, none⟩) HBB.out).trans HA0.out
                have y1 := (hw'.cell (p := ⟨bb, off + i * 6 + 1, none⟩) HBB.out).trans HA1.out
                have y2 := (hw'.cell (p := ⟨bb, off + i * 6 + 2, none⟩) HBB.out).trans HA2.out
                have y3 := (hw'.cell (p := ⟨bb, off + i * 6 + 3, none⟩) HBB.out).trans HA3.out
                have y4 := (hw'.cell (p := ⟨bb, off + i * 6 + 4, none⟩) HBB.out).trans HA4.out
                have y5 := (hw'.cell (p := ⟨bb, off + i * 6 + 5, none⟩) HBB.out).trans HA5.out
                clear hw'
                go_simp
              simp only [Act.put, List.setIfInBounds_toArray, List.set_cons_zero, List.set_cons_succ]
              refine Mx.m_pure (.slice (some ⟨bb, off, none⟩) ll lc) (Mx.wanted_none rfl) (fun w' hw' => ?_) ?_
              · go_simp
              simp only [Act.put, List.setIfInBounds_toArray, List.set_cons_zero, List.set_cons_succ]
              refine Mx.m_pure (.int .i64 i) (Mx.wanted_none rfl) (fun w' hw' => ?_) ?_
              · go_simp
              simp only [Act.put, List.setIfInBounds_toArray, List.set_cons_zero, List.set_cons_succ]
              refine Mx.m_pure (.pointer (some ⟨bb, off + i * 6, none⟩)) (Mx.wanted_none rfl) (fun w' hw' => ?_) ?_
              · go_simp
              simp only [Act.put, List.setIfInBounds_toArray, List.set_cons_zero, List.set_cons_succ]
              refine Mx.m_pure (.agg #[.bool a.ch, .int .i64 a.A, .int .i64 a.B, .int .i64 a.D, .int .i64 a.V, .string a.W]) (Mx.wanted_none rfl) (fun w' hw' => ?_) ?_
              · have y0 := (hw'.cell (p := ⟨bb, off + i * 6, none⟩) HBB.out).trans HA0.out
                have y1 := (hw'.cell (p := ⟨bb, off + i * 6 + 1, none⟩) HBB.out).trans HA1.out
                have y2 := (hw'.cell (p := ⟨bb, off + i * 6 + 2, none⟩) HBB.out).trans HA2.out
                have y3 := (hw'.cell (p := ⟨bb, off + i * 6 + 3, none⟩) HBB.out).trans HA3.out
                have y4 := (hw'.cell (p := ⟨bb, off + i * 6 + 4, none⟩) HBB.out).trans HA4.out
                have y5 := (hw'.cell (p := ⟨bb, off + i * 6 + 5, none⟩) HBB.out).trans HA5.out
                clear hw'
                go_simp
              simp only [Act.put, List.setIfInBounds_toArray, List.set_cons_zero, List.set_cons_succ]
              refine Mx.m_pure (.slice (some ⟨bb, off, none⟩) ll lc) (Mx.wanted_none rfl) (fun w' hw' => ?_) ?_
              · go_simp
              simp only [Act.put, List.setIfInBounds_toArray, List.set_cons_zero, List.set_cons_succ]
              refine Mx.m_pure (.int .i64 i) (Mx.wanted_none rfl) (fun w' hw' => ?_) ?_
              · go_simp
              simp only [Act.put, List.setIfInBounds_toArray, List.set_cons_zero, List.set_cons_succ]
              refine Mx.m_pure (.pointer (some ⟨bb, off + i * 6, none⟩)) (Mx.wanted_none rfl) (fun w' hw' => ?_) ?_
              · go_simp
              simp only [Act.put, List.setIfInBounds_toArray, List.set_cons_zero, List.set_cons_succ]
              refine Mx.m_pure (.pointer (some ⟨bb, off + i * 6 + 2, none⟩)) (Mx.wanted_none rfl) (fun w' hw' => ?_) ?_
              · go_simp
              simp only [Act.put, List.setIfInBounds_toArray, List.set_cons_zero, List.set_cons_succ]
              refine Mx.m_pure (.int .i64 a.B) (Mx.wanted_none rfl) (fun w' hw' => ?_) ?_
              · have y0 := (hw'.cell (p := ⟨bb, off + i * 6, none⟩) HBB.out).trans HA0.out
                have y1 := (hw'.cell (p := ⟨bb, off + i * 6 + 1, none⟩) HBB.out).trans HA1.out
                have y2 := (hw'.cell (p := ⟨bb, off + i * 6 + 2, none⟩) HBB.out).trans HA2.out
                have y3 := (hw'.cell (p := ⟨bb, off + i * 6 + 3, none⟩) HBB.out).trans HA3.out
                have y4 := (hw'.cell (p := ⟨bb, off + i * 6 + 4, none⟩) HBB.out).trans HA4.out
                have y5 := (hw'.cell (p := ⟨bb, off + i * 6 + 5, none⟩) HBB.out).trans HA5.out
                clear hw'
                go_simp
              simp only [Act.put, List.setIfInBounds_toArray, List.set_cons_zero, List.set_cons_succ]
              refine Mx.m_call 17 #[.agg #[.bool a.ch, .int .i64 a.A, .int .i64 a.B, .int .i64 a.D, .int .i64 a.V, .string a.W], .int .i64 a.A] (Mx.wanted_none rfl) ?_ ?_
              · go_simp
              refine (b_name HT22d.out a HOK.out a.A HOK.out.hA).mono ?_
              rintro e w_22_1 ⟨rfl, hs⟩
              have HT_22_1 := hidInW hs
              clear hs
              refine ⟨_, rfl, HT_22_1.out.i.below, ?_⟩
              simp only [Act.put, List.setIfInBounds_toArray, List.set_cons_zero, List.set_cons_succ]
              refine Mx.m_call 17 #[.agg #[.bool a.ch, .int .i64 a.A, .int .i64 a.B, .int .i64 a.D, .int .i64 a.V, .string a.W], .int .i64 a.B] (Mx.wanted_none rfl) ?_ ?_
              · go_simp
              refine (b_name HT_22_1.out a HOK.out a.B HOK.out.hB).mono ?_
              rintro e w_22_2 ⟨rfl, hs⟩
              have HT_22_2 := hidInW hs
              clear hs HT_22_1
              refine ⟨_, rfl, HT_22_2.out.i.below, ?_⟩
              simp only [Act.put, List.setIfInBounds_toArray, List.set_cons_zero, List.set_cons_succ]
              refine Mx.m_call 12 #[.pointer (some ⟨p, 0, none⟩), .string (nameA a a.A), .string (nameA a a.B)] (Mx.wanted_none rfl) ?_ ?_
              · go_simp
              refine (b_chosen HT_22_2.out (nameA a a.A) (nameA a a.B) (nameOk2 a a.A a.B)).mono ?_
              rintro e w_22_3 ⟨rfl, hs⟩
              have HT_22_3 := hidInW hs
              clear hs HT_22_2
              refine ⟨_, rfl, HT_22_3.out.i.below, ?_⟩
              simp only [Act.put, List.setIfInBounds_toArray, List.set_cons_zero, List.set_cons_succ]
              refine Mx.m_run (.tuple #[.int .i64 (((actN K a).chosen (nameA a a.A, nameA a a.B)).getD (0, 0)).1, .int .i64 (((actN K a).chosen (nameA a a.A, nameA a a.B)).getD (0, 0)).2, .bool ((actN K a).chosen (nameA a a.A, nameA a a.B)).isSome]) (Mx.wanted_none rfl) ?_ HT_22_3.out.i.below ?_
              · go_simp
              simp only [Act.put, List.setIfInBounds_toArray, List.set_cons_zero, List.set_cons_succ]
              refine Mx.m_pure (.int .i64 (((actN K a).chosen (nameA a a.A, nameA a a.B)).getD (0, 0)).1) (Mx.wanted_none rfl) (fun w' hw' => ?_) ?_
              · go_simp
              simp only [Act.put, List.setIfInBounds_toArray, List.set_cons_zero, List.set_cons_succ]
              refine Mx.m_pure (.int .i64 (((actN K a).chosen (nameA a a.A, nameA a a.B)).getD (0, 0)).2) (Mx.wanted_none rfl) (fun w' hw' => ?_) ?_
              · go_simp
              simp only [Act.put, List.setIfInBounds_toArray, List.set_cons_zero, List.set_cons_succ]
              refine Mx.m_pure (.bool ((actN K a).chosen (nameA a a.A, nameA a a.B)).isSome) (Mx.wanted_none rfl) (fun w' hw' => ?_) ?_
              · go_simp
              simp only [Act.put, List.setIfInBounds_toArray, List.set_cons_zero, List.set_cons_succ]
              refine Mx.m_run (.int .i64 (((actN K a).chosen (nameA a a.A, nameA a a.B)).getD (0, 0)).1) (Mx.wanted_none rfl) ?_ HT_22_3.out.i.below ?_
              · go_simp
              simp only [Act.put, List.setIfInBounds_toArray, List.set_cons_zero, List.set_cons_succ]
              refine Mx.m_run (.int .i64 (((actN K a).chosen (nameA a a.A, nameA a a.B)).getD (0, 0)).2) (Mx.wanted_none rfl) ?_ HT_22_3.out.i.below ?_
              · go_simp
              simp only [Act.put, List.setIfInBounds_toArray, List.set_cons_zero, List.set_cons_succ]
              refine Mx.m_run (.bool ((actN K a).chosen (nameA a a.A, nameA a a.B)).isSome) (Mx.wanted_none rfl) ?_ HT_22_3.out.i.below ?_
              · go_simp
              simp only [Act.put, List.setIfInBounds_toArray, List.set_cons_zero, List.set_cons_succ]
              refine Mx.m_nil ?_
              intro _
              go_upto_region 23 with fail
              have HT23d := hidInW (HT_22_3.out.step (Below.refl _ _).drew)
              refine Mx.wp_region_mix (fun w' => Below w.heap.size w w') [(0, false), (1, false), (2, false), (3, false), (4, false), (5, false), (6, false), (7, false), (8, false), (9, false), (11, false), (12, false), (13, false), (14, false), (15, false), (16, false), (17, false), (18, false), (19, false), (10, true), (20, true), (21, true), (22, true), (23, false), (24, false), (25, false), (26, true), (27, true), (28, true)] (by kernel_rfl) (by kernel_rfl) (Below.drew HT_22_3.out.i.below) ?_ (by kernel_rfl)
              simp only [List.map_cons, List.map_nil, List.getD_cons_zero, List.getD_cons_succ]
              generalize hops : (#[_, _, _, _, _, _, _, _, _, _, _, _, _, _, _, _, _, _, _, _, _, _, _, _, _, _, _, _, _] : Array Oper) = ops
              clear hops
              refine Mx.m_pure (.pointer (some ⟨r, 0, none⟩)) (Mx.wanted_none rfl) (fun w' hw' => ?_) ?_
              · go_simp
              simp only [Act.put, List.setIfInBounds_toArray, List.set_cons_zero, List.set_cons_succ]
              refine Mx.m_pure (.slice (some ⟨bb, off, none⟩) ll lc) (Mx.wanted_none rfl) (fun w' hw' => ?_) ?_
              · go_simp
              simp only [Act.put, List.setIfInBounds_toArray, List.set_cons_zero, List.set_cons_succ]
              refine Mx.m_pure (.int .i64 i) (Mx.wanted_none rfl) (fun w' hw' => ?_) ?_
              · go_simp
              simp only [Act.put, List.setIfInBounds_toArray, List.set_cons_zero, List.set_cons_succ]
              refine Mx.m_pure (.pointer (some ⟨bb, off + i * 6, none⟩)) (Mx.wanted_none rfl) (fun w' hw' => ?_) ?_
              · go_simp
              simp only [Act.put, List.setIfInBounds_toArray, List.set_cons_zero, List.set_cons_succ]
              refine Mx.m_pure (.agg #[.bool a.ch, .int .i64 a.A, .int .i64 a.B, .int .i64 a.D, .int .i64 a.V, .string a.W]) (Mx.wanted_none rfl) (fun w' hw' => ?_) ?_
              · have y0 := (hw'.cell (p := ⟨bb, off + i * 6, none⟩) HBB.out).trans HA0.out
                have y1 := (hw'.cell (p := ⟨bb, off + i * 6 + 1, none⟩) HBB.out).trans HA1.out
                have y2 := (hw'.cell (p := ⟨bb, off + i * 6 + 2, none⟩) HBB.out).trans HA2.out
                have y3 := (hw'.cell (p := ⟨bb, off + i * 6 + 3, none⟩) HBB.out).trans HA3.out
                have y4 := (hw'.cell (p := ⟨bb, off + i * 6 + 4, none⟩) HBB.out).trans HA4.out
                have y5 := (hw'.cell (p := ⟨bb, off + i * 6 + 5, none⟩) HBB.out).trans HA5.out
                clear hw'
                go_simp
              simp only [Act.put, List.setIfInBounds_toArray, List.set_cons_zero, List.set_cons_succ]
              refine Mx.m_pure (.slice (some ⟨bb, off, none⟩) ll lc) (Mx.wanted_none rfl) (fun w' hw' => ?_) ?_
              · go_simp
              simp only [Act.put, List.setIfInBounds_toArray, List.set_cons_zero, List.set_cons_succ]
              refine Mx.m_pure (.int .i64 i) (Mx.wanted_none rfl) (fun w' hw' => ?_) ?_
              · go_simp
              simp only [Act.put, List.setIfInBounds_toArray, List.set_cons_zero, List.set_cons_succ]
              refine Mx.m_pure (.pointer (some ⟨bb, off + i * 6, none⟩)) (Mx.wanted_none rfl) (fun w' hw' => ?_) ?_
              · go_simp
              simp only [Act.put, List.setIfInBounds_toArray, List.set_cons_zero, List.set_cons_succ]
              refine Mx.m_pure (.pointer (some ⟨bb, off + i * 6 + 1, none⟩)) (Mx.wanted_none rfl) (fun w' hw' => ?_) ?_
              · go_simp
              simp only [Act.put, List.setIfInBounds_toArray, List.set_cons_zero, List.set_cons_succ]
              refine Mx.m_pure (.int .i64 a.A) (Mx.wanted_none rfl) (fun w' hw' => ?_) ?_
              · have y0 := (hw'.cell (p := ⟨bb, off + i * 6, none⟩) HBB.out).trans HA0.out
                have y1 := (hw'.cell (p := ⟨bb, off + i * 6 + 1, none⟩) HBB.out).trans HA1.out
                have y2 := (hw'.cell (p := ⟨bb, off + i * 6 + 2, none⟩) HBB.out).trans HA2.out
                have y3 := (hw'.cell (p := ⟨bb, off + i * 6 + 3, none⟩) HBB.out).trans HA3.out
                have y4 := (hw'.cell (p := ⟨bb, off + i * 6 + 4, none⟩) HBB.out).trans HA4.out
                have y5 := (hw'.cell (p := ⟨bb, off + i * 6 + 5, none⟩) HBB.out).trans HA5.out
                clear hw'
                go_simp
              simp only [Act.put, List.setIfInBounds_toArray, List.set_cons_zero, List.set_cons_succ]
              refine Mx.m_pure (.slice (some ⟨bb, off, none⟩) ll lc) (Mx.wanted_none rfl) (fun w' hw' => ?_) ?_
              · go_simp
              simp only [Act.put, List.setIfInBounds_toArray, List.set_cons_zero, List.set_cons_succ]
              refine Mx.m_pure (.int .i64 i) (Mx.wanted_none rfl) (fun w' hw' => ?_) ?_
              · go_simp
              simp only [Act.put, List.setIfInBounds_toArray, List.set_cons_zero, List.set_cons_succ]
              refine Mx.m_pure (.pointer (some ⟨bb, off + i * 6, none⟩)) (Mx.wanted_none rfl) (fun w' hw' => ?_) ?_
              · go_simp
              simp only [Act.put, List.setIfInBounds_toArray, List.set_cons_zero, List.set_cons_succ]
              refine Mx.m_pure (.agg #[.bool a.ch, .int .i64 a.A, .int .i64 a.B, .int .i64 a.D, .int .i64 a.V, .string a.W]) (Mx.wanted_none rfl) (fun w' hw' => ?_) ?_
              · have y0 := (hw'.cell (p := ⟨bb, off + i * 6, none⟩) HBB.out).trans HA0.out
                have y1 := (hw'.cell (p := ⟨bb, off + i * 6 + 1, none⟩) HBB.out).trans HA1.out
                have y2 := (hw'.cell (p := ⟨bb, off + i * 6 + 2, none⟩) HBB.out).trans HA2.out
                have y3 := (hw'.cell (p := ⟨bb, off + i * 6 + 3, none⟩) HBB.out).trans HA3.out
                have y4 := (hw'.cell (p := ⟨bb, off + i * 6 + 4, none⟩) HBB.out).trans HA4.out
                have y5 := (hw'.cell (p := ⟨bb, off + i * 6 + 5, none⟩) HBB.out).trans HA5.out
                clear hw'
                go_simp
              simp only [Act.put, List.setIfInBounds_toArray, List.set_cons_zero, List.set_cons_succ]
              refine Mx.m_pure (.slice (some ⟨bb, off, none⟩) ll lc) (Mx.wanted_none rfl) (fun w' hw' => ?_) ?_
              · go_simp
              simp only [Act.put, List.setIfInBounds_toArray, List.set_cons_zero, List.set_cons_succ]
              refine Mx.m_pure (.int .i64 i) (Mx.wanted_none rfl) (fun w' hw' => ?_) ?_
              · go_simp
              simp only [Act.put, List.setIfInBounds_toArray, List.set_cons_zero, List.set_cons_succ]
              refine Mx.m_pure (.pointer (some ⟨bb, off + i * 6, none⟩)) (Mx.wanted_none rfl) (fun w' hw' => ?_) ?_
              · go_simp
              simp only [Act.put, List.setIfInBounds_toArray, List.set_cons_zero, List.set_cons_succ]
              refine Mx.m_pure (.pointer (some ⟨bb, off + i * 6 + 2, none⟩)) (Mx.wanted_none rfl) (fun w' hw' => ?_) ?_
              · go_simp
              simp only [Act.put, List.setIfInBounds_toArray, List.set_cons_zero, List.set_cons_succ]
              refine Mx.m_pure (.int .i64 a.B) (Mx.wanted_none rfl) (fun w' hw' => ?_) ?_
              · have y0 := (hw'.cell (p := ⟨bb, off + i * 6, none⟩) HBB.out).trans HA0.out
                have y1 := (hw'.cell (p := ⟨bb, off + i * 6 + 1, none⟩) HBB.out).trans HA1.out
                have y2 := (hw'.cell (p := ⟨bb, off + i * 6 + 2, none⟩) HBB.out).trans HA2.out
                have y3 := (hw'.cell (p := ⟨bb, off + i * 6 + 3, none⟩) HBB.out).trans HA3.out
                have y4 := (hw'.cell (p := ⟨bb, off + i * 6 + 4, none⟩) HBB.out).trans HA4.out
                have y5 := (hw'.cell (p := ⟨bb, off + i * 6 + 5, none⟩) HBB.out).trans HA5.out
                clear hw'
                go_simp
              simp only [Act.put, List.setIfInBounds_toArray, List.set_cons_zero, List.set_cons_succ]
              refine Mx.m_call 17 #[.agg #[.bool a.ch, .int .i64 a.A, .int .i64 a.B, .int .i64 a.D, .int .i64 a.V, .string a.W], .int .i64 a.A] (Mx.wanted_none rfl) ?_ ?_
              · go_simp
              refine (b_name HT23d.out a HOK.out a.A HOK.out.hA).mono ?_
              rintro e w_23_1 ⟨rfl, hs⟩
              have HT_23_1 := hidInW hs
              clear hs
              refine ⟨_, rfl, HT_23_1.out.i.below, ?_⟩
              simp only [Act.put, List.setIfInBounds_toArray, List.set_cons_zero, List.set_cons_succ]
              refine Mx.m_call 17 #[.agg #[.bool a.ch, .int .i64 a.A, .int .i64 a.B, .int .i64 a.D, .int .i64 a.V, .string a.W], .int .i64 a.B] (Mx.wanted_none rfl) ?_ ?_
              · go_simp
              refine (b_name HT_23_1.out a HOK.out a.B HOK.out.hB).mono ?_
              rintro e w_23_2 ⟨rfl, hs⟩
              have HT_23_2 := hidInW hs
              clear hs HT_23_1
              refine ⟨_, rfl, HT_23_2.out.i.below, ?_⟩
              simp only [Act.put, List.setIfInBounds_toArray, List.set_cons_zero, List.set_cons_succ]
              refine Mx.m_call 19 #[.pointer (some ⟨r, 0, none⟩), .string (nameA a a.A), .string (nameA a a.B)] (Mx.wanted_none rfl) ?_ ?_
              · go_simp
              refine (b_rchosen HT_23_2.out (nameA a a.A) (nameA a a.B) (by have := HAL.out; omega)).mono ?_
              rintro e w_23_3 ⟨rfl, hs⟩
              have HT_23_3 := hidInW hs
              clear hs HT_23_2
              refine ⟨_, rfl, HT_23_3.out.i.below, ?_⟩
              simp only [Act.put, List.setIfInBounds_toArray, List.set_cons_zero, List.set_cons_succ]
              refine Mx.m_run (.tuple #[.int .i64 (((actN K a).chosen (nameA a a.A, nameA a a.B)).getD (0, 0)).1, .int .i64 (((actN K a).chosen (nameA a a.A, nameA a a.B)).getD (0, 0)).2, .bool ((actN K a).chosen (nameA a a.A, nameA a a.B)).isSome]) (Mx.wanted_none rfl) ?_ HT_23_3.out.i.below ?_
              · go_simp
              simp only [Act.put, List.setIfInBounds_toArray, List.set_cons_zero, List.set_cons_succ]
              refine Mx.m_pure (.int .i64 (((actN K a).chosen (nameA a a.A, nameA a a.B)).getD (0, 0)).1) (Mx.wanted_none rfl) (fun w' hw' => ?_) ?_
              · go_simp
              simp only [Act.put, List.setIfInBounds_toArray, List.set_cons_zero, List.set_cons_succ]
              refine Mx.m_pure (.int .i64 (((actN K a).chosen (nameA a a.A, nameA a a.B)).getD (0, 0)).2) (Mx.wanted_none rfl) (fun w' hw' => ?_) ?_
              · go_simp
              simp only [Act.put, List.setIfInBounds_toArray, List.set_cons_zero, List.set_cons_succ]
              refine Mx.m_pure (.bool ((actN K a).chosen (nameA a a.A, nameA a a.B)).isSome) (Mx.wanted_none rfl) (fun w' hw' => ?_) ?_
              · go_simp
              simp only [Act.put, List.setIfInBounds_toArray, List.set_cons_zero, List.set_cons_succ]
              refine Mx.m_run (.int .i64 (((actN K a).chosen (nameA a a.A, nameA a a.B)).getD (0, 0)).1) (Mx.wanted_none rfl) ?_ HT_23_3.out.i.below ?_
              · go_simp
              simp only [Act.put, List.setIfInBounds_toArray, List.set_cons_zero, List.set_cons_succ]
              refine Mx.m_run (.int .i64 (((actN K a).chosen (nameA a a.A, nameA a a.B)).getD (0, 0)).2) (Mx.wanted_none rfl) ?_ HT_23_3.out.i.below ?_
              · go_simp
              simp only [Act.put, List.setIfInBounds_toArray, List.set_cons_zero, List.set_cons_succ]
              refine Mx.m_run (.bool ((actN K a).chosen (nameA a a.A, nameA a a.B)).isSome) (Mx.wanted_none rfl) ?_ HT_23_3.out.i.below ?_
              · go_simp
              simp only [Act.put, List.setIfInBounds_toArray, List.set_cons_zero, List.set_cons_succ]
              refine Mx.m_nil ?_
              intro _
              generalize ((actN K a).chosen (nameA a a.A, nameA a a.B)).getD (0, 0) = cx at *
              generalize ((actN K a).chosen (nameA a a.A, nameA a a.B)).isSome = cy at *
              go_wp2_with fail
              go_roundw
              case rel => exact ⟨i + 1, actN K a, by omega, by go_num, by have := HAL.out; omega, by have := HAL.out; omega, HT_23_3.out⟩
              case measure => simp [intOf] <;> omega

end Go.Proofs.Ythjgpodpnoaieaa.Wd
