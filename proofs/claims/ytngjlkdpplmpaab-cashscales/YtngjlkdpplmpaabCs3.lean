/- The walk of CashScales. -/
import Derived.Test.YtngjlkdpplmpaabCs2
import Derived.Test.YtngjlkdpplmpaabCs1
namespace Go.Proofs.Ytngjlkdpplmpaab.Ca
open Go.RowKit Wd Cn Vl
set_option linter.unusedVariables false

theorem times_at {l : List Fl} {n : Int} {i : Nat} {x : Fl} (h : l[i]? = some x) : (l.map (Fl.times n))[i]? = some ⟨x.day, x.cur, n * x.amt⟩ := by
  rw [List.getElem?_map, h]
  rfl
theorem turn_at {l : List Wt} {n : Int} {i : Nat} {y : Wt} (h : l[i]? = some y) : (l.map (Wt.turn n))[i]? = some ⟨y.ch, y.name, y.label, y.day, if y.ch = true ∧ n < 0 then 1 - y.side else y.side⟩ := by
  rw [List.getElem?_map, h]
  simp only [Option.map_some, Option.some.injEq, Wt.turn]
  split
  · rfl
  · cases y; rfl

set_option maxHeartbeats 8000000 in
set_option maxRecDepth 100000 in
theorem scales_walk (pl : Pl) (la : Option Addr) (ll lc : Nat) (lf : Nat → Int) (ca : Option Addr) (cl cc : Nat) (cf : Nat → Int) (n0 day : Int) (w : World) (hp : PlanIn w pl) (hl : HasInts w la ll lf) (hll : ll ≤ 9223372036854775807) (hc : HasInts w ca cl cf) (hcl : cl ≤ 9223372036854775807) (hn1 : -9223372036854775808 ≤ n0) (hn2 : n0 ≤ 9223372036854775807) (hd1 : -9223372036854775808 ≤ day) (hd2 : day ≤ 9223372036854775807) :
    Calls Try.prog 4 #[planV pl, .slice la ll lc, .slice ca cl cc, .int .i64 n0, .int .i64 day] w fun e w' => e = .returned (.bool true) ∧ Below w.heap.size w w' := by
  have HWD := hidC (fun w : World => within_any day 5 w (by omega) (by omega) hd1 hd2)
  have HWN := hidC (fun w : World => within_any n0 9 w (by omega) (by omega) hn1 hn2)
  obtain ⟨d, hd⟩ : ∃ d, day % 5 = d := ⟨_, rfl⟩
  obtain ⟨u, hu⟩ : ∃ u, n0 % 9 = u := ⟨_, rfl⟩
  have hdd1 : 0 ≤ d := by omega
  have hdd2 : d < 5 := by omega
  have hu1 : 0 ≤ u := by omega
  have hu2 : u < 9 := by omega
  rw [hd] at HWD
  rw [hu] at HWN
  clear hd hu hn1 hn2 hd1 hd2
  have HP := hidC hp
  have HL := hidC hl
  have HCI := hidC hc
  clear hp hl hc
  unfold planV
  go_enter Try.func4, Try.ntmps4
  go_wp2_with fail
  have HB0 := hidC (below_alloc (Below.refl w.heap.size w) (.cells #[.slice pl.na pl.nl pl.nc, .slice pl.wa pl.wl pl.wc] 47))
  refine (right_made HP.out HB0.out).mono ?_
  rintro e w1 ⟨tv, rfl, hb1, ht⟩
  have HT := hidC ht
  have HB1 := hidC (HB0.out.trans (hb1.mono HB0.out.size))
  clear hb1 ht
  go_wp2_with fail
  refine (right_term HT.out).mono ?_
  rintro e w2 ⟨rfl, hb2⟩
  have HB2 := hidC (HB1.out.trans (hb2.mono HB1.out.size))
  have HLI := hidC (ints_below HL.out HB2.out)
  have HCI2 := hidC (ints_below HCI.out HB2.out)
  clear hb2 HP HL HCI
  obtain ⟨c, hcx⟩ : ∃ c, rightP pl = c := ⟨_, rfl⟩
  have HCHK : Hid (chkC c = 0) := by rw [← hcx]; exact rightP_chk pl
  have HOK : Hid c.Ok := by rw [← hcx]; exact rightP_ok pl
  obtain ⟨tc, xc, hval⟩ := form_val c (chkC_ok HCHK.out).1
  have HWT : Hid (c.weight ≤ 60) := by unfold Hid; rw [form_weight c (chkC_ok HCHK.out).1]; exact (chkC_ok HCHK.out).2.1
  have HVAL := hidC hval
  rw [hcx, hval]
  clear hcx hval HT
  go_wp2_with fail
  refine (known10_any la ll lc lf ca cl cc cf w2 HLI.out hll HCI2.out hcl).mono ?_
  rintro e w4 ⟨p, f, q, r, rfl, B, K, hb4, hvals, hchs, hfl, hcln⟩
  have HB4 := hidC hb4
  have HE := hidC (show Env w4 p f q K ⟨#[116]⟩ from ⟨hb4.i.kin, hvals, hchs, by decide⟩)
  have HW4 := hidC (HB2.out.trans (hb4.i.below.mono HB2.out.size))
  clear hb4 hvals hchs hfl hcln HLI HCI2 HB4
  obtain ⟨n, hn⟩ : ∃ n, u - 4 = n := ⟨_, rfl⟩
  have hn1 : -4 ≤ n := by omega
  have hn2 : n ≤ 4 := by omega
  have HTV : Hid ((C.scale (.const n) c).val = .iface 30 (.agg #[.iface 24 (.agg #[.int .i64 n]), c.val])) := rfl
  rw [HVAL.out] at HTV
  have HTOK : Hid ((C.scale (.const n) c).Ok) := ⟨⟨by omega, by omega⟩, HOK.out⟩
  have HTW : Hid ((C.scale (.const n) c).weight ≤ 1000000) := by have := HWT.out; simp only [Hid, C.weight, O.nodes]; omega
  have HCK := hidC (fun w : World => checkT_any (C.scale (.const n) c) HTOK.out HTW.out w)
  rw [HTV.out] at HCK
  have HCA := hidC (fun (w' : World) (hb : Below w4.heap.size w4 w') => cash_at c HOK.out (by have := HWT.out; omega) w' p f q K ⟨#[116]⟩ (HE.out.below hb) d ⟨by omega, by omega⟩ _ rfl)
  rw [HVAL.out] at HCA
  have HCB := hidC (fun (w' : World) (hb : Below w4.heap.size w4 w') => cash_at (C.scale (.const n) c) HTOK.out HTW.out w' p f q K ⟨#[116]⟩ (HE.out.below hb) d ⟨by omega, by omega⟩ _ rfl)
  rw [HTV.out] at HCB
  go_wp2_with fail
  refine calls_same (HWN.out _) ?_
  go_wp2_with fail
  refine calls_same (HWD.out _) ?_
  go_wp2_with fail
  clear hn
  obtain ⟨V, hV⟩ : ∃ V, w4.alloc (.cells #[.iface 24 (.agg #[.int .i64 n]), .iface tc xc] 30) = V := ⟨_, rfl⟩
  have HBV : Hid (Below w4.heap.size w4 V) := by rw [← hV]; exact below_alloc (Below.refl _ _) _
  have HXV : Hid (V.heap[w4.heap.size]? = some (.cells #[.iface 24 (.agg #[.int .i64 n]), .iface tc xc] 30)) := by rw [← hV]; exact heap_alloc_new _ _
  rw [hV]
  have HXC : Hid (∀ w', Below V.heap.size V w' → w'.cell? ⟨w4.heap.size, 0, none⟩ = some (.iface 24 (.agg #[.int .i64 n])) ∧ w'.cell? ⟨w4.heap.size, 1, none⟩ = some (.iface tc xc)) := fun w' hw' => by
    have hx := (hw'.block _ (Array.getElem?_eq_some_iff.1 HXV.out).1).trans HXV.out
    exact ⟨cell_of_row _ _ 0 _ _ _ hx, cell_of_row _ _ 1 _ _ _ hx⟩
  clear hV
  refine (HCK.out V).mono ?_
  rintro e w5 ⟨rfl, hb5⟩
  have HB5 := hidC hb5
  clear hb5
  obtain ⟨kt, hkt⟩ : ∃ kt, chkC (C.scale (.const n) c) = kt := ⟨_, rfl⟩
  rw [hkt]
  by_cases h0 : kt = 0
  rotate_left
  · have h0' : (kt != 0) = true := by simpa using h0
    clear hkt h0
    go_wp2_with fail
    refine (wakes10_any w5).mono ?_
    rintro e w6 ⟨rfl, hb6⟩
    have HEND := hidC (((HBV.out.trans (HB5.out.mono HBV.out.size)).trans (hb6.mono (Nat.le_trans HBV.out.size HB5.out.size))))
    clear hb6
    go_wp2_with fail
    go_ret
    exact ⟨rfl, HW4.out.trans (HEND.out.mono HW4.out.size)⟩
  subst h0
  have HKT := hidC hkt
  clear hkt
  have HA0 : Hid (n = 0 → ofK K ⟨#[116]⟩ (.scale (.const n) c) d = ⟨[], [], 0⟩) := fun h => by
    have h2 := HKT.out
    rw [h] at h2 ⊢
    exact ofK_scale0 K ⟨#[116]⟩ c d h2 hdd1 (by omega)
  have HAT := hidC (fun (h : n ≠ 0) (h0 : (ofK K ⟨#[116]⟩ (.scale (.const n) c) d).e = 0) => ofK_turned HE.out.vals ⟨#[116]⟩ c (.scale (.const n) c) d n h HCHK.out HKT.out hdd1 (by omega) (scale_is K _ c d n h hn1 hn2) h0)
  have HERR := hidC (ofK_errs HE.out.vals (id := ⟨#[116]⟩) HKT.out hdd1 (show d ≤ 10000 by omega))
  have HFLB := hidC (ofK_fl HE.out.chs (id := ⟨#[116]⟩) HKT.out hdd1 (show d ≤ 10000 by omega))
  have HFLA := hidC (ofK_fl HE.out.chs (id := ⟨#[116]⟩) HCHK.out hdd1 (show d ≤ 10000 by omega))
  have HWTA := hidC (ofK_wt HE.out.chs (id := ⟨#[116]⟩) HOK.out HCHK.out hdd1 (show d ≤ 10000 by omega))
  have HLENA := hidC (ofK_len' K ⟨#[116]⟩ c d)
  go_wp2_with fail
  refine (HCA.out w5 (HBV.out.trans (HB5.out.mono HBV.out.size))).mono ?_
  rintro e w6 ⟨ao, cap, bo, cap2, rfl, hA, hB, hb6⟩
  have HAF := hidC hA
  have HAW := hidC hB
  have HB6 := hidC (HB5.out.trans (hb6.mono HB5.out.size))
  obtain ⟨x0, x1⟩ := HXC.out w6 HB6.out
  clear hA hB hb6
  go_wp2_with fail
  refine (HCB.out w6 (HBV.out.trans (HB6.out.mono HBV.out.size))).mono ?_
  rintro e w7 ⟨co, cap3, eo, cap4, rfl, hA, hB, hb7⟩
  have HBF := hidC hA
  have HBW := hidC hB
  have HAF7 := hidC (HAF.out.below hb7)
  have HAW7 := hidC (HAW.out.below hb7)
  have HB7 := hidC (HB6.out.trans (hb7.mono HB6.out.size))
  have HW7 : Hid (Below w.heap.size w w7) := by
    have h := HW4.out.trans (HBV.out.mono HW4.out.size)
    exact h.trans (HB7.out.mono h.size)
  clear hA hB hb7 x0 x1 HAF HAW HCA HCB HCK
  generalize hxA : ofK K ⟨#[116]⟩ c d = A at *
  generalize hxB : ofK K ⟨#[116]⟩ (.scale (.const n) c) d = Bq at *
  clear hxA hxB
  obtain ⟨af, aw, ae⟩ := A
  obtain ⟨bf, bw, be⟩ := Bq
  simp only at HA0 HAT HERR HFLB HFLA HWTA HLENA HBF HBW HAF7 HAW7 ⊢
  by_cases hz : n = 0
  · have h := HA0.out hz
    subst hz
    simp only [Ck.mk.injEq] at h
    obtain ⟨rfl, rfl, rfl⟩ := h
    simp only [List.length_nil]
    go_wp2_with fail
    refine (wakes10_any w7).mono ?_
    rintro e w8 ⟨rfl, hb8⟩
    have HEND := hidC (HW7.out.trans (hb8.mono HW7.out.size))
    clear hb8
    go_wp2_with fail
    go_ret
    exact ⟨rfl, HEND.out⟩
  have hz' : (n == 0) = false := by simpa using hz
  rcases HERR.out with rfl | rfl
  rotate_left
  · clear hz
    go_wp2_with fail
    refine (wakes10_any w7).mono ?_
    rintro e w8 ⟨rfl, hb8⟩
    have HEND := hidC (HW7.out.trans (hb8.mono HW7.out.size))
    clear hb8
    go_wp2_with fail
    go_ret
    exact ⟨rfl, HEND.out⟩
  obtain ⟨rfl, rfl, rfl⟩ := HAT.out hz rfl
  have HZ := hidC hz
  clear HAT HA0 hz
  simp only [List.length_map] at HBF HBW ⊢
  have hla : af.length ≤ 60 := by have := HLENA.out.1; have := HWT.out; omega
  have hlw : aw.length ≤ 60 := by have := HLENA.out.2; have := HWT.out; omega
  go_wp2_with fail
  go_loopw [109] (fun s109 wr => ∃ i : Nat, i ≤ af.length ∧ s109 = .int .i64 i ∧ Below w7.heap.size w7 wr) (fun s109 _ => af.length - (intOf s109).toNat)
  case atStart => exact ⟨0, by omega, rfl, Below.refl _ _⟩
  case round =>
    obtain ⟨i, hi, rfl, hbr⟩ := hrel
    have HBR := hidC hbr
    clear hbr
    by_cases hlt : i < af.length
    · have hlt' : (i : Int) < (af.length : Int) := by omega
      obtain ⟨x, hx⟩ : ∃ x, af[i]? = some x := ⟨_, List.getElem?_eq_getElem hlt⟩
      have hxb := times_at (n := n) hx
      have HIA := hidC (HFLA.out x (List.mem_of_getElem? hx))
      have HIB := hidC (HFLB.out _ (List.mem_of_getElem? hxb))
      obtain ⟨g, rfl, hg, d0, d1, d2⟩ := HAF7.out i x hx
      obtain ⟨g', rfl, hg', e0, e1, e2⟩ := HBF.out i _ hxb
      obtain ⟨xd, xc', xa⟩ := x
      have HFC : Hid (∀ w', Below w7.heap.size w7 w' → w'.cell? ⟨g, i * 3, none⟩ = some (.int .i64 xd) ∧ w'.cell? ⟨g, i * 3 + 1, none⟩ = some (.string xc') ∧ w'.cell? ⟨g, i * 3 + 2, none⟩ = some (.int .i64 xa) ∧ w'.cell? ⟨g', i * 3, none⟩ = some (.int .i64 xd) ∧ w'.cell? ⟨g', i * 3 + 1, none⟩ = some (.string xc') ∧ w'.cell? ⟨g', i * 3 + 2, none⟩ = some (.int .i64 (n * xa))) := fun w' hw' => by
        have hc := fun o => hw'.cell (p := ⟨g, o, none⟩) hg
        have hc' := fun o => hw'.cell (p := ⟨g', o, none⟩) hg'
        exact ⟨(hc _).trans d0, (hc _).trans d1, (hc _).trans d2, (hc' _).trans e0, (hc' _).trans e1, (hc' _).trans e2⟩
      have hva := vB_i64 HIA.out.2.2.2
      have hvb := vB_i64 HIB.out.2.2.2
      simp only at hva hvb
      obtain ⟨va1, va2⟩ := hva
      obtain ⟨vb1, vb2⟩ := hvb
      have q9 : (xc'.toList == xc'.toList) = true := beq_self_eq_true _
      clear hx hxb d0 d1 d2 e0 e1 e2 hg hg'
      go_wp2_with fail
      have HC0 := hidC (HBR.out.drew)
      refine Mx.wp_region_mix (fun w' => Below w7.heap.size w7 w') [(0, false), (1, false), (2, false), (3, false), (4, false), (5, false), (6, false), (7, false), (8, false), (9, false), (10, false), (11, false), (12, false), (13, false), (14, false), (15, false), (16, false), (17, false), (18, false), (19, false), (20, false), (21, false), (22, false)] (by kernel_rfl) (by kernel_rfl) HC0.out ?_ (by kernel_rfl)
      simp only [List.map_cons, List.map_nil, List.getD_cons_zero, List.getD_cons_succ]
      generalize hops : (#[_, _, _, _, _, _, _, _, _, _, _, _, _, _, _, _, _, _, _, _, _, _, _] : Array Oper) = ops
      clear hops
      refine Mx.m_pure (.slice (some ⟨g', 0, none⟩) af.length cap3) (Mx.wanted_none rfl) (fun w' hw' => ?_) ?_
      · go_simp
      simp only [Act.put, List.setIfInBounds_toArray, List.set_cons_zero, List.set_cons_succ]
      refine Mx.m_pure (.int .i64 i) (Mx.wanted_none rfl) (fun w' hw' => ?_) ?_
      · go_simp
      simp only [Act.put, List.setIfInBounds_toArray, List.set_cons_zero, List.set_cons_succ]
      refine Mx.m_pure (.pointer (some ⟨g', i * 3, none⟩)) (Mx.wanted_none rfl) (fun w' hw' => ?_) ?_
      · go_simp
      simp only [Act.put, List.setIfInBounds_toArray, List.set_cons_zero, List.set_cons_succ]
      refine Mx.m_pure (.agg #[.int .i64 xd, .string xc', .int .i64 (n * xa)]) (Mx.wanted_none rfl) (fun w' hw' => ?_) ?_
      · obtain ⟨q0, q1, q2, q3, q4, q5⟩ := HFC.out w' hw'
        go_simp
      simp only [Act.put, List.setIfInBounds_toArray, List.set_cons_zero, List.set_cons_succ]
      refine Mx.m_pure (.slice (some ⟨g, 0, none⟩) af.length cap) (Mx.wanted_none rfl) (fun w' hw' => ?_) ?_
      · go_simp
      simp only [Act.put, List.setIfInBounds_toArray, List.set_cons_zero, List.set_cons_succ]
      refine Mx.m_pure (.int .i64 i) (Mx.wanted_none rfl) (fun w' hw' => ?_) ?_
      · go_simp
      simp only [Act.put, List.setIfInBounds_toArray, List.set_cons_zero, List.set_cons_succ]
      refine Mx.m_pure (.pointer (some ⟨g, i * 3, none⟩)) (Mx.wanted_none rfl) (fun w' hw' => ?_) ?_
      · go_simp
      simp only [Act.put, List.setIfInBounds_toArray, List.set_cons_zero, List.set_cons_succ]
      refine Mx.m_pure (.pointer (some ⟨g, i * 3, none⟩)) (Mx.wanted_none rfl) (fun w' hw' => ?_) ?_
      · go_simp
      simp only [Act.put, List.setIfInBounds_toArray, List.set_cons_zero, List.set_cons_succ]
      refine Mx.m_pure (.int .i64 xd) (Mx.wanted_none rfl) (fun w' hw' => ?_) ?_
      · obtain ⟨q0, q1, q2, q3, q4, q5⟩ := HFC.out w' hw'
        go_simp
      simp only [Act.put, List.setIfInBounds_toArray, List.set_cons_zero, List.set_cons_succ]
      refine Mx.m_pure (.slice (some ⟨g, 0, none⟩) af.length cap) (Mx.wanted_none rfl) (fun w' hw' => ?_) ?_
      · go_simp
      simp only [Act.put, List.setIfInBounds_toArray, List.set_cons_zero, List.set_cons_succ]
      refine Mx.m_pure (.int .i64 i) (Mx.wanted_none rfl) (fun w' hw' => ?_) ?_
      · go_simp
      simp only [Act.put, List.setIfInBounds_toArray, List.set_cons_zero, List.set_cons_succ]
      refine Mx.m_pure (.pointer (some ⟨g, i * 3, none⟩)) (Mx.wanted_none rfl) (fun w' hw' => ?_) ?_
      · go_simp
      simp only [Act.put, List.setIfInBounds_toArray, List.set_cons_zero, List.set_cons_succ]
      refine Mx.m_pure (.pointer (some ⟨g, i * 3 + 1, none⟩)) (Mx.wanted_none rfl) (fun w' hw' => ?_) ?_
      · go_simp
      simp only [Act.put, List.setIfInBounds_toArray, List.set_cons_zero, List.set_cons_succ]
      refine Mx.m_pure (.string xc') (Mx.wanted_none rfl) (fun w' hw' => ?_) ?_
      · obtain ⟨q0, q1, q2, q3, q4, q5⟩ := HFC.out w' hw'
        go_simp
      simp only [Act.put, List.setIfInBounds_toArray, List.set_cons_zero, List.set_cons_succ]
      refine Mx.m_pure (.int .i64 n) (Mx.wanted_none rfl) (fun w' hw' => ?_) ?_
      · go_simp
      simp only [Act.put, List.setIfInBounds_toArray, List.set_cons_zero, List.set_cons_succ]
      refine Mx.m_pure (.slice (some ⟨g, 0, none⟩) af.length cap) (Mx.wanted_none rfl) (fun w' hw' => ?_) ?_
      · go_simp
      simp only [Act.put, List.setIfInBounds_toArray, List.set_cons_zero, List.set_cons_succ]
      refine Mx.m_pure (.int .i64 i) (Mx.wanted_none rfl) (fun w' hw' => ?_) ?_
      · go_simp
      simp only [Act.put, List.setIfInBounds_toArray, List.set_cons_zero, List.set_cons_succ]
      refine Mx.m_pure (.pointer (some ⟨g, i * 3, none⟩)) (Mx.wanted_none rfl) (fun w' hw' => ?_) ?_
      · go_simp
      simp only [Act.put, List.setIfInBounds_toArray, List.set_cons_zero, List.set_cons_succ]
      refine Mx.m_pure (.pointer (some ⟨g, i * 3 + 2, none⟩)) (Mx.wanted_none rfl) (fun w' hw' => ?_) ?_
      · go_simp
      simp only [Act.put, List.setIfInBounds_toArray, List.set_cons_zero, List.set_cons_succ]
      refine Mx.m_pure (.int .i64 xa) (Mx.wanted_none rfl) (fun w' hw' => ?_) ?_
      · obtain ⟨q0, q1, q2, q3, q4, q5⟩ := HFC.out w' hw'
        go_simp
      simp only [Act.put, List.setIfInBounds_toArray, List.set_cons_zero, List.set_cons_succ]
      refine Mx.m_pure (.int .i64 (n * xa)) (Mx.wanted_none rfl) (fun w' hw' => ?_) ?_
      · go_simp
        exact wrap_small _ (by omega) (by omega)
      simp only [Act.put, List.setIfInBounds_toArray, List.set_cons_zero, List.set_cons_succ]
      refine Mx.m_pure (.agg #[.int .i64 xd, .string xc', .int .i64 (n * xa)]) (Mx.wanted_none rfl) (fun w' hw' => ?_) ?_
      · go_simp
      simp only [Act.put, List.setIfInBounds_toArray, List.set_cons_zero, List.set_cons_succ]
      refine Mx.m_pure (.bool false) (Mx.wanted_none rfl) (fun w' hw' => ?_) ?_
      · go_simp
      simp only [Act.put, List.setIfInBounds_toArray, List.set_cons_zero, List.set_cons_succ]
      refine Mx.m_nil ?_
      intro _
      clear q9
      go_wp2_with fail
      go_roundw
      case rel => exact ⟨i + 1, by omega, by go_num, HC0.out⟩
      case measure => simp [intOf] <;> omega
    · clear HFLA HFLB HAF7 HBF
      go_wp2_with fail
      go_loopw [138] (fun s138 wr => ∃ i : Nat, i ≤ aw.length ∧ s138 = .int .i64 i ∧ Below w7.heap.size w7 wr) (fun s138 _ => aw.length - (intOf s138).toNat)
      case atStart => exact ⟨0, by omega, rfl, HBR.out⟩
      case round =>
        obtain ⟨j, hj, rfl, hbz⟩ := hrel
        have HBZ := hidC hbz
        clear hbz
        by_cases hltj : j < aw.length
        · have hltj' : (j : Int) < (aw.length : Int) := by omega
          obtain ⟨y, hy⟩ : ∃ y, aw[j]? = some y := ⟨_, List.getElem?_eq_getElem hltj⟩
          have hyb := turn_at (n := n) hy
          have HSD := hidC (HWTA.out y (List.mem_of_getElem? hy)).side
          obtain ⟨g, rfl, hg, d0, d1, d2, d3, d4⟩ := HAW7.out j y hy
          obtain ⟨g', rfl, hg', e0, e1, e2, e3, e4⟩ := HBW.out j _ hyb
          obtain ⟨yc, yn, yl, yd, ys⟩ := y
          simp only at d0 d1 d2 d3 d4 e0 e1 e2 e3 e4 HSD
          obtain ⟨z, hzz⟩ : ∃ z, (if yc = true ∧ n < 0 then 1 - ys else ys) = z := ⟨_, rfl⟩
          rw [hzz] at e4
          have HFC : Hid (∀ w', Below w7.heap.size w7 w' → w'.cell? ⟨g, j * 5, none⟩ = some (.bool yc) ∧ w'.cell? ⟨g, j * 5 + 1, none⟩ = some (.string yn) ∧ w'.cell? ⟨g, j * 5 + 2, none⟩ = some (.string yl) ∧ w'.cell? ⟨g, j * 5 + 3, none⟩ = some (.int .i64 yd) ∧ w'.cell? ⟨g, j * 5 + 4, none⟩ = some (.int .i64 ys) ∧ w'.cell? ⟨g', j * 5, none⟩ = some (.bool yc) ∧ w'.cell? ⟨g', j * 5 + 1, none⟩ = some (.string yn) ∧ w'.cell? ⟨g', j * 5 + 2, none⟩ = some (.string yl) ∧ w'.cell? ⟨g', j * 5 + 3, none⟩ = some (.int .i64 yd) ∧ w'.cell? ⟨g', j * 5 + 4, none⟩ = some (.int .i64 z)) := fun w' hw' => by
            have hc := fun o => hw'.cell (p := ⟨g, o, none⟩) hg
            have hc' := fun o => hw'.cell (p := ⟨g', o, none⟩) hg'
            exact ⟨(hc _).trans d0, (hc _).trans d1, (hc _).trans d2, (hc _).trans d3, (hc _).trans d4, (hc' _).trans e0, (hc' _).trans e1, (hc' _).trans e2, (hc' _).trans e3, (hc' _).trans e4⟩
          have q8 : (yn.toList == yn.toList) = true := beq_self_eq_true _
          have q9 : (yl.toList == yl.toList) = true := beq_self_eq_true _
          have p0 := (HFC.out wr HBZ.out).1
          have p4 := (HFC.out wr HBZ.out).2.2.2.2.1
          have hsb : 0 ≤ ys ∧ ys ≤ 1 := by rcases HSD.out with h | h <;> omega
          obtain ⟨hs1, hs2⟩ := hsb
          have hway : (yc = true ∧ n < 0 ∧ z = 1 - ys) ∨ (yc = true ∧ 0 ≤ n ∧ z = ys) ∨ (yc = false ∧ z = ys) := by
            cases yc
            · right; right; exact ⟨rfl, by rw [← hzz]; simp⟩
            · by_cases h : n < 0
              · left; exact ⟨rfl, h, by rw [← hzz, if_pos ⟨rfl, h⟩]⟩
              · right; left; exact ⟨rfl, by omega, by rw [← hzz, if_neg (fun x => h x.2)]⟩
          clear hy hyb d0 d1 d2 d3 d4 e0 e1 e2 e3 e4 hg hg' hzz HSD
          rcases hway with ⟨rfl, hneg, rfl⟩ | ⟨rfl, hneg, rfl⟩ | ⟨rfl, rfl⟩
          · go_wp2_with fail
            have HC0 := hidC (HBZ.out.drew)
            refine Mx.wp_region_mix (fun w' => Below w7.heap.size w7 w') [(0, false), (1, false), (2, false), (3, false), (4, false), (5, false), (6, false), (7, false), (8, false), (9, false), (10, false), (11, false), (12, false), (13, false), (14, false), (15, false), (16, false), (17, false), (18, false), (19, false), (20, false), (21, false), (22, false), (23, false), (24, false), (25, false), (26, false)] (by kernel_rfl) (by kernel_rfl) HC0.out ?_ (by kernel_rfl)
            simp only [List.map_cons, List.map_nil, List.getD_cons_zero, List.getD_cons_succ]
            generalize hops : (#[_, _, _, _, _, _, _, _, _, _, _, _, _, _, _, _, _, _, _, _, _, _, _, _, _, _, _] : Array Oper) = ops
            clear hops
            refine Mx.m_pure (.slice (some ⟨g', 0, none⟩) aw.length cap4) (Mx.wanted_none rfl) (fun w' hw' => ?_) ?_
            · go_simp
            simp only [Act.put, List.setIfInBounds_toArray, List.set_cons_zero, List.set_cons_succ]
            refine Mx.m_pure (.int .i64 j) (Mx.wanted_none rfl) (fun w' hw' => ?_) ?_
            · go_simp
            simp only [Act.put, List.setIfInBounds_toArray, List.set_cons_zero, List.set_cons_succ]
            refine Mx.m_pure (.pointer (some ⟨g', j * 5, none⟩)) (Mx.wanted_none rfl) (fun w' hw' => ?_) ?_
            · go_simp
            simp only [Act.put, List.setIfInBounds_toArray, List.set_cons_zero, List.set_cons_succ]
            refine Mx.m_pure (.agg #[.bool true, .string yn, .string yl, .int .i64 yd, .int .i64 (1 - ys)]) (Mx.wanted_none rfl) (fun w' hw' => ?_) ?_
            · obtain ⟨q0, q1, q2, q3, q4, q5, q6, q7, p8, p9⟩ := HFC.out w' hw'
              go_simp
            simp only [Act.put, List.setIfInBounds_toArray, List.set_cons_zero, List.set_cons_succ]
            refine Mx.m_pure (.slice (some ⟨g, 0, none⟩) aw.length cap2) (Mx.wanted_none rfl) (fun w' hw' => ?_) ?_
            · go_simp
            simp only [Act.put, List.setIfInBounds_toArray, List.set_cons_zero, List.set_cons_succ]
            refine Mx.m_pure (.int .i64 j) (Mx.wanted_none rfl) (fun w' hw' => ?_) ?_
            · go_simp
            simp only [Act.put, List.setIfInBounds_toArray, List.set_cons_zero, List.set_cons_succ]
            refine Mx.m_pure (.pointer (some ⟨g, j * 5, none⟩)) (Mx.wanted_none rfl) (fun w' hw' => ?_) ?_
            · go_simp
            simp only [Act.put, List.setIfInBounds_toArray, List.set_cons_zero, List.set_cons_succ]
            refine Mx.m_pure (.pointer (some ⟨g, j * 5, none⟩)) (Mx.wanted_none rfl) (fun w' hw' => ?_) ?_
            · go_simp
            simp only [Act.put, List.setIfInBounds_toArray, List.set_cons_zero, List.set_cons_succ]
            refine Mx.m_pure (.bool true) (Mx.wanted_none rfl) (fun w' hw' => ?_) ?_
            · obtain ⟨q0, q1, q2, q3, q4, q5, q6, q7, p8, p9⟩ := HFC.out w' hw'
              go_simp
            simp only [Act.put, List.setIfInBounds_toArray, List.set_cons_zero, List.set_cons_succ]
            refine Mx.m_pure (.slice (some ⟨g, 0, none⟩) aw.length cap2) (Mx.wanted_none rfl) (fun w' hw' => ?_) ?_
            · go_simp
            simp only [Act.put, List.setIfInBounds_toArray, List.set_cons_zero, List.set_cons_succ]
            refine Mx.m_pure (.int .i64 j) (Mx.wanted_none rfl) (fun w' hw' => ?_) ?_
            · go_simp
            simp only [Act.put, List.setIfInBounds_toArray, List.set_cons_zero, List.set_cons_succ]
            refine Mx.m_pure (.pointer (some ⟨g, j * 5, none⟩)) (Mx.wanted_none rfl) (fun w' hw' => ?_) ?_
            · go_simp
            simp only [Act.put, List.setIfInBounds_toArray, List.set_cons_zero, List.set_cons_succ]
            refine Mx.m_pure (.pointer (some ⟨g, j * 5 + 1, none⟩)) (Mx.wanted_none rfl) (fun w' hw' => ?_) ?_
            · go_simp
            simp only [Act.put, List.setIfInBounds_toArray, List.set_cons_zero, List.set_cons_succ]
            refine Mx.m_pure (.string yn) (Mx.wanted_none rfl) (fun w' hw' => ?_) ?_
            · obtain ⟨q0, q1, q2, q3, q4, q5, q6, q7, p8, p9⟩ := HFC.out w' hw'
              go_simp
            simp only [Act.put, List.setIfInBounds_toArray, List.set_cons_zero, List.set_cons_succ]
            refine Mx.m_pure (.slice (some ⟨g, 0, none⟩) aw.length cap2) (Mx.wanted_none rfl) (fun w' hw' => ?_) ?_
            · go_simp
            simp only [Act.put, List.setIfInBounds_toArray, List.set_cons_zero, List.set_cons_succ]
            refine Mx.m_pure (.int .i64 j) (Mx.wanted_none rfl) (fun w' hw' => ?_) ?_
            · go_simp
            simp only [Act.put, List.setIfInBounds_toArray, List.set_cons_zero, List.set_cons_succ]
            refine Mx.m_pure (.pointer (some ⟨g, j * 5, none⟩)) (Mx.wanted_none rfl) (fun w' hw' => ?_) ?_
            · go_simp
            simp only [Act.put, List.setIfInBounds_toArray, List.set_cons_zero, List.set_cons_succ]
            refine Mx.m_pure (.pointer (some ⟨g, j * 5 + 2, none⟩)) (Mx.wanted_none rfl) (fun w' hw' => ?_) ?_
            · go_simp
            simp only [Act.put, List.setIfInBounds_toArray, List.set_cons_zero, List.set_cons_succ]
            refine Mx.m_pure (.string yl) (Mx.wanted_none rfl) (fun w' hw' => ?_) ?_
            · obtain ⟨q0, q1, q2, q3, q4, q5, q6, q7, p8, p9⟩ := HFC.out w' hw'
              go_simp
            simp only [Act.put, List.setIfInBounds_toArray, List.set_cons_zero, List.set_cons_succ]
            refine Mx.m_pure (.slice (some ⟨g, 0, none⟩) aw.length cap2) (Mx.wanted_none rfl) (fun w' hw' => ?_) ?_
            · go_simp
            simp only [Act.put, List.setIfInBounds_toArray, List.set_cons_zero, List.set_cons_succ]
            refine Mx.m_pure (.int .i64 j) (Mx.wanted_none rfl) (fun w' hw' => ?_) ?_
            · go_simp
            simp only [Act.put, List.setIfInBounds_toArray, List.set_cons_zero, List.set_cons_succ]
            refine Mx.m_pure (.pointer (some ⟨g, j * 5, none⟩)) (Mx.wanted_none rfl) (fun w' hw' => ?_) ?_
            · go_simp
            simp only [Act.put, List.setIfInBounds_toArray, List.set_cons_zero, List.set_cons_succ]
            refine Mx.m_pure (.pointer (some ⟨g, j * 5 + 3, none⟩)) (Mx.wanted_none rfl) (fun w' hw' => ?_) ?_
            · go_simp
            simp only [Act.put, List.setIfInBounds_toArray, List.set_cons_zero, List.set_cons_succ]
            refine Mx.m_pure (.int .i64 yd) (Mx.wanted_none rfl) (fun w' hw' => ?_) ?_
            · obtain ⟨q0, q1, q2, q3, q4, q5, q6, q7, p8, p9⟩ := HFC.out w' hw'
              go_simp
            simp only [Act.put, List.setIfInBounds_toArray, List.set_cons_zero, List.set_cons_succ]
            refine Mx.m_pure (.int .i64 (1 - ys)) (Mx.wanted_none rfl) (fun w' hw' => ?_) ?_
            · go_simp
            simp only [Act.put, List.setIfInBounds_toArray, List.set_cons_zero, List.set_cons_succ]
            refine Mx.m_pure (.agg #[.bool true, .string yn, .string yl, .int .i64 yd, .int .i64 (1 - ys)]) (Mx.wanted_none rfl) (fun w' hw' => ?_) ?_
            · go_simp
            simp only [Act.put, List.setIfInBounds_toArray, List.set_cons_zero, List.set_cons_succ]
            refine Mx.m_pure (.bool false) (Mx.wanted_none rfl) (fun w' hw' => ?_) ?_
            · go_simp
            simp only [Act.put, List.setIfInBounds_toArray, List.set_cons_zero, List.set_cons_succ]
            refine Mx.m_nil ?_
            intro _
            clear q8 q9 p0 p4
            go_wp2_with fail
            go_roundw
            case rel => exact ⟨j + 1, by omega, by go_num, HC0.out⟩
            case measure => simp [intOf] <;> omega
          · go_wp2_with fail
            have HC0 := hidC (HBZ.out.drew)
            refine Mx.wp_region_mix (fun w' => Below w7.heap.size w7 w') [(0, false), (1, false), (2, false), (3, false), (4, false), (5, false), (6, false), (7, false), (8, false), (9, false), (10, false), (11, false), (12, false), (13, false), (14, false), (15, false), (16, false), (17, false), (18, false), (19, false), (20, false), (21, false), (22, false), (23, false), (24, false), (25, false), (26, false)] (by kernel_rfl) (by kernel_rfl) HC0.out ?_ (by kernel_rfl)
            simp only [List.map_cons, List.map_nil, List.getD_cons_zero, List.getD_cons_succ]
            generalize hops : (#[_, _, _, _, _, _, _, _, _, _, _, _, _, _, _, _, _, _, _, _, _, _, _, _, _, _, _] : Array Oper) = ops
            clear hops
            refine Mx.m_pure (.slice (some ⟨g', 0, none⟩) aw.length cap4) (Mx.wanted_none rfl) (fun w' hw' => ?_) ?_
            · go_simp
            simp only [Act.put, List.setIfInBounds_toArray, List.set_cons_zero, List.set_cons_succ]
            refine Mx.m_pure (.int .i64 j) (Mx.wanted_none rfl) (fun w' hw' => ?_) ?_
            · go_simp
            simp only [Act.put, List.setIfInBounds_toArray, List.set_cons_zero, List.set_cons_succ]
            refine Mx.m_pure (.pointer (some ⟨g', j * 5, none⟩)) (Mx.wanted_none rfl) (fun w' hw' => ?_) ?_
            · go_simp
            simp only [Act.put, List.setIfInBounds_toArray, List.set_cons_zero, List.set_cons_succ]
            refine Mx.m_pure (.agg #[.bool true, .string yn, .string yl, .int .i64 yd, .int .i64 z]) (Mx.wanted_none rfl) (fun w' hw' => ?_) ?_
            · obtain ⟨q0, q1, q2, q3, q4, q5, q6, q7, p8, p9⟩ := HFC.out w' hw'
              go_simp
            simp only [Act.put, List.setIfInBounds_toArray, List.set_cons_zero, List.set_cons_succ]
            refine Mx.m_pure (.slice (some ⟨g, 0, none⟩) aw.length cap2) (Mx.wanted_none rfl) (fun w' hw' => ?_) ?_
            · go_simp
            simp only [Act.put, List.setIfInBounds_toArray, List.set_cons_zero, List.set_cons_succ]
            refine Mx.m_pure (.int .i64 j) (Mx.wanted_none rfl) (fun w' hw' => ?_) ?_
            · go_simp
            simp only [Act.put, List.setIfInBounds_toArray, List.set_cons_zero, List.set_cons_succ]
            refine Mx.m_pure (.pointer (some ⟨g, j * 5, none⟩)) (Mx.wanted_none rfl) (fun w' hw' => ?_) ?_
            · go_simp
            simp only [Act.put, List.setIfInBounds_toArray, List.set_cons_zero, List.set_cons_succ]
            refine Mx.m_pure (.pointer (some ⟨g, j * 5, none⟩)) (Mx.wanted_none rfl) (fun w' hw' => ?_) ?_
            · go_simp
            simp only [Act.put, List.setIfInBounds_toArray, List.set_cons_zero, List.set_cons_succ]
            refine Mx.m_pure (.bool true) (Mx.wanted_none rfl) (fun w' hw' => ?_) ?_
            · obtain ⟨q0, q1, q2, q3, q4, q5, q6, q7, p8, p9⟩ := HFC.out w' hw'
              go_simp
            simp only [Act.put, List.setIfInBounds_toArray, List.set_cons_zero, List.set_cons_succ]
            refine Mx.m_pure (.slice (some ⟨g, 0, none⟩) aw.length cap2) (Mx.wanted_none rfl) (fun w' hw' => ?_) ?_
            · go_simp
            simp only [Act.put, List.setIfInBounds_toArray, List.set_cons_zero, List.set_cons_succ]
            refine Mx.m_pure (.int .i64 j) (Mx.wanted_none rfl) (fun w' hw' => ?_) ?_
            · go_simp
            simp only [Act.put, List.setIfInBounds_toArray, List.set_cons_zero, List.set_cons_succ]
            refine Mx.m_pure (.pointer (some ⟨g, j * 5, none⟩)) (Mx.wanted_none rfl) (fun w' hw' => ?_) ?_
            · go_simp
            simp only [Act.put, List.setIfInBounds_toArray, List.set_cons_zero, List.set_cons_succ]
            refine Mx.m_pure (.pointer (some ⟨g, j * 5 + 1, none⟩)) (Mx.wanted_none rfl) (fun w' hw' => ?_) ?_
            · go_simp
            simp only [Act.put, List.setIfInBounds_toArray, List.set_cons_zero, List.set_cons_succ]
            refine Mx.m_pure (.string yn) (Mx.wanted_none rfl) (fun w' hw' => ?_) ?_
            · obtain ⟨q0, q1, q2, q3, q4, q5, q6, q7, p8, p9⟩ := HFC.out w' hw'
              go_simp
            simp only [Act.put, List.setIfInBounds_toArray, List.set_cons_zero, List.set_cons_succ]
            refine Mx.m_pure (.slice (some ⟨g, 0, none⟩) aw.length cap2) (Mx.wanted_none rfl) (fun w' hw' => ?_) ?_
            · go_simp
            simp only [Act.put, List.setIfInBounds_toArray, List.set_cons_zero, List.set_cons_succ]
            refine Mx.m_pure (.int .i64 j) (Mx.wanted_none rfl) (fun w' hw' => ?_) ?_
            · go_simp
            simp only [Act.put, List.setIfInBounds_toArray, List.set_cons_zero, List.set_cons_succ]
            refine Mx.m_pure (.pointer (some ⟨g, j * 5, none⟩)) (Mx.wanted_none rfl) (fun w' hw' => ?_) ?_
            · go_simp
            simp only [Act.put, List.setIfInBounds_toArray, List.set_cons_zero, List.set_cons_succ]
            refine Mx.m_pure (.pointer (some ⟨g, j * 5 + 2, none⟩)) (Mx.wanted_none rfl) (fun w' hw' => ?_) ?_
            · go_simp
            simp only [Act.put, List.setIfInBounds_toArray, List.set_cons_zero, List.set_cons_succ]
            refine Mx.m_pure (.string yl) (Mx.wanted_none rfl) (fun w' hw' => ?_) ?_
            · obtain ⟨q0, q1, q2, q3, q4, q5, q6, q7, p8, p9⟩ := HFC.out w' hw'
              go_simp
            simp only [Act.put, List.setIfInBounds_toArray, List.set_cons_zero, List.set_cons_succ]
            refine Mx.m_pure (.slice (some ⟨g, 0, none⟩) aw.length cap2) (Mx.wanted_none rfl) (fun w' hw' => ?_) ?_
            · go_simp
            simp only [Act.put, List.setIfInBounds_toArray, List.set_cons_zero, List.set_cons_succ]
            refine Mx.m_pure (.int .i64 j) (Mx.wanted_none rfl) (fun w' hw' => ?_) ?_
            · go_simp
            simp only [Act.put, List.setIfInBounds_toArray, List.set_cons_zero, List.set_cons_succ]
            refine Mx.m_pure (.pointer (some ⟨g, j * 5, none⟩)) (Mx.wanted_none rfl) (fun w' hw' => ?_) ?_
            · go_simp
            simp only [Act.put, List.setIfInBounds_toArray, List.set_cons_zero, List.set_cons_succ]
            refine Mx.m_pure (.pointer (some ⟨g, j * 5 + 3, none⟩)) (Mx.wanted_none rfl) (fun w' hw' => ?_) ?_
            · go_simp
            simp only [Act.put, List.setIfInBounds_toArray, List.set_cons_zero, List.set_cons_succ]
            refine Mx.m_pure (.int .i64 yd) (Mx.wanted_none rfl) (fun w' hw' => ?_) ?_
            · obtain ⟨q0, q1, q2, q3, q4, q5, q6, q7, p8, p9⟩ := HFC.out w' hw'
              go_simp
            simp only [Act.put, List.setIfInBounds_toArray, List.set_cons_zero, List.set_cons_succ]
            refine Mx.m_pure (.int .i64 z) (Mx.wanted_none rfl) (fun w' hw' => ?_) ?_
            · go_simp
            simp only [Act.put, List.setIfInBounds_toArray, List.set_cons_zero, List.set_cons_succ]
            refine Mx.m_pure (.agg #[.bool true, .string yn, .string yl, .int .i64 yd, .int .i64 z]) (Mx.wanted_none rfl) (fun w' hw' => ?_) ?_
            · go_simp
            simp only [Act.put, List.setIfInBounds_toArray, List.set_cons_zero, List.set_cons_succ]
            refine Mx.m_pure (.bool false) (Mx.wanted_none rfl) (fun w' hw' => ?_) ?_
            · go_simp
            simp only [Act.put, List.setIfInBounds_toArray, List.set_cons_zero, List.set_cons_succ]
            refine Mx.m_nil ?_
            intro _
            clear q8 q9 p0 p4
            go_wp2_with fail
            go_roundw
            case rel => exact ⟨j + 1, by omega, by go_num, HC0.out⟩
            case measure => simp [intOf] <;> omega
          · go_wp2_with fail
            have HC0 := hidC (HBZ.out.drew)
            refine Mx.wp_region_mix (fun w' => Below w7.heap.size w7 w') [(0, false), (1, false), (2, false), (3, false), (4, false), (5, false), (6, false), (7, false), (8, false), (9, false), (10, false), (11, false), (12, false), (13, false), (14, false), (15, false), (16, false), (17, false), (18, false), (19, false), (20, false), (21, false), (22, false), (23, false), (24, false), (25, false), (26, false)] (by kernel_rfl) (by kernel_rfl) HC0.out ?_ (by kernel_rfl)
            simp only [List.map_cons, List.map_nil, List.getD_cons_zero, List.getD_cons_succ]
            generalize hops : (#[_, _, _, _, _, _, _, _, _, _, _, _, _, _, _, _, _, _, _, _, _, _, _, _, _, _, _] : Array Oper) = ops
            clear hops
            refine Mx.m_pure (.slice (some ⟨g', 0, none⟩) aw.length cap4) (Mx.wanted_none rfl) (fun w' hw' => ?_) ?_
            · go_simp
            simp only [Act.put, List.setIfInBounds_toArray, List.set_cons_zero, List.set_cons_succ]
            refine Mx.m_pure (.int .i64 j) (Mx.wanted_none rfl) (fun w' hw' => ?_) ?_
            · go_simp
            simp only [Act.put, List.setIfInBounds_toArray, List.set_cons_zero, List.set_cons_succ]
            refine Mx.m_pure (.pointer (some ⟨g', j * 5, none⟩)) (Mx.wanted_none rfl) (fun w' hw' => ?_) ?_
            · go_simp
            simp only [Act.put, List.setIfInBounds_toArray, List.set_cons_zero, List.set_cons_succ]
            refine Mx.m_pure (.agg #[.bool false, .string yn, .string yl, .int .i64 yd, .int .i64 z]) (Mx.wanted_none rfl) (fun w' hw' => ?_) ?_
            · obtain ⟨q0, q1, q2, q3, q4, q5, q6, q7, p8, p9⟩ := HFC.out w' hw'
              go_simp
            simp only [Act.put, List.setIfInBounds_toArray, List.set_cons_zero, List.set_cons_succ]
            refine Mx.m_pure (.slice (some ⟨g, 0, none⟩) aw.length cap2) (Mx.wanted_none rfl) (fun w' hw' => ?_) ?_
            · go_simp
            simp only [Act.put, List.setIfInBounds_toArray, List.set_cons_zero, List.set_cons_succ]
            refine Mx.m_pure (.int .i64 j) (Mx.wanted_none rfl) (fun w' hw' => ?_) ?_
            · go_simp
            simp only [Act.put, List.setIfInBounds_toArray, List.set_cons_zero, List.set_cons_succ]
            refine Mx.m_pure (.pointer (some ⟨g, j * 5, none⟩)) (Mx.wanted_none rfl) (fun w' hw' => ?_) ?_
            · go_simp
            simp only [Act.put, List.setIfInBounds_toArray, List.set_cons_zero, List.set_cons_succ]
            refine Mx.m_pure (.pointer (some ⟨g, j * 5, none⟩)) (Mx.wanted_none rfl) (fun w' hw' => ?_) ?_
            · go_simp
            simp only [Act.put, List.setIfInBounds_toArray, List.set_cons_zero, List.set_cons_succ]
            refine Mx.m_pure (.bool false) (Mx.wanted_none rfl) (fun w' hw' => ?_) ?_
            · obtain ⟨q0, q1, q2, q3, q4, q5, q6, q7, p8, p9⟩ := HFC.out w' hw'
              go_simp
            simp only [Act.put, List.setIfInBounds_toArray, List.set_cons_zero, List.set_cons_succ]
            refine Mx.m_pure (.slice (some ⟨g, 0, none⟩) aw.length cap2) (Mx.wanted_none rfl) (fun w' hw' => ?_) ?_
            · go_simp
            simp only [Act.put, List.setIfInBounds_toArray, List.set_cons_zero, List.set_cons_succ]
            refine Mx.m_pure (.int .i64 j) (Mx.wanted_none rfl) (fun w' hw' => ?_) ?_
            · go_simp
            simp only [Act.put, List.setIfInBounds_toArray, List.set_cons_zero, List.set_cons_succ]
            refine Mx.m_pure (.pointer (some ⟨g, j * 5, none⟩)) (Mx.wanted_none rfl) (fun w' hw' => ?_) ?_
            · go_simp
            simp only [Act.put, List.setIfInBounds_toArray, List.set_cons_zero, List.set_cons_succ]
            refine Mx.m_pure (.pointer (some ⟨g, j * 5 + 1, none⟩)) (Mx.wanted_none rfl) (fun w' hw' => ?_) ?_
            · go_simp
            simp only [Act.put, List.setIfInBounds_toArray, List.set_cons_zero, List.set_cons_succ]
            refine Mx.m_pure (.string yn) (Mx.wanted_none rfl) (fun w' hw' => ?_) ?_
            · obtain ⟨q0, q1, q2, q3, q4, q5, q6, q7, p8, p9⟩ := HFC.out w' hw'
              go_simp
            simp only [Act.put, List.setIfInBounds_toArray, List.set_cons_zero, List.set_cons_succ]
            refine Mx.m_pure (.slice (some ⟨g, 0, none⟩) aw.length cap2) (Mx.wanted_none rfl) (fun w' hw' => ?_) ?_
            · go_simp
            simp only [Act.put, List.setIfInBounds_toArray, List.set_cons_zero, List.set_cons_succ]
            refine Mx.m_pure (.int .i64 j) (Mx.wanted_none rfl) (fun w' hw' => ?_) ?_
            · go_simp
            simp only [Act.put, List.setIfInBounds_toArray, List.set_cons_zero, List.set_cons_succ]
            refine Mx.m_pure (.pointer (some ⟨g, j * 5, none⟩)) (Mx.wanted_none rfl) (fun w' hw' => ?_) ?_
            · go_simp
            simp only [Act.put, List.setIfInBounds_toArray, List.set_cons_zero, List.set_cons_succ]
            refine Mx.m_pure (.pointer (some ⟨g, j * 5 + 2, none⟩)) (Mx.wanted_none rfl) (fun w' hw' => ?_) ?_
            · go_simp
            simp only [Act.put, List.setIfInBounds_toArray, List.set_cons_zero, List.set_cons_succ]
            refine Mx.m_pure (.string yl) (Mx.wanted_none rfl) (fun w' hw' => ?_) ?_
            · obtain ⟨q0, q1, q2, q3, q4, q5, q6, q7, p8, p9⟩ := HFC.out w' hw'
              go_simp
            simp only [Act.put, List.setIfInBounds_toArray, List.set_cons_zero, List.set_cons_succ]
            refine Mx.m_pure (.slice (some ⟨g, 0, none⟩) aw.length cap2) (Mx.wanted_none rfl) (fun w' hw' => ?_) ?_
            · go_simp
            simp only [Act.put, List.setIfInBounds_toArray, List.set_cons_zero, List.set_cons_succ]
            refine Mx.m_pure (.int .i64 j) (Mx.wanted_none rfl) (fun w' hw' => ?_) ?_
            · go_simp
            simp only [Act.put, List.setIfInBounds_toArray, List.set_cons_zero, List.set_cons_succ]
            refine Mx.m_pure (.pointer (some ⟨g, j * 5, none⟩)) (Mx.wanted_none rfl) (fun w' hw' => ?_) ?_
            · go_simp
            simp only [Act.put, List.setIfInBounds_toArray, List.set_cons_zero, List.set_cons_succ]
            refine Mx.m_pure (.pointer (some ⟨g, j * 5 + 3, none⟩)) (Mx.wanted_none rfl) (fun w' hw' => ?_) ?_
            · go_simp
            simp only [Act.put, List.setIfInBounds_toArray, List.set_cons_zero, List.set_cons_succ]
            refine Mx.m_pure (.int .i64 yd) (Mx.wanted_none rfl) (fun w' hw' => ?_) ?_
            · obtain ⟨q0, q1, q2, q3, q4, q5, q6, q7, p8, p9⟩ := HFC.out w' hw'
              go_simp
            simp only [Act.put, List.setIfInBounds_toArray, List.set_cons_zero, List.set_cons_succ]
            refine Mx.m_pure (.int .i64 z) (Mx.wanted_none rfl) (fun w' hw' => ?_) ?_
            · go_simp
            simp only [Act.put, List.setIfInBounds_toArray, List.set_cons_zero, List.set_cons_succ]
            refine Mx.m_pure (.agg #[.bool false, .string yn, .string yl, .int .i64 yd, .int .i64 z]) (Mx.wanted_none rfl) (fun w' hw' => ?_) ?_
            · go_simp
            simp only [Act.put, List.setIfInBounds_toArray, List.set_cons_zero, List.set_cons_succ]
            refine Mx.m_pure (.bool false) (Mx.wanted_none rfl) (fun w' hw' => ?_) ?_
            · go_simp
            simp only [Act.put, List.setIfInBounds_toArray, List.set_cons_zero, List.set_cons_succ]
            refine Mx.m_nil ?_
            intro _
            clear q8 q9 p0 p4
            go_wp2_with fail
            go_roundw
            case rel => exact ⟨j + 1, by omega, by go_num, HC0.out⟩
            case measure => simp [intOf] <;> omega
        · go_wp2_with fail
          refine (wakes10_any wr).mono ?_
          rintro e w8 ⟨rfl, hb8⟩
          have HEND := hidC ((HW7.out.trans (HBZ.out.mono HW7.out.size)).trans (hb8.mono (Nat.le_trans HW7.out.size HBZ.out.size)))
          clear hb8
          go_wp2_with fail
          go_ret
          exact ⟨rfl, HEND.out⟩

end Go.Proofs.Ytngjlkdpplmpaab.Ca
