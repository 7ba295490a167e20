/- The walk of CashMany. -/
import Derived.Test.YtngjlkdpplmpaaaCm1
import Derived.Test.YtngjlkdpplmpaaaMix
namespace Go.Proofs.Ytngjlkdpplmpaaa.Ca
open Go.RowKit Wd Cn Vl
set_option linter.unusedVariables false

theorem wrapS (x : Int) (h1 : -9223372036854775808 ≤ x) (h2 : x ≤ 9223372036854775807) : IntKind.i64.wrap x = x := by
  rw [IntKind.wrap_i64]; omega
/-- A contract of i payments, and what it pays from a day on. -/
structure ManyIs (i : Nat) (c : C) (s : Int) (l : List Fl) : Prop where
  form : formC c = true
  nodes : c.nodes ≤ 1 + 5 * i
  depth : c.depth ≤ 3 + i
  labs : c.labels = []
  ok : c.Ok
  wt : c.weight ≤ 1 + 5 * i
  pays : ck ⟨[], []⟩ tN c s 1 = ⟨l, [], 0⟩
  len : l.length ≤ i
def manyC (c : C) (d n : Int) : C := .and c (.when d (.scale (.const n) (.one usd)))
theorem ManyIs.zero (s : Int) : ManyIs 0 .zero s [] := ⟨rfl, by decide, by decide, rfl, trivial, by decide, rfl, by simp⟩
theorem ManyIs.next {i : Nat} {c : C} {s : Int} {l : List Fl} (h : ManyIs i c s l) (d n m : Int) (hd1 : 0 ≤ d) (hd2 : d ≤ 10000) (hn1 : -100 ≤ n) (hn2 : n ≤ 100) (hm : Max.max s d = m) :
    ManyIs (i + 1) (manyC c d n) s (if n = 0 then l else l ++ [⟨m, usd, n⟩]) := by
  have vn : vB n = true := (vB_iff n).2 ⟨by omega, by omega⟩
  have hmul : mulR 1 n = (n, true) := by rw [mulR_ok rfl vn (by rw [Int.one_mul]; exact vn), Int.one_mul]
  refine ⟨?_, ?_, ?_, ?_, ?_, ?_, ?_, ?_⟩
  · simp only [manyC, formC, h.form, (dayB_iff d).2 ⟨hd1, hd2⟩, formB, vn]; rfl
  · simp only [manyC, C.nodes, O.nodes]; have := h.nodes; omega
  · simp only [manyC, C.depth, O.depth]; have := h.depth; omega
  · simp [manyC, C.labels, h.labs]
  · exact ⟨h.ok, ⟨by omega, by omega⟩, ⟨by omega, by omega⟩, show usd.size ≤ 2147483648 by decide⟩
  · simp only [manyC, C.weight, O.nodes]; have := h.wt; omega
  · simp only [manyC, ck, h.pays, Ck.seq, rk, hmul, hm]
    by_cases h0 : n = 0
    · simp [h0]
    · simp [h0]
  · have := h.len
    split
    · omega
    · simp; omega
theorem ManyIs.of {i : Nat} {c : C} {s : Int} {l : List Fl} (h : ManyIs i c s l) (hi : i ≤ 8) (h1 : 0 ≤ s) (h2 : s ≤ 10000) : ofK ⟨[], []⟩ tN c s = ⟨l, [], 0⟩ := by
  have hc : chkC c = 0 := chkC_by h.form (by have := h.nodes; omega) (by have := h.depth; omega) (by rw [h.labs]; rfl)
  unfold ofK
  rw [if_pos ⟨hc, h1, h2⟩, h.pays, if_pos rfl]
  rfl
theorem ManyIs.iface {i : Nat} {c : C} {s : Int} {l : List Fl} (h : ManyIs i c s l) : ∃ t x, c.val = .iface t x := form_val c h.form

set_option maxHeartbeats 8000000 in
set_option maxRecDepth 100000 in
theorem many_walk (da : Option Addr) (dl dc : Nat) (df : Nat → Int) (na : Option Addr) (nl nc : Nat) (nf : Nat → Int) (start : Int) (w : World) (hda : HasInts w da dl df) (hdl : dl ≤ 9223372036854775807) (hna : HasInts w na nl nf) (hnl : nl ≤ 9223372036854775807) (c1 : -9223372036854775808 ≤ start) (c2 : start ≤ 9223372036854775807) :
    Calls Try.prog 5 #[.slice da dl dc, .slice na nl nc, .int .i64 start] w fun e w' => e = .returned (.bool true) ∧ Below w.heap.size w w' := by
  have HD := hidC hda
  have HN := hidC hna
  have HWA := hidC (fun w : World => within_any start 20 w (by omega) (by omega) c1 c2)
  obtain ⟨s, hs⟩ : ∃ s, start % 20 = s := ⟨_, rfl⟩
  have hs1 : 0 ≤ s := by omega
  have hs2 : s < 20 := by omega
  rw [hs] at HWA
  clear hs c1 c2 hda hna
  obtain ⟨i0, hi, hz⟩ := Option.map_eq_some_iff.1 infoFl
  simp only [Prod.mk.injEq] at hz
  obtain ⟨hz0, hz1, hz2⟩ := hz
  have HZV : Hid (C.zero.val = .iface 62 (.agg #[])) := rfl
  go_enter Try.func5, Try.ntmps5
  go_wp2_with fail
  refine calls_same (HWA.out _) ?_
  go_wp2_with fail
  go_loopw [9, 7, 8] (fun s9 s7 s8 wr => ∃ (i : Nat) (c : C) (l : List Fl), s9 = .int .i64 i ∧ i ≤ 8 ∧ i ≤ dl ∧ i ≤ nl ∧ s7 = c.val ∧ ManyIs i c s l ∧ wr.ownsRow w.heap.size 46 3 s8 l.length (rowFl l) ∧ Below w.heap.size w wr) (fun s9 _ _ _ => 8 - (intOf s9).toNat)
  case atStart => exact ⟨0, .zero, [], rfl, by omega, by omega, by omega, rfl, ManyIs.zero s, World.ownsRow_nil _ _ _ _, Below.refl _ _⟩
  case round =>
    obtain ⟨i, c, l, rfl, hi8, hid, hin, rfl, him, hrow, hb⟩ := hrel
    have HIM := hidC him
    obtain ⟨vo, vc, rfl⟩ := row_shape hrow
    have HROW := hidC hrow
    have HB := hidC hb
    obtain ⟨t, x, hx⟩ := him.iface
    have HX := hidC hx
    rw [hx]
    clear him hrow hb hx
    by_cases hlt : i < dl ∧ i < nl ∧ i < 8
    · obtain ⟨g1, g2, g3⟩ := hlt
      have g1' : (i : Int) < (dl : Int) := by omega
      have g2' : (i : Int) < (nl : Int) := by omega
      have g3' : (i : Int) < 8 := by omega
      obtain ⟨lb, lo, rfl, hlb, hlc, hf1, hf2⟩ := HD.out i g1
      obtain ⟨mb, mo, rfl, hmb, hmc, hk1, hk2⟩ := HN.out i g2
      have HC1 : Hid (∀ w', Below w.heap.size w w' → w'.cell? ⟨lb, lo + i, none⟩ = some (.int .i64 (df i)) ∧ w'.cell? ⟨mb, mo + i, none⟩ = some (.int .i64 (nf i))) := fun w' hw' => ⟨(hw'.cell (p := ⟨lb, lo + i, none⟩) hlb).trans hlc, (hw'.cell (p := ⟨mb, mo + i, none⟩) hmb).trans hmc⟩
      have HW40 := hidC (fun w : World => within_any (df i) 40 w (by omega) (by omega) hf1 hf2)
      have HW201 := hidC (fun w : World => within_any (nf i) 201 w (by omega) (by omega) hk1 hk2)
      obtain ⟨d, hd⟩ : ∃ d, df i % 40 = d := ⟨_, rfl⟩
      obtain ⟨u, hu⟩ : ∃ u, nf i % 201 = u := ⟨_, rfl⟩
      have hd1 : 0 ≤ d := by omega
      have hd2 : d < 40 := by omega
      have hu1 : 0 ≤ u := by omega
      have hu2 : u < 201 := by omega
      rw [hd] at HW40
      rw [hu] at HW201
      clear hlc hmc hd hu hf1 hf2 hk1 hk2
      obtain ⟨m, hm⟩ : ∃ m, Max.max s d = m := ⟨_, rfl⟩
      have HNX := hidC (HIM.out.next d (u - 100) m hd1 (by omega) (by omega) (by omega) hm)
      have HOR : Hid ((d < s ∧ m = s) ∨ (s ≤ d ∧ m = d)) := by unfold Hid; omega
      have HVN : Hid ((manyC c d (u - 100)).val = .iface 64 (.agg #[c.val, .iface 56 (.agg #[.int .i64 d, .iface 30 (.agg #[.iface 26 (.agg #[.int .i64 (u - 100)]), .iface 24 (.agg #[.string ⟨#[117, 115, 100]⟩])])])])) := rfl
      rw [HX.out] at HVN
      have hll : l.length ≤ 8 := by have := HIM.out.len; omega
      clear hm
      go_wp2_with fail
      have HC0 := hidC (HB.out.drew)
      refine Mx.wp_region_mix (fun w' => Below w.heap.size w w') [(0, false), (1, false), (2, false), (3, false), (5, false), (6, false), (7, false), (8, false), (4, true), (9, true), (10, false), (11, false), (12, false)] (by kernel_rfl) (by kernel_rfl) HC0.out ?_ (by kernel_rfl)
      simp only [List.map_cons, List.map_nil, List.getD_cons_zero, List.getD_cons_succ]
      generalize hops : (#[_, _, _, _, _, _, _, _, _, _, _, _, _] : Array Oper) = ops
      clear hops
      refine Mx.m_pure (.slice (some ⟨lb, lo, none⟩) dl dc) (Mx.wanted_none rfl) (fun w' hw' => ?_) ?_
      · go_simp
      simp only [Act.put, List.setIfInBounds_toArray, List.set_cons_zero, List.set_cons_succ]
      refine Mx.m_pure (.int .i64 i) (Mx.wanted_none rfl) (fun w' hw' => ?_) ?_
      · go_simp
      simp only [Act.put, List.setIfInBounds_toArray, List.set_cons_zero, List.set_cons_succ]
      refine Mx.m_pure (.pointer (some ⟨lb, lo + i, none⟩)) (Mx.wanted_none rfl) (fun w' hw' => ?_) ?_
      · go_simp
      simp only [Act.put, List.setIfInBounds_toArray, List.set_cons_zero, List.set_cons_succ]
      refine Mx.m_pure (.int .i64 (df i)) (Mx.wanted_none rfl) (fun w' hw' => ?_) ?_
      · obtain ⟨q0, q1⟩ := HC1.out w' hw'
        go_simp
      simp only [Act.put, List.setIfInBounds_toArray, List.set_cons_zero, List.set_cons_succ]
      refine Mx.m_pure (.slice (some ⟨mb, mo, none⟩) nl nc) (Mx.wanted_none rfl) (fun w' hw' => ?_) ?_
      · go_simp
      simp only [Act.put, List.setIfInBounds_toArray, List.set_cons_zero, List.set_cons_succ]
      refine Mx.m_pure (.int .i64 i) (Mx.wanted_none rfl) (fun w' hw' => ?_) ?_
      · go_simp
      simp only [Act.put, List.setIfInBounds_toArray, List.set_cons_zero, List.set_cons_succ]
      refine Mx.m_pure (.pointer (some ⟨mb, mo + i, none⟩)) (Mx.wanted_none rfl) (fun w' hw' => ?_) ?_
      · go_simp
      simp only [Act.put, List.setIfInBounds_toArray, List.set_cons_zero, List.set_cons_succ]
      refine Mx.m_pure (.int .i64 (nf i)) (Mx.wanted_none rfl) (fun w' hw' => ?_) ?_
      · obtain ⟨q0, q1⟩ := HC1.out w' hw'
        go_simp
      simp only [Act.put, List.setIfInBounds_toArray, List.set_cons_zero, List.set_cons_succ]
      refine Mx.m_call 9 #[.int .i64 (df i), .int .i64 40] (Mx.wanted_none rfl) ?_ ?_
      · go_simp
      refine (HW40.out _).mono ?_
      rintro e1 w1 ⟨rfl, rfl⟩
      refine ⟨_, rfl, HC0.out, ?_⟩
      simp only [Act.put, List.setIfInBounds_toArray, List.set_cons_zero, List.set_cons_succ]
      refine Mx.m_call 9 #[.int .i64 (nf i), .int .i64 201] (Mx.wanted_none rfl) ?_ ?_
      · go_simp
      refine (HW201.out _).mono ?_
      rintro e1 w1 ⟨rfl, rfl⟩
      refine ⟨_, rfl, HC0.out, ?_⟩
      simp only [Act.put, List.setIfInBounds_toArray, List.set_cons_zero, List.set_cons_succ]
      refine Mx.m_pure (.int .i64 (u - 100)) (Mx.wanted_none rfl) (fun w' hw' => ?_) ?_
      · go_simp
        exact wrapS _ (by omega) (by omega)
      simp only [Act.put, List.setIfInBounds_toArray, List.set_cons_zero, List.set_cons_succ]
      refine Mx.m_pure (.int .i64 d) (Mx.wanted_none rfl) (fun w' hw' => ?_) ?_
      · go_simp
      simp only [Act.put, List.setIfInBounds_toArray, List.set_cons_zero, List.set_cons_succ]
      refine Mx.m_pure (.int .i64 (u - 100)) (Mx.wanted_none rfl) (fun w' hw' => ?_) ?_
      · go_simp
      simp only [Act.put, List.setIfInBounds_toArray, List.set_cons_zero, List.set_cons_succ]
      refine Mx.m_nil ?_
      intro _
      have HB1 := hidC HB.out.drew
      have HROW1 : Hid (wr.drew.ownsRow w.heap.size 46 3 (.slice vo l.length vc) l.length (rowFl l)) := HROW.out
      generalize wr.drew = X at *
      by_cases h0 : u - 100 = 0
      · rw [if_pos h0] at HNX
        have h0' : ((u - 100 != 0) = false) := by simpa using h0
        clear h0
        go_wp2_with fail
        go_roundw
        case rel => exact ⟨i + 1, _, l, by go_num, by omega, by omega, by omega, HVN.out.symm, HNX.out, HROW1.out, HB1.out⟩
        case measure => simp [intOf] <;> omega
      · rw [if_neg h0] at HNX
        have h0' : ((u - 100 != 0) = true) := by simpa using h0
        rcases HOR.out with ⟨ho, rfl⟩ | ⟨ho, rfl⟩
        all_goals
          go_wp2_with (first
            | (at_builtin; refine wpList_append_own _ rfl _ _ 37 rfl w.heap.size 46 i0 (.agg #[.int .i64 0, .string ByteArray.empty, .int .i64 0]) 3 32 Try.underlying37 hi hz0 hz1 hz2 rfl (by decide) _ _ _ rfl (HROW1.out.alloc _) ⟨X.heap.size, 0, none⟩ 1 1 [.int .i64 m, .string ⟨#[117, 115, 100]⟩, .int .i64 (u - 100)] rfl rfl (cells_new X #[.int .i64 m, .string ⟨#[117, 115, 100]⟩, .int .i64 (u - 100)] 46) (by intro y hy; simp at hy; rcases hy with rfl | rfl | rfl <;> rfl) (by unfold maxLen; omega) (by omega) (by have := HB1.out.size; simp; omega) ?_; intro v4 w4 hown4 hgrow4 _)
            | go_in)
          have HR4 : Hid (w4.ownsRow w.heap.size 46 3 v4 (l ++ [(⟨m, usd, u - 100⟩ : Fl)]).length (rowFl (l ++ [⟨m, usd, u - 100⟩]))) := by
            unfold Hid
            rw [rowFl_app, List.length_append]
            exact hown4
          have HB4 : Hid (Below w.heap.size w w4) := (below_alloc HB1.out _).grown hgrow4 (by have := HB1.out.size; simp; omega) (fun j hj => (HROW1.out.lt j hj).1)
          clear hown4 hgrow4
          go_wp2_with fail
          go_roundw
          case rel => exact ⟨i + 1, _, _, by go_num, by omega, by omega, by omega, HVN.out.symm, HNX.out, HR4.out, HB4.out⟩
          case measure => simp [intOf] <;> omega
    · have HOF := hidC (HIM.out.of hi8 hs1 (by omega))
      have HLL : Hid (l.length ≤ 8) := Nat.le_trans HIM.out.len hi8
      have HOKC := hidC HIM.out.ok
      have HWT : Hid (c.weight ≤ 1000000) := Nat.le_trans HIM.out.wt (by omega)
      obtain ⟨bo, bcap, hbv, hfl⟩ := own_fls HROW.out
      simp only [Value.slice.injEq] at hbv
      obtain ⟨rfl, -, rfl⟩ := hbv
      have HFL := hidC hfl
      clear hfl
      rcases (by omega : ((i : Int) < (dl : Int) ∧ (i : Int) < (nl : Int) ∧ ¬ (i : Int) < 8) ∨ ((i : Int) < (dl : Int) ∧ ¬ (i : Int) < (nl : Int)) ∨ ¬ (i : Int) < (dl : Int)) with ⟨h1, h2, h3⟩ | ⟨h1, h2⟩ | h1
      all_goals
        clear hlt
        go_wp2_with fail
        refine (new_in' wr).mono ?_
        rintro e1 w1 ⟨b, f, q, rfl, hi'⟩
        have HI : Hid (In wr w1 b f q ⟨[], []⟩) := hi'
        clear hi'
        go_wp2_with fail
        have HCO := hidC (cash_at c HOKC.out HWT.out w1 b f q ⟨[], []⟩ tN (env_new HI.out.kin _ (by decide)) s ⟨by omega, by omega⟩ _ HOF.out)
        rw [HX.out] at HCO
        unfold tN at HCO
        refine HCO.out.mono ?_
        rintro e2 w2 ⟨ao, cap, co, cap2, rfl, hA, hB, hb2⟩
        have HI2 := hidC (HI.out.step hb2)
        have HA := hidC hA
        clear hA hB hb2 HCO
        simp only [List.length_nil]
        go_wp2_with fail
        refine (sameF_any w2 ao _ cap _ l l HA.out (HFL.out.below HI2.out.below) (by have := HLL.out; omega) (by have := HLL.out; omega)).mono ?_
        rintro e3 w3 ⟨rfl, hb3⟩
        have HI3 := hidC (HI2.out.step hb3)
        clear hb3
        rw [decide_eq_true rfl]
        go_wp2_with fail
        refine (wakes10_any w3).mono ?_
        rintro e4 w4 ⟨rfl, hb4⟩
        have HI4 := hidC (HI3.out.step hb4)
        clear hb4
        go_wp2_with fail
        go_ret
        exact ⟨rfl, HB.out.trans (HI4.out.below.mono HB.out.size)⟩

end Go.Proofs.Ytngjlkdpplmpaaa.Ca
