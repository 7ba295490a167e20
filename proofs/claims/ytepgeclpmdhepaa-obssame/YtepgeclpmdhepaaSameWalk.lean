/- The walk of the statement ObsSame. -/
import Derived.Test.YtepgeclpmdhepaaNumber
import Derived.Test.YtepgeclpmdhepaaSameO
namespace Go.Proofs.Ytepgeclpmdhepaa
open Go.RowKit
set_option linter.unusedVariables false

theorem same_neg (o : O) : sameO (.neg o) o = false := by
  have h : ∀ o : O, sameO (.neg o) o = false := by
    intro o
    induction o with
    | neg o ih => simp only [sameO]; exact ih
    | _ => rfl
  exact h o

set_option maxHeartbeats 4000000 in
set_option maxRecDepth 100000 in
theorem obsSame_walk (p : Pl) (n : Int) (w : World) (hp : PlanIn w p) (h1 : -9223372036854775808 ≤ n) (h2 : n ≤ 9223372036854775807) :
    Calls Try.prog 3 #[planV p, .int .i64 n] w fun e w' => e = .returned (.bool true) ∧ Below w.heap.size w w' := by
  obtain ⟨q, hq⟩ : ∃ q : Nat, n % 100 = q := ⟨(n % 100).toNat, by omega⟩
  have hq4 : q < 100 := by omega
  have HP : Hid (PlanIn w p) := hp
  have HN := Hid.in (number_any p)
  have HWH := Hid.in (numP_whole p)
  have HOK := Hid.in (whole_ok _ (numP_whole p))
  unfold planV
  clear hp
  obtain ⟨W, hW⟩ : ∃ W, W = w.alloc (.cells #[.slice p.na p.nl p.nc, .slice p.wa p.wl p.wc] 25) := ⟨_, rfl⟩
  have HB : Hid (Below w.heap.size w W) := by rw [hW]; exact below_alloc (Below.refl _ _) _
  have HBK : Hid (W.heap[w.heap.size]? = some (.cells #[.slice p.na p.nl p.nc, .slice p.wa p.wl p.wc] 25 (0, 0))) := by rw [hW]; exact heap_alloc_new _ _
  have HF : Hid (∀ w', Below W.heap.size W w' → w'.cell? ⟨w.heap.size, 0, none⟩ = some (.slice p.na p.nl p.nc) ∧ w'.cell? ⟨w.heap.size, 1, none⟩ = some (.slice p.wa p.wl p.wc) ∧ PlanIn w' p) := fun w' hw' => by
    have hlt : w.heap.size < W.heap.size := (Array.getElem?_eq_some_iff.1 HBK.out).1
    have hbk := (hw'.block _ hlt).trans HBK.out
    exact ⟨(cell_of_row _ _ _ _ _ _ hbk).trans rfl, (cell_of_row _ _ _ _ _ _ hbk).trans rfl, (HP.out.below HB.out).below hw'⟩
  have HN2 : Hid (∀ X, Below W.heap.size W X → Calls Try.prog 10 #[.agg #[.slice p.na p.nl p.nc, .slice p.wa p.wl p.wc]] X (fun e w' => ∃ v, e = .returned v ∧ Below W.heap.size W w' ∧ TIn w' 0 (plain (numP p)) v)) := fun X hX =>
    (HN.out X (HF.out X hX).2.2).mono (fun e w' ⟨v, he, ht, hb⟩ => ⟨v, he, hX.trans (hb.mono hX.size), ht.low (Nat.zero_le _)⟩)
  have HO2 : Hid (∀ X v, Below W.heap.size W X → TIn X 0 (plain (numP p)) v → Calls Try.prog 9 #[v] X (fun e w' => e = .returned (numP p).val ∧ Below W.heap.size W w')) := fun X v hX ht =>
    (obsP_any (numP p) HWH.out X v 0 ht).mono (fun e w' ⟨he, hb⟩ => ⟨he, hX.trans (hb.mono hX.size)⟩)
  clear HN
  go_enter Try.func3, Try.ntmps3
  go_upto_region 1 with fail
  rw [← hW]
  clear hW HBK
  generalize hO : numP p = o at *
  clear hO
  go_cut [5, 6] (fun s5 s6 wx => s5 = o.val ∧ s6 = o.val ∧ Below w.heap.size w wx)
  case first =>
    obtain ⟨c0, c1, _⟩ := HF.out W (Below.refl _ _)
    have hxD : Below W.heap.size W W.drew := below_drew (Below.refl _ _)
    go_region_with (first
      | (go_at_call 10; refine (HN2.out _ (by assumption)).mono ?_; rintro e wA ⟨vA, rfl, hxA, htA⟩; obtain ⟨cA0, cA1, _⟩ := HF.out _ hxA)
      | (go_at_call 9; refine (HO2.out _ _ (by assumption) (by assumption)).mono ?_; rintro e wB ⟨rfl, hxB⟩; obtain ⟨cB0, cB1, _⟩ := HF.out _ hxB))
    all_goals
      go_wp2_with fail
      go_meet
      case rel => exact ⟨rfl, rfl, HB.out.trans ((show Below W.heap.size W _ from by assumption).mono HB.out.size)⟩
  case rest =>
    obtain ⟨rfl, rfl, hbx⟩ := hcut
    clear HF HN2 HO2 HP HB
    obtain ⟨t, x, hx⟩ := whole_solid o HWH.out
    have hself := whole_same o HWH.out
    have hqq : decide ((q : Int) = (q : Int) + 1) = false := decide_eq_false (by omega)
    have K1 : Hid ((O.const (q : Int)).Ok) := by simp [Hid, O.Ok]; omega
    have K2 : Hid ((O.const ((q : Int) + 1)).Ok) := by simp [Hid, O.Ok]; omega
    have C1 : Hid (∀ w, Calls Try.prog 12 #[.iface t x, .iface t x] w fun e w' => e = .returned (.bool true) ∧ Below w.heap.size w w') := fun w => by
      have h := same_any o HOK.out o HOK.out w
      rw [hself, hx] at h
      exact h
    have C2 : Hid (∀ w, Calls Try.prog 12 #[.iface 37 (.agg #[.iface t x, .iface 34 (.agg #[.int .i64 q])]), .iface 37 (.agg #[.iface t x, .iface 34 (.agg #[.int .i64 q])])] w fun e w' => e = .returned (.bool true) ∧ Below w.heap.size w w') := fun w => by
      have h := same_any (.add o (.const q)) ⟨HOK.out, K1.out⟩ (.add o (.const q)) ⟨HOK.out, K1.out⟩ w
      simp only [O.val, hx, sameO, hself, decide_true, Bool.and_self] at h
      exact h
    have C3 : Hid (∀ w, Calls Try.prog 12 #[.iface 37 (.agg #[.iface t x, .iface 34 (.agg #[.int .i64 q])]), .iface 37 (.agg #[.iface t x, .iface 34 (.agg #[.int .i64 ((q : Int) + 1)])])] w fun e w' => e = .returned (.bool false) ∧ Below w.heap.size w w') := fun w => by
      have h := same_any (.add o (.const q)) ⟨HOK.out, K1.out⟩ (.add o (.const ((q : Int) + 1))) ⟨HOK.out, K2.out⟩ w
      simp only [O.val, hx, sameO, hself, hqq, Bool.and_false] at h
      exact h
    have C4 : Hid (∀ w, Calls Try.prog 12 #[.iface 38 (.agg #[.iface t x, .iface 34 (.agg #[.int .i64 q])]), .iface 37 (.agg #[.iface t x, .iface 34 (.agg #[.int .i64 q])])] w fun e w' => e = .returned (.bool false) ∧ Below w.heap.size w w') := fun w => by
      have h := same_any (.mul o (.const q)) ⟨HOK.out, K1.out⟩ (.add o (.const q)) ⟨HOK.out, K1.out⟩ w
      simp only [O.val, hx, sameO] at h
      exact h
    have C5 : Hid (∀ w, Calls Try.prog 12 #[.iface 39 (.agg #[.iface 34 (.agg #[.int .i64 q]), .iface 34 (.agg #[.int .i64 ((q : Int) + 1)])]), .iface 39 (.agg #[.iface 34 (.agg #[.int .i64 ((q : Int) + 1)]), .iface 34 (.agg #[.int .i64 q])])] w fun e w' => e = .returned (.bool false) ∧ Below w.heap.size w w') := fun w => by
      have h := same_any (.max (.const q) (.const ((q : Int) + 1))) ⟨K1.out, K2.out⟩ (.max (.const ((q : Int) + 1)) (.const q)) ⟨K2.out, K1.out⟩ w
      simp only [O.val, sameO, hqq, Bool.false_and] at h
      exact h
    have C6 : Hid (∀ w, Calls Try.prog 12 #[.iface 41 (.agg #[.iface t x]), .iface t x] w fun e w' => e = .returned (.bool false) ∧ Below w.heap.size w w') := fun w => by
      have h := same_any (.neg o) HOK.out o HOK.out w
      rw [same_neg] at h
      simp only [O.val, hx] at h
      exact h
    have C7 : Hid (∀ w, Calls Try.prog 12 #[.iface 43 (.agg #[.string ⟨#[97]⟩]), .iface 43 (.agg #[.string ⟨#[98]⟩])] w fun e w' => e = .returned (.bool false) ∧ Below w.heap.size w w') := fun w =>
      same_any (.fix ⟨#[97]⟩) (by show (⟨#[97]⟩ : ByteArray).size ≤ _; decide) (.fix ⟨#[98]⟩) (by show (⟨#[98]⟩ : ByteArray).size ≤ _; decide) w
    have C8 : Hid (∀ w, Calls Try.prog 12 #[.iface t x, .nilIface] w fun e w' => e = .returned (.bool false) ∧ Below w.heap.size w w') := fun w => by
      have h := same_any o HOK.out (.odd .nilIface) (.inl rfl) w
      rw [show sameO o (.odd .nilIface) = false from by cases o <;> rfl, hx] at h
      exact h
    rw [hx]
    clear hx hself hqq K1 K2 HOK HWH
    have HBX : Hid (Below w.heap.size w wc) := hbx
    clear hbx
    go_wp2_with fail
    refine calls_same (within_any _ 100 _ (by omega) (by omega) h1 h2) ?_
    rw [hq]
    clear h1 h2 hq
    go_wp2_with fail
    obtain ⟨W2, hW2⟩ : ∃ W2, W2 = (wc.alloc (.cells #[.int .i64 q] 34)).alloc (.cells #[.int .i64 ((q : Int) + 1)] 34) := ⟨_, rfl⟩
    have HB2 : Hid (Below w.heap.size w W2) := by rw [hW2]; exact below_alloc (below_alloc HBX.out _) _
    have k7 : W2.heap[wc.heap.size]? = some (.cells #[.int .i64 q] 34 (0, 0)) := by rw [hW2]; exact heap_keeps (heap_alloc_new _ _) _
    have k8 : W2.heap[wc.heap.size + 1]? = some (.cells #[.int .i64 ((q : Int) + 1)] 34 (0, 0)) := by rw [hW2]; exact heap_alloc2_new _ _ _
    have HF2 : Hid (∀ w', Below W2.heap.size W2 w' → w'.cell? ⟨wc.heap.size, 0, none⟩ = some (.int .i64 q) ∧ w'.cell? ⟨wc.heap.size + 1, 0, none⟩ = some (.int .i64 ((q : Int) + 1))) := fun w' h =>
      ⟨(cell_of_row _ _ _ _ _ _ ((h.block _ (Array.getElem?_eq_some_iff.1 k7).1).trans k7)).trans rfl, (cell_of_row _ _ _ _ _ _ ((h.block _ (Array.getElem?_eq_some_iff.1 k8).1).trans k8)).trans rfl⟩
    have hx0 : Below W2.heap.size W2 W2 := Below.refl _ _
    rw [← hW2]
    clear hW2 k7 k8
    refine (C1.out _).mono ?_
    rintro e w1 ⟨rfl, hb1⟩
    have hx1 : Below W2.heap.size W2 w1 := hx0.trans (hb1.mono hx0.size)
    obtain ⟨d1, e1⟩ := HF2.out w1 hx1
    clear hb1
    go_wp2_with fail
    refine (C2.out _).mono ?_
    rintro e w2 ⟨rfl, hb2⟩
    have hx2 : Below W2.heap.size W2 w2 := hx1.trans (hb2.mono hx1.size)
    obtain ⟨d2, e2⟩ := HF2.out w2 hx2
    clear hb2
    go_wp2_with fail
    refine (C3.out _).mono ?_
    rintro e w3 ⟨rfl, hb3⟩
    have hx3 : Below W2.heap.size W2 w3 := hx2.trans (hb3.mono hx2.size)
    obtain ⟨d3, e3⟩ := HF2.out w3 hx3
    clear hb3
    go_wp2_with fail
    refine (C4.out _).mono ?_
    rintro e w4 ⟨rfl, hb4⟩
    have hx4 : Below W2.heap.size W2 w4 := hx3.trans (hb4.mono hx3.size)
    obtain ⟨d4, e4⟩ := HF2.out w4 hx4
    clear hb4
    go_wp2_with fail
    refine (C5.out _).mono ?_
    rintro e w5 ⟨rfl, hb5⟩
    have hx5 : Below W2.heap.size W2 w5 := hx4.trans (hb5.mono hx4.size)
    obtain ⟨d5, e5⟩ := HF2.out w5 hx5
    clear hb5
    go_wp2_with fail
    refine (C6.out _).mono ?_
    rintro e w6 ⟨rfl, hb6⟩
    have hx6 : Below W2.heap.size W2 w6 := hx5.trans (hb6.mono hx5.size)
    obtain ⟨d6, e6⟩ := HF2.out w6 hx6
    clear hb6
    go_wp2_with fail
    refine (C7.out _).mono ?_
    rintro e w7 ⟨rfl, hb7⟩
    have hx7 : Below W2.heap.size W2 w7 := hx6.trans (hb7.mono hx6.size)
    obtain ⟨d7, e7⟩ := HF2.out w7 hx7
    clear hb7
    go_wp2_with fail
    refine (C8.out _).mono ?_
    rintro e w8 ⟨rfl, hb8⟩
    have hx8 : Below W2.heap.size W2 w8 := hx7.trans (hb8.mono hx7.size)
    obtain ⟨d8, e8⟩ := HF2.out w8 hx8
    clear hb8
    go_wp2_with fail
    refine (wakes_any _).mono ?_
    rintro e w9 ⟨rfl, hb9⟩
    go_wp2_with fail
    go_ret
    have hx9 : Below W2.heap.size W2 w9 := hx8.trans (hb9.mono hx8.size)
    exact ⟨rfl, HB2.out.trans (hx9.mono HB2.out.size)⟩

end Go.Proofs.Ytepgeclpmdhepaa
