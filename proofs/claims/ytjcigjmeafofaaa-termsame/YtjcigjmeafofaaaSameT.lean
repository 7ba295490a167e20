/- The walk of the statement TermSame. -/
import Derived.Test.YtjcigjmeafofaaaTermW
import Derived.Test.YtjcigjmeafofaaaTermCheck
namespace Go.Proofs.Ytjcigjmeafofaaa
open Go.RowKit
set_option linter.unusedVariables false

/-- The pairs of contracts that the statement asks for. -/
def prA (q : Nat) (c : C) (i : Nat) : C :=
  if i = 0 then .when q c else if i = 1 then .one ⟨#[117, 115, 100]⟩ else if i = 2 then .or ⟨#[97]⟩ c .zero else if i = 3 then .and c (.give c)
  else if i = 4 then .scale (.const q) c else if i = 5 then .iff (.const 1) c (.give c) else .and c .zero
def prB (q : Nat) (c : C) (i : Nat) : C :=
  if i = 0 then .when ((q : Int) + 1) c else if i = 1 then .one ⟨#[101, 117, 114]⟩ else if i = 2 then .or ⟨#[98]⟩ c .zero else if i = 3 then .and (.give c) c
  else if i = 4 then .scale (.const (-(q : Int) - 1)) c else if i = 5 then .iff (.const 1) (.give c) c else .or ⟨#[97]⟩ c .zero
theorem pr7 (i : Nat) (h : i < 7) : i = 0 ∨ i = 1 ∨ i = 2 ∨ i = 3 ∨ i = 4 ∨ i = 5 ∨ i = 6 := by omega
theorem prA_whole (q : Nat) (c : C) (hq : q < 100) (hc : c.whole) (i : Nat) (h : i < 7) : (prA q c i).whole := by
  have hs : ∀ s : ByteArray, s.size ≤ 10 → s.size ≤ 2147483648 := fun s h => by omega
  rcases pr7 i h with rfl | rfl | rfl | rfl | rfl | rfl | rfl
  · exact ⟨by omega, hc⟩
  · exact hs _ (by decide)
  · exact ⟨hs _ (by decide), hc, trivial⟩
  · exact ⟨hc, hc⟩
  · exact ⟨⟨by omega, by omega⟩, hc⟩
  · exact ⟨⟨by omega, by omega⟩, hc, hc⟩
  · exact ⟨hc, trivial⟩
theorem prB_whole (q : Nat) (c : C) (hq : q < 100) (hc : c.whole) (i : Nat) (h : i < 7) : (prB q c i).whole := by
  have hs : ∀ s : ByteArray, s.size ≤ 10 → s.size ≤ 2147483648 := fun s h => by omega
  rcases pr7 i h with rfl | rfl | rfl | rfl | rfl | rfl | rfl
  · exact ⟨by omega, hc⟩
  · exact hs _ (by decide)
  · exact ⟨hs _ (by decide), hc, trivial⟩
  · exact ⟨hc, hc⟩
  · exact ⟨⟨by omega, by omega⟩, hc⟩
  · exact ⟨⟨by omega, by omega⟩, hc, hc⟩
  · exact ⟨hs _ (by decide), hc, trivial⟩
theorem pr_unlike (q : Nat) (c : C) (i : Nat) (h : i < 7) : sameC (prA q c i) (prB q c i) = false ∧ sameC (prB q c i) (prA q c i) = false := by
  rcases pr7 i h with rfl | rfl | rfl | rfl | rfl | rfl | rfl
  · have h1 : decide ((q : Int) = (q : Int) + 1) = false := decide_eq_false (by omega)
    have h2 : decide ((q : Int) + 1 = (q : Int)) = false := decide_eq_false (by omega)
    exact ⟨by show (decide ((q : Int) = (q : Int) + 1) && _) = false; rw [h1]; rfl, by show (decide ((q : Int) + 1 = (q : Int)) && _) = false; rw [h2]; rfl⟩
  · exact ⟨by show decide ((⟨#[117, 115, 100]⟩ : ByteArray) = ⟨#[101, 117, 114]⟩) = false; decide, by show decide ((⟨#[101, 117, 114]⟩ : ByteArray) = ⟨#[117, 115, 100]⟩) = false; decide⟩
  · exact ⟨by show (decide ((⟨#[97]⟩ : ByteArray) = ⟨#[98]⟩) && _) = false; rw [show decide ((⟨#[97]⟩ : ByteArray) = ⟨#[98]⟩) = false from by decide]; rfl, by show (decide ((⟨#[98]⟩ : ByteArray) = ⟨#[97]⟩) && _) = false; rw [show decide ((⟨#[98]⟩ : ByteArray) = ⟨#[97]⟩) = false from by decide]; rfl⟩
  · exact ⟨by show (sameC c (.give c) && _) = false; rw [same_give']; rfl, by show (sameC (.give c) c && _) = false; rw [same_give]; rfl⟩
  · have h1 : decide ((q : Int) = -(q : Int) - 1) = false := decide_eq_false (by omega)
    have h2 : decide (-(q : Int) - 1 = (q : Int)) = false := decide_eq_false (by omega)
    exact ⟨by show (decide ((q : Int) = -(q : Int) - 1) && _) = false; rw [h1]; rfl, by show (decide (-(q : Int) - 1 = (q : Int)) && _) = false; rw [h2]; rfl⟩
  · exact ⟨by show (_ && (sameC c (.give c) && _)) = false; rw [same_give']; simp, by show (_ && (sameC (.give c) c && _)) = false; rw [same_give]; simp⟩
  · exact ⟨rfl, rfl⟩
/-- The cells of the list, c the value of the contract. -/
def prL (q : Nat) (v : Value) : Array Value := #[.iface 39 (.agg #[.int .i64 q, v]), .iface 39 (.agg #[.int .i64 ((q : Int) + 1), v]),
  .iface 42 (.agg #[.string ⟨#[117, 115, 100]⟩]), .iface 42 (.agg #[.string ⟨#[101, 117, 114]⟩]),
  .iface 44 (.agg #[.string ⟨#[97]⟩, v, .iface 34 (.agg #[])]), .iface 44 (.agg #[.string ⟨#[98]⟩, v, .iface 34 (.agg #[])]),
  .iface 46 (.agg #[v, .iface 37 (.agg #[v])]), .iface 46 (.agg #[.iface 37 (.agg #[v]), v]),
  .iface 51 (.agg #[.iface 48 (.agg #[.int .i64 q]), v]), .iface 51 (.agg #[.iface 48 (.agg #[.int .i64 (-(q : Int) - 1)]), v]),
  .iface 53 (.agg #[.iface 48 (.agg #[.int .i64 1]), v, .iface 37 (.agg #[v])]), .iface 53 (.agg #[.iface 48 (.agg #[.int .i64 1]), .iface 37 (.agg #[v]), v]),
  .iface 46 (.agg #[v, .iface 34 (.agg #[])]), .iface 44 (.agg #[.string ⟨#[97]⟩, v, .iface 34 (.agg #[])])]
theorem prL_get (q : Nat) (c : C) (i : Nat) (h : i < 7) : (prL q c.val)[i * 2]? = some (prA q c i).val ∧ (prL q c.val)[i * 2 + 1]? = some (prB q c i).val := by
  rcases pr7 i h with rfl | rfl | rfl | rfl | rfl | rfl | rfl <;> exact ⟨rfl, rfl⟩

set_option maxHeartbeats 8000000 in
set_option maxRecDepth 100000 in
theorem sameT_walk (p : Pl) (n : Int) (w : World) (hp : PlanIn w p) (h1 : -9223372036854775808 ≤ n) (h2 : n ≤ 9223372036854775807) :
    Calls Try.prog 3 #[planV p, .int .i64 n] w fun e w' => e = .returned (.bool true) ∧ Below w.heap.size w w' := by
  obtain ⟨q, hq⟩ : ∃ q : Nat, n % 100 = q := ⟨(n % 100).toNat, by omega⟩
  have hq4 : q < 100 := by omega
  have HP : Hid (PlanIn w p) := hp
  have HWH := hidIn (conP_whole p)
  unfold planV
  clear hp
  obtain ⟨W, hW⟩ : ∃ W, W = w.alloc (.cells #[.slice p.na p.nl p.nc, .slice p.wa p.wl p.wc] 25) := ⟨_, rfl⟩
  have HB : Hid (Below w.heap.size w W) := by rw [hW]; exact below_alloc (Below.refl _ _) _
  have HBK : Hid (W.heap[w.heap.size]? = some (.cells #[.slice p.na p.nl p.nc, .slice p.wa p.wl p.wc] 25 (0, 0))) := by rw [hW]; exact heap_alloc_new _ _
  have HPW : Hid (PlanIn W p) := HP.out.below HB.out
  have HF : Hid (∀ w', Below W.heap.size W w' → w'.cell? ⟨w.heap.size, 0, none⟩ = some (.slice p.na p.nl p.nc) ∧ w'.cell? ⟨w.heap.size, 1, none⟩ = some (.slice p.wa p.wl p.wc)) := fun w' hw' => by
    have hlt : w.heap.size < W.heap.size := (Array.getElem?_eq_some_iff.1 HBK.out).1
    have hbk := (hw'.block _ hlt).trans HBK.out
    exact ⟨(cell_of_row _ _ _ _ _ _ hbk).trans rfl, (cell_of_row _ _ _ _ _ _ hbk).trans rfl⟩
  go_enter Try.func3, Try.ntmps3
  go_upto_region 1 with fail
  rw [← hW]
  clear hW HBK
  go_cut [5, 6] (fun s5 s6 wx => s5 = (conP p).val ∧ s6 = (conP p).val ∧ Below w.heap.size w wx)
  case first =>
    obtain ⟨c0, c1⟩ := HF.out W (Below.refl _ _)
    have hxD : Below W.heap.size W W.drew := below_drew (Below.refl _ _)
    go_region_with (first
      | (go_at_call 10; refine (con_made HPW.out (by assumption)).mono ?_; rintro e wA ⟨vA, rfl, hxA, htA⟩; obtain ⟨cA0, cA1⟩ := HF.out _ hxA)
      | (go_at_call 9; refine (con_term (by assumption) (by assumption)).mono ?_; rintro e wB ⟨rfl, hxB⟩; obtain ⟨cB0, cB1⟩ := HF.out _ hxB))
    all_goals
      go_wp2_with fail
      go_meet
      case rel => exact ⟨rfl, rfl, HB.out.trans ((show Below W.heap.size W _ from by assumption).mono HB.out.size)⟩
  case rest =>
    obtain ⟨rfl, rfl, hbx⟩ := hcut
    have HBX := hidIn hbx
    clear HF HPW HP HB hbx
    generalize hC : conP p = c at *
    clear hC
    have HOK := hidIn (cwhole_ok c HWH.out)
    have qv := c.one' HOK.out
    have K1 : Hid (∀ w, Calls Try.prog 12 #[c.val, c.val] w fun e w' => e = .returned (.bool true) ∧ Below w.heap.size w w') := fun w => by
      have h := sameT_any c HOK.out c HOK.out w
      rw [whole_sameC c HWH.out] at h
      exact h
    have K2 : Hid (∀ w, Calls Try.prog 12 #[c.val, .nilIface] w fun e w' => e = .returned (.bool false) ∧ Below w.heap.size w w') := fun w => by
      have h := sameT_any c HOK.out (.odd .nilIface) (.inl rfl) w
      rw [show sameC c (.odd .nilIface) = false from by cases c <;> rfl] at h
      exact h
    have K3 : Hid (∀ w, Calls Try.prog 12 #[.nilIface, .nilIface] w fun e w' => e = .returned (.bool false) ∧ Below w.heap.size w w') := fun w => sameT_any (.odd .nilIface) (.inl rfl) (.odd .nilIface) (.inl rfl) w
    have K4 : Hid (∀ w, Calls Try.prog 12 #[.iface 37 (.agg #[c.val]), c.val] w fun e w' => e = .returned (.bool false) ∧ Below w.heap.size w w') := fun w => by
      have h := sameT_any (.give c) HOK.out c HOK.out w
      rw [same_give] at h
      exact h
    have K5 : Hid (∀ w, Calls Try.prog 12 #[.iface 37 (.agg #[c.val]), .iface 37 (.agg #[c.val])] w fun e w' => e = .returned (.bool true) ∧ Below w.heap.size w w') := fun w => by
      have h := sameT_any (.give c) HOK.out (.give c) HOK.out w
      rw [show sameC (.give c) (.give c) = true from whole_sameC c HWH.out] at h
      exact h
    have KL : Hid (∀ i, i < 7 → (prL q c.val)[i * 2]? = some (prA q c i).val ∧ (prL q c.val)[i * 2 + 1]? = some (prB q c i).val) := fun i hi => prL_get q c i hi
    have KA : Hid (∀ i, i < 7 → One' (prA q c i).val ∧ One' (prB q c i).val) := fun i hi => ⟨(prA q c i).one' (cwhole_ok _ (prA_whole q c hq4 HWH.out i hi)), (prB q c i).one' (cwhole_ok _ (prB_whole q c hq4 HWH.out i hi))⟩
    have KC : Hid (∀ i, i < 7 → ∀ w, (Calls Try.prog 12 #[(prA q c i).val, (prB q c i).val] w fun e w' => e = .returned (.bool false) ∧ Below w.heap.size w w') ∧ (Calls Try.prog 12 #[(prB q c i).val, (prA q c i).val] w fun e w' => e = .returned (.bool false) ∧ Below w.heap.size w w') ∧ (Calls Try.prog 12 #[(prA q c i).val, (prA q c i).val] w fun e w' => e = .returned (.bool true) ∧ Below w.heap.size w w')) := fun i hi w => by
      have ha := prA_whole q c hq4 HWH.out i hi
      have hb := prB_whole q c hq4 HWH.out i hi
      have h1 := sameT_any _ (cwhole_ok _ ha) _ (cwhole_ok _ hb) w
      have h2 := sameT_any _ (cwhole_ok _ hb) _ (cwhole_ok _ ha) w
      have h3 := sameT_any _ (cwhole_ok _ ha) _ (cwhole_ok _ ha) w
      rw [(pr_unlike q c i hi).1] at h1
      rw [(pr_unlike q c i hi).2] at h2
      rw [whole_sameC _ ha] at h3
      exact ⟨h1, h2, h3⟩
    clear HOK HWH
    obtain ⟨v, hv⟩ : ∃ v, c.val = v := ⟨_, rfl⟩
    rw [hv] at qv K1 K2 K4 K5 KL ⊢
    clear hv
    have cv := qv.cells
    have mv := qv.cells
    unfold Value.cells at mv
    clear qv
    go_wp2_with fail
    refine calls_same (within_any _ 100 _ (by omega) (by omega) h1 h2) ?_
    rw [hq]
    clear h1 h2 hq
    go_wp2_with fail
    obtain ⟨W2, hW2⟩ : ∃ W2, W2 = wc.alloc (.cells #[] 34) := ⟨_, rfl⟩
    have HB2 : Hid (Below w.heap.size w W2) := by rw [hW2]; exact below_alloc HBX.out _
    have HZ2 : Hid (W2.heap[wc.heap.size]? = some (.cells #[] 34 (0, 0))) := by rw [hW2]; exact heap_alloc_new _ _
    rw [← hW2]
    clear hW2 HBX
    have hx0 : Below W2.heap.size W2 W2 := Below.refl _ _
    refine (K1.out _).mono ?_
    rintro e w1 ⟨rfl, hb1⟩
    go_wp2_with fail
    refine (K2.out _).mono ?_
    rintro e w2 ⟨rfl, hb2⟩
    go_wp2_with fail
    refine (K3.out _).mono ?_
    rintro e w3 ⟨rfl, hb3⟩
    go_wp2_with fail
    refine (K4.out _).mono ?_
    rintro e w4 ⟨rfl, hb4⟩
    go_wp2_with fail
    refine (K5.out _).mono ?_
    rintro e w5 ⟨rfl, hb5⟩
    have HB5 : Hid (Below W2.heap.size W2 w5) := by
      have h2 := hb1.trans (hb2.mono hb1.size)
      have h3 := h2.trans (hb3.mono h2.size)
      have h4 := h3.trans (hb4.mono h3.size)
      exact h4.trans (hb5.mono h4.size)
    clear hb1 hb2 hb3 hb4 hb5 K1 K2 K3 K4 K5 hx0
    go_wp2_with fail
    obtain ⟨W3, hW3⟩ : ∃ W3, W3 = w5.alloc (.cells (prL q v) 40) := ⟨_, rfl⟩
    have HB3 : Hid (Below w.heap.size w W3) := by
      rw [hW3]
      have h5 := HB2.out.trans (HB5.out.mono HB2.out.size)
      exact h5.alloc h5.size _
    have HL3 : Hid (W3.heap[w5.heap.size]? = some (.cells (prL q v) 40 (0, 0))) := by rw [hW3]; exact heap_alloc_new _ _
    unfold prL at hW3
    rw [← hW3]
    clear hW3 HB2 HB5 HZ2 cv mv
    go_loopw [131] (fun s131 wr => ∃ i : Nat, i ≤ 7 ∧ s131 = .int .i64 i ∧ Below W3.heap.size W3 wr) (fun s131 _ => 7 - (intOf s131).toNat)
    case atStart => exact ⟨0, by omega, rfl, Below.refl _ _⟩
    case round =>
      obtain ⟨i, hi, rfl, hbr⟩ := hrel
      have HBR := hidIn hbr
      by_cases hlt : i < 7
      · have hlt' : (i : Int) < 7 := by omega
        have hblk := (hbr.block w5.heap.size (Array.getElem?_eq_some_iff.1 HL3.out).1).trans HL3.out
        have hx0 := (cell_of_row _ _ (i * 2) _ _ _ hblk).trans (KL.out i hlt).1
        have hx1 := (cell_of_row _ _ (i * 2 + 1) _ _ _ hblk).trans (KL.out i hlt).2
        obtain ⟨qa, qb⟩ := KA.out i hlt
        have HCC := hidIn (KC.out i hlt)
        clear KA KC KL
        generalize (prA q c i).val = va at *
        generalize (prB q c i).val = vb at *
        have sa := qa.store
        have ca := qa.cells
        have ma := qa.cells
        have sb := qb.store
        have cb := qb.cells
        have mb := qb.cells
        unfold Value.cells at ma mb
        clear hbr hblk qa qb
        go_wp2_with fail
        obtain ⟨W4, hW4⟩ : ∃ W4, W4 = wr.alloc (.cells #[va, vb] 40) := ⟨_, rfl⟩
        have HB4 : Hid (Below W3.heap.size W3 W4) := by rw [hW4]; exact HBR.out.alloc HBR.out.size _
        have HK4 : Hid (W4.heap[wr.heap.size]? = some (.cells #[va, vb] 40 (0, 0))) := by rw [hW4]; exact heap_alloc_new _ _
        have HF : Hid (∀ w', Below W4.heap.size W4 w' → w'.cell? ⟨wr.heap.size, 0, none⟩ = some va ∧ w'.cell? ⟨wr.heap.size, 1, none⟩ = some vb) := fun w' hw' => by
          have h := (hw'.block _ (Array.getElem?_eq_some_iff.1 HK4.out).1).trans HK4.out
          exact ⟨(cell_of_row _ _ _ _ _ _ h).trans rfl, (cell_of_row _ _ _ _ _ _ h).trans rfl⟩
        rw [← hW4]
        clear hW4 hx0 hx1
        refine (HCC.out _).1.mono ?_
        rintro e w6 ⟨rfl, hb6⟩
        obtain ⟨d0, d1⟩ := HF.out w6 hb6
        have HX6 := hidIn hb6
        clear hb6
        go_wp2_with fail
        refine (HCC.out _).2.1.mono ?_
        rintro e w7 ⟨rfl, hb7⟩
        have hx7 := HX6.out.trans (hb7.mono HX6.out.size)
        obtain ⟨f0, f1⟩ := HF.out w7 hx7
        have HX7 := hidIn hx7
        clear hb7 hx7 d0 d1
        go_wp2_with fail
        refine (HCC.out _).2.2.mono ?_
        rintro e w8 ⟨rfl, hb8⟩
        have HX8 := hidIn (HX7.out.trans (hb8.mono HX7.out.size))
        clear hb8 f0 f1
        go_wp2_with fail
        go_roundw
        case rel => exact ⟨i + 1, by omega, by go_num, HB4.out.trans (HX8.out.mono HB4.out.size)⟩
        case measure => simp [intOf]; omega
      · have hi7 : i = 7 := by omega
        subst hi7
        clear hbr
        go_wp2_with fail
        refine (wakesT_any _).mono ?_
        rintro e w9 ⟨rfl, hb9⟩
        go_wp2_with fail
        go_ret
        have h3 := HB3.out.trans (HBR.out.mono HB3.out.size)
        exact ⟨rfl, h3.trans (hb9.mono h3.size)⟩

end Go.Proofs.Ytjcigjmeafofaaa
