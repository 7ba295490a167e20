/- The walk of the statement TermGrows. -/
import Derived.Test.YtjcigjmeafofaaaTermW
import Derived.Test.YtjcigjmeafofaaaRowsMet
namespace Go.Proofs.Ytjcigjmeafofaaa
open Go.RowKit
set_option linter.unusedVariables false

/-- A contract given, or from a day on. -/
def grA (day : Int) (c : C) (i : Nat) : C := if i = 0 then .give c else .when day c
theorem gr2 (i : Nat) (h : i < 2) : i = 0 ∨ i = 1 := by omega
def grL (day : Int) (v : Value) : Array Value := #[.iface 37 (.agg #[v]), .iface 39 (.agg #[.int .i64 day, v])]
theorem grL_get (day : Int) (c : C) (i : Nat) (h : i < 2) : (grL day c.val)[i]? = some (grA day c i).val := by
  rcases gr2 i h with rfl | rfl <;> rfl
theorem grA_ok (day : Int) (c : C) (hd : 0 ≤ day ∧ day ≤ 10001) (hc : c.Ok) (i : Nat) (h : i < 2) : (grA day c i).Ok := by
  rcases gr2 i h with rfl | rfl
  · exact hc
  · exact ⟨by omega, hc⟩
theorem grA_facts (day : Int) (c : C) (i : Nat) (h : i < 2) : (grA day c i).nodes = c.nodes + 1 ∧ (grA day c i).depth = c.depth + 1 ∧ (grA day c i).labels = c.labels ∧ (grA day c i).names = c.names ∧ (grA day c i).kids.length = 1 ∧ (grA day c i).weight = c.weight + 1 := by
  rcases gr2 i h with rfl | rfl <;> exact ⟨rfl, rfl, rfl, rfl, rfl, rfl⟩
theorem addAll_more : ∀ (l pre : List ByteArray), ∃ m, addAll pre l = pre ++ m := by
  intro l
  induction l with
  | nil => intro pre; exact ⟨[], by simp [addAll]⟩
  | cons x l ihl =>
    intro pre
    obtain ⟨m, hm⟩ := ihl (addN pre x)
    show ∃ m, addAll (addN pre x) l = pre ++ m
    rw [hm]
    unfold addN
    split
    · exact ⟨m, rfl⟩
    · exact ⟨[x] ++ m, by simp⟩
def zzO : O := .add (.fix ⟨#[122, 122]⟩) (.const 1)
theorem zz_names (c : C) : ∃ m, (C.scale zzO c).names = ⟨#[122, 122]⟩ :: m := by
  have h : (C.scale zzO c).names = addAll [⟨#[122, 122]⟩] c.all := by
    show addAll [] (([⟨#[122, 122]⟩] ++ []) ++ c.all) = _
    rfl
  obtain ⟨m, hm⟩ := addAll_more c.all [⟨#[122, 122]⟩]
  exact ⟨m, by rw [h, hm]; rfl⟩
theorem zz_ok : zzO.Ok := ⟨by show (⟨#[122, 122]⟩ : ByteArray).size ≤ _; decide, by show _ ∧ _; decide⟩

set_option maxHeartbeats 8000000 in
set_option maxRecDepth 100000 in
theorem growsT_walk (p q : Pl) (day : Int) (w : World) (hp : PlanIn w p) (hq : PlanIn w q) (h1 : -9223372036854775808 ≤ day) (h2 : day ≤ 9223372036854775807) :
    Calls Try.prog 4 #[planV p, planV q, .int .i64 day] w fun e w' => e = .returned (.bool true) ∧ Below w.heap.size w w' := by
  obtain ⟨x, hx⟩ : ∃ x : Int, day % 10001 = x := ⟨_, rfl⟩
  have hx0 : 0 ≤ x ∧ x ≤ 10001 := by omega
  have HP := hidIn hp
  have HQ := hidIn hq
  have HWA := hidIn (conP_whole p)
  have HWB := hidIn (conP_whole q)
  have HTA := hidIn (conP_weight p)
  have HTB := hidIn (conP_weight q)
  unfold planV
  clear hp hq
  obtain ⟨W, hW⟩ : ∃ W, W = (w.alloc (.cells #[.slice p.na p.nl p.nc, .slice p.wa p.wl p.wc] 25)).alloc (.cells #[.slice q.na q.nl q.nc, .slice q.wa q.wl q.wc] 25) := ⟨_, rfl⟩
  have HB : Hid (Below w.heap.size w W) := by rw [hW]; exact below_alloc (below_alloc (Below.refl _ _) _) _
  have HBK : Hid (W.heap[w.heap.size]? = some (.cells #[.slice p.na p.nl p.nc, .slice p.wa p.wl p.wc] 25 (0, 0))) := by rw [hW]; exact heap_keeps (heap_alloc_new _ _) _
  have HBK2 : Hid (W.heap[w.heap.size + 1]? = some (.cells #[.slice q.na q.nl q.nc, .slice q.wa q.wl q.wc] 25 (0, 0))) := by rw [hW]; exact heap_alloc2_new _ _ _
  have HPW := hidIn (HP.out.below HB.out)
  have HQW := hidIn (HQ.out.below HB.out)
  have HF : Hid (∀ w', Below W.heap.size W w' → (w'.cell? ⟨w.heap.size, 0, none⟩ = some (.slice p.na p.nl p.nc) ∧ w'.cell? ⟨w.heap.size, 1, none⟩ = some (.slice p.wa p.wl p.wc)) ∧ w'.cell? ⟨w.heap.size + 1, 0, none⟩ = some (.slice q.na q.nl q.nc) ∧ w'.cell? ⟨w.heap.size + 1, 1, none⟩ = some (.slice q.wa q.wl q.wc)) := fun w' hw' => by
    have hbk := (hw'.block _ (Array.getElem?_eq_some_iff.1 HBK.out).1).trans HBK.out
    have hbk2 := (hw'.block _ (Array.getElem?_eq_some_iff.1 HBK2.out).1).trans HBK2.out
    exact ⟨⟨(cell_of_row _ _ _ _ _ _ hbk).trans rfl, (cell_of_row _ _ _ _ _ _ hbk).trans rfl⟩, (cell_of_row _ _ _ _ _ _ hbk2).trans rfl, (cell_of_row _ _ _ _ _ _ hbk2).trans rfl⟩
  go_enter Try.func4, Try.ntmps4
  go_upto_region 1 with fail
  rw [← hW]
  clear hW HBK HBK2
  go_cut [7, 8] (fun s7 s8 wx => s7 = (conP p).val ∧ s8 = (conP q).val ∧ Below w.heap.size w wx)
  case first =>
    obtain ⟨⟨c0, c1⟩, c2, c3⟩ := HF.out W (Below.refl _ _)
    have hxD : Below W.heap.size W W.drew := below_drew (Below.refl _ _)
    go_region_with (first
      | (go_at_call 10; refine (con_made HPW.out (by assumption)).mono ?_; rintro e wA ⟨vA, rfl, hxA, htA⟩; obtain ⟨⟨cA0, cA1⟩, cA2, cA3⟩ := HF.out _ hxA)
      | (go_at_call 10; refine (con_made HQW.out (by assumption)).mono ?_; rintro e wA ⟨vA, rfl, hxA, htA⟩; obtain ⟨⟨cA0, cA1⟩, cA2, cA3⟩ := HF.out _ hxA)
      | (go_at_call 9; refine (con_term (p := p) (by assumption) (by assumption)).mono ?_; rintro e wB ⟨rfl, hxB⟩; obtain ⟨⟨cB0, cB1⟩, cB2, cB3⟩ := HF.out _ hxB)
      | (go_at_call 9; refine (con_term (p := q) (by assumption) (by assumption)).mono ?_; rintro e wB ⟨rfl, hxB⟩; obtain ⟨⟨cB0, cB1⟩, cB2, cB3⟩ := HF.out _ hxB))
    all_goals
      go_wp2_with fail
      go_meet
      case rel => exact ⟨rfl, rfl, HB.out.trans ((show Below W.heap.size W _ from by assumption).mono HB.out.size)⟩
  case rest =>
    obtain ⟨rfl, rfl, hbx⟩ := hcut
    have HBX := hidIn hbx
    clear HF HPW HQW HP HQ HB hbx
    generalize conP p = a at *
    generalize conP q = b at *
    have HOA := hidIn (cwhole_ok a HWA.out)
    have HOB := hidIn (cwhole_ok b HWB.out)
    have hna := weight_nodes a
    have hnb := weight_nodes b
    have hta : a.weight ≤ 630 := HTA.out
    have htb : b.weight ≤ 630 := HTB.out
    have hda := cdepth_nodes a
    have hdb := cdepth_nodes b
    have hda1 : 1 ≤ a.depth := by
      have := HWA.out
      cases a <;> simp [C.depth]
      exact this
    have hdb1 : 1 ≤ b.depth := by
      have := HWB.out
      cases b <;> simp [C.depth]
      exact this
    have HZA : Hid (∀ w, Calls Try.prog 14 #[a.val] w fun e w' => e = .returned (.tuple #[.int .i64 (a.nodes : Int), .int .i64 (a.depth : Int)]) ∧ Below w.heap.size w w') := fun w => sizeT_any a HOA.out (by omega) w
    have HZB : Hid (∀ w, Calls Try.prog 14 #[b.val] w fun e w' => e = .returned (.tuple #[.int .i64 (b.nodes : Int), .int .i64 (b.depth : Int)]) ∧ Below w.heap.size w w') := fun w => sizeT_any b HOB.out (by omega) w
    have HLA : Hid (∀ w, Calls Try.prog 16 #[a.val] w fun e w' => ∃ v, e = .returned v ∧ w'.ownsRow w.heap.size 9 1 v a.labels.length (strCells a.labels) ∧ Below w.heap.size w w') := fun w => labelsT_any a HOA.out (by omega) w
    have HLBB : Hid (∀ w, Calls Try.prog 16 #[b.val] w fun e w' => ∃ v, e = .returned v ∧ w'.ownsRow w.heap.size 9 1 v b.labels.length (strCells b.labels) ∧ Below w.heap.size w w') := fun w => labelsT_any b HOB.out (by omega) w
    have HNA : Hid (∀ w, Calls Try.prog 17 #[a.val] w fun e w' => ∃ v, e = .returned v ∧ w'.ownsRow w.heap.size 9 1 v a.names.length (strCells a.names) ∧ Below w.heap.size w w') := fun w => namesT_any a HOA.out (by omega) w
    have HG : Hid (∀ i, i < 2 → One' (grA x a i).val ∧ ∀ w, (Calls Try.prog 14 #[(grA x a i).val] w fun e w' => e = .returned (.tuple #[.int .i64 ((a.nodes : Int) + 1), .int .i64 ((a.depth : Int) + 1)]) ∧ Below w.heap.size w w') ∧ (Calls Try.prog 16 #[(grA x a i).val] w fun e w' => ∃ v, e = .returned v ∧ w'.ownsRow w.heap.size 9 1 v a.labels.length (strCells a.labels) ∧ Below w.heap.size w w') ∧ (Calls Try.prog 17 #[(grA x a i).val] w fun e w' => ∃ v, e = .returned v ∧ w'.ownsRow w.heap.size 9 1 v a.names.length (strCells a.names) ∧ Below w.heap.size w w') ∧ (Calls Try.prog 18 #[(grA x a i).val] w fun e w' => ∃ kb, e = .returned (.slice kb 1 1) ∧ Below w.heap.size w w')) := fun i hi => by
      have ok := grA_ok x a hx0 HOA.out i hi
      obtain ⟨f1, f2, f3, f4, f5, f6⟩ := grA_facts x a i hi
      refine ⟨(grA x a i).one' ok, fun w => ⟨?_, ?_, ?_, ?_⟩⟩
      · have h := sizeT_any (grA x a i) ok (by omega) w
        rw [f1, f2] at h
        exact h
      · have h := labelsT_any (grA x a i) ok (by omega) w
        rw [f3] at h
        exact h
      · have h := namesT_any (grA x a i) ok (by omega) w
        rw [f4] at h
        exact h
      · refine (kidsT_any (grA x a i) ok w).mono ?_
        rintro e w' ⟨kb, he, _, hb⟩
        rw [f5] at he
        exact ⟨kb, he, hb⟩
    have HGL : Hid (∀ i, i < 2 → (grL x a.val)[i]? = some (grA x a i).val) := fun i hi => grL_get x a i hi
    have HAND : Hid (∀ w, (Calls Try.prog 14 #[.iface 46 (.agg #[a.val, b.val])] w fun e w' => e = .returned (.tuple #[.int .i64 ((a.nodes : Int) + (b.nodes : Int) + 1), .int .i64 ((Max.max a.depth b.depth : Nat) + 1 : Int)]) ∧ Below w.heap.size w w') ∧ (Calls Try.prog 16 #[.iface 46 (.agg #[a.val, b.val])] w fun e w' => ∃ v, e = .returned v ∧ w'.ownsRow w.heap.size 9 1 v (a.labels ++ b.labels).length (strCells (a.labels ++ b.labels)) ∧ Below w.heap.size w w')) := fun w => by
      have ok : (C.and a b).Ok := ⟨HOA.out, HOB.out⟩
      have hwt : (C.and a b).weight = a.weight + b.weight + 1 := rfl
      have hnd : (C.and a b).nodes = a.nodes + b.nodes + 1 := rfl
      exact ⟨sizeT_any (.and a b) ok (by omega) w, labelsT_any (.and a b) ok (by omega) w⟩
    have HSC : Hid (∀ w, (Calls Try.prog 14 #[.iface 51 (.agg #[.iface 66 (.agg #[.iface 64 (.agg #[.string ⟨#[122, 122]⟩]), .iface 48 (.agg #[.int .i64 1])]), a.val])] w fun e w' => e = .returned (.tuple #[.int .i64 ((a.nodes : Int) + 4), .int .i64 ((Max.max 2 a.depth : Nat) + 1 : Int)]) ∧ Below w.heap.size w w') ∧ (Calls Try.prog 17 #[.iface 51 (.agg #[.iface 66 (.agg #[.iface 64 (.agg #[.string ⟨#[122, 122]⟩]), .iface 48 (.agg #[.int .i64 1])]), a.val])] w fun e w' => ∃ g n cap, e = .returned (.slice (some ⟨g, 0, none⟩) (n + 1) cap) ∧ n ≤ 1000000 ∧ w'.cell? ⟨g, 0, none⟩ = some (.string ⟨#[122, 122]⟩) ∧ Below w.heap.size w w')) := fun w => by
      have ok : (C.scale zzO a).Ok := ⟨zz_ok, HOA.out⟩
      have hwt : (C.scale zzO a).weight = 3 + a.weight + 1 := rfl
      have hnd : (C.scale zzO a).nodes = 3 + a.nodes + 1 := rfl
      have hdp : (C.scale zzO a).depth = Max.max 2 a.depth + 1 := rfl
      refine ⟨?_, ?_⟩
      · have h := sizeT_any (.scale zzO a) ok (by omega) w
        rw [hnd, hdp] at h
        have e1 : ((3 + a.nodes + 1 : Nat) : Int) = (a.nodes : Int) + 4 := by omega
        have e2 : ((Max.max 2 a.depth + 1 : Nat) : Int) = (Max.max 2 a.depth : Nat) + 1 := by omega
        rw [e1, e2] at h
        exact h
      · refine (namesT_any (.scale zzO a) ok (by omega) w).mono ?_
        rintro e w' ⟨v, he, hrow, hb⟩
        obtain ⟨m, hm⟩ := zz_names a
        rw [hm] at hrow
        have hml : m.length ≤ 1000000 := by
          have h1 := addAll_length (C.scale zzO a).all []
          have h2 : ∀ c : C, c.all.length ≤ c.weight := by
            intro c
            induction c with
            | scale o c ih => have := all_nodes o; simp only [C.all, C.weight, List.length_append]; omega
            | iff o l r h1 h2 => have := all_nodes o; simp only [C.all, C.weight, List.length_append]; omega
            | _ => simp only [C.all, C.weight, List.length_append, List.length_nil]; omega
          have h3 := h2 (.scale zzO a)
          have h4 : (C.scale zzO a).names.length = m.length + 1 := by rw [hm]; rfl
          have h5 : (C.scale zzO a).names = addAll [] (C.scale zzO a).all := rfl
          rw [h5] at h4
          simp at h1
          omega
        obtain ⟨ao, cap, rfl, htx, _, _⟩ := own_txt hrow
        obtain ⟨g, rfl, hcc⟩ := htx 0 _ rfl
        exact ⟨g, m.length, cap, he, hml, hcc, hb⟩
    have qa := a.one' HOA.out
    have qb := b.one' HOB.out
    clear HWA HWB HOA HOB HTA HTB
    obtain ⟨va, hva⟩ : ∃ v, a.val = v := ⟨_, rfl⟩
    obtain ⟨vb, hvb⟩ : ∃ v, b.val = v := ⟨_, rfl⟩
    rw [hva] at HZA HLA HNA HGL HAND HSC qa ⊢
    rw [hvb] at HZB HLBB HAND qb ⊢
    clear hva hvb
    have sa := qa.store
    have ca := qa.cells
    have ma := qa.cells
    have sb := qb.store
    have cb := qb.cells
    have mb := qb.cells
    unfold Value.cells at ma mb
    clear qa qb
    generalize hNA : a.nodes = NA at *
    generalize hNB : b.nodes = NB at *
    generalize hDA : a.depth = DA at *
    generalize hDB : b.depth = DB at *
    clear hNA hNB hDA hDB
    go_wp2_with fail
    refine (HZA.out _).mono ?_
    rintro e w1 ⟨rfl, hb1⟩
    go_wp2_with fail
    refine (HZB.out _).mono ?_
    rintro e w2 ⟨rfl, hb2⟩
    have HB2 : Hid (Below w.heap.size w w2) := by
      have h := HBX.out.trans (hb1.mono HBX.out.size)
      exact h.trans (hb2.mono h.size)
    clear hb1 hb2 HBX HZA HZB
    go_wp2_with fail
    refine calls_same (within_any _ 10001 _ (by omega) (by omega) h1 h2) ?_
    rw [hx]
    clear h1 h2 hx
    go_wp2_with fail
    obtain ⟨W3, hW3⟩ : ∃ W3, W3 = w2.alloc (.cells (grL x va) 26) := ⟨_, rfl⟩
    have HB3 : Hid (Below w.heap.size w W3) := by rw [hW3]; exact below_alloc HB2.out _
    have HL3 : Hid (W3.heap[w2.heap.size]? = some (.cells (grL x va) 26 (0, 0))) := by rw [hW3]; exact heap_alloc_new _ _
    unfold grL at hW3
    rw [← hW3]
    clear hW3 HB2
    go_loopw [50] (fun s50 wr => ∃ i : Nat, i ≤ 2 ∧ s50 = .int .i64 i ∧ Below W3.heap.size W3 wr) (fun s50 _ => 2 - (intOf s50).toNat)
    case atStart => exact ⟨0, by omega, rfl, Below.refl _ _⟩
    case round =>
      obtain ⟨i, hi, rfl, hbr⟩ := hrel
      have HBR := hidIn hbr
      by_cases hlt : i < 2
      · have hlt' : (i : Int) < 2 := by omega
        have hblk := (hbr.block w2.heap.size (Array.getElem?_eq_some_iff.1 HL3.out).1).trans HL3.out
        have hc0 := (cell_of_row _ _ i _ _ _ hblk).trans (HGL.out i hlt)
        obtain ⟨qg, hg⟩ := HG.out i hlt
        have HGC := hidIn hg
        clear HG HGL hg
        generalize (grA x a i).val = vg at *
        have sg := qg.store
        have cg := qg.cells
        have mg := qg.cells
        unfold Value.cells at mg
        clear hbr hblk qg
        go_wp2_with fail
        refine (HGC.out _).1.mono ?_
        rintro e w4 ⟨rfl, hb4⟩
        have HX4 := hidIn (HBR.out.trans (hb4.mono HBR.out.size))
        clear hb4
        go_wp2_with fail
        refine (HGC.out _).2.1.mono ?_
        rintro e w5 ⟨v5, rfl, hr5, hb5⟩
        have HX5 := hidIn (HX4.out.trans (hb5.mono HX4.out.size))
        have HR5 := hidIn hr5
        clear hb5 hr5
        go_wp2_with fail
        refine (HLA.out _).mono ?_
        rintro e w6 ⟨v6, rfl, hr6, hb6⟩
        have HX6 := hidIn (HX5.out.trans (hb6.mono HX5.out.size))
        have HR6 := hidIn hr6
        have HR56 := hidIn (ownsRow_below HR5.out hb6)
        clear hb6 hr6
        go_wp2_with fail
        refine (sameStr_any a.labels v5 v6 _ _ w6 HR56.out HR6.out).mono ?_
        rintro e w7 ⟨rfl, hb7⟩
        have HX7 := hidIn (HX6.out.trans (hb7.mono HX6.out.size))
        clear hb7 HR5 HR6 HR56
        go_wp2_with fail
        refine (HGC.out _).2.2.1.mono ?_
        rintro e w8 ⟨v8, rfl, hr8, hb8⟩
        have HX8 := hidIn (HX7.out.trans (hb8.mono HX7.out.size))
        have HR8 := hidIn hr8
        clear hb8 hr8
        go_wp2_with fail
        refine (HNA.out _).mono ?_
        rintro e w9 ⟨v9, rfl, hr9, hb9⟩
        have HX9 := hidIn (HX8.out.trans (hb9.mono HX8.out.size))
        have HR9 := hidIn hr9
        have HR89 := hidIn (ownsRow_below HR8.out hb9)
        clear hb9 hr9
        go_wp2_with fail
        refine (sameStr_any a.names v8 v9 _ _ w9 HR89.out HR9.out).mono ?_
        rintro e wA ⟨rfl, hbA⟩
        have HXA := hidIn (HX9.out.trans (hbA.mono HX9.out.size))
        clear hbA HR8 HR9 HR89
        go_wp2_with fail
        refine (HGC.out _).2.2.2.mono ?_
        rintro e wB ⟨kb, rfl, hbB⟩
        have HXB := hidIn (HXA.out.trans (hbB.mono HXA.out.size))
        clear hbB
        go_wp2_with fail
        go_roundw
        case rel => exact ⟨i + 1, by omega, by go_num, HXB.out⟩
        case measure => simp [intOf]; omega
      · have hi2 : i = 2 := by omega
        subst hi2
        clear hbr hi hlt
        have HBE := hidIn (HB3.out.trans (HBR.out.mono HB3.out.size))
        clear HB3 HBR HL3 HG HGL
        go_wp2_with fail
        obtain ⟨WA, hWA⟩ : ∃ WA, WA = wr.alloc (.cells #[va, vb] 46) := ⟨_, rfl⟩
        have HBA : Hid (Below w.heap.size w WA) := by rw [hWA]; exact below_alloc HBE.out _
        have HKA : Hid (WA.heap[wr.heap.size]? = some (.cells #[va, vb] 46 (0, 0))) := by rw [hWA]; exact heap_alloc_new _ _
        rw [← hWA]
        clear hWA HBE
        have HFA : Hid (∀ w', Below WA.heap.size WA w' → w'.cell? ⟨wr.heap.size, 0, none⟩ = some va ∧ w'.cell? ⟨wr.heap.size, 1, none⟩ = some vb) := fun w' hw' => by
          have h := (hw'.block _ (Array.getElem?_eq_some_iff.1 HKA.out).1).trans HKA.out
          exact ⟨(cell_of_row _ _ _ _ _ _ h).trans rfl, (cell_of_row _ _ _ _ _ _ h).trans rfl⟩
        have HCM : Hid ((DA < DB ∧ Max.max DA DB = DB) ∨ (¬ DA < DB ∧ Max.max DA DB = DA)) := by show _ ∨ _; omega
        have HCN : Hid ((DA < 2 ∧ Max.max 2 DA = 2) ∨ (¬ DA < 2 ∧ Max.max 2 DA = DA)) := by show _ ∨ _; omega
        refine (HAND.out _).1.mono ?_
        rintro e w4 ⟨rfl, hb4⟩
        have HX4 := hidIn hb4
        obtain ⟨x0, x1⟩ := HFA.out w4 hb4
        clear hb4
        go_wp2_with fail
        obtain ⟨WB, hWB⟩ : ∃ WB, WB = w4.alloc (.cells #[.iface 66 (.agg #[.iface 64 (.agg #[.string ⟨#[122, 122]⟩]), .iface 48 (.agg #[.int .i64 1])]), va] 51) := ⟨_, rfl⟩
        have HXB : Hid (Below WA.heap.size WA WB) := by rw [hWB]; exact HX4.out.alloc HX4.out.size _
        have HKB : Hid (WB.heap[w4.heap.size]? = some (.cells #[.iface 66 (.agg #[.iface 64 (.agg #[.string ⟨#[122, 122]⟩]), .iface 48 (.agg #[.int .i64 1])]), va] 51 (0, 0))) := by rw [hWB]; exact heap_alloc_new _ _
        rw [← hWB]
        clear hWB x0 x1
        have HFB : Hid (∀ w', Below WB.heap.size WB w' → (w'.cell? ⟨wr.heap.size, 0, none⟩ = some va ∧ w'.cell? ⟨wr.heap.size, 1, none⟩ = some vb) ∧ w'.cell? ⟨w4.heap.size, 0, none⟩ = some (.iface 66 (.agg #[.iface 64 (.agg #[.string ⟨#[122, 122]⟩]), .iface 48 (.agg #[.int .i64 1])])) ∧ w'.cell? ⟨w4.heap.size, 1, none⟩ = some va) := fun w' hw' => by
          have h := (hw'.block _ (Array.getElem?_eq_some_iff.1 HKB.out).1).trans HKB.out
          exact ⟨HFA.out w' (HXB.out.trans (hw'.mono HXB.out.size)), (cell_of_row _ _ _ _ _ _ h).trans rfl, (cell_of_row _ _ _ _ _ _ h).trans rfl⟩
        have HBB : Hid (Below w.heap.size w WB) := HBA.out.trans (HXB.out.mono HBA.out.size)
        clear HFA HKA HKB HXB HBA HX4
        refine (HSC.out _).1.mono ?_
        rintro e w5 ⟨rfl, hb5⟩
        have HX5 := hidIn hb5
        obtain ⟨⟨x0, x1⟩, y0, y1⟩ := HFB.out w5 hb5
        clear hb5
        have HLEN : Hid (a.labels.length + b.labels.length ≤ 1000000) := by have h1 := labels_weight a; have h2 := labels_weight b; show _ ≤ _; omega
        rcases HCM.out with ⟨hm, hme⟩ | ⟨hm, hme⟩ <;> rcases HCN.out with ⟨hn, hne⟩ | ⟨hn, hne⟩
        all_goals
          rw [hme, hne]
          first | (have hm' : (DA : Int) < (DB : Int) := by omega) | (have hm' : ¬ (DA : Int) < (DB : Int) := by omega)
          first | (have hn' : (DA : Int) < 2 := by omega) | (have hn' : ¬ (DA : Int) < 2 := by omega)
          clear HCM HCN hme hne
          go_wp2_with fail
          refine (HAND.out _).2.mono ?_
          rintro e w6 ⟨v6, rfl, hr6, hb6⟩
          have HX6 := hidIn (HX5.out.trans (hb6.mono HX5.out.size))
          have HR6 := hidIn hr6
          clear hb6 hr6 x0 x1 y0 y1
          go_wp2_with fail
          refine (HLA.out _).mono ?_
          rintro e w7 ⟨v7, rfl, hr7, hb7⟩
          have HX7 := hidIn (HX6.out.trans (hb7.mono HX6.out.size))
          have HR7 := hidIn hr7
          have HR67 := hidIn (ownsRow_below HR6.out hb7)
          have HS67 : Hid (∀ k, v6.ownBlock = some k → k < w6.heap.size) := fun k hk => (HR6.out.lt k hk).2
          have HSA : Hid (w6.heap.size ≤ w7.heap.size) := hb7.size
          have HS7 : Hid (∀ k, v7.ownBlock = some k → w6.heap.size ≤ k) := fun k hk => (HR7.out.lt k hk).1
          clear hb7 hr7
          go_wp2_with fail
          refine (HLBB.out _).mono ?_
          rintro e w8 ⟨v8, rfl, hr8, hb8⟩
          have HX8 := hidIn (HX7.out.trans (hb8.mono HX7.out.size))
          have HR8 := hidIn hr8
          have HR78 := hidIn (ownsRow_below HR7.out hb8)
          have HR68 := hidIn (ownsRow_below HR67.out hb8)
          have HSZ : Hid (w6.heap.size ≤ w8.heap.size) := Nat.le_trans HSA.out hb8.size
          clear hb8 hr8
          go_wp2_with (first
            | (at_builtin; refine wpList_append_rows_met _ rfl _ _ rfl w6.heap.size _ a.labels rfl HR78.out w7.heap.size _ b.labels rfl HR8.out HLEN.out HSZ.out ?_; intro v9 w9 hown9 hgrow9)
            | fail)
          have HX9 : Hid (Below WB.heap.size WB w9) := HX8.out.grown hgrow9 (by have := HX8.out.size; omega) (fun k hk => by have := HS7.out k hk; have := HX6.out.size; omega)
          have HR69 := hidIn (HR68.out.kept hgrow9 (by
            by_cases h6 : v6.ownBlock = none
            · exact .inl h6
            · refine .inr (fun e => ?_)
              obtain ⟨k, hk⟩ := Option.ne_none_iff_exists'.1 h6
              have h1 := HS67.out k hk
              rw [e] at hk
              have h2 := HS7.out k hk
              omega))
          have HR9 := hidIn hown9
          clear hown9 hgrow9 HR6 HR67 HR68 HR7 HR78 HR8
          go_wp2_with fail
          refine (sameStr_any (a.labels ++ b.labels) v6 v9 _ _ w9 HR69.out HR9.out).mono ?_
          rintro e wA ⟨rfl, hbA⟩
          have hxA := HX9.out.trans (hbA.mono HX9.out.size)
          have HXA := hidIn hxA
          obtain ⟨⟨x0, x1⟩, y0, y1⟩ := HFB.out wA hxA
          clear hbA hxA
          go_wp2_with fail
          refine (HSC.out _).2.mono ?_
          rintro e wB ⟨g, n, cap, rfl, hn1, hcB, hbB⟩
          have hxB := HXA.out.trans (hbB.mono HXA.out.size)
          have HXB := hidIn hxB
          obtain ⟨⟨p0, p1⟩, q0, q1⟩ := HFB.out wB hxB
          clear hbB hxB hcB x0 x1 y0 y1
          go_wp2_with fail
          refine (HSC.out _).2.mono ?_
          rintro e wC ⟨g2, n2, cap2, rfl, hn2, hcC, hbC⟩
          have HXC := hidIn (HXB.out.trans (hbC.mono HXB.out.size))
          clear hbC p0 p1 q0 q1
          go_wp2_with fail
          refine (wakesT_any _).mono ?_
          rintro e wD ⟨rfl, hbD⟩
          go_wp2_with fail
          go_ret
          have h3 := HBB.out.trans (HXC.out.mono HBB.out.size)
          exact ⟨rfl, h3.trans (hbD.mono h3.size)⟩

end Go.Proofs.Ytjcigjmeafofaaa
