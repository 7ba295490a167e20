/- The walk of ValueNeeds. -/
import Derived.Test.YtdlflpnjmldakaaVNeeds0
import Derived.Test.YtdlflpnjmldakaaNumber
import Derived.Test.YtdlflpnjmldakaaMix2
namespace Go.Proofs.Ytdlflpnjmldakaa.Vl
open Go.RowKit Wd Cn
set_option linter.unusedVariables false

theorem three_names (w : World) (m : Nat) (hm : m < 3) : ∃ s : ByteArray, (s = ⟨#[108, 105, 98, 111, 114]⟩ ∨ s = ⟨#[114, 97, 105, 110]⟩ ∨ s = ⟨#[195, 182, 108]⟩) ∧ s.size ≤ 5 ∧ (w.alloc (.cells #[.string ⟨#[108, 105, 98, 111, 114]⟩, .string ⟨#[114, 97, 105, 110]⟩, .string ⟨#[195, 182, 108]⟩] 9)).cell? ⟨w.heap.size, m, none⟩ = some (.string s) := by
  rcases (by omega : m = 0 ∨ m = 1 ∨ m = 2) with rfl | rfl | rfl
  · exact ⟨_, .inl rfl, by decide, cell_of_row _ _ _ _ _ _ (heap_alloc_new _ _)⟩
  · exact ⟨_, .inr (.inl rfl), by decide, cell_of_row _ _ _ _ _ _ (heap_alloc_new _ _)⟩
  · exact ⟨_, .inr (.inr rfl), by decide, cell_of_row _ _ _ _ _ _ (heap_alloc_new _ _)⟩
theorem cell_gr {w w' : World} {f g k : Nat} {v : Value} (h : Gr f w w') (hm : ∃ es cl, w.heap[f]? = some (.map es cl)) (hc : w.cell? ⟨g, k, none⟩ = some v) : w'.cell? ⟨g, k, none⟩ = some v := by
  have hlt := World.block_lt_of_cell? w _ hc
  have hne : g ≠ f := by
    rintro rfl
    obtain ⟨es, cl, hm⟩ := hm
    simp [World.cell?, hm] at hc
  have hb := h.block g hlt hne
  simp only [World.cell?, hb] at hc ⊢
  exact hc
theorem check_in {w0 W : World} {p f c : Nat} {K : KW} (h : In w0 W p f c K) (o : O) (hok : o.Ok) (hsz : o.nodes ≤ 1000000) :
    Calls Try.prog 24 #[o.val] W fun e w' => e = .returned (.int .i64 (chk o)) ∧ In w0 w' p f c K ∧ Below W.heap.size W w' :=
  (check_any o hok hsz W).mono fun e w' h1 => ⟨h1.1, h.step h1.2, h1.2⟩
theorem of_in2 {w0 W : World} {p f c : Nat} {K : KW} (h : In w0 W p f c K) (o : O) (hok : o.Ok) (hsz : o.nodes ≤ 1000000) (d : Int) (hd : dayOk d) (r : Rk) (hr : ofR K d o = r) :
    Calls Try.prog 11 #[o.val, .int .i64 d, .pointer (some ⟨p, 0, none⟩)] W fun e w' => e = ofE r ∧ In w0 w' p f c K ∧ Below W.heap.size W w' := by
  refine (of_any o hok hsz W p f c K d h.kin hd).mono ?_
  rintro e w' ⟨rfl, hB⟩
  exact ⟨by rw [hr], h.step hB, hB⟩
theorem needs_in {w0 W : World} {p f c : Nat} {K : KW} (h : In w0 W p f c K) (o : O) (hok : o.Ok) (hsz : o.nodes ≤ 1000000) (d : Int) (hd : dayOk d) (l : List ByteArray) (hl : needR K d o = l) :
    Calls Try.prog 12 #[o.val, .int .i64 d, .pointer (some ⟨p, 0, none⟩)] W fun e w' => ∃ v, e = .returned v ∧ w'.ownsRow W.heap.size 9 1 v l.length (strCells l) ∧ In w0 w' p f c K ∧ Below W.heap.size W w' := by
  refine (needs_any o hok hsz W p f c K d h.kin hd).mono ?_
  rintro e w' ⟨v, rfl, ho, hB⟩
  exact ⟨v, rfl, by rw [← hl]; exact ho, h.step hB, hB⟩

set_option maxHeartbeats 8000000 in
set_option maxRecDepth 100000 in
theorem needs_walk (pl : Pl) (la : Option Addr) (ll lc : Nat) (lf : Nat → Int) (day v0 : Int) (w : World) (hp : PlanIn w pl) (hl : HasInts w la ll lf) (hll : ll ≤ 9223372036854775807) (hd1 : -9223372036854775808 ≤ day) (hd2 : day ≤ 9223372036854775807) (hv1 : -9223372036854775808 ≤ v0) (hv2 : v0 ≤ 9223372036854775807) :
    Calls Try.prog 7 #[planV pl, .slice la ll lc, .int .i64 day, .int .i64 v0] w fun e w' => e = .returned (.bool true) ∧ Below w.heap.size w w' := by
  obtain ⟨d, hd⟩ : ∃ d : Nat, day % 20 = d := ⟨(day % 20).toNat, by omega⟩
  have hd20 : d < 20 := by omega
  obtain ⟨u, hu⟩ : ∃ u : Nat, v0 % 100 = u := ⟨(v0 % 100).toNat, by omega⟩
  have hu100 : u < 100 := by omega
  have HWD := hidV (fun w : World => within_any day 20 w (by omega) (by omega) hd1 hd2)
  have HWV := hidV (fun w : World => within_any v0 100 w (by omega) (by omega) hv1 hv2)
  rw [hd] at HWD
  rw [hu] at HWV
  have HDY : Hid (dayB (d : Int) = true) := by unfold Hid dayB; simp; omega
  have HDO : Hid (dayOk d) := ⟨by omega, by omega⟩
  have HVU : Hid (vB (u : Int) = true) := by unfold Hid; rw [vB_iff]; omega
  clear hd hu hd1 hd2 hv1 hv2
  have HP := hidV hp
  have HL := hidV hl
  have HN := hidV (number_any pl)
  have HWH := hidV (numP_whole pl)
  have HOK := hidV (whole_ok _ (numP_whole pl))
  have HNO := hidV (numP_nodes pl)
  have HOB := hidV (fun (w : World) (v : Value) (ht : TIn w 0 (plain (numP pl)) v) => obsP_any (numP pl) (numP_whole pl) w v 0 ht)
  unfold planV
  clear hp hl
  have HNB : Hid ((numP pl).nodes ≤ 1000000) := by have := HNO.out; show _ ≤ _; omega
  go_enter Try.func7, Try.ntmps7
  go_wp2_with fail
  refine (HN.out _ (HP.out.below (below_alloc (Below.refl _ _) _))).mono ?_
  rintro e w1 ⟨v1, rfl, ht1, hb1⟩
  have HB1 : Hid (Below w.heap.size w w1) := (below_alloc (Below.refl _ _) _).trans (hb1.mono (by simp))
  clear hb1
  go_wp2_with fail
  refine (HOB.out w1 v1 (ht1.low (Nat.zero_le _))).mono ?_
  rintro e w2 ⟨rfl, hb2⟩
  have HB2 : Hid (Below w.heap.size w w2) := HB1.out.trans (hb2.mono HB1.out.size)
  clear hb2 ht1 HN HOB HP HB1
  generalize numP pl = o at *
  go_wp2_with fail
  refine (new_in' w2).mono ?_
  rintro e w3 ⟨p, f, c, rfl, hi⟩
  have HI3 := hidV (in_base hi HB2.out)
  clear hi HB2
  go_wp2_with fail
  refine (check_in HI3.out o HOK.out HNB.out).mono ?_
  rintro e w4 ⟨rfl, hi4, hb4⟩
  have HI4 := hidV hi4
  clear hi4 hb4 HI3
  by_cases hc : chk o = 0
  rotate_left
  · have hc1 : (chk o != 0) = true := by simpa using hc
    have HC := hidV hc
    clear hc
    generalize chk o = ck at *
    go_wp2_with fail
    refine (wakes9_in HI4.out).mono ?_
    rintro e w5 ⟨rfl, hi5⟩
    have HI5 := hidV hi5
    clear hi5
    go_wp2_with fail
    go_ret
    exact ⟨rfl, HI5.out.below⟩
  rw [hc]
  have HC := hidV hc
  clear hc
  go_wp2_with fail
  refine calls_same (HWD.out _) ?_
  go_wp2_with fail
  go_loopw [11] (fun s11 wr => ∃ (i : Nat) (K : KW), s11 = .int .i64 i ∧ i ≤ 3 ∧ i ≤ ll ∧ In w wr p f c K ∧ KW.Vals K ∧ K.F.length ≤ i) (fun s11 _ => 3 - (intOf s11).toNat)
  case atStart => exact ⟨0, ⟨[], []⟩, rfl, by omega, by omega, HI4.out, (fun q hq => by simp at hq), by simp⟩
  case round =>
    obtain ⟨i, K, rfl, hi3, hil, hin, hvals, hlen⟩ := hrel
    have HIN := hidV hin
    have HVL := hidV hvals
    have HLN := hidV hlen
    clear hin hvals hlen
    by_cases hlt : i < ll ∧ i < 3
    · obtain ⟨h1, h2⟩ := hlt
      have h1' : (i : Int) < (ll : Int) := by omega
      have h2' : (i : Int) < 3 := by omega
      obtain ⟨lb, lo, rfl, hlb, hlc, hf1, hf2⟩ := HL.out i h1
      obtain ⟨m, hm⟩ : ∃ m : Nat, lf i % 3 = m := ⟨(lf i % 3).toNat, by omega⟩
      have hm3 : m < 3 := by omega
      have HW3 := hidV (fun w : World => within_any (lf i) 3 w (by omega) (by omega) hf1 hf2)
      rw [hm] at HW3
      have HW50 := hidV (fun w : World => within_any (lf i) 50 w (by omega) (by omega) hf1 hf2)
      have HLC : Hid (∀ w', Below w.heap.size w w' → w'.cell? ⟨lb, lo + i, none⟩ = some (.int .i64 (lf i))) := fun w' hw' => (hw'.cell (p := ⟨lb, lo + i, none⟩) hlb).trans hlc
      clear hlc hm
      go_wp2_with fail
      refine Mx.wp_region_mix2 (fun w' => Below w.heap.size w w') (fun _ => True) 15 [(0, false), (2, false), (3, false), (4, false), (5, false), (6, false), (9, false), (10, false), (11, false), (12, false), (13, false), (14, false), (1, true), (7, true), (8, true), (15, true)] (by kernel_rfl) (by kernel_rfl) (HIN.out.below.drew) ?_ (by kernel_rfl)
      simp only [List.map_cons, List.map_nil, List.getD_cons_zero, List.getD_cons_succ]
      generalize hops : (#[_, _, _, _, _, _, _, _, _, _, _, _, _, _, _, _] : Array Oper) = ops
      clear hops
      refine Mx.n_pure (.pointer (some ⟨p, 0, none⟩)) (by decide) (Mx.wanted_none rfl) (fun w' hw' _ => ?_) ?_
      · go_simp
      simp only [Act.put, List.setIfInBounds_toArray, List.set_cons_zero, List.set_cons_succ]
      refine Mx.n_pure (.slice (some ⟨lb, lo, none⟩) ll lc) (by decide) (Mx.wanted_none rfl) (fun w' hw' _ => ?_) ?_
      · go_simp
      simp only [Act.put, List.setIfInBounds_toArray, List.set_cons_zero, List.set_cons_succ]
      refine Mx.n_pure (.int .i64 i) (by decide) (Mx.wanted_none rfl) (fun w' hw' _ => ?_) ?_
      · go_simp
      simp only [Act.put, List.setIfInBounds_toArray, List.set_cons_zero, List.set_cons_succ]
      refine Mx.n_pure (.pointer (some ⟨lb, lo + i, none⟩)) (by decide) (Mx.wanted_none rfl) (fun w' hw' _ => ?_) ?_
      · go_simp
      simp only [Act.put, List.setIfInBounds_toArray, List.set_cons_zero, List.set_cons_succ]
      refine Mx.n_pure (.int .i64 (lf i)) (by decide) (Mx.wanted_none rfl) (fun w' hw' _ => ?_) ?_
      · have hc := HLC.out w' hw'
        go_simp
      simp only [Act.put, List.setIfInBounds_toArray, List.set_cons_zero, List.set_cons_succ]
      refine Mx.n_reads 8 #[.int .i64 (lf i), .int .i64 3] (.int .i64 (m : Int)) (by decide) (Mx.wanted_none rfl) (fun w' hw' => ?_) (fun w' hw' _ => HW3.out w') ?_
      · go_simp
      simp only [Act.put, List.setIfInBounds_toArray, List.set_cons_zero, List.set_cons_succ]
      refine Mx.n_pure (.int .i64 d) (by decide) (Mx.wanted_none rfl) (fun w' hw' _ => ?_) ?_
      · go_simp
      simp only [Act.put, List.setIfInBounds_toArray, List.set_cons_zero, List.set_cons_succ]
      refine Mx.n_pure (.slice (some ⟨lb, lo, none⟩) ll lc) (by decide) (Mx.wanted_none rfl) (fun w' hw' _ => ?_) ?_
      · go_simp
      simp only [Act.put, List.setIfInBounds_toArray, List.set_cons_zero, List.set_cons_succ]
      refine Mx.n_pure (.int .i64 i) (by decide) (Mx.wanted_none rfl) (fun w' hw' _ => ?_) ?_
      · go_simp
      simp only [Act.put, List.setIfInBounds_toArray, List.set_cons_zero, List.set_cons_succ]
      refine Mx.n_pure (.pointer (some ⟨lb, lo + i, none⟩)) (by decide) (Mx.wanted_none rfl) (fun w' hw' _ => ?_) ?_
      · go_simp
      simp only [Act.put, List.setIfInBounds_toArray, List.set_cons_zero, List.set_cons_succ]
      refine Mx.n_pure (.int .i64 (lf i)) (by decide) (Mx.wanted_none rfl) (fun w' hw' _ => ?_) ?_
      · have hc := HLC.out w' hw'
        go_simp
      simp only [Act.put, List.setIfInBounds_toArray, List.set_cons_zero, List.set_cons_succ]
      refine Mx.n_reads 8 #[.int .i64 (lf i), .int .i64 50] (.int .i64 (lf i % 50)) (by decide) (Mx.wanted_none rfl) (fun w' hw' => ?_) (fun w' hw' _ => HW50.out w') ?_
      · go_simp
      simp only [Act.put, List.setIfInBounds_toArray, List.set_cons_zero, List.set_cons_succ]
      refine Mx.n_run (.slice (some ⟨wr.heap.size, 0, none⟩) 3 3) (Mx.wanted_none rfl) (w' := wr.drew.alloc (.cells #[.string ⟨#[108, 105, 98, 111, 114]⟩, .string ⟨#[114, 97, 105, 110]⟩, .string ⟨#[195, 182, 108]⟩] 9)) ?_ (HIN.out.below.drew.alloc (by have := HIN.out.below.size; simpa using this) _) (fun _ => trivial) ?_
      · go_simp
      simp only [Act.put, List.setIfInBounds_toArray, List.set_cons_zero, List.set_cons_succ]
      have HI1 := hidV (HIN.out.step (((Below.refl wr.heap.size wr).drew.alloc (by simp) (.cells #[.string ⟨#[108, 105, 98, 111, 114]⟩, .string ⟨#[114, 97, 105, 110]⟩, .string ⟨#[195, 182, 108]⟩] 9))))
      obtain ⟨sn, hsn, hsz, hcell⟩ := three_names wr.drew m hm3
      replace hcell : (wr.drew.alloc (.cells #[.string ⟨#[108, 105, 98, 111, 114]⟩, .string ⟨#[114, 97, 105, 110]⟩, .string ⟨#[195, 182, 108]⟩] 9)).cell? ⟨wr.heap.size, m, none⟩ = some (.string sn) := hcell
      generalize hX : wr.drew.alloc (.cells #[.string ⟨#[108, 105, 98, 111, 114]⟩, .string ⟨#[114, 97, 105, 110]⟩, .string ⟨#[195, 182, 108]⟩] 9) = X at *
      have HXB := hidV HI1.out.below
      refine Mx.n_run (.pointer (some ⟨wr.heap.size, m, none⟩)) (Mx.wanted_none rfl) (w' := X) ?_ HXB.out (fun _ => trivial) ?_
      · have hq : ¬ ((3 : Int) ≤ (m : Int)) := by omega
        go_simp
      simp only [Act.put, List.setIfInBounds_toArray, List.set_cons_zero, List.set_cons_succ]
      refine Mx.n_run (.string sn) (Mx.wanted_none rfl) (w' := X) ?_ HXB.out (fun _ => trivial) ?_
      · go_simp
      simp only [Act.put, List.setIfInBounds_toArray, List.set_cons_zero, List.set_cons_succ]
      refine Mx.n_call 10 #[.pointer (some ⟨p, 0, none⟩), .string sn, .int .i64 d, .int .i64 (lf i % 50)] (Mx.wanted_none rfl) ?_ ?_
      · go_simp
      refine (fix_in HI1.out sn d (lf i % 50) ⟨Nat.le_trans hsz (by decide), by omega, by omega⟩ _ _ rfl rfl).mono ?_
      rintro e w9 ⟨rfl, hi9⟩
      have HI9 := hidV hi9
      refine ⟨_, rfl, hi9.below, fun _ => trivial, ?_⟩
      clear hi9
      simp only [Act.put, List.setIfInBounds_toArray, List.set_cons_zero, List.set_cons_succ]
      refine Mx.n_nil ?_
      intro _ _
      clear hcell hsn hX HXB HI1
      have HK9 : Hid (KW.Vals (fixN K sn (d : Int) (lf i % 50)) ∧ (fixN K sn (d : Int) (lf i % 50)).F.length ≤ i + 1) := ⟨fixN_vals _ _ _ _ HVL.out, Nat.le_trans (fixN_length _ _ _ _) (by have := HLN.out; omega)⟩
      generalize fixN K sn (d : Int) (lf i % 50) = K9 at *
      go_wp2_with fail
      go_roundw
      case rel => exact ⟨i + 1, K9, by go_num, by omega, by omega, HI9.out, HK9.out.1, HK9.out.2⟩
      case measure => simp [intOf] <;> omega
    · have hlt2 : ¬ (i : Int) < (ll : Int) ∨ ¬ (i : Int) < 3 := by omega
      obtain ⟨nd, hnd⟩ : ∃ l, needR K d o = l := ⟨_, rfl⟩
      have HLK : Hid (nd = lackN K d o.names) := by unfold Hid; rw [← hnd]; unfold needR; rw [if_pos HC.out]
      have hstop : (decide ((i : Int) < (ll : Int)) && decide ((i : Int) < 3)) = false := by
        rcases hlt2 with h | h <;> simp [h]
      rcases (by omega : ((i : Int) < (ll : Int) ∧ ¬ (i : Int) < 3) ∨ ¬ (i : Int) < (ll : Int)) with ⟨h1, h3⟩ | h1
      all_goals
        clear hlt hlt2 hstop
        go_wp2_with fail
        refine (needs_in HIN.out o HOK.out HNB.out d HDO.out nd hnd).mono ?_
        rintro e w5 ⟨v5, rfl, ho5, hi5, hb5⟩
        obtain ⟨ao, cap, rfl, hcs, hlen5⟩ := own_str ho5
        have HI5 := hidV hi5
        have HCS := hidV hcs
        clear ho5 hi5 hb5 hcs
        go_wp2_with fail
        refine (names_any o HOK.out HNB.out w5).mono ?_
        rintro e w6 ⟨v6, rfl, ho6, hb6⟩
        obtain ⟨an, capn, rfl, hcn, hlen6⟩ := own_str ho6
        have HI6 := hidV (HI5.out.step hb6)
        have HCS6 : Hid (∀ k (hk : k < nd.length), ∃ g, ao = some ⟨g, 0, none⟩ ∧ w6.cell? ⟨g, k, none⟩ = some (.string nd[k])) := fun k hk => by
          obtain ⟨g, e1, e2, e3⟩ := HCS.out k hk
          exact ⟨g, e1, (hb6.cell (p := ⟨g, k, none⟩) e2).trans e3⟩
        have HCN := hidV hcn
        have HFEW := hidV (names_few o)
        have HND := hidV (lackN_nodup K d _ (names_nodup o))
        have HNL := hidV (lackN_length K d o.names)
        rw [← HLK.out] at HND HNL
        have HNM : Hid (∀ s ∈ nd, nameGo 0 (runesOf s) = true ∧ K.fixed (s, (d : Int)) = none) := fun s hs => by
          rw [HLK.out] at hs
          exact ⟨names_form o (chk_form HC.out) s (lack_mem hs).1, (lack_mem hs).2⟩
        have HAK := hidV (addK_all K d (u : Int) o HC.out)
        rw [← HLK.out] at HAK
        have HSM := hidV (names_small o HOK.out)
        have HNS : Hid (∀ s ∈ nd, s.size ≤ 2147483648) := fun s hs => by
          rw [HLK.out] at hs
          exact HSM.out s (lack_mem hs).1
        clear ho6 hb6 hcn HCS HI5 hnd
        generalize o.names = l at *
        have hll6 : l.length ≤ 1000000 := by have := HFEW.out; have := HNB.out; omega
        go_wp2_with fail
        go_loopw [76, 14] (fun s76 s14 wx => ∃ j : Nat, j ≤ l.length ∧ s76 = .int .i64 j ∧ s14 = .int .i64 (lackN K d (l.take j)).length ∧ wx = w6) (fun s76 _ _ => l.length - (intOf s76).toNat)
        case atStart => exact ⟨0, by omega, rfl, rfl, rfl⟩
        case round =>
          obtain ⟨j, hj, rfl, rfl, rfl⟩ := hrel
          by_cases hjl : j < l.length
          · have hjl' : (j : Int) < (l.length : Int) := by omega
            obtain ⟨g, rfl, hg, hgc⟩ := HCN.out j hjl
            have HF := hidV (fixed_any wr p f c K HI6.out.kin l[j] d ⟨Nat.le_trans (HSM.out _ (List.getElem_mem hjl)) (by decide), HDO.out.1, HDO.out.2⟩)
            have HT := hidV (take_more l j l[j] (List.getElem?_eq_getElem hjl))
            have HS := hidV (lackN_snoc K d (l.take j) l[j])
            rw [← HT.out] at HS
            cases hfx : (K.fixed (l[j], (d : Int))).isSome
            · obtain ⟨hk, hks⟩ := lack_take K d l j hjl hfx
              rw [hfx] at HS HF
              have HS2 : Hid (lackN K d (l.take (j + 1)) = lackN K d (l.take j) ++ [l[j]]) := HS.out
              have hkn : (lackN K d (l.take j)).length < nd.length := by rw [HLK.out]; exact hk
              obtain ⟨g2, hao, hg2⟩ := HCS6.out _ hkn
              have hks2 : nd[(lackN K d (l.take j)).length] = l[j] := by
                rw [← hks]; congr 1
              rw [hks2] at hg2
              subst hao
              clear hk hks hks2 HS hfx
              generalize l[j] = s at *
              generalize (K.fixed (s, (d : Int))).getD 0 = fx at *
              have HLL : Hid ((lackN K d (l.take (j + 1))).length = (lackN K d (l.take j)).length + 1) := by unfold Hid; rw [HS2.out]; simp
              generalize (lackN K d (l.take j)).length = kk at *
              have hkn' : (kk : Int) < (nd.length : Int) := by omega
              go_wp2_with fail
              refine calls_same HF.out ?_
              go_wp2_with fail
              go_roundw
              case rel => exact ⟨j + 1, by omega, by go_num, by rw [HLL.out]; go_num, trivial⟩
              case measure => simp [intOf] <;> omega
            · rw [hfx] at HS HF
              have HS2 : Hid (lackN K d (l.take (j + 1)) = lackN K d (l.take j)) := HS.out
              clear HS hfx
              generalize l[j] = s at *
              generalize (K.fixed (s, (d : Int))).getD 0 = fx at *
              go_wp2_with fail
              refine calls_same HF.out ?_
              go_wp2_with fail
              go_roundw
              case rel => exact ⟨j + 1, by omega, by go_num, by rw [HS2.out], trivial⟩
              case measure => simp [intOf] <;> omega
          · have hje : j = l.length := by omega
            subst hje
            have HLE : Hid ((lackN K d (l.take l.length)).length = nd.length) := by unfold Hid; rw [List.take_length, HLK.out]
            rw [HLE.out]
            go_wp2_with fail
            clear HCN HLE
            go_loopw [110] (fun s110 wx => ∃ j : Nat, j ≤ nd.length ∧ s110 = .int .i64 j ∧ In w wx p f c (addK K d u (nd.take j)) ∧ ∀ k (hk : k < nd.length), ∃ g, ao = some ⟨g, 0, none⟩ ∧ wx.cell? ⟨g, k, none⟩ = some (.string nd[k])) (fun s110 _ => nd.length - (intOf s110).toNat)
            case atStart => exact ⟨0, by omega, rfl, by rw [List.take_zero, addK_nil]; exact HI6.out, HCS6.out⟩
            case round =>
              obtain ⟨j, hj, rfl, hjin, hjc⟩ := hrel
              have HJI := hidV hjin
              have HJC := hidV hjc
              clear hjin hjc
              by_cases hjl : j < nd.length
              · have hjl' : (j : Int) < (nd.length : Int) := by omega
                obtain ⟨g, hao, hgc⟩ := HJC.out j hjl
                obtain ⟨q1, q2⟩ := HNM.out nd[j] (List.getElem_mem hjl)
                have HST := hidV (step_fixE K d u nd j hjl HND.out q1 HDY.out HVU.out q2 (by have := HLN.out; have := HFEW.out; have := HNO.out; have := HNL.out; omega))
                have HF := hidV (fix_any _ p f c _ HJI.out.kin nd[j] d u ⟨Nat.le_trans (HNS.out _ (List.getElem_mem hjl)) (by decide), HDO.out.1, HDO.out.2⟩)
                rw [HST.out.1, HST.out.2] at HF
                clear q1 q2 HST
                subst hao
                generalize nd[j] = s at hgc HF ⊢
                go_wp2_with fail
                refine calls_same (HWV.out _) ?_
                go_wp2_with fail
                refine HF.out.mono ?_
                rintro e w8 ⟨rfl, hk8, hg8⟩
                have HI8 := hidV (HJI.out.gr hk8 hg8 HJI.out.hf)
                have HC8 : Hid (∀ k (hk : k < nd.length), ∃ g2, some (⟨g, 0, none⟩ : Addr) = some ⟨g2, 0, none⟩ ∧ w8.cell? ⟨g2, k, none⟩ = some (.string nd[k])) := fun k hk => by
                  obtain ⟨g2, e1, e2⟩ := HJC.out k hk
                  exact ⟨g2, e1, cell_gr hg8 (by obtain ⟨es, cl, hm, _⟩ := HJI.out.kin.fix; exact ⟨es, cl, hm⟩) e2⟩
                clear hk8 hg8 HF
                go_wp2_with fail
                go_roundw
                case rel => exact ⟨j + 1, by omega, by go_num, HI8.out, HC8.out⟩
                case measure => simp [intOf] <;> omega
              · have hje : j = nd.length := by omega
                subst hje
                have HJI2 : Hid (In w wr p f c (addK K d u nd)) := by have h := HJI.out; rw [List.take_length] at h; exact h
                have HFU := hidV (full_of (addK K d u nd) (addK_vals K d u nd HVL.out HVU.out) d o HC.out HAK.out)
                obtain ⟨rr, hrr⟩ : ∃ rr, ofR (addK K d u nd) d o = rr := ⟨_, rfl⟩
                rw [hrr] at HFU
                clear HJI HJC HCS6 HI6
                go_wp2_with fail
                refine (of_in2 HJI2.out o HOK.out HNB.out d HDO.out rr hrr).mono ?_
                rintro e w9 ⟨rfl, hi9, hb9⟩
                have HI9 := hidV hi9
                obtain ⟨rn, rknown, re⟩ := rr
                simp only at HFU
                unfold ofE
                clear hi9 hb9 hrr
                rcases HFU.out with ⟨rfl, rfl⟩ | ⟨rfl, rfl⟩
                all_goals
                  clear HFU
                  go_wp2_with fail
                  refine (needs_in HI9.out o HOK.out HNB.out d HDO.out [] HAK.out).mono ?_
                  rintro e w10 ⟨v10, rfl, ho10, hi10, hb10⟩
                  obtain ⟨ax, capx, rfl, hx1, hx2⟩ := own_str ho10
                  have HI10 := hidV hi10
                  clear hi10 hb10 ho10 hx1 hx2
                  rw [List.length_nil]
                  go_wp2_with fail
                  refine (wakes9_in HI10.out).mono ?_
                  rintro e w11 ⟨rfl, hi11⟩
                  have HI11 := hidV hi11
                  clear hi11
                  go_wp2_with fail
                  go_ret
                  exact ⟨rfl, HI11.out.below⟩

end Go.Proofs.Ytdlflpnjmldakaa.Vl
