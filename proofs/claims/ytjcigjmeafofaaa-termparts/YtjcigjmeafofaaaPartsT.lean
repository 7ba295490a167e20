/- The walk of the statement TermParts. -/
import Derived.Test.YtjcigjmeafofaaaTermW
import Derived.Test.YtjcigjmeafofaaaRows2
namespace Go.Proofs.Ytjcigjmeafofaaa
open Go.RowKit
set_option linter.unusedVariables false

set_option maxHeartbeats 8000000 in
set_option maxRecDepth 100000 in
theorem partsT_walk (p : Pl) (w : World) (hp : PlanIn w p) :
    Calls Try.prog 6 #[planV p] w fun e w' => e = .returned (.bool true) ∧ Below w.heap.size w w' := by
  have HP : Hid (PlanIn w p) := hp
  have HWH := hidIn (conP_whole p)
  have HWT := hidIn (conP_weight p)
  unfold planV
  clear hp
  obtain ⟨i0, gi, gz0, gz1, gz2⟩ := info_parts infoStr
  obtain ⟨W, hW⟩ : ∃ W, W = w.alloc (.cells #[.slice p.na p.nl p.nc, .slice p.wa p.wl p.wc] 25) := ⟨_, rfl⟩
  have HB : Hid (Below w.heap.size w W) := by rw [hW]; exact below_alloc (Below.refl _ _) _
  have HPW : Hid (PlanIn W p) := HP.out.below HB.out
  go_enter Try.func6, Try.ntmps6
  go_wp2_with fail
  rw [← hW]
  clear hW
  refine (con_made HPW.out (Below.refl _ _)).mono ?_
  rintro e wA ⟨vA, rfl, hxA, htA⟩
  have HXA := hidIn hxA
  have HTA := hidIn htA
  clear hxA htA
  go_wp2_with fail
  refine (con_term HXA.out HTA.out).mono ?_
  rintro e wB ⟨rfl, hxB⟩
  have HBB := hidIn (HB.out.trans (hxB.mono HB.out.size))
  clear hxB HXA HTA HPW HP HB
  generalize hC : conP p = c at *
  clear hC
  have HOK := hidIn (cwhole_ok c HWH.out)
  have hwn := weight_nodes c
  have hw6 : c.weight ≤ 630 := HWT.out
  have hdn := cdepth_nodes c
  have h2k := c.kids_two
  have HLK := hidIn (labels_kids c)
  have HWK : Hid (c.weight = c.own + weightL c.kids) := weight_kids c
  have HKO : Hid (∀ k ∈ c.kids, k.Ok ∧ k.nodes < c.nodes ∧ k.weight ≤ 630) := fun k hk => by
    refine ⟨HOK.out.kid hk, cnodes_kid hk, ?_⟩
    have h1 := HWK.out
    have h3 : ∀ (l : List C), k ∈ l → k.weight ≤ weightL l := by
      intro l
      induction l with
      | nil => intro h; simp at h
      | cons a l ih =>
        intro h
        simp only [List.mem_cons] at h
        simp only [weightL]
        rcases h with rfl | h
        · omega
        · have := ih h; omega
    have := h3 c.kids hk
    omega
  have HZ : Hid (∀ w, Calls Try.prog 14 #[c.val] w fun e w' => e = .returned (.tuple #[.int .i64 (c.nodes : Int), .int .i64 (c.depth : Int)]) ∧ Below w.heap.size w w') := fun w => sizeT_any c HOK.out (by omega) w
  have HLB : Hid (∀ w, Calls Try.prog 16 #[c.val] w fun e w' => ∃ v, e = .returned v ∧ w'.ownsRow w.heap.size 9 1 v c.labels.length (strCells c.labels) ∧ Below w.heap.size w w') := fun w => labelsT_any c HOK.out (by omega) w
  have HKD : Hid (∀ w, Calls Try.prog 18 #[c.val] w fun e w' => ∃ b, e = .returned (.slice b c.kids.length c.kids.length) ∧ HasTerm w' b c.kids ∧ (∀ k x s, b = some ⟨k, x, s⟩ → w.heap.size ≤ k) ∧ Below w.heap.size w w') := fun w => kidsT_new c HOK.out w
  have HSM : Hid (∀ w, Calls Try.prog 12 #[c.val, c.val] w fun e w' => e = .returned (.bool true) ∧ Below w.heap.size w w') := fun w => by
    have h := sameT_any c HOK.out c HOK.out w
    rw [whole_sameC c HWH.out] at h
    exact h
  have HNK : Hid (c.nodes = sumN c.nums + sumC c.kids + 1 ∧ c.depth = Max.max (maxD c.nums) (maxC c.kids) + 1) := by
    have h0 : c.kind ≠ 0 := by
      have := HWH.out
      cases c <;> simp [C.kind]
      exact this
    exact ⟨cnodes_kids c h0, cdepth_kids c h0⟩
  obtain ⟨sO, lO, rO, bO, hO, qlO, qrO, hcO⟩ := or_part c HOK.out
  obtain ⟨lS, rS, bS, hS, qlS, qrS, hcS⟩ := scale_part c HOK.out
  obtain ⟨oI, lI, rI, bI, hI, qoI, qlI, qrI, hcI⟩ := if_part c HOK.out
  have HCO : Hid (c.labels = (if bO = true then [sO] else []) ++ labL c.kids) := by
    unfold Hid
    rw [HLK.out]
    rcases hcO with ⟨rfl, h5, rfl⟩ | ⟨rfl, h5⟩
    · rw [if_pos h5, if_pos rfl]
    · rw [if_neg h5, if_neg (by simp)]
  have HCS := hidIn hcS
  have HCI := hidIn hcI
  clear hcO hcS hcI HLK
  obtain ⟨v, hv⟩ : ∃ v, c.val = v := ⟨_, rfl⟩
  rw [hv] at HZ HLB HKD HSM hO hS hI ⊢
  clear hv
  have s1 := qlO.store
  have s2 := qrO.store
  have s3 := qlS.store
  have s4 := qrS.store
  have s5 := qoI.store
  have s6 := qlI.store
  have s7 := qrI.store
  have c1 := qlO.cells
  have c2 := qrO.cells
  have c3 := qlS.cells
  have c4 := qrS.cells
  have c5 := qoI.cells
  have c6 := qlI.cells
  have c7 := qrI.cells
  clear qlO qrO qlS qrS qoI qlI qrI
  go_wp2_with fail
  refine (HZ.out _).mono ?_
  rintro e w1 ⟨rfl, hb1⟩
  have HB1 := hidIn (HBB.out.trans (hb1.mono HBB.out.size))
  clear hb1 HBB HZ
  go_upto_if 32 with fail
  go_cut [8] (fun s8 wx => wx.ownsRow w.heap.size 9 1 s8 (if bO = true then [sO] else []).length (strCells (if bO = true then [sO] else [])) ∧ Below w.heap.size w wx)
  case first =>
    cases bO
    · go_wp2_with fail
      go_meet
      case rel => exact ⟨World.ownsRow_nil _ _ _ _, below_alloc HB1.out _⟩
    · have hbs := HB1.out.size
      go_wp2_with (first
        | (at_builtin; refine wpList_append_own _ rfl _ _ 23 rfl w.heap.size 9 i0 (.string ByteArray.empty) 1 16 Try.underlying23 gi gz0 gz1 gz2 rfl (by decide) _ _ _ rfl (World.ownsRow_nil _ _ _ _) ⟨w1.heap.size + 1, 0, none⟩ 1 1 [.string sO] rfl rfl (cell_one_in (by simp) _ _) (by intro u hu; simp at hu; subst hu; rfl) (by unfold maxLen; omega) (by omega) (by simp; omega) ?_; intro v2 w2 hown2 hgrow2 _)
        | go_in)
      go_meet
      case rel =>
        refine ⟨by simpa [strCells] using hown2, ?_⟩
        have h1 : Below w.heap.size w ((w1.alloc (.cells #[.string sO, lO, rO] 44)).alloc (.cells #[.string sO] 9)) := below_alloc (below_alloc HB1.out _) _
        exact h1.grown hgrow2 (by have := h1.size; omega) (fun k hk => by cases hk)
  case rest =>
    obtain ⟨hrow0, hbx⟩ := hcut
    have HROW0 := hidIn hrow0
    have HBX := hidIn hbx
    clear hrow0 hbx HB1
    go_wp2_with fail
    refine (HKD.out _).mono ?_
    rintro e w2 ⟨kb, rfl, hk2, hkn2, hb2⟩
    have HK2 := hidIn hk2
    have HB2 := hidIn (HBX.out.trans (hb2.mono HBX.out.size))
    have HROW2 := hidIn (ownsRow_below HROW0.out hb2)
    have HKB : Hid (∀ k, u8.ownBlock = some k → kb ≠ some ⟨k, 0, none⟩) := fun k hk e => by have := (HROW0.out.lt k hk).2; have := hkn2 k 0 none e; omega
    clear hk2 hb2 HKD hkn2
    generalize hl0 : (if bO = true then [sO] else []) = l0 at *
    have hl01 : l0.length ≤ 1 := by rw [← hl0]; split <;> simp
    clear hl0
    go_wp2_with fail
    go_loopw [41, 6, 7, 8] (fun s41 s6 s7 s8 wr => ∃ i : Nat, i ≤ c.kids.length ∧ s41 = .int .i64 i ∧ s6 = .int .i64 (sumC (c.kids.take i) : Nat) ∧ s7 = .int .i64 (maxC (c.kids.take i) : Nat) ∧ wr.ownsRow w.heap.size 9 1 s8 (l0 ++ labL (c.kids.take i)).length (strCells (l0 ++ labL (c.kids.take i))) ∧ Below w.heap.size w wr ∧ HasTerm wr kb c.kids ∧ (∀ k, s8.ownBlock = some k → kb ≠ some ⟨k, 0, none⟩)) (fun s41 _ _ _ _ => c.kids.length - (intOf s41).toNat)
    case atStart => exact ⟨0, by omega, rfl, rfl, rfl, by simpa [labL] using HROW2.out, HB2.out, HK2.out, HKB.out⟩
    case round =>
      clear HROW2 HB2 HK2 HKB HROW0 HBX
      obtain ⟨i, hi, rfl, rfl, rfl, hrow, hbr, hkr, hkb⟩ := hrel
      have HROW := hidIn hrow
      have HBR := hidIn hbr
      have HKR := hidIn hkr
      have HKB := hidIn hkb
      clear hrow hbr hkr hkb
      have hq1 := sumC_take c.kids i
      have hq2 := maxC_sumC (c.kids.take i)
      have hnk : sumC c.kids + 1 ≤ c.nodes := by have := HNK.out.1; omega
      by_cases hlt : i < c.kids.length
      · have hlt' : (i : Int) < (c.kids.length : Int) := by omega
        obtain ⟨k, hki⟩ : ∃ k, c.kids[i]? = some k := ⟨_, List.getElem?_eq_getElem hlt⟩
        obtain ⟨q, rfl, hc⟩ := HKR.out i k hki
        have hqlt := World.block_lt_of_cell? _ _ hc
        have HQL := hidIn hqlt
        obtain ⟨ok, on, ow⟩ := HKO.out k (List.mem_of_getElem? hki)
        have HOKK := hidIn ok
        have ht := take_more _ _ _ hki
        have HT1 : Hid (sumC (c.kids.take (i + 1)) = sumC (c.kids.take i) + k.nodes) := by unfold Hid; rw [ht, sumC_snoc]
        have HT2 : Hid (maxC (c.kids.take (i + 1)) = Max.max (maxC (c.kids.take i)) k.depth) := by unfold Hid; rw [ht, maxC_snoc]
        have HT3 : Hid (l0 ++ labL (c.kids.take (i + 1)) = (l0 ++ labL (c.kids.take i)) ++ k.labels) := by unfold Hid; rw [ht, labL_snoc, List.append_assoc]
        have hs4 := sumC_take c.kids (i + 1)
        rw [HT1.out] at hs4
        have hs5 := cdepth_nodes k
        have HLEN : Hid ((l0 ++ labL (c.kids.take i)).length + k.labels.length ≤ 1000000) := by
          have h1 := labels_weight k
          have h2 := labL_weight (c.kids.take i)
          have h3 := weightL_take c.kids i
          have h4 := HWK.out
          rw [List.length_append]
          show _ ≤ _
          omega
        clear hki ht ok hqlt
        generalize sumC (c.kids.take i) = S at *
        generalize maxC (c.kids.take i) = D at *
        generalize l0 ++ labL (c.kids.take i) = L at *
        go_wp2_with fail
        refine (sizeT_any k HOKK.out (by omega) wr).mono ?_
        rintro e w3 ⟨rfl, hb3⟩
        have HB3 := hidIn (HBR.out.trans (hb3.mono HBR.out.size))
        have HS3 : Hid (wr.heap.size ≤ w3.heap.size) := hb3.size
        have HROW3 := hidIn (ownsRow_below HROW.out hb3)
        have HK3 := hidIn (HKR.out.below hb3)
        clear hb3 hc
        go_wp2_with fail
        all_goals
          refine (labelsT_any k HOKK.out (by omega) w3).mono ?_
          rintro e w4 ⟨v4, rfl, hrow4, hb4⟩
          have HB4 := hidIn (HB3.out.trans (hb4.mono HB3.out.size))
          have HS34 : Hid (wr.heap.size ≤ w4.heap.size) := Nat.le_trans HS3.out hb4.size
          have HROW4 := hidIn (ownsRow_below HROW3.out hb4)
          have HK4 := hidIn (HK3.out.below hb4)
          have HNEW := hidIn hrow4
          clear hb4 hrow4
          go_wp2_with (first
            | (at_builtin; refine wpList_append_rows _ rfl _ _ rfl w.heap.size _ L rfl HROW4.out w3.heap.size _ k.labels rfl HNEW.out HLEN.out HB4.out.size ?_; intro v5 w5 hown5 hgrow5 hloc5)
            | go_in)
          have HB5 : Hid (Below w.heap.size w w5) := HB4.out.grown hgrow5 HB4.out.size (fun j hj => (HROW4.out.lt j hj).1)
          have HOWN5 := hidIn hown5
          have HK5 : Hid (HasTerm w5 (some ⟨q, 0, none⟩) c.kids) := fun j x hj => by
            obtain ⟨b, e, hcc⟩ := HK4.out j x hj
            refine ⟨b, e, ?_⟩
            have hlt4 := World.block_lt_of_cell? _ _ hcc
            have hb := hgrow5.block b hlt4 (fun e2 => HKB.out b e2.symm e)
            simp only [World.cell?, hb] at hcc ⊢
            exact hcc
          have HKB5 : Hid (∀ j, v5.ownBlock = some j → some (⟨q, 0, none⟩ : Addr) ≠ some ⟨j, 0, none⟩) := fun j hj e => by
            rcases hloc5 with h | h
            · rw [h] at hj; exact HKB.out j hj e
            · rw [h] at hj
              injection hj with hj
              injection e with e
              injection e with e
              have h1 := HQL.out
              have h2 := HS34.out
              omega
          clear hown5 hgrow5 hloc5
          go_wp2_with fail
          go_roundw
          case rel => exact ⟨i + 1, by omega, by go_num, by rw [HT1.out]; go_num, by rw [HT2.out]; first | go_num | (congr 2; omega), by rw [HT3.out]; exact HOWN5.out, HB5.out, HK5.out, HKB5.out⟩
          case measure => simp [intOf]; omega
      · have hle : i = c.kids.length := by omega
        subst hle
        rw [List.take_length]
        have HROWE : Hid (wr.ownsRow w.heap.size 9 1 u8 c.labels.length (strCells c.labels)) := by
          have h := HROW.out
          rw [List.take_length] at h
          unfold Hid
          rw [HCO.out]
          exact h
        rw [List.take_length] at hq1 hq2
        clear HROW
        have HA1 : Hid (bS = false → bI = false → c.nodes = sumC c.kids + 1 ∧ c.depth = maxC c.kids + 1) := fun e1 e2 => by
          have hs : c.kind ≠ 6 := by
            rcases HCS.out with ⟨h, _⟩ | ⟨_, h⟩
            · rw [e1] at h; cases h
            · exact h
          have hi : c.kind ≠ 8 := by
            rcases HCI.out with ⟨h, _⟩ | ⟨_, h⟩
            · rw [e2] at h; cases h
            · exact h
          have hn := plain_parts c hs hi
          obtain ⟨n1, n2⟩ := HNK.out
          rw [hn] at n1 n2
          simp only [sumN, maxD, Nat.zero_add] at n1 n2
          exact ⟨n1, by omega⟩
        have hdp : maxC c.kids + 1 ≤ c.depth := by have := HNK.out.2; omega
        have hgt1 : ¬ (c.nodes : Int) ≤ (sumC c.kids : Int) := by omega
        have hgt2 : ¬ (c.depth : Int) ≤ (maxC c.kids : Int) := by omega
        clear HCS HCI HNK HKR HKB hq1 hq2 hlt hi
        have HTAIL : Hid (∀ X, Below wr.heap.size wr X → Calls Try.prog 16 #[v] X fun e w' => ∃ vL, e = .returned vL ∧ w'.ownsRow X.heap.size 9 1 vL c.labels.length (strCells c.labels) ∧ w'.ownsRow w.heap.size 9 1 u8 c.labels.length (strCells c.labels) ∧ Below w.heap.size w w') := fun X hX =>
          (HLB.out X).mono (fun e w' ⟨vL, he, hr, hb⟩ => by
            have hx := hX.trans (hb.mono hX.size)
            exact ⟨vL, he, hr, ownsRow_below HROWE.out hx, HBR.out.trans (hx.mono HBR.out.size)⟩)
        obtain ⟨X0, hX0⟩ : ∃ X0, X0 = (wr.alloc (.cells #[lS, rS] 51)).alloc (.cells #[oI, lI, rI] 53) := ⟨_, rfl⟩
        have HX0 : Hid (Below wr.heap.size wr X0) := by rw [hX0]; exact below_alloc (below_alloc (Below.refl _ _) _) _
        generalize sumC c.kids = S at *
        generalize maxC c.kids = D at *
        generalize hN : c.nodes = N at *
        generalize hDD : c.depth = DD at *
        have hcase : bS = true ∨ (bS = false ∧ bI = true) ∨ (bS = false ∧ bI = false) := by cases bS <;> cases bI <;> simp
        rcases hcase with rfl | ⟨rfl, rfl⟩ | ⟨rfl, rfl⟩
        all_goals
          first
            | (have hA := HA1.out rfl rfl
               have hA1 : (N : Int) = (S : Int) + 1 := by omega
               have hA2 : (DD : Int) = (D : Int) + 1 := by omega
               clear hA)
            | skip
          clear HA1
          go_wp2_with fail
          rw [← hX0]
          refine (HTAIL.out X0 HX0.out).mono ?_
          rintro e w3 ⟨vL, rfl, hrL, hr8, hb3⟩
          have HRL := hidIn hrL
          have HR8 := hidIn hr8
          have HB3 := hidIn hb3
          clear hrL hr8 hb3
          go_wp2_with fail
          refine (sameStr_any c.labels vL u8 _ _ w3 HRL.out HR8.out).mono ?_
          rintro e w4 ⟨rfl, hb4⟩
          have HB4 := hidIn (HB3.out.trans (hb4.mono HB3.out.size))
          clear hb4
          go_wp2_with fail
          refine (HSM.out _).mono ?_
          rintro e w5 ⟨rfl, hb5⟩
          have HB5 := hidIn (HB4.out.trans (hb5.mono HB4.out.size))
          clear hb5
          go_wp2_with fail
          refine (wakesT_any _).mono ?_
          rintro e w6 ⟨rfl, hb6⟩
          go_wp2_with fail
          go_ret
          exact ⟨rfl, HB5.out.trans (hb6.mono HB5.out.size)⟩

end Go.Proofs.Ytjcigjmeafofaaa
