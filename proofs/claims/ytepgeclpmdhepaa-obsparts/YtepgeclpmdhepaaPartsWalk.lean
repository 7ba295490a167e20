/- The walk of the statement ObsParts. -/
import Derived.Test.YtepgeclpmdhepaaParts
namespace Go.Proofs.Ytepgeclpmdhepaa
open Go.RowKit Go.Maps
set_option linter.unusedVariables false

theorem map_not_cell {H : Type} {P : Program} {k : TypeId} {R : Value → Option (DataW H × List MemPlace)} {b n : Nat} {D : DataW H} {w : World} (h : w.ownsMap P k R b n D) (o : Nat) : w.cell? ⟨b, o, none⟩ = none := by
  obtain ⟨es, clock, hb, _⟩ := h
  simp [World.cell?, hb]
theorem nodup_get {α : Type} {l : List α} (h : l.Nodup) (i k : Nat) (hi : i < l.length) (hk : k < i) : l[k]'(by omega) ≠ l[i] := by
  have := List.pairwise_iff_getElem.1 h k i (by omega) hi hk
  exact this

set_option maxHeartbeats 8000000 in
set_option maxRecDepth 100000 in
theorem obsParts_walk (p : Pl) (w : World) (hp : PlanIn w p) :
    Calls Try.prog 6 #[planV p] w fun e w' => e = .returned (.bool true) ∧ Below w.heap.size w w' := by
  have hmm := @run_makeMap Try.prog
  have HP : Hid (PlanIn w p) := hp
  have HN := Hid.in (number_any p)
  have HWH := Hid.in (numP_whole p)
  have HOK := Hid.in (whole_ok _ (numP_whole p))
  have HNO := Hid.in (numP_nodes p)
  unfold planV
  clear hp
  obtain ⟨W, hW⟩ : ∃ W, W = w.alloc (.cells #[.slice p.na p.nl p.nc, .slice p.wa p.wl p.wc] 25) := ⟨_, rfl⟩
  have HB : Hid (Below w.heap.size w W) := by rw [hW]; exact below_alloc (Below.refl _ _) _
  go_enter Try.func6, Try.ntmps6
  go_wp2_with fail
  rw [← hW]
  clear hW
  refine (HN.out W (HP.out.below HB.out)).mono ?_
  rintro e w1 ⟨v1, rfl, ht1, hb1⟩
  have HX1 : Hid (Below w.heap.size w w1) := HB.out.trans (hb1.mono HB.out.size)
  have HT1 : Hid (TIn w1 W.heap.size (plain (numP p)) v1) := ht1
  clear ht1 hb1
  go_wp2_with fail
  refine (obsP_any (numP p) HWH.out w1 v1 _ HT1.out).mono ?_
  rintro e w2 ⟨rfl, hb2⟩
  have HX2 : Hid (Below w.heap.size w w2) := HX1.out.trans (hb2.mono HX1.out.size)
  clear hb2 HX1 HT1 HN HP HB
  have HK0 : Hid ((numP p).kind ≠ 0) := whole_kind _ HWH.out
  have HSELF : Hid (sameO (numP p) (numP p) = true) := whole_same _ HWH.out
  have HKN : Hid (0 < (numP p).kids.length → (addAll [] (namesL (numP p).kids)).length = (numP p).names.length) := by
    intro h
    have h2 : (numP p).kind ≠ 2 := by
      intro e
      cases hn : numP p <;> rw [hn] at e h <;> simp [O.kind, O.kids] at e h
    rw [addAll_namesL, ← all_kids _ h2]
    rfl
  have HND : Hid ((numP p).names.Nodup) := addAll_nodup _ _ List.nodup_nil
  generalize numP p = o at *
  have h2 := kids_two o
  have HSN : Hid (o.nodes = sumN o.kids + 1) := nodes_kids o HK0.out
  have HDN : Hid (o.depth = maxD o.kids + 1) := depth_kids o HK0.out
  have hnn : o.nodes ≤ 31 := HNO.out
  have hdn := depth_nodes o
  go_wp2_with fail
  refine (size_any o HOK.out (by omega) _).mono ?_
  rintro e w3 ⟨rfl, hb3⟩
  have HX3 : Hid (Below w.heap.size w w3) := HX2.out.trans (hb3.mono HX2.out.size)
  have HM0 : Hid ((w3.alloc (.map #[] 0)).ownsMap Try.prog 9 (plainElem (H := Unit) Try.prog 4) w3.heap.size 0 (setB [])) := World.ownsMap_made _ _ _ _
  clear hb3 HX2
  go_wp2_with fail
  refine (kids_any o HOK.out _).mono ?_
  rintro e w4 ⟨a, rfl, hk4, hb4⟩
  have hm4 := ownsMap_below HM0.out hb4
  have HX4 : Hid (Below w.heap.size w w4) := by
    have h := below_alloc HX3.out (.map #[] 0)
    exact h.trans (hb4.mono h.size)
  have HMW : Hid (w.heap.size ≤ w3.heap.size ∧ w3.heap.size < w4.heap.size) := ⟨HX3.out.size, by have := hb4.size; simp at this; omega⟩
  have HK4 : Hid (HasObs w4 a o.kids) := hk4
  have HKB : Hid (∀ b x s, a = some ⟨b, x, s⟩ → o.kids ≠ [] → b ≠ w3.heap.size) := by
    intro b x s e hne hb
    obtain ⟨k, l, hkl⟩ : ∃ k l, o.kids = k :: l := by cases hk : o.kids with
      | nil => exact absurd hk hne
      | cons k l => exact ⟨k, l, rfl⟩
    obtain ⟨b', e', hc⟩ := hk4 0 k (by rw [hkl]; rfl)
    rw [e'] at e
    injection e with e
    injection e with e1
    subst e1
    subst hb
    have := map_not_cell hm4 0
    rw [this] at hc
    cases hc
  clear hb4 hk4 HM0
  go_wp2_with fail
  go_loopw [30, 6, 7] (fun s30 s6 s7 wr => ∃ i : Nat, i ≤ o.kids.length ∧ s30 = .int .i64 i ∧ s6 = .int .i64 (sumN (o.kids.take i) : Nat) ∧ s7 = .int .i64 (maxD (o.kids.take i) : Nat) ∧ wr.ownsMap Try.prog 9 (plainElem (H := Unit) Try.prog 4) w3.heap.size (namesL (o.kids.take i)).length (setB (namesL (o.kids.take i))) ∧ Grew w3.heap.size none w4 wr) (fun s30 _ _ _ => o.kids.length - (intOf s30).toNat)
  case atStart => exact ⟨0, by omega, rfl, rfl, rfl, hm4, Grew.refl _ _ _⟩
  case round =>
    clear hm4
    obtain ⟨i, hi, rfl, rfl, rfl, hmr, hgr⟩ := hrel
    have hs1 := sumN_take o.kids i
    have hs2 := maxD_sumN (o.kids.take i)
    have hs3 : sumN o.kids ≤ 31 := by have := HSN.out; omega
    have hnl := namesL_length (o.kids.take i)
    have HGR : Hid (Grew w3.heap.size none w4 wr) := hgr
    by_cases hlt : i < o.kids.length
    · have hlt' : (i : Int) < (o.kids.length : Int) := by omega
      have hne : o.kids ≠ [] := fun e => by rw [e] at hlt; simp at hlt
      obtain ⟨k, hki⟩ : ∃ k, o.kids[i]? = some k := ⟨_, List.getElem?_eq_getElem hlt⟩
      obtain ⟨b, rfl, hc⟩ := (HK4.out.grew hgr (fun b x s e => ⟨HKB.out b x s e hne, by simp⟩)) i k hki
      have HM : Hid (k ∈ o.kids) := List.mem_of_getElem? hki
      have HOKK : Hid k.Ok := HOK.out.kid HM.out
      have hkn : k.nodes ≤ 31 := by have := nodes_kid HM.out; omega
      have ht := take_more _ _ _ hki
      have HT1 : Hid (sumN (o.kids.take (i + 1)) = sumN (o.kids.take i) + k.nodes) := by unfold Hid; rw [ht, sumN_snoc]
      have HT2 : Hid (maxD (o.kids.take (i + 1)) = Max.max (maxD (o.kids.take i)) k.depth) := by unfold Hid; rw [ht, maxD_snoc]
      have HT3 : Hid (namesL (o.kids.take (i + 1)) = namesL (o.kids.take i) ++ k.names) := by unfold Hid; rw [ht, namesL_snoc]
      have hs5 := depth_nodes k
      have HNS : Hid (∀ s ∈ k.names, s.size ≤ 2147483648) := names_sizes k HOKK.out
      have hnk := names_length k
      clear hki ht hgr
      generalize sumN (o.kids.take i) = S at *
      generalize maxD (o.kids.take i) = D at *
      generalize namesL (o.kids.take i) = L at *
      go_wp2_with fail
      refine (size_any k HOKK.out (by omega) wr).mono ?_
      rintro e w5 ⟨rfl, hb5⟩
      have hm5 := ownsMap_below hmr hb5
      have HG5 : Hid (Grew w3.heap.size none w4 w5) := HGR.out.trans (Grew.of_below hb5) (.inl rfl)
      clear hb5 hmr hc HGR
      go_wp2_with fail
      all_goals
        refine (names_any k HOKK.out (by omega) w5).mono ?_
        rintro e w6 ⟨v6, rfl, hown6, hb6⟩
        have hm6 := ownsMap_below hm5 hb6
        have HG6 : Hid (Grew w3.heap.size none w4 w6) := HG5.out.trans (Grew.of_below hb6) (.inl rfl)
        obtain ⟨ao, cap, rfl, hc6, hll⟩ := own_str hown6
        have HC : Hid (∀ j (hj : j < k.names.length), ∃ g, ao = some ⟨g, 0, none⟩ ∧ g < w6.heap.size ∧ w6.cell? ⟨g, j, none⟩ = some (.string k.names[j])) := hc6
        have HNM : Hid (∀ g j (hj : j < k.names.length), w6.cell? ⟨g, j, none⟩ = some (.string k.names[j]) → g ≠ w3.heap.size) := by
          intro g j hj hcg e
          subst e
          rw [map_not_cell hm6 j] at hcg
          cases hcg
        clear hb6 hown6 hm5 HG5 hc6
        generalize k.names = ns at *
        go_wp2_with fail
        go_loopw [48] (fun s48 wq => ∃ j : Nat, j ≤ ns.length ∧ s48 = .int .i64 j ∧ wq.ownsMap Try.prog 9 (plainElem (H := Unit) Try.prog 4) w3.heap.size (L ++ ns.take j).length (setB (L ++ ns.take j)) ∧ Grew w3.heap.size none w6 wq) (fun s48 _ => ns.length - (intOf s48).toNat)
        case atStart => exact ⟨0, by omega, rfl, by simpa using hm6, Grew.refl _ _ _⟩
        case round =>
          clear hm6
          obtain ⟨j, hj, rfl, hmq, hgq⟩ := hrel
          by_cases hjl : j < ns.length
          · have hjl' : (j : Int) < (ns.length : Int) := by omega
            obtain ⟨g, rfl, hg, hcg⟩ := HC.out j hjl
            have hcq := (hgq.block g hg (HNM.out g j hjl hcg) (by simp))
            have hcq2 : wr.cell? ⟨g, j, none⟩ = some (.string ns[j]) := by
              simp only [World.cell?, hcq] at hcg ⊢
              exact hcg
            have hsz : ns[j].size ≤ 2147483648 := HNS.out _ (List.getElem_mem hjl)
            have hkey : keyOf Try.prog 9 (.string ns[j]) = some (litS ns[j]) := Go.WideMaps.keyOf_string_mk Try.underlying9 (by unfold maxLen; omega)
            have HTK : Hid (ns.take (j + 1) = ns.take j ++ [ns[j]]) := take_more _ _ _ (List.getElem?_eq_getElem hjl)
            have hLl : (L ++ ns.take j).length ≤ 100 := by simp; omega
            clear hcg hcq hg
            generalize ns[j] = sj at *
            go_wp2_with (at_mapUpdate; refine wpList_mapUpdate_own _ rfl _ _ _ 63 rfl 9 4 lawS Try.underlying63 (plainElem (H := Unit) Try.prog 4) w3.heap.size (L ++ ns.take j).length _ rfl hmq (by unfold maxLen; omega) _ _ _ rfl rfl hkey _ [] (plainElem_bool Try.underlying4 true) ?_; intro wz hmz hgz)
            have HGZ : Hid (Grew w3.heap.size none w6 wz) := hgq.trans (Grew.of_map hgz) (.inl rfl)
            clear hmq hgq hgz hcq2
            go_roundw
            case rel =>
              refine ⟨j + 1, by omega, by go_num, ?_, HGZ.out⟩
              rw [HTK.out, ← List.append_assoc, setB_snoc, show ((L ++ ns.take j) ++ [sj]).length = (L ++ ns.take j).length + 1 from by rw [List.length_append]; rfl]
              exact hmz
            case measure => simp [intOf]; omega
          · have hje : j = ns.length := by omega
            subst hje
            have HTL : Hid (L ++ ns.take ns.length = namesL (o.kids.take (i + 1))) := by unfold Hid; rw [List.take_length, HT3.out]
            have HGE : Hid (Grew w3.heap.size none w4 wr) := HG6.out.trans hgq (.inl rfl)
            clear hgq
            go_wp2_with fail
            go_roundw
            case rel => exact ⟨i + 1, by omega, by go_num, by rw [HT1.out]; go_num, by rw [HT2.out]; go_num, by rw [← HTL.out]; exact hmq, HGE.out⟩
            case measure => simp [intOf]; omega
    · have hle : i = o.kids.length := by omega
      subst hle
      rw [List.take_length]
      rw [List.take_length] at hs1 hs2 hmr hnl
      have HXR : Hid (Below w.heap.size w wr) := HX4.out.trans (hgr.below' HX4.out.size HMW.out.1)
      clear hgr HGR
      have hSN := HSN.out
      have hDN := HDN.out
      go_wp2_with fail
      refine (names_any o HOK.out (by omega) wr).mono ?_
      rintro e w5 ⟨v5, rfl, hown5, hb5⟩
      have hm5 := ownsMap_below hmr hb5
      have HX5 : Hid (Below w.heap.size w w5) := HXR.out.trans (hb5.mono HXR.out.size)
      have hnl2 := names_length o
      clear hb5 hmr
      have hsz5 := size_setB (namesL o.kids)
      obtain ⟨ao, cap, rfl, _, _⟩ := own_str hown5
      go_wp2_with fail
      refine (kids_any o HOK.out _).mono ?_
      rintro e w6 ⟨a6, rfl, _, hb6⟩
      have hm6 := ownsMap_below hm5 hb6
      have hown6 : w6.ownsRow wr.heap.size 9 1 (.slice ao o.names.length cap) o.names.length (strCells o.names) := hown5.kept (grown_of_below hb6 none) (by cases hv : (Value.slice ao o.names.length cap).ownBlock <;> simp)
      have HX6 : Hid (Below w.heap.size w w6) := HX5.out.trans (hb6.mono HX5.out.size)
      clear hb6 hm5 hown5
      obtain ⟨ao6, cap6, heq6, hc6, hll⟩ := own_str hown6
      injection heq6 with e1 _ e2
      subst e1
      subst e2
      have HC : Hid (∀ j (hj : j < o.names.length), ∃ g, ao = some ⟨g, 0, none⟩ ∧ g < w6.heap.size ∧ w6.cell? ⟨g, j, none⟩ = some (.string o.names[j])) := hc6
      have HNE : Hid (∀ i k (hi : i < o.names.length) (hk : k < i), ¬ (o.names[k]'(by omega)).toList = o.names[i].toList) := fun i k hi hk e => nodup_get HND.out i k hi hk (toList_inj e)
      clear hc6 hown6
      by_cases hk0 : 0 < o.kids.length
      · have hk0' : (0 : Int) < (o.kids.length : Int) := by omega
        have hle := HKN.out hk0
        have hb78 : (((addAll [] (namesL o.kids)).length : Int) != (o.names.length : Int)) = false := by rw [hle]; simp
        have hb77 : ((o.names.length : Int) != (o.names.length : Int)) = false := by simp
        go_wp2_with (at_len; refine wpList_len_met rfl (.tmp 73) 63 rfl 9 4 Try.underlying63 (plainElem (H := Unit) Try.prog 4) w3.heap.size _ _ rfl hm6 ?_)
        (try simp only [hle, hb77])
        (try simp only [bne_self_eq_false])
        clear hle hm6 hb78 hb77 hsz5
        go_loopw [81] (fun s81 wr => ∃ i : Nat, i ≤ o.names.length ∧ s81 = .int .i64 i ∧ Below w6.heap.size w6 wr) (fun s81 _ => o.names.length - (intOf s81).toNat)
        case atStart => exact ⟨0, by omega, rfl, Below.refl _ _⟩
        case round =>
          obtain ⟨i, hi, rfl, hbr⟩ := hrel
          by_cases hlt : i < o.names.length
          · have hlt' : (i : Int) < (o.names.length : Int) := by omega
            go_wp2_with fail
            go_loopw [17] (fun s17 wq => ∃ k : Nat, k ≤ i ∧ s17 = .int .i64 k ∧ Below w6.heap.size w6 wq) (fun s17 _ => i - (intOf s17).toNat)
            case atStart => exact ⟨0, by omega, rfl, hbr⟩
            case round =>
              clear hbr
              obtain ⟨k, hk, rfl, hbq⟩ := hrel
              by_cases hki : k < i
              · have hki' : (k : Int) < (i : Int) := by omega
                have hkl' : (k : Int) < (o.names.length : Int) := by omega
                obtain ⟨g, rfl, hg, hcg⟩ := HC.out i hlt
                obtain ⟨g', he', hg', hcg'⟩ := HC.out k (Nat.lt_trans hki hlt)
                injection he' with he'
                injection he' with he'
                subst he'
                have hne : ¬ (o.names[k]'(Nat.lt_trans hki hlt)).toList = (o.names[i]'hlt).toList := HNE.out i k hlt hki
                have hne2 : ((o.names[k]'(Nat.lt_trans hki hlt)).toList == (o.names[i]'hlt).toList) = false := by simpa using hne
                rw [← hbq.cell (p := ⟨g, i, none⟩) hg] at hcg
                rw [← hbq.cell (p := ⟨g, k, none⟩) hg] at hcg'
                generalize o.names[i] = si at *
                generalize o.names[k]'(Nat.lt_trans hki hlt) = sk at *
                go_wp2_with fail
                go_quiet (fail)
                go_wp2_with fail
                go_roundw
                case rel => exact ⟨k + 1, by omega, by go_num, below_drewN hbq _⟩
                case measure => simp [intOf]; omega
              · have hki' : ¬ (k : Int) < (i : Int) := by omega
                go_wp2_with fail
                go_roundw
                case rel => exact ⟨i + 1, by omega, by go_num, hbq⟩
                case measure => simp [intOf]; omega
          · have hlt' : ¬ (i : Int) < (o.names.length : Int) := by omega
            go_wp2_with fail
            refine (same_any o HOK.out o HOK.out _).mono ?_
            rintro e w7 ⟨rfl, hb7⟩
            rw [HSELF.out]
            go_wp2_with fail
            refine (wakes_any _).mono ?_
            rintro e w8 ⟨rfl, hb8⟩
            go_wp2_with fail
            go_ret
            have k6 := HX6.out.trans (hbr.mono HX6.out.size)
            have k7 := k6.trans (hb7.mono k6.size)
            exact ⟨rfl, k7.trans (hb8.mono k7.size)⟩
      · have hk0' : ¬ (0 : Int) < (o.kids.length : Int) := by omega
        have hk0d : decide ((0 : Int) < (o.kids.length : Int)) = false := decide_eq_false hk0'
        go_wp2_with fail
        go_loopw [81] (fun s81 wr => ∃ i : Nat, i ≤ o.names.length ∧ s81 = .int .i64 i ∧ Below w6.heap.size w6 wr) (fun s81 _ => o.names.length - (intOf s81).toNat)
        case atStart => exact ⟨0, by omega, rfl, Below.refl _ _⟩
        case round =>
          obtain ⟨i, hi, rfl, hbr⟩ := hrel
          by_cases hlt : i < o.names.length
          · have hlt' : (i : Int) < (o.names.length : Int) := by omega
            go_wp2_with fail
            go_loopw [17] (fun s17 wq => ∃ k : Nat, k ≤ i ∧ s17 = .int .i64 k ∧ Below w6.heap.size w6 wq) (fun s17 _ => i - (intOf s17).toNat)
            case atStart => exact ⟨0, by omega, rfl, hbr⟩
            case round =>
              clear hbr
              obtain ⟨k, hk, rfl, hbq⟩ := hrel
              by_cases hki : k < i
              · have hki' : (k : Int) < (i : Int) := by omega
                have hkl' : (k : Int) < (o.names.length : Int) := by omega
                obtain ⟨g, rfl, hg, hcg⟩ := HC.out i hlt
                obtain ⟨g', he', hg', hcg'⟩ := HC.out k (Nat.lt_trans hki hlt)
                injection he' with he'
                injection he' with he'
                subst he'
                have hne : ¬ (o.names[k]'(Nat.lt_trans hki hlt)).toList = (o.names[i]'hlt).toList := HNE.out i k hlt hki
                have hne2 : ((o.names[k]'(Nat.lt_trans hki hlt)).toList == (o.names[i]'hlt).toList) = false := by simpa using hne
                rw [← hbq.cell (p := ⟨g, i, none⟩) hg] at hcg
                rw [← hbq.cell (p := ⟨g, k, none⟩) hg] at hcg'
                generalize o.names[i] = si at *
                generalize o.names[k]'(Nat.lt_trans hki hlt) = sk at *
                go_wp2_with fail
                go_quiet (fail)
                go_wp2_with fail
                go_roundw
                case rel => exact ⟨k + 1, by omega, by go_num, below_drewN hbq _⟩
                case measure => simp [intOf]; omega
              · have hki' : ¬ (k : Int) < (i : Int) := by omega
                go_wp2_with fail
                go_roundw
                case rel => exact ⟨i + 1, by omega, by go_num, hbq⟩
                case measure => simp [intOf]; omega
          · have hlt' : ¬ (i : Int) < (o.names.length : Int) := by omega
            go_wp2_with fail
            refine (same_any o HOK.out o HOK.out _).mono ?_
            rintro e w7 ⟨rfl, hb7⟩
            rw [HSELF.out]
            go_wp2_with fail
            refine (wakes_any _).mono ?_
            rintro e w8 ⟨rfl, hb8⟩
            go_wp2_with fail
            go_ret
            have k6 := HX6.out.trans (hbr.mono HX6.out.size)
            have k7 := k6.trans (hb7.mono k6.size)
            exact ⟨rfl, k7.trans (hb8.mono k7.size)⟩

end Go.Proofs.Ytepgeclpmdhepaa
