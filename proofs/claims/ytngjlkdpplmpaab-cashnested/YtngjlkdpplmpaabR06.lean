/- What Fix and Choose of the document's world answer. -/
import Derived.Test.YtngjlkdpplmpaabR05
namespace Go.Proofs.Ytngjlkdpplmpaab.Wd
open Go.RowKit Go.Maps
set_option linter.unusedVariables false

theorem infoFx : (Try.prog.info? 150).map (fun i => (i.zero, i.size, i.bytes)) = some (some (.agg #[.string ByteArray.empty, .int .i64 0, .int .i64 0]), 3, 32) := by kernel_rfl
theorem infoCh : (Try.prog.info? 125).map (fun i => (i.zero, i.size, i.bytes)) = some (some (.agg #[.string ByteArray.empty, .string ByteArray.empty, .int .i64 0, .int .i64 0]), 4, 48) := by kernel_rfl
theorem cells_new (w : World) (cs : Array Value) (t : TypeId) : ∀ j u, cs.toList[j]? = some u → (w.alloc (.cells cs t)).cell? ((⟨w.heap.size, 0, none⟩ : Addr).add j) = some u := by
  intro j u hu
  rw [Addr.add_lit, Nat.zero_add]
  exact cell_blk (blk_new _ _) (by simpa using hu)
theorem dayB_iff (d : Int) : dayB d = true ↔ 0 ≤ d ∧ d ≤ 10000 := by simp [dayB]

set_option maxHeartbeats 1000000 in
theorem refFix_bad (w : World) (r : Nat) (s : ByteArray) (d v : Int) (hs : s.size ≤ 1000000) (hb : (nameGo 0 (runesOf s) && dayB d && vB v) = false) :
    Calls Try.prog 38 #[.pointer (some ⟨r, 0, none⟩), .string s, .int .i64 d, .int .i64 v] w fun e w' => e = .returned (.int .i64 1) ∧ Below w.heap.size w w' := by
  have HN := hidInW (refName_any s w (by omega))
  cases hn : nameGo 0 (runesOf s) with
  | false =>
    rw [hn] at HN
    go_enter Try.func38, Try.ntmps38
    go_wp2_with fail
    refine HN.out.mono ?_
    rintro e w1 ⟨rfl, hb1⟩
    go_wp2_with fail
    go_ret
    exact ⟨rfl, hb1⟩
  | true =>
    rw [hn] at HN hb
    by_cases h1 : d < 0
    · go_enter Try.func38, Try.ntmps38
      go_wp2_with fail
      refine HN.out.mono ?_
      rintro e w1 ⟨rfl, hb1⟩
      go_wp2_with fail
      go_ret
      exact ⟨rfl, hb1⟩
    · by_cases h2 : 10000 < d
      · go_enter Try.func38, Try.ntmps38
        go_wp2_with fail
        refine HN.out.mono ?_
        rintro e w1 ⟨rfl, hb1⟩
        go_wp2_with fail
        go_ret
        exact ⟨rfl, hb1⟩
      · have hd : dayB d = true := (dayB_iff d).2 ⟨by omega, by omega⟩
        rw [hd] at hb
        have hv : vB v = false := by simpa using hb
        go_enter Try.func38, Try.ntmps38
        go_wp2_with fail
        refine HN.out.mono ?_
        rintro e w1 ⟨rfl, hb1⟩
        go_wp2_with (go_at_call 61; refine (refValid_any _ _).mono ?_; rintro e w' ⟨rfl, rfl⟩)
        go_ret
        exact ⟨rfl, hb1⟩

set_option maxHeartbeats 2000000 in
set_option maxRecDepth 100000 in
theorem refFix_ok (w : World) (B r : Nat) (K : KW) (vF vC : Value) (h : RIn w B r K vF vC) (hB : B ≤ w.heap.size) (s : ByteArray) (d v : Int) (hs : s.size ≤ 1000000) (hlen : K.F.length ≤ 1000) (hb : (nameGo 0 (runesOf s) && dayB d && vB v) = true) :
    Calls Try.prog 38 #[.pointer (some ⟨r, 0, none⟩), .string s, .int .i64 d, .int .i64 v] w fun e w' => e = .returned (.int .i64 (fixE K s d v)) ∧ (∃ vF', RIn w' B r (fixN K s d v) vF' vC) ∧ RT B r w w' := by
  have HE : Hid (fixE K s d v = if (K.fixed (s, d)).isSome = true then 4 else if 32 ≤ K.F.length then 5 else 0) := by
    show fixE K s d v = _
    unfold fixE
    rw [hb]
    rfl
  simp only [Bool.and_eq_true] at hb
  obtain ⟨⟨hn, hd⟩, hv⟩ := hb
  obtain ⟨hd1, hd2⟩ := (dayB_iff d).1 hd
  have HN := hidInW (refName_any s w (by omega))
  rw [hn] at HN
  have HR0 := hidInW h
  clear h hd hn
  go_enter Try.func38, Try.ntmps38
  go_wp2_with fail
  refine HN.out.mono ?_
  rintro e w1 ⟨rfl, hb1⟩
  have HB1 := hidInW hb1
  have HR1 := hidInW (HR0.out.below hb1)
  clear hb1
  go_wp2_with (go_at_call 61; refine calls_same (refValid_any _ _) ?_)
  refine (refFixed_any w1 B r K vF vC HR1.out s d (by omega)).mono ?_
  rintro e w2 ⟨rfl, hb2⟩
  have HB2 := hidInW (HB1.out.trans (hb2.mono HB1.out.size))
  have HR2 := hidInW (HR1.out.below hb2)
  clear hb2 HR1 HB1 HN
  cases hf : K.fixed (s, d) with
  | some x =>
    have he : fixE K s d v = 4 := by rw [HE.out, hf]; rfl
    go_wp2_with fail
    go_ret
    refine ⟨by rw [he]; rfl, ⟨vF, ?_⟩, RT.of_below HB2.out hB⟩
    rw [fixN, if_neg (by omega)]
    exact HR2.out
  | none =>
    have c0 := HR2.out.cell0
    obtain ⟨ao, cap, hvF⟩ := row_shape HR2.out.rf
    rw [hvF] at c0
    by_cases h32 : 32 ≤ K.F.length
    · have he : fixE K s d v = 5 := by rw [HE.out, hf]; simp [h32]
      have h32' : (32 : Int) ≤ (K.F.length : Int) := by omega
      go_wp2_with fail
      go_ret
      refine ⟨by rw [he]; rfl, ⟨vF, ?_⟩, RT.of_below HB2.out hB⟩
      rw [fixN, if_neg (by omega)]
      exact HR2.out
    · have he : fixE K s d v = 0 := by rw [HE.out, hf]; simp [h32]
      have h32' : ¬ (32 : Int) ≤ (K.F.length : Int) := by omega
      have hBw : B ≤ w2.heap.size := Nat.le_trans hB HB2.out.size
      obtain ⟨i0, hi, hz⟩ := Option.map_eq_some_iff.1 infoFx
      simp only [Prod.mk.injEq] at hz
      obtain ⟨hz0, hz1, hz2⟩ := hz
      have HRA := hidInW (HR2.out.below (below_alloc (Below.refl _ _) (.cells #[.string s, .int .i64 d, .int .i64 v] 150)))
      have HBA := hidInW (below_alloc HB2.out (.cells #[.string s, .int .i64 d, .int .i64 v] 150))
      have HNW := hidInW (cells_new w2 #[.string s, .int .i64 d, .int .i64 v] 150)
      have hsz : B ≤ (w2.alloc (.cells #[.string s, .int .i64 d, .int .i64 v] 150)).heap.size := by rw [size_alloc]; omega
      subst hvF
      generalize hwa : w2.alloc (.cells #[.string s, .int .i64 d, .int .i64 v] 150) = wa at *
      have HST : Hid (∀ (v' : Value) (w3 : World), w3.ownsRow B 150 3 v' (K.F.length + 1) (rF K.F ++ [.string s, .int .i64 d, .int .i64 v]) → wa.grownBy w3 (Value.slice ao K.F.length cap).ownBlock → w3.cell? ⟨r, 0, none⟩ = some (.slice ao K.F.length cap) ∧ w3.frozen? ⟨r, 0, none⟩ = false) := fun v' w3 hown hg => by
        have hr : r < wa.heap.size := (Array.getElem?_eq_some_iff.1 HRA.out.blk).1
        have hb1 : w3.heap[r]? = some (.cells #[.slice ao K.F.length cap, vC] 84) := (hg.block r hr (fun e => HRA.out.neF e.symm)).trans HRA.out.blk
        exact ⟨cell_blk hb1 rfl, frozen_of_row w3 r 0 _ _ hb1⟩
      go_wp2_with (at_builtin; refine wpList_append_own _ rfl _ _ 81 rfl B 150 i0 (.agg #[.string ByteArray.empty, .int .i64 0, .int .i64 0]) 3 32 Try.underlying81 hi hz0 hz1 hz2 rfl (by decide) _ _ _ rfl HRA.out.rf ⟨w2.heap.size, 0, none⟩ 1 1 [.string s, .int .i64 d, .int .i64 v] rfl rfl HNW.out (by intro u hu; simp at hu; rcases hu with rfl | rfl | rfl <;> rfl) (by unfold maxLen; omega) (by omega) hsz ?_; intro v' w3 hown' hgrow _; have hst := HST.out v' w3 hown' hgrow; obtain ⟨st1, st2⟩ := hst; obtain ⟨ao2, cap2, hv2⟩ := row_shape hown'; subst hv2)
      go_ret
      obtain ⟨k1, k2⟩ := HRA.out.addF hsz ((s, d), v) hown' hgrow
      refine ⟨by rw [he]; rfl, ⟨.slice ao2 (K.F.length + 1) cap2, ?_⟩, ?_⟩
      · rw [fixN, if_pos he]
        exact k1
      · exact k2.after HBA.out hB

set_option maxHeartbeats 1000000 in
theorem refCh_bad (w : World) (r : Nat) (s t : ByteArray) (q d : Int) (hs : s.size ≤ 1000000) (ht : t.size ≤ 1000000) (hb : (nameGo 0 (runesOf s) && nameGo 0 (runesOf t) && pickB q && dayB d) = false) :
    Calls Try.prog 21 #[.pointer (some ⟨r, 0, none⟩), .string s, .string t, .int .i64 q, .int .i64 d] w fun e w' => e = .returned (.int .i64 1) ∧ Below w.heap.size w w' := by
  have HN := hidInW (refName_any s w (by omega))
  have HM := hidInW (fun w => refName_any t w (by omega))
  cases hn : nameGo 0 (runesOf s) with
  | false =>
    rw [hn] at HN
    go_enter Try.func21, Try.ntmps21
    go_wp2_with fail
    refine HN.out.mono ?_
    rintro e w1 ⟨rfl, hb1⟩
    go_wp2_with fail
    go_ret
    exact ⟨rfl, hb1⟩
  | true =>
    rw [hn] at HN hb
    cases hm : nameGo 0 (runesOf t) with
    | false =>
      rw [hm] at HM
      go_enter Try.func21, Try.ntmps21
      go_wp2_with fail
      refine HN.out.mono ?_
      rintro e w1 ⟨rfl, hb1⟩
      go_wp2_with fail
      refine (HM.out w1).mono ?_
      rintro e w2 ⟨rfl, hb2⟩
      go_wp2_with fail
      go_ret
      exact ⟨rfl, hb1.trans (hb2.mono hb1.size)⟩
    | true =>
      rw [hm] at HM hb
      have hw : q < 0 ∨ (0 ≤ q ∧ 1 < q) ∨ (0 ≤ q ∧ q ≤ 1 ∧ d < 0) ∨ (0 ≤ q ∧ q ≤ 1 ∧ 0 ≤ d ∧ 10000 < d) := by
        by_cases g1 : q < 0
        · exact .inl g1
        · by_cases g2 : 1 < q
          · exact .inr (.inl ⟨by omega, g2⟩)
          · by_cases g3 : d < 0
            · exact .inr (.inr (.inl ⟨by omega, by omega, g3⟩))
            · by_cases g4 : 10000 < d
              · exact .inr (.inr (.inr ⟨by omega, by omega, by omega, g4⟩))
              · exfalso
                have h1 : dayB d = true := (dayB_iff d).2 ⟨by omega, by omega⟩
                have h2 : pickB q = true := by simp [pickB]; omega
                rw [h1, h2] at hb
                cases hb
      clear hb
      rcases hw with g1 | ⟨g0, g1⟩ | ⟨g0, g1, g2⟩ | ⟨g0, g1, g2, g3⟩
      all_goals
        go_enter Try.func21, Try.ntmps21
        go_wp2_with fail
        refine HN.out.mono ?_
        rintro e w1 ⟨rfl, hb1⟩
        go_wp2_with fail
        refine (HM.out w1).mono ?_
        rintro e w2 ⟨rfl, hb2⟩
        go_wp2_with fail
        go_ret
        exact ⟨rfl, hb1.trans (hb2.mono hb1.size)⟩

set_option maxHeartbeats 2000000 in
set_option maxRecDepth 100000 in
theorem refCh_ok (w : World) (B r : Nat) (K : KW) (vF vC : Value) (h : RIn w B r K vF vC) (hB : B ≤ w.heap.size) (s t : ByteArray) (q d : Int) (hs : s.size ≤ 1000000) (ht : t.size ≤ 1000000) (hlen : K.C.length ≤ 1000) (hb : (nameGo 0 (runesOf s) && nameGo 0 (runesOf t) && pickB q && dayB d) = true) :
    Calls Try.prog 21 #[.pointer (some ⟨r, 0, none⟩), .string s, .string t, .int .i64 q, .int .i64 d] w fun e w' => e = .returned (.int .i64 (chE K s t q d)) ∧ (∃ vC', RIn w' B r (chN K s t q d) vF vC') ∧ RT B r w w' := by
  have HE : Hid (chE K s t q d = if (K.chosen (s, t)).isSome = true then 4 else 0) := by
    show chE K s t q d = _
    unfold chE
    rw [hb]
    rfl
  simp only [Bool.and_eq_true] at hb
  obtain ⟨⟨⟨hn, hm⟩, hq⟩, hd⟩ := hb
  obtain ⟨hd1, hd2⟩ := (dayB_iff d).1 hd
  have hq1 : 0 ≤ q ∧ q ≤ 1 := by simp [pickB] at hq; omega
  obtain ⟨hq1, hq2⟩ := hq1
  have HM := hidInW (fun w => refName_any t w (by omega))
  rw [hm] at HM
  have HN := hidInW (refName_any s w (by omega))
  rw [hn] at HN
  have HR0 := hidInW h
  clear h hd hn hm hq
  go_enter Try.func21, Try.ntmps21
  go_wp2_with fail
  refine HN.out.mono ?_
  rintro e w1 ⟨rfl, hb1⟩
  have HB1 := hidInW hb1
  have HR1 := hidInW (HR0.out.below hb1)
  clear hb1
  go_wp2_with fail
  refine (HM.out w1).mono ?_
  rintro e w1b ⟨rfl, hb1b⟩
  have HB1b := hidInW (HB1.out.trans (hb1b.mono HB1.out.size))
  have HR1b := hidInW (HR1.out.below hb1b)
  clear hb1b HR1 HB1 HM
  go_wp2_with fail
  refine (refChosen_any w1b B r K vF vC HR1b.out s t (by omega)).mono ?_
  rintro e w2 ⟨rfl, hb2⟩
  have HB2 := hidInW (HB1b.out.trans (hb2.mono HB1b.out.size))
  have HR2 := hidInW (HR1b.out.below hb2)
  clear hb2 HR1b HB1b HN
  cases hf : K.chosen (s, t) with
  | some x =>
    have he : chE K s t q d = 4 := by rw [HE.out, hf]; rfl
    go_wp2_with fail
    go_ret
    refine ⟨by rw [he]; rfl, ⟨vC, ?_⟩, RT.of_below HB2.out hB⟩
    rw [chN, if_neg (by omega)]
    exact HR2.out
  | none =>
    have c0 := HR2.out.cell1
    obtain ⟨ao, cap, hvC⟩ := row_shape HR2.out.rc
    rw [hvC] at c0
    · have he : chE K s t q d = 0 := by rw [HE.out, hf]; rfl
      have hBw : B ≤ w2.heap.size := Nat.le_trans hB HB2.out.size
      obtain ⟨i0, hi, hz⟩ := Option.map_eq_some_iff.1 infoCh
      simp only [Prod.mk.injEq] at hz
      obtain ⟨hz0, hz1, hz2⟩ := hz
      have HRA := hidInW (HR2.out.below (below_alloc (Below.refl _ _) (.cells #[.string s, .string t, .int .i64 q, .int .i64 d] 125)))
      have HBA := hidInW (below_alloc HB2.out (.cells #[.string s, .string t, .int .i64 q, .int .i64 d] 125))
      have HNW := hidInW (cells_new w2 #[.string s, .string t, .int .i64 q, .int .i64 d] 125)
      have hsz : B ≤ (w2.alloc (.cells #[.string s, .string t, .int .i64 q, .int .i64 d] 125)).heap.size := by rw [size_alloc]; omega
      subst hvC
      generalize hwa : w2.alloc (.cells #[.string s, .string t, .int .i64 q, .int .i64 d] 125) = wa at *
      have HST : Hid (∀ (v' : Value) (w3 : World), w3.ownsRow B 125 4 v' (K.C.length + 1) (rC K.C ++ [.string s, .string t, .int .i64 q, .int .i64 d]) → wa.grownBy w3 (Value.slice ao K.C.length cap).ownBlock → w3.cell? ⟨r, 1, none⟩ = some (.slice ao K.C.length cap) ∧ w3.frozen? ⟨r, 1, none⟩ = false) := fun v' w3 hown hg => by
        have hr : r < wa.heap.size := (Array.getElem?_eq_some_iff.1 HRA.out.blk).1
        have hb1 : w3.heap[r]? = some (.cells #[vF, .slice ao K.C.length cap] 84) := (hg.block r hr (fun e => HRA.out.neC e.symm)).trans HRA.out.blk
        exact ⟨cell_blk hb1 rfl, frozen_of_row w3 r 1 _ _ hb1⟩
      go_wp2_with (at_builtin; refine wpList_append_own _ rfl _ _ 82 rfl B 125 i0 (.agg #[.string ByteArray.empty, .string ByteArray.empty, .int .i64 0, .int .i64 0]) 4 48 Try.underlying82 hi hz0 hz1 hz2 rfl (by decide) _ _ _ rfl HRA.out.rc ⟨w2.heap.size, 0, none⟩ 1 1 [.string s, .string t, .int .i64 q, .int .i64 d] rfl rfl HNW.out (by intro u hu; simp at hu; rcases hu with rfl | rfl | rfl | rfl <;> rfl) (by unfold maxLen; omega) (by omega) hsz ?_; intro v' w3 hown' hgrow _; have hst := HST.out v' w3 hown' hgrow; obtain ⟨st1, st2⟩ := hst; obtain ⟨ao2, cap2, hv2⟩ := row_shape hown'; subst hv2)
      go_ret
      obtain ⟨k1, k2⟩ := HRA.out.addC hsz ((s, t), (q, d)) hown' hgrow
      refine ⟨by rw [he]; rfl, ⟨.slice ao2 (K.C.length + 1) cap2, ?_⟩, ?_⟩
      · rw [chN, if_pos he]
        exact k1
      · exact k2.after HBA.out hB

theorem refFix_any (w : World) (B r : Nat) (K : KW) (vF vC : Value) (h : RIn w B r K vF vC) (hB : B ≤ w.heap.size) (s : ByteArray) (d v : Int) (hs : s.size ≤ 1000000) (hlen : K.F.length ≤ 1000) :
    Calls Try.prog 38 #[.pointer (some ⟨r, 0, none⟩), .string s, .int .i64 d, .int .i64 v] w fun e w' => e = .returned (.int .i64 (fixE K s d v)) ∧ (∃ vF' vC', RIn w' B r (fixN K s d v) vF' vC') ∧ RT B r w w' := by
  cases hb : (nameGo 0 (runesOf s) && dayB d && vB v)
  · have he : fixE K s d v = 1 := by unfold fixE; rw [hb]; rfl
    refine (refFix_bad w r s d v hs hb).mono ?_
    rintro e w' ⟨rfl, hB'⟩
    refine ⟨by rw [he], ⟨vF, vC, ?_⟩, RT.of_below hB' hB⟩
    rw [fixN, if_neg (by omega)]
    exact h.below hB'
  · refine (refFix_ok w B r K vF vC h hB s d v hs hlen hb).mono ?_
    rintro e w' ⟨h1, ⟨vF', h2⟩, h3⟩
    exact ⟨h1, ⟨vF', vC, h2⟩, h3⟩
theorem refCh_any (w : World) (B r : Nat) (K : KW) (vF vC : Value) (h : RIn w B r K vF vC) (hB : B ≤ w.heap.size) (s t : ByteArray) (q d : Int) (hs : s.size ≤ 1000000) (ht : t.size ≤ 1000000) (hlen : K.C.length ≤ 1000) :
    Calls Try.prog 21 #[.pointer (some ⟨r, 0, none⟩), .string s, .string t, .int .i64 q, .int .i64 d] w fun e w' => e = .returned (.int .i64 (chE K s t q d)) ∧ (∃ vF' vC', RIn w' B r (chN K s t q d) vF' vC') ∧ RT B r w w' := by
  cases hb : (nameGo 0 (runesOf s) && nameGo 0 (runesOf t) && pickB q && dayB d)
  · have he : chE K s t q d = 1 := by unfold chE; rw [hb]; rfl
    refine (refCh_bad w r s t q d hs ht hb).mono ?_
    rintro e w' ⟨rfl, hB'⟩
    refine ⟨by rw [he], ⟨vF, vC, ?_⟩, RT.of_below hB' hB⟩
    rw [chN, if_neg (by omega)]
    exact h.below hB'
  · refine (refCh_ok w B r K vF vC h hB s t q d hs ht hlen hb).mono ?_
    rintro e w' ⟨h1, ⟨vC', h2⟩, h3⟩
    exact ⟨h1, ⟨vF, vC', h2⟩, h3⟩

end Go.Proofs.Ytngjlkdpplmpaab.Wd
