/- Do at no ledger: one of its ways. -/
import Derived.Test.YtkioolbjmcpjpaaGreatDoorZt3
namespace Go.Proofs.YtkioolbjmcpjpaaGreatDoor.Ev
open Go.RowKit
set_option linter.unusedVariables false

set_option maxHeartbeats 16000000 in
set_option maxRecDepth 100000 in
theorem do_choose (c : Cm) (w : World) (hc : c.In w) (hk : 11 ≤ c.k % 20 ∧ c.k % 20 < 14) : Calls Tryz.prog 38 #[.pointer none, .agg c.cs, .int .i64 3] w (DoPost w) := by
  have HC := hidIn hc
  have HWK := hidIn (fun w => within_any c.k 20 w (by omega) (by omega) hc.k1 hc.k2)
  have HNA := hidIn (fun w => kname_any ⟨#[116]⟩ c.a w (by decide) hc.a1 hc.a2)
  have HTX := hidIn (fun w => text_any c.s 14 w hc.s (by omega))
  have HTX5 := hidIn (fun w => text_any c.s 5 w hc.s (by omega))
  have hst : DoSt w c.cs zero11 (((w.alloc (.cells c.cs 27)).alloc (.cells zero11 35)).alloc (.cells zero11 35)) := by
    refine ⟨heap_keeps (heap_keeps (heap_alloc_new _ _) _) _, heap_keeps ?_ _, ?_, below_alloc (below_alloc (below_alloc (Below.refl _ _) _) _) _, by simp⟩
    · have h := heap_alloc_new (w.alloc (.cells c.cs 27)) (.cells zero11 35)
      rwa [show (w.alloc (.cells c.cs 27)).heap.size = w.heap.size + 1 by simp] at h
    · have h := heap_alloc_new ((w.alloc (.cells c.cs 27)).alloc (.cells zero11 35)) (.cells zero11 35)
      rwa [show ((w.alloc (.cells c.cs 27)).alloc (.cells zero11 35)).heap.size = w.heap.size + 2 by simp] at h
  have HST := hidIn hst
  clear hc hst
  unfold Cm.cs zero11 at HST
  unfold Cm.cs
  go_enter Tryz.func38, Tryz.ntmps38
  go_upto_region 2 with fail
  rw [show w.heap.size + 1 + 1 = w.heap.size + 2 from rfl]
  generalize ((w.alloc (.cells #[.int .i64 c.k, .int .i64 c.a, .int .i64 c.b, .int .i64 c.d, .int .i64 c.v, .string c.s, .slice c.p.na c.p.nl c.p.nc, .slice c.p.wa c.p.wl c.p.wc] 27)).alloc (.cells #[.int .i64 0, .string ⟨#[]⟩, .string ⟨#[]⟩, .string ⟨#[]⟩, .string ⟨#[]⟩, .int .i64 0, .int .i64 0, .int .i64 0, .string ⟨#[]⟩, .int .i64 0, .slice none 0 0] 35)).alloc (.cells #[.int .i64 0, .string ⟨#[]⟩, .string ⟨#[]⟩, .string ⟨#[]⟩, .string ⟨#[]⟩, .int .i64 0, .int .i64 0, .int .i64 0, .string ⟨#[]⟩, .int .i64 0, .slice none 0 0] 35) = V at *
  have HPL := hidIn (fun (W : World) (h : Below w.heap.size w W) => HC.out.p.below h)
  go_cut [8] (fun s8 wx => ∃ s : ByteArray, s8 = .string s ∧ s.size ≤ 1000 ∧ DoSt w c.cs zero11 wx)
  case first =>
    obtain ⟨x0, x1, x2, x3, x4, x5, x6, x7⟩ := DoSt.com HST.out
    go_wp2_with fail
    refine (HNA.out V).mono ?_
    rintro e w1 ⟨s, rfl, hs, hb1⟩
    have HS1 := hidIn (Nat.le_trans hs (show 200 ≤ 1000 by omega))
    have HST1 := hidIn (HST.out.below hb1)
    clear hb1 x0 x1 x2 x3 x4 x5 x6 x7
    go_wp2_with fail
    go_meet
    case rel => exact ⟨_, rfl, HS1.out, HST1.out⟩
  case rest =>
    obtain ⟨s, rfl, hs, hst1⟩ := hcut
    generalize wc = w1 at *
    have HS1 := hidIn hs
    have HST1 := hidIn hst1
    clear hs hst1 HST HNA
    obtain ⟨x0, x1, x2, x3, x4, x5, x6, x7⟩ := DoSt.com HST1.out
    go_upto_if 28 with fail
    go_cut [8] (fun s8 wx => ∃ s : ByteArray, s8 = .string s ∧ s.size ≤ 1000 ∧ wx = w1)
    case first =>
      cases hA : (c.a.tmod 19 == 18)
      · go_wp2_with fail
        go_meet
        case rel => exact ⟨_, rfl, HS1.out, rfl⟩
      · go_wp2_with fail
        refine calls_same (HTX.out w1) ?_
        go_wp2_with fail
        go_meet
        case rel => exact ⟨_, rfl, Nat.le_trans (cutTo_size _ _) (by omega), rfl⟩
    case rest =>
      obtain ⟨s, rfl, hs, rfl⟩ := hcut
      generalize wc = w1 at *
      have HS2 := hidIn hs
      clear hs HS1 HTX
      go_wp2_with fail
      refine calls_same (HWK.out _) ?_
      obtain ⟨q, hq⟩ : ∃ q : Nat, c.k % 20 = q := ⟨(c.k % 20).toNat, by omega⟩
      have hq20 : q < 20 := by omega
      rw [hq]
      have hqr : 11 ≤ q ∧ q < 14 := by omega
      clear HWK hq hk
      go_upto_block 0 with fail
      go_cut [46] (fun s46 wx => DoEnd w c.cs wx)
      case first =>
        obtain ⟨fz, y0, y1, y2, y3, y4, y5, y6, y7, y8, y9, y10⟩ := DoSt.at HST1.out
        rcases (by omega : q = 0 ∨ (1 ≤ q ∧ q < 7) ∨ (7 ≤ q ∧ q < 11) ∨ (11 ≤ q ∧ q < 14) ∨ (14 ≤ q ∧ q < 17) ∨ (17 ≤ q ∧ q < 19) ∨ 19 ≤ q) with rfl | hq | hq | hq | hq | hq | hq
        · exfalso
          omega
        · exfalso
          omega
        · exfalso
          omega
        · have b0 : ((q : Int) == 0) = false := by rw [beq_eq_false_iff_ne]; omega
          have b7 : ¬ (q : Int) < 7 := by omega
          have b11 : ¬ (q : Int) < 11 := by omega
          have b14 : (q : Int) < 14 := by omega
          have HWB := hidIn (fun W => within_any c.b 3 W (by omega) (by omega) HC.out.b1 HC.out.b2)
          have HWV := hidIn (fun W => within_any c.v 2 W (by omega) (by omega) HC.out.v1 HC.out.v2)
          obtain ⟨qb, hqb⟩ : ∃ d, c.b % 3 = d := ⟨_, rfl⟩
          obtain ⟨vv, hvv⟩ : ∃ d, c.v % 2 = d := ⟨_, rfl⟩
          have hqb1 : 0 ≤ qb := by omega
          have hqb2 : qb < 3 := by omega
          have hvv1 : 0 ≤ vv := by omega
          have hvv2 : vv < 2 := by omega
          rw [hqb] at HWB
          rw [hvv] at HWV
          obtain ⟨dg, hdg⟩ : ∃ s, digT (1 + qb).toNat = s := ⟨_, rfl⟩
          have HD0 : Hid (dg.size ≤ 900) := by rw [← hdg]; rcases (by omega : qb = 0 ∨ qb = 1 ∨ qb = 2) with rfl | rfl | rfl <;> (unfold Hid; decide +kernel)
          obtain ⟨lb, hlb⟩ : ∃ b : ByteArray, (⟨#[99, 104]⟩ : ByteArray) ++ dg = b := ⟨_, rfl⟩
          have HDZ : Hid (lb.size ≤ 1000) := by rw [← hlb]; unfold Hid; rw [ByteArray.size_append]; have := HD0.out; have h2 : (⟨#[99, 104]⟩ : ByteArray).size = 2 := rfl; omega
          have HLB := hidIn hlb
          clear hlb
          have HDG : Hid (∀ W, Calls Tryz.prog 68 #[.int .i64 (1 + qb)] W fun e w2 => e = .returned (.string dg) ∧ Below W.heap.size W w2) := fun W => by have h := digT_any (1 + qb).toNat (by omega) W; rw [hdg, Int.toNat_of_nonneg (by omega)] at h; exact h
          clear hdg
          clear hqb hvv
          clear x0 x1 x2 x3 x4 x5 x6 x7 fz y0 y1 y2 y3 y4 y5 y6 y7 y8 y9 y10
          go_upto_region 25 with fail
          refine Iv.wp_region_invL [(some 134, .string s), (some 135, .pointer (some ⟨w.heap.size, 2, none⟩)), (some 136, .int .i64 c.b), (some 137, .int .i64 qb), (some 138, .int .i64 (1 + qb)), (some 139, .string dg), (some 140, .string lb), (some 141, .pointer (some ⟨w.heap.size, 4, none⟩)), (some 142, .int .i64 c.v), (some 143, .int .i64 vv), (some 144, .pointer (some ⟨w.heap.size + 2, 0, none⟩)), (none, undef), (some 145, .pointer (some ⟨w.heap.size + 2, 1, none⟩)), (none, undef), (some 146, .pointer (some ⟨w.heap.size + 2, 3, none⟩)), (none, undef), (some 147, .pointer (some ⟨w.heap.size + 2, 6, none⟩)), (none, undef)] (Inv25 w c s lb vv) (by kernel_rfl) (by kernel_rfl) rfl ⟨HST1.out.drew⟩ ?_ ?_
          · as_aux_lemma =>
              intro ops AF hops hAF
              simp only [Iv.putL, Act.put, List.setIfInBounds_toArray, List.set_cons_zero, List.set_cons_succ] at hAF
              subst hAF
              clear hops
              refine And.intro (Iv.i_pure (wanted_none rfl) (fun f W ha hi => ?_) (fun f W h => ⟨h.st⟩)) ?_
              · show Sem.run _ _ W = Result.ok (Next.value (.string s)) W
                go_simp
              refine And.intro (Iv.i_pure (wanted_none rfl) (fun f W ha hi => ?_) (fun f W h => ⟨h.st⟩)) ?_
              · show Sem.run _ _ W = Result.ok (Next.value (.pointer (some ⟨w.heap.size, 2, none⟩))) W
                go_simp
              refine And.intro (Iv.i_pure (wanted_none rfl) (fun f W ha hi => ?_) (fun f W h => ⟨h.st⟩)) ?_
              · show Sem.run _ _ W = Result.ok (Next.value (.int .i64 c.b)) W
                obtain ⟨x0, x1, x2, x3, x4, x5, x6, x7⟩ := DoSt.com hi.st
                go_simp
              refine And.intro (Iv.i_reads 9 #[.int .i64 c.b, .int .i64 3] (wanted_none rfl) (fun W => ?_) (fun W => ?_) (fun f W h => ⟨h.st⟩)) ?_
              · go_simp
              · exact HWB.out W
              refine And.intro (Iv.i_pure (wanted_none rfl) (fun f W ha hi => ?_) (fun f W h => ⟨h.st⟩)) ?_
              · show Sem.run _ _ W = Result.ok (Next.value (.int .i64 (1 + qb))) W
                have wr : IntKind.i64.wrap (1 + (qb : Int)) = 1 + qb := wrap_small _ (by omega) (by omega)
                go_simp
              refine And.intro (Iv.i_call 68 #[.int .i64 (1 + qb)] (wanted_none rfl) (fun W => ?_) (fun f W h1 ha hi => ?_)) ?_
              · go_simp
              · refine (HDG.out W).mono ?_
                rintro e w2 ⟨rfl, hb⟩
                exact ⟨rfl, ⟨hi.st.below hb⟩⟩
              refine And.intro (Iv.i_pure (wanted_none rfl) (fun f W ha hi => ?_) (fun f W h => ⟨h.st⟩)) ?_
              · show Sem.run _ _ W = Result.ok (Next.value (.string lb)) W
                rw [← HLB.out]
                have hd0 := HD0.out
                go_simp
                omega
              refine And.intro (Iv.i_pure (wanted_none rfl) (fun f W ha hi => ?_) (fun f W h => ⟨h.st⟩)) ?_
              · show Sem.run _ _ W = Result.ok (Next.value (.pointer (some ⟨w.heap.size, 4, none⟩))) W
                go_simp
              refine And.intro (Iv.i_pure (wanted_none rfl) (fun f W ha hi => ?_) (fun f W h => ⟨h.st⟩)) ?_
              · show Sem.run _ _ W = Result.ok (Next.value (.int .i64 c.v)) W
                obtain ⟨x0, x1, x2, x3, x4, x5, x6, x7⟩ := DoSt.com hi.st
                go_simp
              refine And.intro (Iv.i_reads 9 #[.int .i64 c.v, .int .i64 2] (wanted_none rfl) (fun W => ?_) (fun W => ?_) (fun f W h => ⟨h.st⟩)) ?_
              · go_simp
              · exact HWV.out W
              refine And.intro (Iv.i_pure (wanted_none rfl) (fun f W ha hi => ?_) (fun f W h => ⟨h.st⟩)) ?_
              · show Sem.run _ _ W = Result.ok (Next.value (.pointer (some ⟨w.heap.size + 2, 0, none⟩))) W
                go_simp
              refine And.intro (Iv.i_store rfl (wanted_none rfl) (fun f W h1 ha hi => ?_)) ?_
              · obtain ⟨fz, y0, y1, y2, y3, y4, y5, y6, y7, y8, y9, y10⟩ := DoSt.at hi.st
                refine ⟨W.setCell ⟨w.heap.size + 2, 0, none⟩ (.int .i64 4), ?_, ⟨hi.st.set 0 (.int .i64 4)⟩⟩
                go_simp
              refine And.intro (Iv.i_pure (wanted_none rfl) (fun f W ha hi => ?_) (fun f W h => ⟨h.st⟩)) ?_
              · show Sem.run _ _ W = Result.ok (Next.value (.pointer (some ⟨w.heap.size + 2, 1, none⟩))) W
                go_simp
              refine And.intro (Iv.i_store rfl (wanted_none rfl) (fun f W h1 ha hi => ?_)) ?_
              · obtain ⟨fz, y0, y1, y2, y3, y4, y5, y6, y7, y8, y9, y10⟩ := DoSt.at hi.st
                refine ⟨W.setCell ⟨w.heap.size + 2, 1, none⟩ (.string s), ?_, ⟨hi.st.set 1 (.string s)⟩⟩
                go_simp
              refine And.intro (Iv.i_pure (wanted_none rfl) (fun f W ha hi => ?_) (fun f W h => ⟨h.st⟩)) ?_
              · show Sem.run _ _ W = Result.ok (Next.value (.pointer (some ⟨w.heap.size + 2, 3, none⟩))) W
                go_simp
              refine And.intro (Iv.i_store rfl (wanted_none rfl) (fun f W h1 ha hi => ?_)) ?_
              · obtain ⟨fz, y0, y1, y2, y3, y4, y5, y6, y7, y8, y9, y10⟩ := DoSt.at hi.st
                refine ⟨W.setCell ⟨w.heap.size + 2, 3, none⟩ (.string lb), ?_, ⟨hi.st.set 3 (.string lb)⟩⟩
                go_simp
              refine And.intro (Iv.i_pure (wanted_none rfl) (fun f W ha hi => ?_) (fun f W h => ⟨h.st⟩)) ?_
              · show Sem.run _ _ W = Result.ok (Next.value (.pointer (some ⟨w.heap.size + 2, 6, none⟩))) W
                go_simp
              refine And.intro (Iv.i_store rfl (wanted_none rfl) (fun f W h1 ha hi => ?_)) ?_
              · obtain ⟨fz, y0, y1, y2, y3, y4, y5, y6, y7, y8, y9, y10⟩ := DoSt.at hi.st
                refine ⟨W.setCell ⟨w.heap.size + 2, 6, none⟩ (.int .i64 vv), ?_, ⟨hi.st.set 6 (.int .i64 vv)⟩⟩
                go_simp
              exact trivial
          · intro f w2 hf hi
            have f11 := hf 11 (by decide)
            have f13 := hf 13 (by decide)
            have f15 := hf 15 (by decide)
            have f17 := hf 17 (by decide)
            have hst2 := hi.st
            unfold row25 at hst2
            rw [f11, f13, f15, f17] at hst2
            have HST2 : Hid (DoSt w c.cs (Ev.rcs ⟨4, s, ⟨#[]⟩, lb, ⟨#[]⟩, 0, vv, none'⟩ none 0) w2) := hst2
            clear hst2 hi hf f11 f13 f15 f17
            simp only [Iv.putL, Act.put, List.setIfInBounds_toArray, List.set_cons_zero, List.set_cons_succ]
            obtain ⟨x0, x1, x2, x3, x4, x5, x6, x7⟩ := DoSt.com HST2.out
            have HAT := DoSt.at HST2.out
            obtain ⟨fz, y0, y1, y2, y3, y4, y5, y6, y7, y8, y9, y10⟩ := HAT
            cases hb3 : (c.b.tmod 3 == 0)
            all_goals
              go_wp2_with fail
              go_meet
              case rel => exact ⟨⟨4, s, ⟨#[]⟩, lb, ⟨#[]⟩, 0, vv, none'⟩, none, 0, ev_made (by omega) (by omega) (by omega) HS2.out e0_small HDZ.out e0_small, HST2.out, none_in _ _⟩
        · exfalso
          omega
        · exfalso
          omega
        · exfalso
          omega
      case rest =>
        obtain ⟨e, ka, kc, hm, hst3, ht3⟩ := hcut
        generalize wc = w3 at *
        have HM := hidIn hm
        have HS3 := hidIn hst3
        have HT3 := hidIn ht3
        clear hm hst3 ht3 x0 x1 x2 x3 x4 x5 x6 x7
        go_upto_region 52 with fail
        refine wp_region_lit ?_
        refine wpList_load_row rfl 35 (.tmp 7) rfl (w.heap.size + 2) rfl _ _ _ _ HS3.out.e Tryz.underlying35 rfl infoE ?_
        refine wpList_store_row rfl 35 (.tmp 6) (.tmp 266) rfl (w.heap.size + 1) (e.rcs ka kc) rfl rfl _ _ HS3.out.r infoE rfl (by first | rfl | simp [Ev.rcs, Value.oneCell']) ?_
        refine wpList_nil ?_
        go_wp2_with fail
        refine bodyPost_ret (results_cell_row rfl _ _ (w.heap.size + 1) 35 (e.rcs ka kc) (0, 0) _ rfl (setRow_heap _ _ _ _ _ _ HS3.out.r) Tryz.underlying35 rfl infoE) rfl ?_
        exact ⟨e, _, rfl, HM.out, ⟨ka, kc, rfl, (trow HT3.out _ (by omega)).low (Nat.zero_le _)⟩, below_setRow HS3.out.b (by omega) _⟩

end Go.Proofs.YtkioolbjmcpjpaaGreatDoor.Ev
