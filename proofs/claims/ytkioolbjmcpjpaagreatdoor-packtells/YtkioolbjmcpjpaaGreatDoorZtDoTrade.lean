/- Do at no ledger: one of its ways. -/
import Derived.Test.YtkioolbjmcpjpaaGreatDoorZt3
namespace Go.Proofs.YtkioolbjmcpjpaaGreatDoor.Ev
open Go.RowKit
set_option linter.unusedVariables false

set_option maxHeartbeats 16000000 in
set_option maxRecDepth 100000 in
theorem do_trade (c : Cm) (w : World) (hc : c.In w) (hk : 1 ≤ c.k % 20 ∧ c.k % 20 < 7) : Calls Tryz.prog 38 #[.pointer none, .agg c.cs, .int .i64 3] w (DoPost w) := by
  have HC := hidIn hc
  have HWK := hidIn (fun w => within_any c.k 20 w (by omega) (by omega) hc.k1 hc.k2)
  have HNA := hidIn (fun w => kname_any ⟨#[116]⟩ c.a w (by decide) hc.a1 hc.a2)
  have HTX := hidIn (fun w => text_any c.s 14 w hc.s (by omega))
  have HTX5 := hidIn (fun w => text_any c.s 5 w hc.s (by omega))
  have hst : DoSt w c.cs zero11 (((w.alloc (.cells c.cs 27)).alloc (.cells zero11 35)).alloc (.cells zero11 35)) := by
    refine ⟨heap_keeps (heap_keeps (heap_alloc_new _ _) _) _, heap_keeps ?_ _, ?_, below_alloc (below_alloc (below_alloc (Below.refl _ _) _) _) _, by simp⟩
    · have h := heap_alloc_new (w.alloc (.cells c.cs 27)) (.cells zero11 35)
      rwa [show (w.alloc (.cells c.cs 27)).heap.size = w.heap.size + 1 by simp] at h
    · have h := heap_alloc_new ((w.alloc (.cells c.cs 27)).alloc (.cells zero11 35)) (.cells zero11 35)
      rwa [show ((w.alloc (.cells c.cs 27)).alloc (.cells zero11 35)).heap.size = w.heap.size + 2 by simp] at h
  have HST := hidIn hst
  clear hc hst
  unfold Cm.cs zero11 at HST
  unfold Cm.cs
  go_enter Tryz.func38, Tryz.ntmps38
  go_upto_region 2 with fail
  rw [show w.heap.size + 1 + 1 = w.heap.size + 2 from rfl]
  generalize ((w.alloc (.cells #[.int .i64 c.k, .int .i64 c.a, .int .i64 c.b, .int .i64 c.d, .int .i64 c.v, .string c.s, .slice c.p.na c.p.nl c.p.nc, .slice c.p.wa c.p.wl c.p.wc] 27)).alloc (.cells #[.int .i64 0, .string ⟨#[]⟩, .string ⟨#[]⟩, .string ⟨#[]⟩, .string ⟨#[]⟩, .int .i64 0, .int .i64 0, .int .i64 0, .string ⟨#[]⟩, .int .i64 0, .slice none 0 0] 35)).alloc (.cells #[.int .i64 0, .string ⟨#[]⟩, .string ⟨#[]⟩, .string ⟨#[]⟩, .string ⟨#[]⟩, .int .i64 0, .int .i64 0, .int .i64 0, .string ⟨#[]⟩, .int .i64 0, .slice none 0 0] 35) = V at *
  have HPL := hidIn (fun (W : World) (h : Below w.heap.size w W) => HC.out.p.below h)
  go_cut [8] (fun s8 wx => ∃ s : ByteArray, s8 = .string s ∧ s.size ≤ 1000 ∧ DoSt w c.cs zero11 wx)
  case first =>
    obtain ⟨x0, x1, x2, x3, x4, x5, x6, x7⟩ := DoSt.com HST.out
    go_wp2_with fail
    refine (HNA.out V).mono ?_
    rintro e w1 ⟨s, rfl, hs, hb1⟩
    have HS1 := hidIn (Nat.le_trans hs (show 200 ≤ 1000 by omega))
    have HST1 := hidIn (HST.out.below hb1)
    clear hb1 x0 x1 x2 x3 x4 x5 x6 x7
    go_wp2_with fail
    go_meet
    case rel => exact ⟨_, rfl, HS1.out, HST1.out⟩
  case rest =>
    obtain ⟨s, rfl, hs, hst1⟩ := hcut
    generalize wc = w1 at *
    have HS1 := hidIn hs
    have HST1 := hidIn hst1
    clear hs hst1 HST HNA
    obtain ⟨x0, x1, x2, x3, x4, x5, x6, x7⟩ := DoSt.com HST1.out
    go_upto_if 28 with fail
    go_cut [8] (fun s8 wx => ∃ s : ByteArray, s8 = .string s ∧ s.size ≤ 1000 ∧ wx = w1)
    case first =>
      cases hA : (c.a.tmod 19 == 18)
      · go_wp2_with fail
        go_meet
        case rel => exact ⟨_, rfl, HS1.out, rfl⟩
      · go_wp2_with fail
        refine calls_same (HTX.out w1) ?_
        go_wp2_with fail
        go_meet
        case rel => exact ⟨_, rfl, Nat.le_trans (cutTo_size _ _) (by omega), rfl⟩
    case rest =>
      obtain ⟨s, rfl, hs, rfl⟩ := hcut
      generalize wc = w1 at *
      have HS2 := hidIn hs
      clear hs HS1 HTX
      go_wp2_with fail
      refine calls_same (HWK.out _) ?_
      obtain ⟨q, hq⟩ : ∃ q : Nat, c.k % 20 = q := ⟨(c.k % 20).toNat, by omega⟩
      have hq20 : q < 20 := by omega
      rw [hq]
      have hqr : 1 ≤ q ∧ q < 7 := by omega
      clear HWK hq hk
      go_upto_block 0 with fail
      go_cut [46] (fun s46 wx => DoEnd w c.cs wx)
      case first =>
        obtain ⟨fz, y0, y1, y2, y3, y4, y5, y6, y7, y8, y9, y10⟩ := DoSt.at HST1.out
        rcases (by omega : q = 0 ∨ (1 ≤ q ∧ q < 7) ∨ (7 ≤ q ∧ q < 11) ∨ (11 ≤ q ∧ q < 14) ∨ (14 ≤ q ∧ q < 17) ∨ (17 ≤ q ∧ q < 19) ∨ 19 ≤ q) with rfl | hq | hq | hq | hq | hq | hq
        · exfalso
          omega
        · have b0 : ((q : Int) == 0) = false := by rw [beq_eq_false_iff_ne]; omega
          have b7 : (q : Int) < 7 := by omega
          have HPW := hidIn (HPL.out w1 HST1.out.b)
          have HRA := hidIn (right_any c.p w1 HPW.out)
          unfold planV at HRA
          obtain ⟨rc, hrc⟩ : ∃ rc, rightP c.p = rc := ⟨_, rfl⟩
          have HRW : Hid (rc.whole ∧ rc.weight ≤ 630) := by rw [← hrc]; exact ⟨rightP_whole _, rightP_weight _⟩
          rw [hrc] at HRA
          clear hrc
          go_wp2_with fail
          refine HRA.out.mono ?_
          rintro e w2 ⟨v2, rfl, ht2, hb2⟩
          obtain ⟨ka, kc, rfl, hk1, hk2, hk3⟩ := ht2
          have HT2 : Hid (TIn w2 (w.heap.size + 3) (plainC rc) (.agg (four (plainC rc) ka kc))) := TIn.low ⟨ka, kc, rfl, hk1, hk2, hk3⟩ HST1.out.z
          have HST2 := hidIn (HST1.out.below hb2)
          clear hk1 hk2 hk3 hb2 x0 x1 x2 x3 x4 x5 x6 x7 y0 y1 y2 y3 y4 y5 y6 y7 y8 y9 y10 fz
          obtain ⟨x0, x1, x2, x3, x4, x5, x6, x7⟩ := DoSt.com HST2.out
          obtain ⟨fz, y0, y1, y2, y3, y4, y5, y6, y7, y8, y9, y10⟩ := DoSt.at HST2.out
          go_upto_region 11 with fail
          have HST3 : Hid (DoSt w c.cs (Ev.rcs ⟨2, s, ⟨#[]⟩, ⟨#[]⟩, ⟨#[]⟩, 0, 0, rc⟩ ka kc) ((((((w2.setCell ⟨w.heap.size + 2, 0, none⟩ (.int .i64 2)).setCell ⟨w.heap.size + 2, 1, none⟩ (.string s)).setCell ⟨w.heap.size + 2, 7, none⟩ (.int .i64 (plainC rc).kind)).setCell ⟨w.heap.size + 2, 8, none⟩ (.string (plainC rc).s)).setCell ⟨w.heap.size + 2, 9, none⟩ (.int .i64 (plainC rc).n)).setCell ⟨w.heap.size + 2, 10, none⟩ (.slice ka (plainC rc).k.length kc))) := ((((((HST2.out.set 0 (.int .i64 2)).set 1 (.string s)).set 7 (.int .i64 (plainC rc).kind)).set 8 (.string (plainC rc).s)).set 9 (.int .i64 (plainC rc).n)).set 10 (.slice ka (plainC rc).k.length kc))
          have HT3 := hidIn (tset (tset (tset (tset (tset (tset HT2.out 0 (.int .i64 2) (show w.heap.size + 2 < w.heap.size + 3 by omega)) 1 (.string s) (show w.heap.size + 2 < w.heap.size + 3 by omega)) 7 (.int .i64 (plainC rc).kind) (show w.heap.size + 2 < w.heap.size + 3 by omega)) 8 (.string (plainC rc).s) (show w.heap.size + 2 < w.heap.size + 3 by omega)) 9 (.int .i64 (plainC rc).n) (show w.heap.size + 2 < w.heap.size + 3 by omega)) 10 (.slice ka (plainC rc).k.length kc) (show w.heap.size + 2 < w.heap.size + 3 by omega))
          generalize ((((((w2.setCell ⟨w.heap.size + 2, 0, none⟩ (.int .i64 2)).setCell ⟨w.heap.size + 2, 1, none⟩ (.string s)).setCell ⟨w.heap.size + 2, 7, none⟩ (.int .i64 (plainC rc).kind)).setCell ⟨w.heap.size + 2, 8, none⟩ (.string (plainC rc).s)).setCell ⟨w.heap.size + 2, 9, none⟩ (.int .i64 (plainC rc).n)).setCell ⟨w.heap.size + 2, 10, none⟩ (.slice ka (plainC rc).k.length kc)) = w3 at *
          clear x0 x1 x2 x3 x4 x5 x6 x7 y0 y1 y2 y3 y4 y5 y6 y7 y8 y9 y10 fz HST2 HT2
          obtain ⟨x0, x1, x2, x3, x4, x5, x6, x7⟩ := DoSt.com HST3.out
          have HAT := DoSt.at HST3.out
          obtain ⟨fz, y0, y1, y2, y3, y4, y5, y6, y7, y8, y9, y10⟩ := HAT
          cases hb16 : (c.b.tmod 17 == 16)
          · go_wp2_with fail
            go_meet
            case rel => exact ⟨⟨2, s, ⟨#[]⟩, ⟨#[]⟩, ⟨#[]⟩, 0, 0, rc⟩, ka, kc, made_trade HS2.out HRW.out.1 HRW.out.2, HST3.out, HT3.out⟩
          · have HPW3 := hidIn (HPL.out w3 HST3.out.b)
            have HCO := hidIn (contract_any c.p w3 HPW3.out)
            unfold planV at HCO
            have HCW : Hid ((conP c.p).whole ∧ (conP c.p).weight ≤ 630) := ⟨conP_whole _, conP_weight _⟩
            generalize conP c.p = cc at *
            go_wp2_with fail
            refine HCO.out.mono ?_
            rintro e w4 ⟨v4, rfl, ht4, hb4⟩
            obtain ⟨la, lc, rfl, hk1, hk2, hk3⟩ := ht4
            have HT4 : Hid (TIn w4 (w.heap.size + 3) (plainC cc) (.agg (four (plainC cc) la lc))) := TIn.low ⟨la, lc, rfl, hk1, hk2, hk3⟩ HST3.out.z
            have HST4 := hidIn (HST3.out.below hb4)
            clear hk1 hk2 hk3 hb4 x0 x1 x2 x3 x4 x5 x6 x7 y0 y1 y2 y3 y4 y5 y6 y7 y8 y9 y10 fz
            have HAT := DoSt.at HST4.out
            obtain ⟨fz, y0, y1, y2, y3, y4, y5, y6, y7, y8, y9, y10⟩ := HAT
            go_wp2_with fail
            go_meet
            case rel => exact ⟨⟨2, s, ⟨#[]⟩, ⟨#[]⟩, ⟨#[]⟩, 0, 0, cc⟩, la, lc, made_trade HS2.out HCW.out.1 HCW.out.2, ((((HST4.out.set 7 (.int .i64 (plainC cc).kind)).set 8 (.string (plainC cc).s)).set 9 (.int .i64 (plainC cc).n)).set 10 (.slice la (plainC cc).k.length lc)), (tset (tset (tset (tset HT4.out 7 (.int .i64 (plainC cc).kind) (show w.heap.size + 2 < w.heap.size + 3 by omega)) 8 (.string (plainC cc).s) (show w.heap.size + 2 < w.heap.size + 3 by omega)) 9 (.int .i64 (plainC cc).n) (show w.heap.size + 2 < w.heap.size + 3 by omega)) 10 (.slice la (plainC cc).k.length lc) (show w.heap.size + 2 < w.heap.size + 3 by omega))⟩
        · exfalso
          omega
        · exfalso
          omega
        · exfalso
          omega
        · exfalso
          omega
        · exfalso
          omega
      case rest =>
        obtain ⟨e, ka, kc, hm, hst3, ht3⟩ := hcut
        generalize wc = w3 at *
        have HM := hidIn hm
        have HS3 := hidIn hst3
        have HT3 := hidIn ht3
        clear hm hst3 ht3 x0 x1 x2 x3 x4 x5 x6 x7
        go_upto_region 52 with fail
        refine wp_region_lit ?_
        refine wpList_load_row rfl 35 (.tmp 7) rfl (w.heap.size + 2) rfl _ _ _ _ HS3.out.e Tryz.underlying35 rfl infoE ?_
        refine wpList_store_row rfl 35 (.tmp 6) (.tmp 266) rfl (w.heap.size + 1) (e.rcs ka kc) rfl rfl _ _ HS3.out.r infoE rfl (by first | rfl | simp [Ev.rcs, Value.oneCell']) ?_
        refine wpList_nil ?_
        go_wp2_with fail
        refine bodyPost_ret (results_cell_row rfl _ _ (w.heap.size + 1) 35 (e.rcs ka kc) (0, 0) _ rfl (setRow_heap _ _ _ _ _ _ HS3.out.r) Tryz.underlying35 rfl infoE) rfl ?_
        exact ⟨e, _, rfl, HM.out, ⟨ka, kc, rfl, (trow HT3.out _ (by omega)).low (Nat.zero_le _)⟩, below_setRow HS3.out.b (by omega) _⟩

end Go.Proofs.YtkioolbjmcpjpaaGreatDoor.Ev
