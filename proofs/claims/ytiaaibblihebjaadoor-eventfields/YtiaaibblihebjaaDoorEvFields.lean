/- The walk of EventFields. -/
import Derived.Test.YtiaaibblihebjaaDoorEvFP
import Derived.Test.YtiaaibblihebjaaDoorQm2
import Derived.Deep.CutBlock
namespace Go.Proofs.YtiaaibblihebjaaDoor.Ev
open Go.RowKit
set_option linter.unusedVariables false

theorem alloc_1e (w : World) (a b : Obj) : ((w.alloc a).alloc b).heap[w.heap.size + 1]? = some b := by
  have h := heap_alloc_new (w.alloc a) b
  rwa [show (w.alloc a).heap.size = w.heap.size + 1 by simp] at h
theorem cells8 {w : World} {B t : Nat} {a b c d e f g h : Value} (hh : w.heap[B]? = some (.cells #[a, b, c, d, e, f, g, h] t)) : w.cell? ⟨B, 0, none⟩ = some a ∧ w.cell? ⟨B, 1, none⟩ = some b ∧ w.cell? ⟨B, 2, none⟩ = some c ∧ w.cell? ⟨B, 3, none⟩ = some d ∧ w.cell? ⟨B, 4, none⟩ = some e ∧ w.cell? ⟨B, 5, none⟩ = some f ∧ w.cell? ⟨B, 6, none⟩ = some g ∧ w.cell? ⟨B, 7, none⟩ = some h :=
  ⟨cell_of_row _ _ 0 _ _ _ hh, cell_of_row _ _ 1 _ _ _ hh, cell_of_row _ _ 2 _ _ _ hh, cell_of_row _ _ 3 _ _ _ hh, cell_of_row _ _ 4 _ _ _ hh, cell_of_row _ _ 5 _ _ _ hh, cell_of_row _ _ 6 _ _ _ hh, cell_of_row _ _ 7 _ _ _ hh⟩
theorem blk_keeps {w w' : World} {B : Nat} {o : Obj} (h : w.heap[B]? = some o) (hb : Below w.heap.size w w') : w'.heap[B]? = some o := (hb.block _ (Array.getElem?_eq_some_iff.1 h).1).trans h
theorem take_any (f : ByteArray) (P : UInt8 → Bool) (pos : Nat) (h : pos < f.size) : (f.toList.take (pos + 1)).any P = ((f.toList.take pos).any P || P (f[pos]'h)) := by
  have hl : f.toList[pos]? = some (f[pos]'h) := by
    rw [ByteArray.toList_eq]
    exact List.getElem?_eq_getElem (by simpa using h)
  rw [List.take_add_one, hl]
  simp
theorem flds_small : ∀ q : Nat, q < 6 → (flds ((q : Int) + 1)).size ≤ 3 ∧ ∀ b ∈ (flds ((q : Int) + 1)).toList, b.toNat < 128 := by decide +kernel
theorem nat_beq (a b : Nat) : ((a : Int) == (b : Int)) = (a == b) := by
  rw [Bool.eq_iff_iff]; simp; omega
/-- Three events in memory. -/
def Tri (w : World) (B b c : Nat) (cB cb cc : Array Value) (W : World) : Prop := W.heap[b]? = some (.cells cb 38) ∧ W.heap[c]? = some (.cells cc 38) ∧ W.heap[B]? = some (.cells cB 38) ∧ Below w.heap.size w W
theorem Tri.setb {w W : World} {B b c : Nat} {cB cb cc : Array Value} (h : Tri w B b c cB cb cc W) (h1 : b ≠ c) (h2 : b ≠ B) (h3 : w.heap.size ≤ b) (j : Nat) (x : Value) : Tri w B b c cB (cb.setIfInBounds j x) cc (W.setCell ⟨b, j, none⟩ x) :=
  ⟨heap_setCell_same _ b j _ _ x h.1, (heap_setCell_other _ ⟨b, j, none⟩ c x (Ne.symm h1)).trans h.2.1, (heap_setCell_other _ ⟨b, j, none⟩ B x (Ne.symm h2)).trans h.2.2.1, h.2.2.2.setCell h3 x⟩
theorem Tri.setc {w W : World} {B b c : Nat} {cB cb cc : Array Value} (h : Tri w B b c cB cb cc W) (h1 : b ≠ c) (h2 : c ≠ B) (h3 : w.heap.size ≤ c) (j : Nat) (x : Value) : Tri w B b c cB cb (cc.setIfInBounds j x) (W.setCell ⟨c, j, none⟩ x) :=
  ⟨(heap_setCell_other _ ⟨c, j, none⟩ b x h1).trans h.1, heap_setCell_same _ c j _ _ x h.2.1, (heap_setCell_other _ ⟨c, j, none⟩ B x (Ne.symm h2)).trans h.2.2.1, h.2.2.2.setCell h3 x⟩
theorem blk_drew {w : World} {B : Nat} {o : Obj} (h : w.heap[B]? = some o) : w.drew.heap[B]? = some o := h
set_option maxHeartbeats 16000000 in
set_option maxRecDepth 100000 in
theorem fields_walk (kind field v : Int) (w : World) (hk1 : -9223372036854775808 ≤ kind) (hk2 : kind ≤ 9223372036854775807) (hf1 : -9223372036854775808 ≤ field) (hf2 : field ≤ 9223372036854775807) (hv1 : -9223372036854775808 ≤ v) (hv2 : v ≤ 9223372036854775807) (htab : TabW w) :
    Calls Tryd.prog 4 #[.int .i64 kind, .int .i64 field, .int .i64 v] w fun e w' => e = .returned (.bool true) ∧ Below w.heap.size w w' := by
  have HK := hidIn (fun w : World => within_any kind 6 w (by omega) (by omega) hk1 hk2)
  have HF := hidIn (fun w : World => within_any field 7 w (by omega) (by omega) hf1 hf2)
  have HV := hidIn (fun w : World => within_any v 100 w (by omega) (by omega) hv1 hv2)
  obtain ⟨q, hq⟩ : ∃ q : Nat, kind % 6 = q := ⟨(kind % 6).toNat, by omega⟩
  obtain ⟨p, hp⟩ : ∃ p : Nat, field % 7 = p := ⟨(field % 7).toNat, by omega⟩
  obtain ⟨x, hx⟩ : ∃ x, v % 100 = x := ⟨_, rfl⟩
  have hq6 : q < 6 := by omega
  have hp7 : p < 7 := by omega
  have hx0 : 0 ≤ x := by omega
  have hx9 : x < 100 := by omega
  rw [hq] at HK
  rw [hp] at HF
  rw [hx] at HV
  clear hq hp hx hk1 hk2 hf1 hf2 hv1 hv2
  have HT := hidIn htab
  clear htab
  go_enter Tryd.func4, Tryd.ntmps4
  go_wp2_with fail
  refine calls_same (HK.out w) ?_
  go_upto_region 2 with fail
  go_cut [7] (fun s7 wx => ∃ B, s7 = .pointer (some ⟨B, 0, none⟩) ∧ wx.heap[B]? = some (.cells (goodE q).cs 38) ∧ w.heap.size ≤ B ∧ Below w.heap.size w wx)
  case first =>
    rcases (by omega : q = 0 ∨ q = 1 ∨ q = 2 ∨ q = 3 ∨ q = 4 ∨ q = 5) with rfl | rfl | rfl | rfl | rfl | rfl
    all_goals
      go_wp2_with fail
      go_meet
      case rel => exact ⟨_, rfl, alloc_1e _ _ _, by omega, below_alloc (below_alloc (Below.refl _ _) _) _⟩
  case rest =>
    obtain ⟨B, rfl, hB, hBw, hbw⟩ := hcut
    generalize wc = w1 at *
    have hok := good_ok q hq6
    have hbv : -9223372036854775808 ≤ badV q x ∧ badV q x ≤ 9223372036854775807 := by unfold badV; split <;> omega
    have hov : -9223372036854775808 ≤ othV q ∧ othV q ≤ 9223372036854775807 := by unfold othV; split <;> omega
    have HCG := hidIn (fun W h => check_any (goodE q) hok W h)
    have HSG := hidIn (fun W => same_any (goodE q) (goodE q) hok hok W)
    have HCB := hidIn (fun W h => check_any (badP p (goodE q) (badV q x)) (bad_ok p _ _ hok hbv.1 hbv.2) W h)
    have HCO := hidIn (fun W h => check_any (otherP p (goodE q) (othV q)) (oth_ok p _ _ hok hov.1 hov.2) W h)
    have HSO := hidIn (fun W => same_any (goodE q) (otherP p (goodE q) (othV q)) hok (oth_ok p _ _ hok hov.1 hov.2) W)
    rw [good_chk q hq6] at HCG
    rw [good_same q hq6] at HSG
    rw [bad_chk q p x hq6 hp7 hx0] at HCB
    rw [oth_same q hq6 p hp7] at HSO
    obtain ⟨oc, hoc⟩ : ∃ c, chkE (otherP p (goodE q) (othV q)) = c := ⟨_, rfl⟩
    rw [hoc] at HCO
    have HOC : Hid ((oc == 0) = isP q p) := by rw [← hoc]; exact oth_chk q hq6 p hp7
    have HFL := hidIn (show goodE q = goodE q from rfl)
    have HONE := hidIn ((goodE q).t.one' hok.t)
    clear hoc hok hbv hov HFL
    have HX9 := hidIn hx9
    clear hx9
    generalize goodE q = g at *
    obtain ⟨gk, gi, gn, gl, gu, gd, gv, gt⟩ := g
    unfold Ev.cs at hB
    unfold Ev.val Ev.cs at HCG HSG HCB HCO HSO
    simp only at hB HCG HSG HCB HCO HSO HONE
    obtain ⟨tv, htv⟩ : ∃ x, gt.val = x := ⟨_, rfl⟩
    rw [htv] at hB HCG HSG HSO HONE
    have HTVE := hidIn htv
    clear htv
    have HB := hidIn hB
    have HW1 := hidIn hbw
    obtain ⟨x0, x1, x2, x3, x4, x5, x6, x7⟩ := cells8 hB
    clear hB hbw
    go_wp2_with fail
    refine (HCG.out w1 (tabW_below HT.out HW1.out)).mono ?_
    rintro e w2 ⟨rfl, hb2⟩
    have HB2 := hidIn (blk_keeps HB.out hb2)
    have HW2 := hidIn (HW1.out.trans (hb2.mono HW1.out.size))
    clear hb2 x0 x1 x2 x3 x4 x5 x6 x7 HB HW1 HCG
    obtain ⟨x0, x1, x2, x3, x4, x5, x6, x7⟩ := cells8 HB2.out
    go_wp2_with fail
    refine (HSG.out w2).mono ?_
    rintro e w3 ⟨rfl, hb3⟩
    have HB3 := hidIn (blk_keeps HB2.out hb3)
    have HW3 := hidIn (HW2.out.trans (hb3.mono HW2.out.size))
    clear hb3 x0 x1 x2 x3 x4 x5 x6 x7 HB2 HW2 HSG
    go_upto_region 5 with fail
    go_cut [8] (fun s8 wx => s8 = .int .u8 (letP p) ∧ wx = w3)
    case first =>
      go_wp2_with fail
      refine calls_same (HF.out w3) ?_
      rcases (by omega : p = 0 ∨ p = 1 ∨ p = 2 ∨ p = 3 ∨ p = 4 ∨ p = 5 ∨ p = 6) with rfl | rfl | rfl | rfl | rfl | rfl | rfl
      all_goals
        go_wp2_with fail
        go_meet
        case rel => exact ⟨rfl, rfl⟩
    case rest =>
      obtain ⟨rfl, rfl⟩ := hcut
      generalize wc = w3 at *
      obtain ⟨x0, x1, x2, x3, x4, x5, x6, x7⟩ := cells8 HB3.out
      have hlt : B < w3.heap.size := (Array.getElem?_eq_some_iff.1 HB3.out).1
      have hst := HONE.out.store
      have hce := HONE.out.cells
      go_upto_region 6 with fail
      go_cut [9, 10] (fun s9 s10 wx => ∃ b c, s9 = .pointer (some ⟨b, 0, none⟩) ∧ s10 = .pointer (some ⟨c, 0, none⟩) ∧ b ≠ c ∧ b ≠ B ∧ c ≠ B ∧ w.heap.size ≤ b ∧ w.heap.size ≤ c ∧ wx.heap[B]? = some (.cells #[.int .i64 gk, .string gi, .string gn, .string gl, .string gu, .int .i64 gd, .int .i64 gv, tv] 38) ∧ wx.heap[b]? = some (.cells #[.int .i64 gk, .string gi, .string gn, .string gl, .string gu, .int .i64 gd, .int .i64 gv, tv] 38) ∧ wx.heap[c]? = some (.cells #[.int .i64 gk, .string gi, .string gn, .string gl, .string gu, .int .i64 gd, .int .i64 gv, tv] 38) ∧ Below w.heap.size w wx)
      case first =>
        go_region
        all_goals
          go_wp2_with fail
          go_meet
          case rel =>
            have hbl : Below w3.heap.size w3 ((w3.alloc (.cells #[.int .i64 gk, .string gi, .string gn, .string gl, .string gu, .int .i64 gd, .int .i64 gv, tv] 38)).alloc (.cells #[.int .i64 gk, .string gi, .string gn, .string gl, .string gu, .int .i64 gd, .int .i64 gv, tv] 38)) := below_alloc (below_alloc (Below.refl _ _) _) _
            have hsz := HW3.out.size
            have hall := below_drew (HW3.out.trans (hbl.mono HW3.out.size))
            have k0 := blk_keeps HB3.out hbl
            first
              | exact ⟨w3.heap.size, w3.heap.size + 1, rfl, rfl, by omega, by omega, by omega, by omega, by omega, k0, heap_keeps (heap_alloc_new _ _) _, alloc_1e _ _ _, hall⟩
              | exact ⟨w3.heap.size + 1, w3.heap.size, rfl, rfl, by omega, by omega, by omega, by omega, by omega, k0, alloc_1e _ _ _, heap_keeps (heap_alloc_new _ _) _, hall⟩
      case rest =>
        obtain ⟨b, c, rfl, rfl, hbc, hbB, hcB, hb9, hc9, hB4, hb4, hc4, hw4⟩ := hcut
        clear x0 x1 x2 x3 x4 x5 x6 x7 hlt HB3 HW3
        generalize wc = w4 at *
        have HB4 := hidIn hB4
        have Hb4 := hidIn hb4
        have Hc4 := hidIn hc4
        have HW4 := hidIn hw4
        clear hB4 hb4 hc4 hw4
        go_wp2_with fail
        refine calls_same (fields_any _ w4) ?_
        obtain ⟨f, hf⟩ : ∃ f, flds (1 + (q : Int)) = f := ⟨_, rfl⟩
        rw [hf]
        have HFS : Hid (f.size ≤ 3 ∧ (∀ b ∈ f.toList, b.toNat < 128) ∧ isP q p = f.toList.any (fun b => b.toNat == letP p)) := by
          rw [← hf, Int.add_comm]
          exact ⟨(flds_small q hq6).1, (flds_small q hq6).2, rfl⟩
        go_wp2_with fail
        go_loopw [11] (fun s11 wr => ∃ pos, pos ≤ f.size ∧ wr = w4.iter f pos ∧ s11 = .bool ((f.toList.take pos).any (fun b => b.toNat == letP p))) (fun _ wr => f.size - wr.iterPos w4.heap.size)
        case atStart => exact ⟨0, by omega, rfl, by simp⟩
        case round =>
          obtain ⟨pos, hps, rfl, rfl⟩ := hrel
          by_cases hpl : pos < f.size
          · have hnx : ∀ ty, (Instr.next (.pointer (some ⟨w4.heap.size, 0, none⟩)) true ty).run Tryd.prog (w4.iter f pos) = _ := fun ty => run_next_any w4 f pos ty hpl
            have hasc : (f[pos]'hpl).toNat < 128 := HFS.out.2.1 _ (by rw [ByteArray.toList_eq]; exact Array.getElem_mem_toList _)
            rw [decode_ascii f pos hpl hasc] at hnx
            have HAC : Hid ((f.toList.take (pos + 1)).any (fun b => b.toNat == letP p) = ((f.toList.take pos).any (fun b => b.toNat == letP p) || ((f[pos]'hpl).toNat == letP p))) := take_any f _ pos hpl
            cases hac : (f.toList.take pos).any (fun b => b.toNat == letP p)
            · go_wp2_with fail
              refine calls_same (fields_any _ _) ?_
              rw [hf]
              go_wp2_with fail
              refine ⟨⟨pos + 1, by omega, rfl, ?_⟩, by simp; omega⟩
              rw [HAC.out, hac, nat_beq]
              rfl
            · go_wp2_with fail
              refine ⟨⟨pos + 1, by omega, rfl, ?_⟩, by simp; omega⟩
              rw [HAC.out, hac]
              rfl
          · have hnx : ∀ ty, (Instr.next (.pointer (some ⟨w4.heap.size, 0, none⟩)) true ty).run Tryd.prog (w4.iter f pos) = _ := fun ty => run_next_end w4 f pos ty hpl
            go_upto_region 12 with fail
            have HIS : Hid ((f.toList.take pos).any (fun b => b.toNat == letP p) = isP q p) := by
              rw [HFS.out.2.2, List.take_of_length_le (by rw [ByteArray.toList_eq]; simp; show f.data.size ≤ pos; have : f.data.size = f.size := rfl; omega)]
              rfl
            rw [HIS.out]
            have hb5 : Below w4.heap.size w4 (w4.iter f pos) := below_iter _ _ _
            have HB5 := hidIn (blk_keeps HB4.out hb5)
            have Hb5 := hidIn (blk_keeps Hb4.out hb5)
            have Hc5 := hidIn (blk_keeps Hc4.out hb5)
            have HW5 := hidIn (HW4.out.trans (hb5.mono HW4.out.size))
            clear hb5 HB4 Hb4 Hc4 HW4 HIS hnx hpl hps HFS hf
            generalize w4.iter f pos = w5 at *
            obtain ⟨L, hL⟩ : ∃ L : Int, ((letP p : Nat) : Int) = L := ⟨_, rfl⟩
            rw [hL]
            obtain ⟨isb, his⟩ : ∃ b, isP q p = b := ⟨_, rfl⟩
            rw [his]
            rw [his] at HOC
            have f0 : ∀ j, w5.frozen? ⟨b, j, none⟩ = false := fun j => frozen_of_row _ _ _ _ _ Hb5.out
            have f1 : ∀ j, w5.frozen? ⟨c, j, none⟩ = false := fun j => frozen_of_row _ _ _ _ _ Hc5.out
            go_upto_block 2 with fail
            go_cut [13] (fun s13 wx => Tri w B b c #[.int .i64 gk, .string gi, .string gn, .string gl, .string gu, .int .i64 gd, .int .i64 gv, tv] (badP p ⟨gk, gi, gn, gl, gu, gd, gv, gt⟩ (badV q x)).cs (otherP p ⟨gk, gi, gn, gl, gu, gd, gv, gt⟩ (othV q)).cs wx)
            case first =>
              have TR : Hid (Tri w B b c #[.int .i64 gk, .string gi, .string gn, .string gl, .string gu, .int .i64 gd, .int .i64 gv, tv] #[.int .i64 gk, .string gi, .string gn, .string gl, .string gu, .int .i64 gd, .int .i64 gv, tv] #[.int .i64 gk, .string gi, .string gn, .string gl, .string gu, .int .i64 gd, .int .i64 gv, tv] w5) := ⟨Hb5.out, Hc5.out, HB5.out, HW5.out⟩
              obtain ⟨y0, y1, y2, y3, y4, y5, y6, y7⟩ := cells8 Hb5.out
              obtain ⟨z0, z1, z2, z3, z4, z5, z6, z7⟩ := cells8 Hc5.out
              have e := HTVE.out
              subst e
              clear HCB HCO HSO HB5 HW5 Hb5 Hc5 HOC
              rcases (by omega : p = 0 ∨ p = 1 ∨ p = 2 ∨ p = 3 ∨ p = 4 ∨ p = 5 ∨ p = 6) with rfl | rfl | rfl | rfl | rfl | rfl | rfl
              · obtain rfl : L = 73 := hL.symm
                go_wp2_with fail
                go_meet
                case rel => exact (TR.out.setb hbc hbB hb9 1 _).setc hbc hcB hc9 1 _
              · obtain rfl : L = 84 := hL.symm
                go_wp2_with fail
                go_meet
                case rel => exact (TR.out.setb hbc hbB hb9 7 _).setc hbc hcB hc9 7 _
              · obtain rfl : L = 78 := hL.symm
                go_wp2_with fail
                go_meet
                case rel => exact (TR.out.setb hbc hbB hb9 2 _).setc hbc hcB hc9 2 _
              · obtain rfl : L = 68 := hL.symm
                go_wp2_with fail
                go_meet
                case rel => exact (TR.out.setb hbc hbB hb9 5 _).setc hbc hcB hc9 5 _
              · obtain rfl : L = 86 := hL.symm
                by_cases hq3 : q = 3
                · subst hq3
                  have h34 : isP 3 4 = true := by decide +kernel
                  obtain rfl : isb = true := his.symm.trans h34
                  clear h34
                  have ek : (((1 : Int) + ((3 : Nat) : Int)) == 4) = true := by decide
                  have HBV : Hid (badV 3 x = 2 + x) := if_pos rfl
                  have hx9 := HX9.out
                  have HOV : Hid (othV 3 = 0) := by unfold Hid othV; rw [his]; rfl
                  go_wp2_with fail
                  refine calls_same (HV.out _) ?_
                  go_wp2_with fail
                  go_meet
                  case rel => rw [HBV.out, HOV.out]; exact (((TR.out.setb hbc hbB hb9 6 (.int .i64 1000000000001)).setc hbc hcB hc9 6 (.int .i64 0)).setb hbc hbB hb9 6 (.int .i64 (2 + x)))
                · have ek : (((1 : Int) + (q : Int)) == 4) = false := by rw [beq_eq_false_iff_ne]; omega
                  have HBV : Hid (badV q x = 1000000000001) := if_neg hq3
                  cases isb
                  · have HOV : Hid (othV q = 3) := by unfold Hid othV; rw [his]; rfl
                    go_wp2_with fail
                    go_meet
                    case rel => rw [HBV.out, HOV.out]; exact (((TR.out.setb hbc hbB hb9 6 (.int .i64 1000000000001)).setc hbc hcB hc9 6 (.int .i64 0)).setc hbc hcB hc9 6 (.int .i64 3))
                  · have HOV : Hid (othV q = 0) := by unfold Hid othV; rw [his]; rfl
                    go_wp2_with fail
                    go_meet
                    case rel => rw [HBV.out, HOV.out]; exact ((TR.out.setb hbc hbB hb9 6 _).setc hbc hcB hc9 6 _)
              · obtain rfl : L = 76 := hL.symm
                go_wp2_with fail
                go_meet
                case rel => exact (TR.out.setb hbc hbB hb9 3 _).setc hbc hcB hc9 3 _
              · obtain rfl : L = 67 := hL.symm
                go_wp2_with fail
                go_meet
                case rel => exact (TR.out.setb hbc hbB hb9 4 _).setc hbc hcB hc9 4 _
            case rest =>
              obtain ⟨tb, tc, tB, tw⟩ := hcut
              clear f0 f1 Hb5 Hc5 HB5 HW5 hst hce HONE
              have hwq : ((L == 84) && isb) = true → wantP q p = 2 := fun h => by
                simp only [Bool.and_eq_true, beq_iff_eq] at h
                unfold wantP
                rw [if_pos]
                refine ⟨?_, by rw [his]; exact h.2⟩
                have h1 := h.1
                rw [← hL] at h1
                rcases (by omega : p = 0 ∨ p = 1 ∨ p = 2 ∨ p = 3 ∨ p = 4 ∨ p = 5 ∨ p = 6) with rfl | rfl | rfl | rfl | rfl | rfl | rfl <;> first | rfl | (exfalso; revert h1; decide)
              have hwq2 : ((L == 84) && isb) = false → wantP q p = 1 := fun h => by
                unfold wantP
                rw [if_neg]
                rintro ⟨rfl, h2⟩
                rw [his] at h2
                subst h2
                rw [← hL] at h
                revert h
                decide
              have HWQ := hidIn hwq
              have HWQ2 := hidIn hwq2
              clear hwq hwq2 his
              generalize wantP q p = wq at *
              generalize badP p ⟨gk, gi, gn, gl, gu, gd, gv, gt⟩ (badV q x) = be at *
              generalize otherP p ⟨gk, gi, gn, gl, gu, gd, gv, gt⟩ (othV q) = oe at *
              clear HTVE
              obtain ⟨bk, bi, bn, bl, bu, bd, bv, bt⟩ := be
              obtain ⟨ok, oi, on, ol, ou, od, ov, ot⟩ := oe
              unfold Ev.cs at tb tc
              simp only at tb tc HCB HCO HSO
              generalize bt.val = btv at *
              generalize ot.val = otv at *
              generalize wc = w6 at *
              have HW6 := hidIn tw
              have Hc6 := hidIn tc
              have HB6 := hidIn tB
              obtain ⟨y0, y1, y2, y3, y4, y5, y6, y7⟩ := cells8 tb
              clear tw tc tB tb hL
              cases h84 : (L == 84)
              · cases isb
                · obtain rfl : wq = 1 := HWQ2.out (by rw [h84]; rfl)
                  have hoc := HOC.out
                  go_wp2_with fail
                  refine (HCB.out w6 (tabW_below HT.out HW6.out)).mono ?_
                  rintro e w7 ⟨rfl, hb7⟩
                  have Hc7 := hidIn (blk_keeps Hc6.out hb7)
                  have HB7 := hidIn (blk_keeps HB6.out hb7)
                  have HW7 := hidIn (HW6.out.trans (hb7.mono HW6.out.size))
                  clear hb7 y0 y1 y2 y3 y4 y5 y6 y7
                  obtain ⟨y0, y1, y2, y3, y4, y5, y6, y7⟩ := cells8 Hc7.out
                  go_wp2_with fail
                  refine (HCO.out w7 (tabW_below HT.out HW7.out)).mono ?_
                  rintro e w8 ⟨rfl, hb8⟩
                  have Hc8 := hidIn (blk_keeps Hc7.out hb8)
                  have HB8 := hidIn (blk_keeps HB7.out hb8)
                  have HW8 := hidIn (HW7.out.trans (hb8.mono HW7.out.size))
                  clear hb8 y0 y1 y2 y3 y4 y5 y6 y7
                  obtain ⟨y0, y1, y2, y3, y4, y5, y6, y7⟩ := cells8 Hc8.out
                  obtain ⟨z0, z1, z2, z3, z4, z5, z6, z7⟩ := cells8 HB8.out
                  go_wp2_with fail
                  refine (HSO.out w8).mono ?_
                  rintro e w9 ⟨rfl, hb9'⟩
                  have HW9 := hidIn (HW8.out.trans (hb9'.mono HW8.out.size))
                  clear hb9' y0 y1 y2 y3 y4 y5 y6 y7 z0 z1 z2 z3 z4 z5 z6 z7
                  go_wp2_with fail
                  refine (wakes11_any w9 (tabW_below HT.out HW9.out)).mono ?_
                  rintro e w10 ⟨rfl, hb10⟩
                  have HEND := hidIn (HW9.out.trans (hb10.mono HW9.out.size))
                  clear hb10
                  go_wp2_with fail
                  go_ret
                  exact ⟨rfl, HEND.out⟩
                · obtain rfl : wq = 1 := HWQ2.out (by rw [h84]; rfl)
                  have hoc := HOC.out
                  go_wp2_with fail
                  refine (HCB.out w6 (tabW_below HT.out HW6.out)).mono ?_
                  rintro e w7 ⟨rfl, hb7⟩
                  have Hc7 := hidIn (blk_keeps Hc6.out hb7)
                  have HB7 := hidIn (blk_keeps HB6.out hb7)
                  have HW7 := hidIn (HW6.out.trans (hb7.mono HW6.out.size))
                  clear hb7 y0 y1 y2 y3 y4 y5 y6 y7
                  obtain ⟨y0, y1, y2, y3, y4, y5, y6, y7⟩ := cells8 Hc7.out
                  go_wp2_with fail
                  refine (HCO.out w7 (tabW_below HT.out HW7.out)).mono ?_
                  rintro e w8 ⟨rfl, hb8⟩
                  have Hc8 := hidIn (blk_keeps Hc7.out hb8)
                  have HB8 := hidIn (blk_keeps HB7.out hb8)
                  have HW8 := hidIn (HW7.out.trans (hb8.mono HW7.out.size))
                  clear hb8 y0 y1 y2 y3 y4 y5 y6 y7
                  obtain ⟨y0, y1, y2, y3, y4, y5, y6, y7⟩ := cells8 Hc8.out
                  obtain ⟨z0, z1, z2, z3, z4, z5, z6, z7⟩ := cells8 HB8.out
                  go_wp2_with fail
                  refine (HSO.out w8).mono ?_
                  rintro e w9 ⟨rfl, hb9'⟩
                  have HW9 := hidIn (HW8.out.trans (hb9'.mono HW8.out.size))
                  clear hb9' y0 y1 y2 y3 y4 y5 y6 y7 z0 z1 z2 z3 z4 z5 z6 z7
                  go_wp2_with fail
                  refine (wakes11_any w9 (tabW_below HT.out HW9.out)).mono ?_
                  rintro e w10 ⟨rfl, hb10⟩
                  have HEND := hidIn (HW9.out.trans (hb10.mono HW9.out.size))
                  clear hb10
                  go_wp2_with fail
                  go_ret
                  exact ⟨rfl, HEND.out⟩
              · cases isb
                · obtain rfl : wq = 1 := HWQ2.out (by rw [h84]; rfl)
                  have hoc := HOC.out
                  go_wp2_with fail
                  refine (HCB.out w6 (tabW_below HT.out HW6.out)).mono ?_
                  rintro e w7 ⟨rfl, hb7⟩
                  have Hc7 := hidIn (blk_keeps Hc6.out hb7)
                  have HB7 := hidIn (blk_keeps HB6.out hb7)
                  have HW7 := hidIn (HW6.out.trans (hb7.mono HW6.out.size))
                  clear hb7 y0 y1 y2 y3 y4 y5 y6 y7
                  obtain ⟨y0, y1, y2, y3, y4, y5, y6, y7⟩ := cells8 Hc7.out
                  go_wp2_with fail
                  refine (HCO.out w7 (tabW_below HT.out HW7.out)).mono ?_
                  rintro e w8 ⟨rfl, hb8⟩
                  have Hc8 := hidIn (blk_keeps Hc7.out hb8)
                  have HB8 := hidIn (blk_keeps HB7.out hb8)
                  have HW8 := hidIn (HW7.out.trans (hb8.mono HW7.out.size))
                  clear hb8 y0 y1 y2 y3 y4 y5 y6 y7
                  obtain ⟨y0, y1, y2, y3, y4, y5, y6, y7⟩ := cells8 Hc8.out
                  obtain ⟨z0, z1, z2, z3, z4, z5, z6, z7⟩ := cells8 HB8.out
                  go_wp2_with fail
                  refine (HSO.out w8).mono ?_
                  rintro e w9 ⟨rfl, hb9'⟩
                  have HW9 := hidIn (HW8.out.trans (hb9'.mono HW8.out.size))
                  clear hb9' y0 y1 y2 y3 y4 y5 y6 y7 z0 z1 z2 z3 z4 z5 z6 z7
                  go_wp2_with fail
                  refine (wakes11_any w9 (tabW_below HT.out HW9.out)).mono ?_
                  rintro e w10 ⟨rfl, hb10⟩
                  have HEND := hidIn (HW9.out.trans (hb10.mono HW9.out.size))
                  clear hb10
                  go_wp2_with fail
                  go_ret
                  exact ⟨rfl, HEND.out⟩
                · obtain rfl : wq = 2 := HWQ.out (by rw [h84]; rfl)
                  have hoc := HOC.out
                  go_wp2_with fail
                  refine (HCB.out w6 (tabW_below HT.out HW6.out)).mono ?_
                  rintro e w7 ⟨rfl, hb7⟩
                  have Hc7 := hidIn (blk_keeps Hc6.out hb7)
                  have HB7 := hidIn (blk_keeps HB6.out hb7)
                  have HW7 := hidIn (HW6.out.trans (hb7.mono HW6.out.size))
                  clear hb7 y0 y1 y2 y3 y4 y5 y6 y7
                  obtain ⟨y0, y1, y2, y3, y4, y5, y6, y7⟩ := cells8 Hc7.out
                  go_wp2_with fail
                  refine (HCO.out w7 (tabW_below HT.out HW7.out)).mono ?_
                  rintro e w8 ⟨rfl, hb8⟩
                  have Hc8 := hidIn (blk_keeps Hc7.out hb8)
                  have HB8 := hidIn (blk_keeps HB7.out hb8)
                  have HW8 := hidIn (HW7.out.trans (hb8.mono HW7.out.size))
                  clear hb8 y0 y1 y2 y3 y4 y5 y6 y7
                  obtain ⟨y0, y1, y2, y3, y4, y5, y6, y7⟩ := cells8 Hc8.out
                  obtain ⟨z0, z1, z2, z3, z4, z5, z6, z7⟩ := cells8 HB8.out
                  go_wp2_with fail
                  refine (HSO.out w8).mono ?_
                  rintro e w9 ⟨rfl, hb9'⟩
                  have HW9 := hidIn (HW8.out.trans (hb9'.mono HW8.out.size))
                  clear hb9' y0 y1 y2 y3 y4 y5 y6 y7 z0 z1 z2 z3 z4 z5 z6 z7
                  go_wp2_with fail
                  refine (wakes11_any w9 (tabW_below HT.out HW9.out)).mono ?_
                  rintro e w10 ⟨rfl, hb10⟩
                  have HEND := hidIn (HW9.out.trans (hb10.mono HW9.out.size))
                  clear hb10
                  go_wp2_with fail
                  go_ret
                  exact ⟨rfl, HEND.out⟩

end Go.Proofs.YtiaaibblihebjaaDoor.Ev
