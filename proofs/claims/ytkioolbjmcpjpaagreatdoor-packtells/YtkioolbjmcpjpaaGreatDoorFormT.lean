/- The document's own answer: whether a tree is of its form. -/
import Derived.Test.YtkioolbjmcpjpaaGreatDoorFormA
namespace Go.Proofs.YtkioolbjmcpjpaaGreatDoor
open Go.RowKit
set_option linter.unusedVariables false

set_option maxHeartbeats 8000000 in
set_option maxRecDepth 100000 in
theorem form_any (t : T) : t.Sized → ∀ (nb : Bool) (w : World) (v : Value), TIn w 0 t v → Calls Tryz.prog 84 #[v, .bool nb] w fun e w' => e = .returned (.bool (formT t nb)) ∧ Below w.heap.size w w' := by
  induction t using T.ind with
  | _ kind s n k ih =>
  intro hsz nb w v hv
  have hkl := len_cap hv
  obtain ⟨a, cap, rfl, hc1, hc2, hK⟩ := hv
  simp only [T.kind, T.s, T.n, T.k] at hc1 hK hkl ⊢
  unfold T.Sized at hsz
  have HIH : Hid (∀ t ∈ k, ∀ (nb : Bool) (w : World) (v : Value), TIn w 0 t v → Calls Tryz.prog 84 #[v, .bool nb] w fun e w' => e = .returned (.bool (formT t nb)) ∧ Below w.heap.size w w') := fun t ht => ih t ht (sizedL_mem hsz.2 t ht)
  have HS := hidIn hsz.1
  have HF0 : Hid (formT (.mk kind s n k) nb = (headOk kind s n && ((decide (11 ≤ kind) == nb) && formTL kind nb 0 k))) := by unfold Hid; rw [formT]
  have HK := hidIn hK
  clear ih hsz hK
  go_enter Tryz.func84, Tryz.ntmps84
  go_upto_block 0 with fail
  obtain ⟨W, hW⟩ : ∃ W, W = w.alloc (.cells #[.int .i64 kind, .string s, .int .i64 n, .slice a k.length cap] 33) := ⟨_, rfl⟩
  have HB : Hid (Below w.heap.size w W) := by rw [hW]; exact below_alloc (Below.refl _ _) _
  have HBK : Hid (W.heap[w.heap.size]? = some (.cells #[.int .i64 kind, .string s, .int .i64 n, .slice a k.length cap] 33 (0, 0))) := by rw [hW]; exact heap_alloc_new _ _
  rw [← hW]
  clear hW
  go_cut [1] (fun s1 wx => s1 = .bool nb ∧ headOk kind s n = true ∧ Below W.heap.size W wx)
  case first =>
    have hcl1 := (cell_of_row _ _ 1 _ _ _ HBK.out)
    have hcl2 := (cell_of_row _ _ 2 _ _ _ HBK.out)
    rw [show (#[.int .i64 kind, .string s, .int .i64 n, .slice a k.length cap] : Array Value)[1]? = some (.string s) from rfl] at hcl1
    rw [show (#[.int .i64 kind, .string s, .int .i64 n, .slice a k.length cap] : Array Value)[2]? = some (.int .i64 n) from rfl] at hcl2
    clear HIH HK
    by_cases hp : kind = 1 ∨ kind = 3 ∨ kind = 4 ∨ kind = 6 ∨ kind = 8 ∨ kind = 13 ∨ kind = 14 ∨ kind = 15 ∨ kind = 16
    · have HH : Hid (headOk kind s n = true) := by
        unfold Hid headOk
        rw [if_neg (by omega), if_neg (by omega), if_neg (by omega)]
        exact decide_eq_true hp
      rcases hp with rfl | rfl | rfl | rfl | rfl | rfl | rfl | rfl | rfl
      all_goals
        go_wp2_with fail
        go_meet
        case rel => exact ⟨rfl, HH.out, Below.refl _ _⟩
    · by_cases hnm : kind = 2 ∨ kind = 5 ∨ kind = 12
      · have HH : Hid (headOk kind s n = nameGo 0 (runesOf s)) := by unfold Hid headOk; rw [if_pos hnm]
        clear hp
        rcases hnm with rfl | rfl | rfl
        all_goals
          go_wp2_with fail
          refine (refName_any s W HS.out).mono ?_
          rintro e w1 ⟨rfl, hb1⟩
          have HB1 := hidIn hb1
          clear hb1
          cases hv : nameGo 0 (runesOf s)
          · go_wp2_with fail
            go_ret
            exact ⟨by rw [HF0.out, HH.out, hv]; rfl, HB.out.trans (HB1.out.mono HB.out.size)⟩
          · go_wp2_with fail
            go_meet
            case rel => exact ⟨rfl, by rw [HH.out]; exact hv, HB1.out⟩
      · by_cases h7 : kind = 7
        · subst h7
          have HH : Hid (headOk 7 s n = dayB n) := rfl
          clear hp hnm
          by_cases hn0 : n < 0
          · have hd0 : decide (n < 0) = true := decide_eq_true hn0
            go_wp2_with fail
            go_ret
            exact ⟨by rw [HF0.out, HH.out]; unfold dayB; rw [decide_eq_false (by omega : ¬ 0 ≤ n)]; rfl, HB.out⟩
          · have hd0 : decide (n < 0) = false := decide_eq_false hn0
            by_cases hn1 : 10000 < n
            · go_wp2_with fail
              go_ret
              exact ⟨by rw [HF0.out, HH.out]; unfold dayB; rw [decide_eq_false (by omega : ¬ n ≤ 10000)]; simp, HB.out⟩
            · go_wp2_with fail
              go_meet
              case rel => exact ⟨rfl, by rw [HH.out]; unfold dayB; rw [decide_eq_true (by omega : 0 ≤ n), decide_eq_true (by omega : n ≤ 10000)]; rfl, Below.refl _ _⟩
        · by_cases h11 : kind = 11
          · subst h11
            have HH : Hid (headOk 11 s n = vB n) := rfl
            clear hp hnm h7
            go_wp2_with fail
            refine calls_same (refValid_any n _) ?_
            cases hv : vB n
            · go_wp2_with fail
              go_ret
              exact ⟨by rw [HF0.out, HH.out, hv]; rfl, HB.out⟩
            · go_wp2_with fail
              go_meet
              case rel => exact ⟨rfl, by rw [HH.out]; exact hv, Below.refl _ _⟩
          · have HH : Hid (headOk kind s n = false) := by
              unfold Hid headOk
              rw [if_neg hnm, if_neg h7, if_neg h11]
              exact decide_eq_false hp
            have k1 : (kind == 1) = false := by rw [beq_eq_false_iff_ne]; omega
            have k2 : (kind == 2) = false := by rw [beq_eq_false_iff_ne]; omega
            have k3 : (kind == 3) = false := by rw [beq_eq_false_iff_ne]; omega
            have k4 : (kind == 4) = false := by rw [beq_eq_false_iff_ne]; omega
            have k5 : (kind == 5) = false := by rw [beq_eq_false_iff_ne]; omega
            have k6 : (kind == 6) = false := by rw [beq_eq_false_iff_ne]; omega
            have k7 : (kind == 7) = false := by rw [beq_eq_false_iff_ne]; omega
            have k8 : (kind == 8) = false := by rw [beq_eq_false_iff_ne]; omega
            have k11 : (kind == 11) = false := by rw [beq_eq_false_iff_ne]; omega
            have k12 : (kind == 12) = false := by rw [beq_eq_false_iff_ne]; omega
            have k13 : (kind == 13) = false := by rw [beq_eq_false_iff_ne]; omega
            have k14 : (kind == 14) = false := by rw [beq_eq_false_iff_ne]; omega
            have k15 : (kind == 15) = false := by rw [beq_eq_false_iff_ne]; omega
            have k16 : (kind == 16) = false := by rw [beq_eq_false_iff_ne]; omega
            clear hp hnm h7 h11
            go_wp2_with fail
            go_ret
            exact ⟨by rw [HF0.out, HH.out]; rfl, HB.out⟩
  case rest =>
    obtain ⟨rfl, hh, hbx⟩ := hcut
    obtain ⟨W2, hW2⟩ : ∃ y, y = wc := ⟨_, rfl⟩
    subst hW2
    have HBW := hidIn (HB.out.trans (hbx.mono HB.out.size))
    have hbk := (hbx.block _ (Array.getElem?_eq_some_iff.1 HBK.out).1).trans HBK.out
    have HG0 : Hid (W2.cell? ⟨w.heap.size, 0, none⟩ = some (.int .i64 kind)) := (cell_of_row _ _ _ _ _ _ hbk).trans rfl
    have HG3 : Hid (W2.cell? ⟨w.heap.size, 3, none⟩ = some (.slice a k.length cap)) := (cell_of_row _ _ _ _ _ _ hbk).trans rfl
    have g0 : W2.cell? ⟨w.heap.size, 0, none⟩ = some (.int .i64 kind) := HG0.out
    have g3 : W2.cell? ⟨w.heap.size, 3, none⟩ = some (.slice a k.length cap) := HG3.out
    have HKW : Hid (KAt W2 0 k a 0) := (HK.out.below HB.out).below hbx
    have HFT0 : Hid (formT (.mk kind s n k) nb = ((decide (11 ≤ kind) == nb) && formTL kind nb 0 k)) := by unfold Hid; rw [HF0.out, hh]; rfl
    clear HF0 hh hbk hbx HBK HB HK HS
    by_cases h11 : 11 ≤ kind
    · have hd11 : decide (11 ≤ kind) = true := decide_eq_true h11
      cases nb
      · go_wp2_with fail
        go_ret
        exact ⟨by rw [HFT0.out, hd11]; rfl, HBW.out⟩
      · have HFT : Hid (formT (.mk kind s n k) true = formTL kind true 0 k) := by unfold Hid; rw [HFT0.out, hd11]; simp
        clear HFT0
        go_wp2_with fail
        clear g0 g3
        go_loopw [50] (fun s50 wr => ∃ i : Nat, i ≤ k.length ∧ s50 = .int .i64 i ∧ Hid (formTL kind true 0 (k.take i) = true) ∧ Below W2.heap.size W2 wr) (fun s50 _ => k.length - (intOf s50).toNat)
        case atStart => exact ⟨0, by omega, rfl, by unfold Hid; simp [formTL], Below.refl _ _⟩
        case round =>
          obtain ⟨i, hi, rfl, HA, hbr⟩ := hrel
          by_cases hlt : i < k.length
          · have hlt' : (i : Int) < (k.length : Int) := by omega
            obtain ⟨t, hti⟩ : ∃ t, k[i]? = some t := ⟨_, List.getElem?_eq_getElem hlt⟩
            obtain ⟨b, o, ka, ca, rfl, c0, c1, c2, c3, ht⟩ := (HKW.out.below hbr).cells hti
            have g3 : wr.cell? ⟨w.heap.size, 3, none⟩ = some (.slice (some ⟨b, o, none⟩) k.length cap) := (hbr.cell (p := ⟨w.heap.size, 3, none⟩) (World.block_lt_of_cell? _ _ HG3.out)).trans HG3.out
            have g0 : wr.cell? ⟨w.heap.size, 0, none⟩ = some (.int .i64 kind) := (hbr.cell (p := ⟨w.heap.size, 0, none⟩) (World.block_lt_of_cell? _ _ HG0.out)).trans HG0.out
            have HM : Hid (t ∈ k) := List.mem_of_getElem? hti
            have HT := hidIn (formTL_take kind true k 0 i t hti)
            have HNO := hidIn (formTL_no kind true k 0 i t hti)
            have HCL : Hid (∀ w', Below wr.heap.size wr w' → Calls Tryz.prog 84 #[.agg #[.int .i64 t.kind, .string t.s, .int .i64 t.n, .slice ka t.k.length ca], .bool (partB kind true (0 + i))] w' fun e w'' => e = .returned (.bool (formT t (partB kind true (0 + i)))) ∧ Below wr.heap.size wr w'') := fun w' hw' =>
              (HIH.out t HM.out _ w' _ (ht.below hw')).mono (fun e w'' ⟨he, hb⟩ => ⟨he, hw'.trans (hb.mono hw'.size)⟩)
            have HLT := World.block_lt_of_cell? _ _ c0
            have HLW := World.block_lt_of_cell? _ _ g3
            have HF : Hid (∀ w', Below wr.heap.size wr w' → w'.cell? ⟨w.heap.size, 3, none⟩ = some (.slice (some ⟨b, o, none⟩) k.length cap) ∧ w'.cell? ⟨w.heap.size, 0, none⟩ = some (.int .i64 kind) ∧ w'.cell? ⟨b, o + i * 4, none⟩ = some (.int .i64 t.kind) ∧ w'.cell? ⟨b, o + i * 4 + 1, none⟩ = some (.string t.s) ∧ w'.cell? ⟨b, o + i * 4 + 2, none⟩ = some (.int .i64 t.n) ∧ w'.cell? ⟨b, o + i * 4 + 3, none⟩ = some (.slice ka t.k.length ca)) := fun w' h =>
              ⟨(h.cell (p := ⟨w.heap.size, 3, none⟩) HLW).trans g3, (h.cell (p := ⟨w.heap.size, 0, none⟩) HLW).trans g0, (h.cell (p := ⟨b, o + i * 4, none⟩) HLT).trans c0, (h.cell (p := ⟨b, o + i * 4 + 1, none⟩) HLT).trans c1, (h.cell (p := ⟨b, o + i * 4 + 2, none⟩) HLT).trans c2, (h.cell (p := ⟨b, o + i * 4 + 3, none⟩) HLT).trans c3⟩
            clear hti ht c0 c1 c2 c3 g3 g0 HLT HLW
            have hpb : partB kind true (0 + i) = true := by simp [partB]
            rw [hpb] at HT HNO HCL
            generalize formT t true = X at *
            clear hpb
            go_wp2_with fail
            refine wp_region_class (fun w' => Below wr.heap.size wr w') (by kernel_rfl) (by kernel_rfl) (below_drew (Below.refl _ _)) ?_
            generalize hops : (#[_, _, _, _, _, _, _, _, _, _, _, _, _, _, _, _, _, _, _, _, _, _] : Array Oper) = ops
            have HD6 : Hid ((ops[6]?).bind (·.dst) = some 59) := by rw [← hops]; exact rfl
            have HD9 : Hid ((ops[9]?).bind (·.dst) = some 62) := by rw [← hops]; exact rfl
            have HD13 : Hid ((ops[13]?).bind (·.dst) = some 66) := by rw [← hops]; exact rfl
            clear hops
            refine quiet_runs (.pointer (some ⟨w.heap.size, 3, none⟩)) rfl (fun w' hw' => ?_) ?_
            · go_simp
            simp only [Act.put, List.setIfInBounds_toArray, List.set_cons_zero, List.set_cons_succ]
            refine quiet_runs (.slice (some ⟨b, o, none⟩) k.length cap) rfl (fun w' hw' => ?_) ?_
            · obtain ⟨f0, f1, f2, f3, f4, f5⟩ := HF.out w' hw'
              go_simp
            simp only [Act.put, List.setIfInBounds_toArray, List.set_cons_zero, List.set_cons_succ]
            refine quiet_runs (.int .i64 i) rfl (fun w' hw' => ?_) ?_
            · go_simp
            simp only [Act.put, List.setIfInBounds_toArray, List.set_cons_zero, List.set_cons_succ]
            refine quiet_runs (.pointer (some ⟨b, o + i * 4, none⟩)) rfl (fun w' hw' => ?_) ?_
            · go_simp
            simp only [Act.put, List.setIfInBounds_toArray, List.set_cons_zero, List.set_cons_succ]
            refine quiet_runs (.agg #[.int .i64 t.kind, .string t.s, .int .i64 t.n, .slice ka t.k.length ca]) rfl (fun w' hw' => ?_) ?_
            · obtain ⟨f0, f1, f2, f3, f4, f5⟩ := HF.out w' hw'
              go_simp
            simp only [Act.put, List.setIfInBounds_toArray, List.set_cons_zero, List.set_cons_succ]
            refine quiet_runs (.bool true) rfl (fun w' hw' => ?_) ?_
            · go_simp
            simp only [Act.put, List.setIfInBounds_toArray, List.set_cons_zero, List.set_cons_succ]
            refine quiet_runs (.bool true) rfl (fun w' hw' => ?_) ?_
            · go_simp
            simp only [Act.put, List.setIfInBounds_toArray, List.set_cons_zero, List.set_cons_succ]
            refine quiet_skips 6 59 false true ?hg ?hd ?hv ?hb ?_
            case hg => rfl
            case hd => exact HD6.out
            case hv => rfl
            case hb => decide
            simp only [Act.put, List.setIfInBounds_toArray, List.set_cons_zero, List.set_cons_succ]
            refine quiet_skips 6 59 false true ?hg ?hd ?hv ?hb ?_
            case hg => rfl
            case hd => exact HD6.out
            case hv => rfl
            case hb => decide
            simp only [Act.put, List.setIfInBounds_toArray, List.set_cons_zero, List.set_cons_succ]
            refine quiet_skips 6 59 false true ?hg ?hd ?hv ?hb ?_
            case hg => rfl
            case hd => exact HD6.out
            case hv => rfl
            case hb => decide
            simp only [Act.put, List.setIfInBounds_toArray, List.set_cons_zero, List.set_cons_succ]
            refine quiet_undef 9 62 true ?hg ?hd ?hv ?_
            case hg => rfl
            case hd => exact HD9.out
            case hv => rfl
            simp only [Act.put, List.setIfInBounds_toArray, List.set_cons_zero, List.set_cons_succ]
            refine quiet_undef 9 62 true ?hg ?hd ?hv ?_
            case hg => rfl
            case hd => exact HD9.out
            case hv => rfl
            simp only [Act.put, List.setIfInBounds_toArray, List.set_cons_zero, List.set_cons_succ]
            refine quiet_undef 9 62 true ?hg ?hd ?hv ?_
            case hg => rfl
            case hd => exact HD9.out
            case hv => rfl
            simp only [Act.put, List.setIfInBounds_toArray, List.set_cons_zero, List.set_cons_succ]
            refine quiet_undef 9 62 true ?hg ?hd ?hv ?_
            case hg => rfl
            case hd => exact HD9.out
            case hv => rfl
            simp only [Act.put, List.setIfInBounds_toArray, List.set_cons_zero, List.set_cons_succ]
            refine quiet_undef 13 66 false ?hg ?hd ?hv ?_
            case hg => rfl
            case hd => exact HD13.out
            case hv => rfl
            simp only [Act.put, List.setIfInBounds_toArray, List.set_cons_zero, List.set_cons_succ]
            refine quiet_undef 13 66 false ?hg ?hd ?hv ?_
            case hg => rfl
            case hd => exact HD13.out
            case hv => rfl
            simp only [Act.put, List.setIfInBounds_toArray, List.set_cons_zero, List.set_cons_succ]
            refine quiet_undef 13 66 false ?hg ?hd ?hv ?_
            case hg => rfl
            case hd => exact HD13.out
            case hv => rfl
            simp only [Act.put, List.setIfInBounds_toArray, List.set_cons_zero, List.set_cons_succ]
            refine quiet_undef 9 62 true ?hg ?hd ?hv ?_
            case hg => rfl
            case hd => exact HD9.out
            case hv => rfl
            simp only [Act.put, List.setIfInBounds_toArray, List.set_cons_zero, List.set_cons_succ]
            refine quiet_skips 6 59 false true ?hg ?hd ?hv ?hb ?_
            case hg => rfl
            case hd => exact HD6.out
            case hv => rfl
            case hb => decide
            simp only [Act.put, List.setIfInBounds_toArray, List.set_cons_zero, List.set_cons_succ]
            refine quiet_runs (.bool true) rfl (fun w' hw' => ?_) ?_
            · go_simp
            simp only [Act.put, List.setIfInBounds_toArray, List.set_cons_zero, List.set_cons_succ]
            refine quiet_calls 84 #[.agg #[.int .i64 t.kind, .string t.s, .int .i64 t.n, .slice ka t.k.length ca], .bool true] (.bool X) rfl (fun w' hw' => ?_) (fun w' hw' => HCL.out w' hw') ?_
            · go_simp
            simp only [Act.put, List.setIfInBounds_toArray, List.set_cons_zero, List.set_cons_succ]
            refine quiet_runs (.bool (!X)) rfl (fun w' hw' => ?_) ?_
            · go_simp
            simp only [Act.put, List.setIfInBounds_toArray, List.set_cons_zero, List.set_cons_succ]
            refine wpQuiet_nil ?_
            intro w' hw'
            have HB4 := hidIn (hbr.trans (hw'.mono hbr.size))
            clear hw' hbr HCL HF
            cases X
            · go_wp2_with fail
              go_ret
              exact ⟨by rw [HFT.out, HNO.out (by first | rfl | trivial)]; simp, HBW.out.trans (HB4.out.mono HBW.out.size)⟩
            · go_wp2_with fail
              go_roundw
              case rel => exact ⟨i + 1, by omega, by go_num, by unfold Hid; rw [HT.out, HA.out]; rfl, HB4.out⟩
              case measure => simp [intOf]; omega
          · have hle : i = k.length := by omega
            subst hle
            have HA2 : Hid (formTL kind true 0 k = true) := by have := HA.out; rwa [List.take_length] at this
            clear HA
            go_wp2_with fail
            go_ret
            exact ⟨by rw [HFT.out, HA2.out]; rfl, HBW.out.trans (hbr.mono HBW.out.size)⟩
    · have hd11 : decide (11 ≤ kind) = false := decide_eq_false h11
      cases nb
      · have HFT : Hid (formT (.mk kind s n k) false = formTL kind false 0 k) := by unfold Hid; rw [HFT0.out, hd11]; simp
        clear HFT0
        go_wp2_with fail
        clear g0 g3
        go_loopw [50] (fun s50 wr => ∃ i : Nat, i ≤ k.length ∧ s50 = .int .i64 i ∧ Hid (formTL kind false 0 (k.take i) = true) ∧ Below W2.heap.size W2 wr) (fun s50 _ => k.length - (intOf s50).toNat)
        case atStart => exact ⟨0, by omega, rfl, by unfold Hid; simp [formTL], Below.refl _ _⟩
        case round =>
          obtain ⟨i, hi, rfl, HA, hbr⟩ := hrel
          by_cases hlt : i < k.length
          · have hlt' : (i : Int) < (k.length : Int) := by omega
            obtain ⟨t, hti⟩ : ∃ t, k[i]? = some t := ⟨_, List.getElem?_eq_getElem hlt⟩
            obtain ⟨b, o, ka, ca, rfl, c0, c1, c2, c3, ht⟩ := (HKW.out.below hbr).cells hti
            have g3 : wr.cell? ⟨w.heap.size, 3, none⟩ = some (.slice (some ⟨b, o, none⟩) k.length cap) := (hbr.cell (p := ⟨w.heap.size, 3, none⟩) (World.block_lt_of_cell? _ _ HG3.out)).trans HG3.out
            have g0 : wr.cell? ⟨w.heap.size, 0, none⟩ = some (.int .i64 kind) := (hbr.cell (p := ⟨w.heap.size, 0, none⟩) (World.block_lt_of_cell? _ _ HG0.out)).trans HG0.out
            have HM : Hid (t ∈ k) := List.mem_of_getElem? hti
            have HT := hidIn (formTL_take kind false k 0 i t hti)
            have HNO := hidIn (formTL_no kind false k 0 i t hti)
            have HCL : Hid (∀ w', Below wr.heap.size wr w' → Calls Tryz.prog 84 #[.agg #[.int .i64 t.kind, .string t.s, .int .i64 t.n, .slice ka t.k.length ca], .bool (partB kind false (0 + i))] w' fun e w'' => e = .returned (.bool (formT t (partB kind false (0 + i)))) ∧ Below wr.heap.size wr w'') := fun w' hw' =>
              (HIH.out t HM.out _ w' _ (ht.below hw')).mono (fun e w'' ⟨he, hb⟩ => ⟨he, hw'.trans (hb.mono hw'.size)⟩)
            have HLT := World.block_lt_of_cell? _ _ c0
            have HLW := World.block_lt_of_cell? _ _ g3
            have HF : Hid (∀ w', Below wr.heap.size wr w' → w'.cell? ⟨w.heap.size, 3, none⟩ = some (.slice (some ⟨b, o, none⟩) k.length cap) ∧ w'.cell? ⟨w.heap.size, 0, none⟩ = some (.int .i64 kind) ∧ w'.cell? ⟨b, o + i * 4, none⟩ = some (.int .i64 t.kind) ∧ w'.cell? ⟨b, o + i * 4 + 1, none⟩ = some (.string t.s) ∧ w'.cell? ⟨b, o + i * 4 + 2, none⟩ = some (.int .i64 t.n) ∧ w'.cell? ⟨b, o + i * 4 + 3, none⟩ = some (.slice ka t.k.length ca)) := fun w' h =>
              ⟨(h.cell (p := ⟨w.heap.size, 3, none⟩) HLW).trans g3, (h.cell (p := ⟨w.heap.size, 0, none⟩) HLW).trans g0, (h.cell (p := ⟨b, o + i * 4, none⟩) HLT).trans c0, (h.cell (p := ⟨b, o + i * 4 + 1, none⟩) HLT).trans c1, (h.cell (p := ⟨b, o + i * 4 + 2, none⟩) HLT).trans c2, (h.cell (p := ⟨b, o + i * 4 + 3, none⟩) HLT).trans c3⟩
            clear hti ht c0 c1 c2 c3 g3 g0 HLT HLW
            by_cases hi0 : i = 0
            · have hie : ((i : Int) == 0) = true := by simp [hi0]
              by_cases hk6 : kind = 6
              · have hke : (kind == 6) = true := by simp [hk6]
                have hpb : partB kind false (0 + i) = true := by simp [partB, hi0, hk6]
                rw [hpb] at HT HNO HCL
                generalize formT t true = X at *
                clear hpb hi0 hk6
                go_wp2_with fail
                refine wp_region_class (fun w' => Below wr.heap.size wr w') (by kernel_rfl) (by kernel_rfl) (below_drew (Below.refl _ _)) ?_
                generalize hops : (#[_, _, _, _, _, _, _, _, _, _, _, _, _, _, _, _, _, _, _, _, _, _] : Array Oper) = ops
                have HD6 : Hid ((ops[6]?).bind (·.dst) = some 59) := by rw [← hops]; exact rfl
                have HD9 : Hid ((ops[9]?).bind (·.dst) = some 62) := by rw [← hops]; exact rfl
                have HD13 : Hid ((ops[13]?).bind (·.dst) = some 66) := by rw [← hops]; exact rfl
                clear hops
                refine quiet_runs (.pointer (some ⟨w.heap.size, 3, none⟩)) rfl (fun w' hw' => ?_) ?_
                · go_simp
                simp only [Act.put, List.setIfInBounds_toArray, List.set_cons_zero, List.set_cons_succ]
                refine quiet_runs (.slice (some ⟨b, o, none⟩) k.length cap) rfl (fun w' hw' => ?_) ?_
                · obtain ⟨f0, f1, f2, f3, f4, f5⟩ := HF.out w' hw'
                  go_simp
                simp only [Act.put, List.setIfInBounds_toArray, List.set_cons_zero, List.set_cons_succ]
                refine quiet_runs (.int .i64 i) rfl (fun w' hw' => ?_) ?_
                · go_simp
                simp only [Act.put, List.setIfInBounds_toArray, List.set_cons_zero, List.set_cons_succ]
                refine quiet_runs (.pointer (some ⟨b, o + i * 4, none⟩)) rfl (fun w' hw' => ?_) ?_
                · go_simp
                simp only [Act.put, List.setIfInBounds_toArray, List.set_cons_zero, List.set_cons_succ]
                refine quiet_runs (.agg #[.int .i64 t.kind, .string t.s, .int .i64 t.n, .slice ka t.k.length ca]) rfl (fun w' hw' => ?_) ?_
                · obtain ⟨f0, f1, f2, f3, f4, f5⟩ := HF.out w' hw'
                  go_simp
                simp only [Act.put, List.setIfInBounds_toArray, List.set_cons_zero, List.set_cons_succ]
                refine quiet_runs (.bool false) rfl (fun w' hw' => ?_) ?_
                · go_simp
                simp only [Act.put, List.setIfInBounds_toArray, List.set_cons_zero, List.set_cons_succ]
                refine quiet_runs (.bool false) rfl (fun w' hw' => ?_) ?_
                · go_simp
                simp only [Act.put, List.setIfInBounds_toArray, List.set_cons_zero, List.set_cons_succ]
                refine quiet_met 6 59 false (.int .i64 i) ?hg ?hd ?hv (fun w' hw' => ?hr) ?_
                case hg => rfl
                case hd => exact HD6.out
                case hv => rfl
                case hr => go_simp
                simp only [Act.put, List.setIfInBounds_toArray, List.set_cons_zero, List.set_cons_succ]
                refine quiet_met 6 59 false (.bool true) ?hg ?hd ?hv (fun w' hw' => ?hr) ?_
                case hg => rfl
                case hd => exact HD6.out
                case hv => rfl
                case hr => go_simp
                simp only [Act.put, List.setIfInBounds_toArray, List.set_cons_zero, List.set_cons_succ]
                refine quiet_met 6 59 false (.bool true) ?hg ?hd ?hv (fun w' hw' => ?hr) ?_
                case hg => rfl
                case hd => exact HD6.out
                case hv => rfl
                case hr => go_simp
                simp only [Act.put, List.setIfInBounds_toArray, List.set_cons_zero, List.set_cons_succ]
                refine quiet_met 9 62 true (.pointer (some ⟨w.heap.size, 0, none⟩)) ?hg ?hd ?hv (fun w' hw' => ?hr) ?_
                case hg => rfl
                case hd => exact HD9.out
                case hv => rfl
                case hr => go_simp
                simp only [Act.put, List.setIfInBounds_toArray, List.set_cons_zero, List.set_cons_succ]
                refine quiet_met 9 62 true (.int .i64 kind) ?hg ?hd ?hv (fun w' hw' => ?hr) ?_
                case hg => rfl
                case hd => exact HD9.out
                case hv => rfl
                case hr => obtain ⟨f0, f1, f2, f3, f4, f5⟩ := HF.out w' hw'; go_simp
                simp only [Act.put, List.setIfInBounds_toArray, List.set_cons_zero, List.set_cons_succ]
                refine quiet_met 9 62 true (.bool true) ?hg ?hd ?hv (fun w' hw' => ?hr) ?_
                case hg => rfl
                case hd => exact HD9.out
                case hv => rfl
                case hr => go_simp
                simp only [Act.put, List.setIfInBounds_toArray, List.set_cons_zero, List.set_cons_succ]
                refine quiet_met 9 62 true (.bool true) ?hg ?hd ?hv (fun w' hw' => ?hr) ?_
                case hg => rfl
                case hd => exact HD9.out
                case hv => rfl
                case hr => go_simp
                simp only [Act.put, List.setIfInBounds_toArray, List.set_cons_zero, List.set_cons_succ]
                refine quiet_skips 13 66 false true ?hg ?hd ?hv ?hb ?_
                case hg => rfl
                case hd => exact HD13.out
                case hv => rfl
                case hb => decide
                simp only [Act.put, List.setIfInBounds_toArray, List.set_cons_zero, List.set_cons_succ]
                refine quiet_skips 13 66 false true ?hg ?hd ?hv ?hb ?_
                case hg => rfl
                case hd => exact HD13.out
                case hv => rfl
                case hb => decide
                simp only [Act.put, List.setIfInBounds_toArray, List.set_cons_zero, List.set_cons_succ]
                refine quiet_skips 13 66 false true ?hg ?hd ?hv ?hb ?_
                case hg => rfl
                case hd => exact HD13.out
                case hv => rfl
                case hb => decide
                simp only [Act.put, List.setIfInBounds_toArray, List.set_cons_zero, List.set_cons_succ]
                refine quiet_met 9 62 true (.bool true) ?hg ?hd ?hv (fun w' hw' => ?hr) ?_
                case hg => rfl
                case hd => exact HD9.out
                case hv => rfl
                case hr => go_simp
                simp only [Act.put, List.setIfInBounds_toArray, List.set_cons_zero, List.set_cons_succ]
                refine quiet_met 6 59 false (.bool true) ?hg ?hd ?hv (fun w' hw' => ?hr) ?_
                case hg => rfl
                case hd => exact HD6.out
                case hv => rfl
                case hr => go_simp
                simp only [Act.put, List.setIfInBounds_toArray, List.set_cons_zero, List.set_cons_succ]
                refine quiet_runs (.bool true) rfl (fun w' hw' => ?_) ?_
                · go_simp
                simp only [Act.put, List.setIfInBounds_toArray, List.set_cons_zero, List.set_cons_succ]
                refine quiet_calls 84 #[.agg #[.int .i64 t.kind, .string t.s, .int .i64 t.n, .slice ka t.k.length ca], .bool true] (.bool X) rfl (fun w' hw' => ?_) (fun w' hw' => HCL.out w' hw') ?_
                · go_simp
                simp only [Act.put, List.setIfInBounds_toArray, List.set_cons_zero, List.set_cons_succ]
                refine quiet_runs (.bool (!X)) rfl (fun w' hw' => ?_) ?_
                · go_simp
                simp only [Act.put, List.setIfInBounds_toArray, List.set_cons_zero, List.set_cons_succ]
                refine wpQuiet_nil ?_
                intro w' hw'
                have HB4 := hidIn (hbr.trans (hw'.mono hbr.size))
                clear hw' hbr HCL HF
                cases X
                · go_wp2_with fail
                  go_ret
                  exact ⟨by rw [HFT.out, HNO.out (by first | rfl | trivial)]; simp, HBW.out.trans (HB4.out.mono HBW.out.size)⟩
                · go_wp2_with fail
                  go_roundw
                  case rel => exact ⟨i + 1, by omega, by go_num, by unfold Hid; rw [HT.out, HA.out]; rfl, HB4.out⟩
                  case measure => simp [intOf]; omega
              · have hke : (kind == 6) = false := by simp [hk6]
                by_cases hk8 : kind = 8
                · have hkf : (kind == 8) = true := by simp [hk8]
                  have hpb : partB kind false (0 + i) = true := by simp [partB, hi0, hk8]
                  rw [hpb] at HT HNO HCL
                  generalize formT t true = X at *
                  clear hpb hi0 hk6 hk8
                  go_wp2_with fail
                  refine wp_region_class (fun w' => Below wr.heap.size wr w') (by kernel_rfl) (by kernel_rfl) (below_drew (Below.refl _ _)) ?_
                  generalize hops : (#[_, _, _, _, _, _, _, _, _, _, _, _, _, _, _, _, _, _, _, _, _, _] : Array Oper) = ops
                  have HD6 : Hid ((ops[6]?).bind (·.dst) = some 59) := by rw [← hops]; exact rfl
                  have HD9 : Hid ((ops[9]?).bind (·.dst) = some 62) := by rw [← hops]; exact rfl
                  have HD13 : Hid ((ops[13]?).bind (·.dst) = some 66) := by rw [← hops]; exact rfl
                  clear hops
                  refine quiet_runs (.pointer (some ⟨w.heap.size, 3, none⟩)) rfl (fun w' hw' => ?_) ?_
                  · go_simp
                  simp only [Act.put, List.setIfInBounds_toArray, List.set_cons_zero, List.set_cons_succ]
                  refine quiet_runs (.slice (some ⟨b, o, none⟩) k.length cap) rfl (fun w' hw' => ?_) ?_
                  · obtain ⟨f0, f1, f2, f3, f4, f5⟩ := HF.out w' hw'
                    go_simp
                  simp only [Act.put, List.setIfInBounds_toArray, List.set_cons_zero, List.set_cons_succ]
                  refine quiet_runs (.int .i64 i) rfl (fun w' hw' => ?_) ?_
                  · go_simp
                  simp only [Act.put, List.setIfInBounds_toArray, List.set_cons_zero, List.set_cons_succ]
                  refine quiet_runs (.pointer (some ⟨b, o + i * 4, none⟩)) rfl (fun w' hw' => ?_) ?_
                  · go_simp
                  simp only [Act.put, List.setIfInBounds_toArray, List.set_cons_zero, List.set_cons_succ]
                  refine quiet_runs (.agg #[.int .i64 t.kind, .string t.s, .int .i64 t.n, .slice ka t.k.length ca]) rfl (fun w' hw' => ?_) ?_
                  · obtain ⟨f0, f1, f2, f3, f4, f5⟩ := HF.out w' hw'
                    go_simp
                  simp only [Act.put, List.setIfInBounds_toArray, List.set_cons_zero, List.set_cons_succ]
                  refine quiet_runs (.bool false) rfl (fun w' hw' => ?_) ?_
                  · go_simp
                  simp only [Act.put, List.setIfInBounds_toArray, List.set_cons_zero, List.set_cons_succ]
                  refine quiet_runs (.bool false) rfl (fun w' hw' => ?_) ?_
                  · go_simp
                  simp only [Act.put, List.setIfInBounds_toArray, List.set_cons_zero, List.set_cons_succ]
                  refine quiet_met 6 59 false (.int .i64 i) ?hg ?hd ?hv (fun w' hw' => ?hr) ?_
                  case hg => rfl
                  case hd => exact HD6.out
                  case hv => rfl
                  case hr => go_simp
                  simp only [Act.put, List.setIfInBounds_toArray, List.set_cons_zero, List.set_cons_succ]
                  refine quiet_met 6 59 false (.bool true) ?hg ?hd ?hv (fun w' hw' => ?hr) ?_
                  case hg => rfl
                  case hd => exact HD6.out
                  case hv => rfl
                  case hr => go_simp
                  simp only [Act.put, List.setIfInBounds_toArray, List.set_cons_zero, List.set_cons_succ]
                  refine quiet_met 6 59 false (.bool true) ?hg ?hd ?hv (fun w' hw' => ?hr) ?_
                  case hg => rfl
                  case hd => exact HD6.out
                  case hv => rfl
                  case hr => go_simp
                  simp only [Act.put, List.setIfInBounds_toArray, List.set_cons_zero, List.set_cons_succ]
                  refine quiet_met 9 62 true (.pointer (some ⟨w.heap.size, 0, none⟩)) ?hg ?hd ?hv (fun w' hw' => ?hr) ?_
                  case hg => rfl
                  case hd => exact HD9.out
                  case hv => rfl
                  case hr => go_simp
                  simp only [Act.put, List.setIfInBounds_toArray, List.set_cons_zero, List.set_cons_succ]
                  refine quiet_met 9 62 true (.int .i64 kind) ?hg ?hd ?hv (fun w' hw' => ?hr) ?_
                  case hg => rfl
                  case hd => exact HD9.out
                  case hv => rfl
                  case hr => obtain ⟨f0, f1, f2, f3, f4, f5⟩ := HF.out w' hw'; go_simp
                  simp only [Act.put, List.setIfInBounds_toArray, List.set_cons_zero, List.set_cons_succ]
                  refine quiet_met 9 62 true (.bool false) ?hg ?hd ?hv (fun w' hw' => ?hr) ?_
                  case hg => rfl
                  case hd => exact HD9.out
                  case hv => rfl
                  case hr => go_simp
                  simp only [Act.put, List.setIfInBounds_toArray, List.set_cons_zero, List.set_cons_succ]
                  refine quiet_met 9 62 true (.bool false) ?hg ?hd ?hv (fun w' hw' => ?hr) ?_
                  case hg => rfl
                  case hd => exact HD9.out
                  case hv => rfl
                  case hr => go_simp
                  simp only [Act.put, List.setIfInBounds_toArray, List.set_cons_zero, List.set_cons_succ]
                  refine quiet_met 13 66 false (.pointer (some ⟨w.heap.size, 0, none⟩)) ?hg ?hd ?hv (fun w' hw' => ?hr) ?_
                  case hg => rfl
                  case hd => exact HD13.out
                  case hv => rfl
                  case hr => go_simp
                  simp only [Act.put, List.setIfInBounds_toArray, List.set_cons_zero, List.set_cons_succ]
                  refine quiet_met 13 66 false (.int .i64 kind) ?hg ?hd ?hv (fun w' hw' => ?hr) ?_
                  case hg => rfl
                  case hd => exact HD13.out
                  case hv => rfl
                  case hr => obtain ⟨f0, f1, f2, f3, f4, f5⟩ := HF.out w' hw'; go_simp
                  simp only [Act.put, List.setIfInBounds_toArray, List.set_cons_zero, List.set_cons_succ]
                  refine quiet_met 13 66 false (.bool true) ?hg ?hd ?hv (fun w' hw' => ?hr) ?_
                  case hg => rfl
                  case hd => exact HD13.out
                  case hv => rfl
                  case hr => go_simp
                  simp only [Act.put, List.setIfInBounds_toArray, List.set_cons_zero, List.set_cons_succ]
                  refine quiet_met 9 62 true (.bool true) ?hg ?hd ?hv (fun w' hw' => ?hr) ?_
                  case hg => rfl
                  case hd => exact HD9.out
                  case hv => rfl
                  case hr => go_simp
                  simp only [Act.put, List.setIfInBounds_toArray, List.set_cons_zero, List.set_cons_succ]
                  refine quiet_met 6 59 false (.bool true) ?hg ?hd ?hv (fun w' hw' => ?hr) ?_
                  case hg => rfl
                  case hd => exact HD6.out
                  case hv => rfl
                  case hr => go_simp
                  simp only [Act.put, List.setIfInBounds_toArray, List.set_cons_zero, List.set_cons_succ]
                  refine quiet_runs (.bool true) rfl (fun w' hw' => ?_) ?_
                  · go_simp
                  simp only [Act.put, List.setIfInBounds_toArray, List.set_cons_zero, List.set_cons_succ]
                  refine quiet_calls 84 #[.agg #[.int .i64 t.kind, .string t.s, .int .i64 t.n, .slice ka t.k.length ca], .bool true] (.bool X) rfl (fun w' hw' => ?_) (fun w' hw' => HCL.out w' hw') ?_
                  · go_simp
                  simp only [Act.put, List.setIfInBounds_toArray, List.set_cons_zero, List.set_cons_succ]
                  refine quiet_runs (.bool (!X)) rfl (fun w' hw' => ?_) ?_
                  · go_simp
                  simp only [Act.put, List.setIfInBounds_toArray, List.set_cons_zero, List.set_cons_succ]
                  refine wpQuiet_nil ?_
                  intro w' hw'
                  have HB4 := hidIn (hbr.trans (hw'.mono hbr.size))
                  clear hw' hbr HCL HF
                  cases X
                  · go_wp2_with fail
                    go_ret
                    exact ⟨by rw [HFT.out, HNO.out (by first | rfl | trivial)]; simp, HBW.out.trans (HB4.out.mono HBW.out.size)⟩
                  · go_wp2_with fail
                    go_roundw
                    case rel => exact ⟨i + 1, by omega, by go_num, by unfold Hid; rw [HT.out, HA.out]; rfl, HB4.out⟩
                    case measure => simp [intOf]; omega
                · have hkf : (kind == 8) = false := by simp [hk8]
                  have hpb : partB kind false (0 + i) = false := by simp [partB, hi0, hk6, hk8]
                  rw [hpb] at HT HNO HCL
                  generalize formT t false = X at *
                  clear hpb hi0 hk6 hk8
                  go_wp2_with fail
                  refine wp_region_class (fun w' => Below wr.heap.size wr w') (by kernel_rfl) (by kernel_rfl) (below_drew (Below.refl _ _)) ?_
                  generalize hops : (#[_, _, _, _, _, _, _, _, _, _, _, _, _, _, _, _, _, _, _, _, _, _] : Array Oper) = ops
                  have HD6 : Hid ((ops[6]?).bind (·.dst) = some 59) := by rw [← hops]; exact rfl
                  have HD9 : Hid ((ops[9]?).bind (·.dst) = some 62) := by rw [← hops]; exact rfl
                  have HD13 : Hid ((ops[13]?).bind (·.dst) = some 66) := by rw [← hops]; exact rfl
                  clear hops
                  refine quiet_runs (.pointer (some ⟨w.heap.size, 3, none⟩)) rfl (fun w' hw' => ?_) ?_
                  · go_simp
                  simp only [Act.put, List.setIfInBounds_toArray, List.set_cons_zero, List.set_cons_succ]
                  refine quiet_runs (.slice (some ⟨b, o, none⟩) k.length cap) rfl (fun w' hw' => ?_) ?_
                  · obtain ⟨f0, f1, f2, f3, f4, f5⟩ := HF.out w' hw'
                    go_simp
                  simp only [Act.put, List.setIfInBounds_toArray, List.set_cons_zero, List.set_cons_succ]
                  refine quiet_runs (.int .i64 i) rfl (fun w' hw' => ?_) ?_
                  · go_simp
                  simp only [Act.put, List.setIfInBounds_toArray, List.set_cons_zero, List.set_cons_succ]
                  refine quiet_runs (.pointer (some ⟨b, o + i * 4, none⟩)) rfl (fun w' hw' => ?_) ?_
                  · go_simp
                  simp only [Act.put, List.setIfInBounds_toArray, List.set_cons_zero, List.set_cons_succ]
                  refine quiet_runs (.agg #[.int .i64 t.kind, .string t.s, .int .i64 t.n, .slice ka t.k.length ca]) rfl (fun w' hw' => ?_) ?_
                  · obtain ⟨f0, f1, f2, f3, f4, f5⟩ := HF.out w' hw'
                    go_simp
                  simp only [Act.put, List.setIfInBounds_toArray, List.set_cons_zero, List.set_cons_succ]
                  refine quiet_runs (.bool false) rfl (fun w' hw' => ?_) ?_
                  · go_simp
                  simp only [Act.put, List.setIfInBounds_toArray, List.set_cons_zero, List.set_cons_succ]
                  refine quiet_runs (.bool false) rfl (fun w' hw' => ?_) ?_
                  · go_simp
                  simp only [Act.put, List.setIfInBounds_toArray, List.set_cons_zero, List.set_cons_succ]
                  refine quiet_met 6 59 false (.int .i64 i) ?hg ?hd ?hv (fun w' hw' => ?hr) ?_
                  case hg => rfl
                  case hd => exact HD6.out
                  case hv => rfl
                  case hr => go_simp
                  simp only [Act.put, List.setIfInBounds_toArray, List.set_cons_zero, List.set_cons_succ]
                  refine quiet_met 6 59 false (.bool true) ?hg ?hd ?hv (fun w' hw' => ?hr) ?_
                  case hg => rfl
                  case hd => exact HD6.out
                  case hv => rfl
                  case hr => go_simp
                  simp only [Act.put, List.setIfInBounds_toArray, List.set_cons_zero, List.set_cons_succ]
                  refine quiet_met 6 59 false (.bool true) ?hg ?hd ?hv (fun w' hw' => ?hr) ?_
                  case hg => rfl
                  case hd => exact HD6.out
                  case hv => rfl
                  case hr => go_simp
                  simp only [Act.put, List.setIfInBounds_toArray, List.set_cons_zero, List.set_cons_succ]
                  refine quiet_met 9 62 true (.pointer (some ⟨w.heap.size, 0, none⟩)) ?hg ?hd ?hv (fun w' hw' => ?hr) ?_
                  case hg => rfl
                  case hd => exact HD9.out
                  case hv => rfl
                  case hr => go_simp
                  simp only [Act.put, List.setIfInBounds_toArray, List.set_cons_zero, List.set_cons_succ]
                  refine quiet_met 9 62 true (.int .i64 kind) ?hg ?hd ?hv (fun w' hw' => ?hr) ?_
                  case hg => rfl
                  case hd => exact HD9.out
                  case hv => rfl
                  case hr => obtain ⟨f0, f1, f2, f3, f4, f5⟩ := HF.out w' hw'; go_simp
                  simp only [Act.put, List.setIfInBounds_toArray, List.set_cons_zero, List.set_cons_succ]
                  refine quiet_met 9 62 true (.bool false) ?hg ?hd ?hv (fun w' hw' => ?hr) ?_
                  case hg => rfl
                  case hd => exact HD9.out
                  case hv => rfl
                  case hr => go_simp
                  simp only [Act.put, List.setIfInBounds_toArray, List.set_cons_zero, List.set_cons_succ]
                  refine quiet_met 9 62 true (.bool false) ?hg ?hd ?hv (fun w' hw' => ?hr) ?_
                  case hg => rfl
                  case hd => exact HD9.out
                  case hv => rfl
                  case hr => go_simp
                  simp only [Act.put, List.setIfInBounds_toArray, List.set_cons_zero, List.set_cons_succ]
                  refine quiet_met 13 66 false (.pointer (some ⟨w.heap.size, 0, none⟩)) ?hg ?hd ?hv (fun w' hw' => ?hr) ?_
                  case hg => rfl
                  case hd => exact HD13.out
                  case hv => rfl
                  case hr => go_simp
                  simp only [Act.put, List.setIfInBounds_toArray, List.set_cons_zero, List.set_cons_succ]
                  refine quiet_met 13 66 false (.int .i64 kind) ?hg ?hd ?hv (fun w' hw' => ?hr) ?_
                  case hg => rfl
                  case hd => exact HD13.out
                  case hv => rfl
                  case hr => obtain ⟨f0, f1, f2, f3, f4, f5⟩ := HF.out w' hw'; go_simp
                  simp only [Act.put, List.setIfInBounds_toArray, List.set_cons_zero, List.set_cons_succ]
                  refine quiet_met 13 66 false (.bool false) ?hg ?hd ?hv (fun w' hw' => ?hr) ?_
                  case hg => rfl
                  case hd => exact HD13.out
                  case hv => rfl
                  case hr => go_simp
                  simp only [Act.put, List.setIfInBounds_toArray, List.set_cons_zero, List.set_cons_succ]
                  refine quiet_met 9 62 true (.bool false) ?hg ?hd ?hv (fun w' hw' => ?hr) ?_
                  case hg => rfl
                  case hd => exact HD9.out
                  case hv => rfl
                  case hr => go_simp
                  simp only [Act.put, List.setIfInBounds_toArray, List.set_cons_zero, List.set_cons_succ]
                  refine quiet_met 6 59 false (.bool false) ?hg ?hd ?hv (fun w' hw' => ?hr) ?_
                  case hg => rfl
                  case hd => exact HD6.out
                  case hv => rfl
                  case hr => go_simp
                  simp only [Act.put, List.setIfInBounds_toArray, List.set_cons_zero, List.set_cons_succ]
                  refine quiet_runs (.bool false) rfl (fun w' hw' => ?_) ?_
                  · go_simp
                  simp only [Act.put, List.setIfInBounds_toArray, List.set_cons_zero, List.set_cons_succ]
                  refine quiet_calls 84 #[.agg #[.int .i64 t.kind, .string t.s, .int .i64 t.n, .slice ka t.k.length ca], .bool false] (.bool X) rfl (fun w' hw' => ?_) (fun w' hw' => HCL.out w' hw') ?_
                  · go_simp
                  simp only [Act.put, List.setIfInBounds_toArray, List.set_cons_zero, List.set_cons_succ]
                  refine quiet_runs (.bool (!X)) rfl (fun w' hw' => ?_) ?_
                  · go_simp
                  simp only [Act.put, List.setIfInBounds_toArray, List.set_cons_zero, List.set_cons_succ]
                  refine wpQuiet_nil ?_
                  intro w' hw'
                  have HB4 := hidIn (hbr.trans (hw'.mono hbr.size))
                  clear hw' hbr HCL HF
                  cases X
                  · go_wp2_with fail
                    go_ret
                    exact ⟨by rw [HFT.out, HNO.out (by first | rfl | trivial)]; simp, HBW.out.trans (HB4.out.mono HBW.out.size)⟩
                  · go_wp2_with fail
                    go_roundw
                    case rel => exact ⟨i + 1, by omega, by go_num, by unfold Hid; rw [HT.out, HA.out]; rfl, HB4.out⟩
                    case measure => simp [intOf]; omega
            · have hie : ((i : Int) == 0) = false := by simp [hi0]
              have hpb : partB kind false (0 + i) = false := by simp [partB, hi0]
              rw [hpb] at HT HNO HCL
              generalize formT t false = X at *
              clear hpb hi0
              go_wp2_with fail
              refine wp_region_class (fun w' => Below wr.heap.size wr w') (by kernel_rfl) (by kernel_rfl) (below_drew (Below.refl _ _)) ?_
              generalize hops : (#[_, _, _, _, _, _, _, _, _, _, _, _, _, _, _, _, _, _, _, _, _, _] : Array Oper) = ops
              have HD6 : Hid ((ops[6]?).bind (·.dst) = some 59) := by rw [← hops]; exact rfl
              have HD9 : Hid ((ops[9]?).bind (·.dst) = some 62) := by rw [← hops]; exact rfl
              have HD13 : Hid ((ops[13]?).bind (·.dst) = some 66) := by rw [← hops]; exact rfl
              clear hops
              refine quiet_runs (.pointer (some ⟨w.heap.size, 3, none⟩)) rfl (fun w' hw' => ?_) ?_
              · go_simp
              simp only [Act.put, List.setIfInBounds_toArray, List.set_cons_zero, List.set_cons_succ]
              refine quiet_runs (.slice (some ⟨b, o, none⟩) k.length cap) rfl (fun w' hw' => ?_) ?_
              · obtain ⟨f0, f1, f2, f3, f4, f5⟩ := HF.out w' hw'
                go_simp
              simp only [Act.put, List.setIfInBounds_toArray, List.set_cons_zero, List.set_cons_succ]
              refine quiet_runs (.int .i64 i) rfl (fun w' hw' => ?_) ?_
              · go_simp
              simp only [Act.put, List.setIfInBounds_toArray, List.set_cons_zero, List.set_cons_succ]
              refine quiet_runs (.pointer (some ⟨b, o + i * 4, none⟩)) rfl (fun w' hw' => ?_) ?_
              · go_simp
              simp only [Act.put, List.setIfInBounds_toArray, List.set_cons_zero, List.set_cons_succ]
              refine quiet_runs (.agg #[.int .i64 t.kind, .string t.s, .int .i64 t.n, .slice ka t.k.length ca]) rfl (fun w' hw' => ?_) ?_
              · obtain ⟨f0, f1, f2, f3, f4, f5⟩ := HF.out w' hw'
                go_simp
              simp only [Act.put, List.setIfInBounds_toArray, List.set_cons_zero, List.set_cons_succ]
              refine quiet_runs (.bool false) rfl (fun w' hw' => ?_) ?_
              · go_simp
              simp only [Act.put, List.setIfInBounds_toArray, List.set_cons_zero, List.set_cons_succ]
              refine quiet_runs (.bool false) rfl (fun w' hw' => ?_) ?_
              · go_simp
              simp only [Act.put, List.setIfInBounds_toArray, List.set_cons_zero, List.set_cons_succ]
              refine quiet_met 6 59 false (.int .i64 i) ?hg ?hd ?hv (fun w' hw' => ?hr) ?_
              case hg => rfl
              case hd => exact HD6.out
              case hv => rfl
              case hr => go_simp
              simp only [Act.put, List.setIfInBounds_toArray, List.set_cons_zero, List.set_cons_succ]
              refine quiet_met 6 59 false (.bool false) ?hg ?hd ?hv (fun w' hw' => ?hr) ?_
              case hg => rfl
              case hd => exact HD6.out
              case hv => rfl
              case hr => go_simp
              simp only [Act.put, List.setIfInBounds_toArray, List.set_cons_zero, List.set_cons_succ]
              refine quiet_met 6 59 false (.bool false) ?hg ?hd ?hv (fun w' hw' => ?hr) ?_
              case hg => rfl
              case hd => exact HD6.out
              case hv => rfl
              case hr => go_simp
              simp only [Act.put, List.setIfInBounds_toArray, List.set_cons_zero, List.set_cons_succ]
              refine quiet_skips 9 62 true false ?hg ?hd ?hv ?hb ?_
              case hg => rfl
              case hd => exact HD9.out
              case hv => rfl
              case hb => decide
              simp only [Act.put, List.setIfInBounds_toArray, List.set_cons_zero, List.set_cons_succ]
              refine quiet_skips 9 62 true false ?hg ?hd ?hv ?hb ?_
              case hg => rfl
              case hd => exact HD9.out
              case hv => rfl
              case hb => decide
              simp only [Act.put, List.setIfInBounds_toArray, List.set_cons_zero, List.set_cons_succ]
              refine quiet_skips 9 62 true false ?hg ?hd ?hv ?hb ?_
              case hg => rfl
              case hd => exact HD9.out
              case hv => rfl
              case hb => decide
              simp only [Act.put, List.setIfInBounds_toArray, List.set_cons_zero, List.set_cons_succ]
              refine quiet_skips 9 62 true false ?hg ?hd ?hv ?hb ?_
              case hg => rfl
              case hd => exact HD9.out
              case hv => rfl
              case hb => decide
              simp only [Act.put, List.setIfInBounds_toArray, List.set_cons_zero, List.set_cons_succ]
              refine quiet_undef 13 66 false ?hg ?hd ?hv ?_
              case hg => rfl
              case hd => exact HD13.out
              case hv => rfl
              simp only [Act.put, List.setIfInBounds_toArray, List.set_cons_zero, List.set_cons_succ]
              refine quiet_undef 13 66 false ?hg ?hd ?hv ?_
              case hg => rfl
              case hd => exact HD13.out
              case hv => rfl
              simp only [Act.put, List.setIfInBounds_toArray, List.set_cons_zero, List.set_cons_succ]
              refine quiet_undef 13 66 false ?hg ?hd ?hv ?_
              case hg => rfl
              case hd => exact HD13.out
              case hv => rfl
              simp only [Act.put, List.setIfInBounds_toArray, List.set_cons_zero, List.set_cons_succ]
              refine quiet_skips 9 62 true false ?hg ?hd ?hv ?hb ?_
              case hg => rfl
              case hd => exact HD9.out
              case hv => rfl
              case hb => decide
              simp only [Act.put, List.setIfInBounds_toArray, List.set_cons_zero, List.set_cons_succ]
              refine quiet_met 6 59 false (.bool false) ?hg ?hd ?hv (fun w' hw' => ?hr) ?_
              case hg => rfl
              case hd => exact HD6.out
              case hv => rfl
              case hr => go_simp
              simp only [Act.put, List.setIfInBounds_toArray, List.set_cons_zero, List.set_cons_succ]
              refine quiet_runs (.bool false) rfl (fun w' hw' => ?_) ?_
              · go_simp
              simp only [Act.put, List.setIfInBounds_toArray, List.set_cons_zero, List.set_cons_succ]
              refine quiet_calls 84 #[.agg #[.int .i64 t.kind, .string t.s, .int .i64 t.n, .slice ka t.k.length ca], .bool false] (.bool X) rfl (fun w' hw' => ?_) (fun w' hw' => HCL.out w' hw') ?_
              · go_simp
              simp only [Act.put, List.setIfInBounds_toArray, List.set_cons_zero, List.set_cons_succ]
              refine quiet_runs (.bool (!X)) rfl (fun w' hw' => ?_) ?_
              · go_simp
              simp only [Act.put, List.setIfInBounds_toArray, List.set_cons_zero, List.set_cons_succ]
              refine wpQuiet_nil ?_
              intro w' hw'
              have HB4 := hidIn (hbr.trans (hw'.mono hbr.size))
              clear hw' hbr HCL HF
              cases X
              · go_wp2_with fail
                go_ret
                exact ⟨by rw [HFT.out, HNO.out (by first | rfl | trivial)]; simp, HBW.out.trans (HB4.out.mono HBW.out.size)⟩
              · go_wp2_with fail
                go_roundw
                case rel => exact ⟨i + 1, by omega, by go_num, by unfold Hid; rw [HT.out, HA.out]; rfl, HB4.out⟩
                case measure => simp [intOf]; omega
          · have hle : i = k.length := by omega
            subst hle
            have HA2 : Hid (formTL kind false 0 k = true) := by have := HA.out; rwa [List.take_length] at this
            clear HA
            go_wp2_with fail
            go_ret
            exact ⟨by rw [HFT.out, HA2.out]; rfl, HBW.out.trans (hbr.mono HBW.out.size)⟩
      · go_wp2_with fail
        go_ret
        exact ⟨by rw [HFT0.out, hd11]; rfl, HBW.out⟩

end Go.Proofs.YtkioolbjmcpjpaaGreatDoor
