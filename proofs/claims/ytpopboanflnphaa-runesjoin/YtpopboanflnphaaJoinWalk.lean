/- The walk of the statement RunesJoin. -/
import Derived.Test.YtpopboanflnphaaJoinA
namespace Go.Proofs.Ytpopboanflnphaa
open Go.RowKit
set_option linter.unusedVariables false

/-- What is known of a list of texts that came in. -/
def HasStrs (w : World) (a : Option Addr) (len : Nat) (f : Nat → ByteArray) : Prop :=
  ∀ i, i < len → ∃ b off, a = some ⟨b, off, none⟩ ∧ b < w.heap.size ∧ w.cell? ⟨b, off + i, none⟩ = some (.string (f i)) ∧ (f i).size ≤ maxLen
/-- What is known of a list of numbers that came in. -/
def HasInts (w : World) (a : Option Addr) (len : Nat) (f : Nat → Int) : Prop :=
  ∀ i, i < len → ∃ b off, a = some ⟨b, off, none⟩ ∧ b < w.heap.size ∧ w.cell? ⟨b, off + i, none⟩ = some (.int .i64 (f i)) ∧ -9223372036854775808 ≤ f i ∧ f i ≤ 9223372036854775807

theorem mark_text (j : Nat) : ∃ m : Int, (m = 40 ∨ m = 41 ∨ m = 44) ∧ ((({ data := #[40, 41, 44] } : ByteArray).extract (j % 3) 3).extract 0 1) = Utf8.encode m := by
  have h : j % 3 = 0 ∨ j % 3 = 1 ∨ j % 3 = 2 := by omega
  rcases h with h | h | h
  · exact ⟨40, .inl rfl, by rw [h]; decide +kernel⟩
  · exact ⟨41, .inr (.inl rfl), by rw [h]; decide +kernel⟩
  · exact ⟨44, .inr (.inr rfl), by rw [h]; decide +kernel⟩

set_option maxHeartbeats 4000000 in
set_option maxRecDepth 100000 in
theorem join_walk (la : Option Addr) (ll lc : Nat) (lf : Nat → ByteArray) (ga : Option Addr) (gl gc : Nat) (gf : Nat → Int) (w : World)
    (hl : HasStrs w la ll lf) (hll : ll ≤ 9223372036854775807) (hg : HasInts w ga gl gf) (hgl : gl ≤ 9223372036854775807) :
    Calls Try.prog 3 #[.slice la ll lc, .slice ga gl gc] w fun e w' => e = .returned (.bool true) ∧ Below w.heap.size w w' := by
  obtain ⟨i0, hi, hz0, hz1, hz2⟩ := info_parts Try.info28
  have HL : Hid (HasStrs w la ll lf) := hl
  have HG : Hid (HasInts w ga gl gf) := hg
  clear hl hg
  go_enter Try.func3, Try.ntmps3
  go_wp2_with fail
  go_loopw [8, 5, 6, 7] (fun s8 s5 s6 s7 wr => ∃ (i : Nat) (RS : List Int) (want : List Sg), i ≤ 6 ∧ s8 = .int .i64 i ∧ s5 = .string (runesBytes RS) ∧ s6 = .int .i64 ((RS.length : Int) + 1) ∧ wr.ownsRow w.heap.size 28 2 s7 want.length (sgCells want) ∧ Below w.heap.size w wr ∧ Hid (JInv RS want) ∧ RS.length ≤ 13 * i ∧ want.length ≤ 2 * i) (fun s8 _ _ _ _ => 6 - (intOf s8).toNat)
  case atStart => exact ⟨0, [], [], by omega, rfl, rfl, rfl, World.ownsRow_nil _ _ _ _, Below.refl _ _, ⟨fun r hr => by simp at hr, fun tail => rfl⟩, by simp, by simp⟩
  case round =>
    obtain ⟨i, RS, want, hi6, rfl, rfl, rfl, hown, hbr, HJ, hrl, hwl⟩ := hrel
    by_cases hgo : i < ll ∧ i < 6
    · obtain ⟨hlt, hlt6⟩ := hgo
      have hlt' : (i : Int) < (ll : Int) := by omega
      have hlt6' : (i : Int) < 6 := by omega
      obtain ⟨lb, lo, hla, hlb, hlc, hls⟩ := HL.out i hlt
      subst hla
      rw [← hbr.cell (p := ⟨lb, lo + i, none⟩) hlb] at hlc
      generalize lf i = X at *
      have HLS : Hid (X.size ≤ maxLen) := hls
      clear hls
      by_cases hgi : i < gl
      · have hgi' : (i : Int) < (gl : Int) := by omega
        obtain ⟨gb, go, hga, hgb, hgc, hgf1, hgf2⟩ := HG.out i hgi
        subst hga
        rw [← hbr.cell (p := ⟨gb, go + i, none⟩) hgb] at hgc
        obtain ⟨q, hq⟩ : ∃ q : Nat, gf i % 4 = q := ⟨(gf i % 4).toNat, by omega⟩
        have hq4 : q < 4 := by omega
        go_wp2_with fail
        refine calls_same (within_any _ 4 _ (by omega) (by omega) hgf1 hgf2) ?_
        rw [hq]
        clear hgc hgf1 hgf2 hq
        go_wp2_with fail
        go_loop [10, 5, 6] (fun s10 s5 s6 => ∃ j : Nat, j ≤ q ∧ s10 = .int .i64 j ∧ s5 = .string (runesBytes (RS ++ List.replicate j 32)) ∧ s6 = .int .i64 ((RS.length : Int) + 1 + j)) (fun s10 _ _ => q - (intOf s10).toNat)
        case atStart => exact ⟨0, by omega, rfl, by simp, by simp⟩
        case round =>
          obtain ⟨j, hj, rfl, rfl, rfl⟩ := hrel
          have hsz := runesBytes_size_le (RS ++ List.replicate j 32)
          rw [List.length_append, List.length_replicate] at hsz
          have HB : Hid (runesBytes (RS ++ List.replicate (j + 1) 32) = runesBytes (RS ++ List.replicate j 32) ++ ⟨#[32]⟩) := by
            unfold Hid
            rw [show RS ++ List.replicate (j + 1) 32 = (RS ++ List.replicate j 32) ++ [32] from by rw [List.replicate_succ', List.append_assoc], runesBytes_append (RS ++ List.replicate j 32) [32]]
            rfl
          by_cases hjq : j < q
          · have hjq' : (j : Int) < (q : Int) := by omega
            generalize hY : runesBytes (RS ++ List.replicate j 32) = Y at *
            clear hY
            go_wp2_with fail
            go_round
            case rel => exact ⟨j + 1, by omega, by go_num, by rw [HB.out], by go_num⟩
            case measure => simp [intOf]; omega
          · have hjq' : ¬ (j : Int) < (q : Int) := by omega
            have hjQ : j = q := by omega
            clear HB
            subst hjQ
            generalize hY : runesBytes (RS ++ List.replicate j 32) = Y at *
            have HY : Hid (runesBytes (RS ++ List.replicate j 32) = Y) := hY
            clear hY
            go_wp2_with fail
            refine (word_any X _ HLS.out).mono ?_
            rintro e w1 ⟨ws, rfl, hws, hlets, hb1⟩
            have hown1 := own_below hown hb1
            have hbr1 := hbr.trans (hb1.mono hbr.size)
            have HLets : Hid (∀ r ∈ 119 :: ws, Utf8.valid r = true ∧ letB r = true) := by
              intro r hr
              rcases List.mem_cons.1 hr with rfl | h
              · decide
              · exact hlets r h
            have hwsz := runesBytes_size_le (119 :: ws)
            simp only [List.length_cons] at hwsz
            generalize hWb : runesBytes (119 :: ws) = Wb at *
            have HWb : Hid (runesBytes (119 :: ws) = Wb) := hWb
            have HRl : Hid ((runesOf Wb).length = ws.length + 1) := by
              unfold Hid
              rw [← hWb, runesOf_all _ (fun r hr => (HLets.out r hr).1)]
              simp
            clear hWb hlets hb1 hown hlc
            go_wp2_with (at_builtin; refine wpList_append_own _ rfl (.tmp 48) (.tmp 52) 24 rfl w.heap.size 28 i0 (.agg #[.string ByteArray.empty, .int .i64 0]) 2 24 Try.underlying24 hi hz0 hz1 hz2 rfl (by decide) _ _ _ rfl (hown1.alloc _) ⟨w1.heap.size, 0, none⟩ 1 1 [.string Wb, .int .i64 ((RS.length : Int) + 1 + j)] rfl rfl (cell_two_new w1 _ _ _) (by intro u hu; simp at hu; rcases hu with rfl | rfl <;> rfl) (by unfold maxLen; omega) (by omega) (by have := hbr1.size; simp; omega) ?_; intro v2 w2 hown2 hgrow2 _)
            have hbr2 : Below w.heap.size w w2 := (hbr1.alloc hbr1.size _).grown hgrow2 (by have := hbr1.size; simp; omega) (fun k hk => (hown1.lt k hk).1)
            have hown3 : w2.ownsRow w.heap.size 28 2 v2 (want ++ [(Wb, (RS.length : Int) + 1 + j)]).length (sgCells (want ++ [(Wb, (RS.length : Int) + 1 + j)])) := by rw [sgCells_append]; simpa [sgCells] using hown2
            clear hown2 hgrow2 hown1 hbr1
            go_loopw [6] (fun n w' => ∃ pos c : Nat, w' = w2.iter Wb pos ∧ n = .int .i64 c ∧ c + (rest Wb pos).length = RS.length + 1 + j + (ws.length + 1)) (fun _ w' => Wb.size - w'.iterPos w2.heap.size)
            case atStart => exact ⟨0, RS.length + 1 + j, rfl, by go_num, by have := HRl.out; unfold runesOf at this; omega⟩
            case round =>
              obtain ⟨pos, c, rfl, rfl, hc⟩ := hrel
              by_cases hp : pos < Wb.size
              · have hwd := width_pos Wb pos hp
                have hnx : ∀ ty, (Instr.next (.pointer (some ⟨w2.heap.size, 0, none⟩)) true ty).run Try.prog (w2.iter Wb pos) = _ := fun ty => run_next_any w2 Wb pos ty hp
                rw [rest_step Wb pos hp, List.length_cons] at hc
                have HC : Hid (c + ((rest Wb (pos + (Utf8.decode Wb pos).2)).length + 1) = RS.length + 1 + j + (ws.length + 1)) := hc
                have hcm : c ≤ 1000 := by omega
                clear hc
                go_wp2_with fail
                go_roundw
                case rel => exact ⟨_, c + 1, rfl, by go_num, by have := HC.out; omega⟩
                case measure => simp; omega
              · have hnx : ∀ ty, (Instr.next (.pointer (some ⟨w2.heap.size, 0, none⟩)) true ty).run Try.prog (w2.iter Wb pos) = _ := fun ty => run_next_end w2 Wb pos ty hp
                rw [rest_end Wb pos hp] at hc
                simp only [List.length_nil, Nat.add_zero] at hc
                have hown4 : (w2.iter Wb pos).ownsRow w.heap.size 28 2 v2 (want ++ [(Wb, (RS.length : Int) + 1 + j)]).length (sgCells (want ++ [(Wb, (RS.length : Int) + 1 + j)])) := hown3.alloc _
                have hbr4 : Below w.heap.size w (w2.iter Wb pos) := hbr2.trans ((below_iter w2 Wb pos).mono hbr2.size)
                clear hown3 hbr2
                have hmt := mark_text j
                obtain ⟨m, hm, hmx⟩ := hmt
                have hmsz : ((({ data := #[40, 41, 44] } : ByteArray).extract (j % 3) 3).extract 0 1).size ≤ 1 := by rw [hmx]; rcases hm with rfl | rfl | rfl <;> exact Nat.le_of_ble_eq_true rfl
                have HM : Hid (((({ data := #[40, 41, 44] } : ByteArray).extract (j % 3) 3).extract 0 1) = Utf8.encode m) := hmx
                clear hmx
                go_wp2_with (at_builtin; refine wpList_append_own _ rfl (.tmp 67) (.tmp 71) 24 rfl w.heap.size 28 i0 (.agg #[.string ByteArray.empty, .int .i64 0]) 2 24 Try.underlying24 hi hz0 hz1 hz2 rfl (by decide) _ _ _ rfl (hown4.alloc _) ⟨(w2.iter Wb pos).heap.size, 0, none⟩ 1 1 [.string ((({ data := #[40, 41, 44] } : ByteArray).extract (j % 3) 3).extract 0 1), .int .i64 ((RS.length : Int) + 1 + (j : Int) + ((ws.length : Int) + 1))] rfl rfl (cell_two_new _ _ _ _) (by intro u hu; simp at hu; rcases hu with rfl | rfl <;> rfl) (by simp; unfold maxLen; omega) (by simp; omega) (by have := hbr4.size; simp; omega) ?_; intro v5 w5 hown5 hgrow5 _)
                have hbr5 : Below w.heap.size w w5 := (hbr4.alloc hbr4.size _).grown hgrow5 (by have := hbr4.size; simp; omega) (fun k hk => (hown4.lt k hk).1)
                have hown6 : w5.ownsRow w.heap.size 28 2 v5 (want ++ [(Wb, (RS.length : Int) + 1 + j)] ++ [(((({ data := #[40, 41, 44] } : ByteArray).extract (j % 3) 3).extract 0 1), (RS.length : Int) + 1 + (j : Int) + ((ws.length : Int) + 1))]).length (sgCells (want ++ [(Wb, (RS.length : Int) + 1 + j)] ++ [(((({ data := #[40, 41, 44] } : ByteArray).extract (j % 3) 3).extract 0 1), (RS.length : Int) + 1 + (j : Int) + ((ws.length : Int) + 1))])) := by rw [sgCells_append (want ++ [(Wb, (RS.length : Int) + 1 + j)])]; simpa [sgCells] using hown5
                clear hown5 hgrow5 hown4 hbr4
                go_roundw
                case rel =>
                  have hstep := join_step RS want j (119 :: ws) m HJ.out (by simp) HLets.out hm
                  refine ⟨i + 1, ((RS ++ List.replicate j 32) ++ (119 :: ws)) ++ [m], _, by omega, by go_num, ?_, ?_, hown6, hbr5, ?_, ?_, ?_⟩
                  · rw [runesBytes_append _ [m], runesBytes_append _ (119 :: ws), HY.out, HWb.out, runesBytes_one, ← HM.out]
                  · simp; omega
                  · unfold Hid
                    rw [HWb.out, ← HM.out] at hstep
                    have e1 : ((RS.length + j : Nat) : Int) + 1 = (RS.length : Int) + 1 + j := by omega
                    have e2 : ((RS.length + j + (119 :: ws).length : Nat) : Int) + 1 = (RS.length : Int) + 1 + (j : Int) + ((ws.length : Int) + 1) := by simp; omega
                    rw [e1, e2] at hstep
                    exact hstep
                  · simp; omega
                  · simp; omega
                case measure => simp [intOf]; omega
      · have hgi' : ¬ (i : Int) < (gl : Int) := by omega
        go_wp2_with fail
        go_loop [10, 5, 6] (fun s10 s5 s6 => ∃ j : Nat, j ≤ 0 ∧ s10 = .int .i64 j ∧ s5 = .string (runesBytes (RS ++ List.replicate j 32)) ∧ s6 = .int .i64 ((RS.length : Int) + 1 + j)) (fun s10 _ _ => 0 - (intOf s10).toNat)
        case atStart => exact ⟨0, by omega, rfl, by simp, by simp⟩
        case round =>
          obtain ⟨j, hj, rfl, rfl, rfl⟩ := hrel
          have hsz := runesBytes_size_le (RS ++ List.replicate j 32)
          rw [List.length_append, List.length_replicate] at hsz
          have HB : Hid (runesBytes (RS ++ List.replicate (j + 1) 32) = runesBytes (RS ++ List.replicate j 32) ++ ⟨#[32]⟩) := by
            unfold Hid
            rw [show RS ++ List.replicate (j + 1) 32 = (RS ++ List.replicate j 32) ++ [32] from by rw [List.replicate_succ', List.append_assoc], runesBytes_append (RS ++ List.replicate j 32) [32]]
            rfl
          by_cases hjq : j < 0
          · exfalso; omega
          · have hjq' : ¬ (j : Int) < 0 := by omega
            have hjQ : j = 0 := by omega
            have HJ0 : Hid (j = 0) := hjQ
            clear HB hjQ hj hjq hjq'
            have hjj : (0 : Int) ≤ (j : Int) ∧ (j : Int) < 4 := by have := HJ0.out; omega
            have hq4 : j < 4 := by omega
            generalize hY : runesBytes (RS ++ List.replicate j 32) = Y at *
            have HY : Hid (runesBytes (RS ++ List.replicate j 32) = Y) := hY
            clear hY
            go_wp2_with fail
            refine (word_any X _ HLS.out).mono ?_
            rintro e w1 ⟨ws, rfl, hws, hlets, hb1⟩
            have hown1 := own_below hown hb1
            have hbr1 := hbr.trans (hb1.mono hbr.size)
            have HLets : Hid (∀ r ∈ 119 :: ws, Utf8.valid r = true ∧ letB r = true) := by
              intro r hr
              rcases List.mem_cons.1 hr with rfl | h
              · decide
              · exact hlets r h
            have hwsz := runesBytes_size_le (119 :: ws)
            simp only [List.length_cons] at hwsz
            generalize hWb : runesBytes (119 :: ws) = Wb at *
            have HWb : Hid (runesBytes (119 :: ws) = Wb) := hWb
            have HRl : Hid ((runesOf Wb).length = ws.length + 1) := by
              unfold Hid
              rw [← hWb, runesOf_all _ (fun r hr => (HLets.out r hr).1)]
              simp
            clear hWb hlets hb1 hown hlc
            go_wp2_with (at_builtin; refine wpList_append_own _ rfl (.tmp 48) (.tmp 52) 24 rfl w.heap.size 28 i0 (.agg #[.string ByteArray.empty, .int .i64 0]) 2 24 Try.underlying24 hi hz0 hz1 hz2 rfl (by decide) _ _ _ rfl (hown1.alloc _) ⟨w1.heap.size, 0, none⟩ 1 1 [.string Wb, .int .i64 ((RS.length : Int) + 1 + j)] rfl rfl (cell_two_new w1 _ _ _) (by intro u hu; simp at hu; rcases hu with rfl | rfl <;> rfl) (by unfold maxLen; omega) (by omega) (by have := hbr1.size; simp; omega) ?_; intro v2 w2 hown2 hgrow2 _)
            have hbr2 : Below w.heap.size w w2 := (hbr1.alloc hbr1.size _).grown hgrow2 (by have := hbr1.size; simp; omega) (fun k hk => (hown1.lt k hk).1)
            have hown3 : w2.ownsRow w.heap.size 28 2 v2 (want ++ [(Wb, (RS.length : Int) + 1 + j)]).length (sgCells (want ++ [(Wb, (RS.length : Int) + 1 + j)])) := by rw [sgCells_append]; simpa [sgCells] using hown2
            clear hown2 hgrow2 hown1 hbr1
            go_loopw [6] (fun n w' => ∃ pos c : Nat, w' = w2.iter Wb pos ∧ n = .int .i64 c ∧ c + (rest Wb pos).length = RS.length + 1 + j + (ws.length + 1)) (fun _ w' => Wb.size - w'.iterPos w2.heap.size)
            case atStart => exact ⟨0, RS.length + 1 + j, rfl, by go_num, by have := HRl.out; unfold runesOf at this; omega⟩
            case round =>
              obtain ⟨pos, c, rfl, rfl, hc⟩ := hrel
              by_cases hp : pos < Wb.size
              · have hwd := width_pos Wb pos hp
                have hnx : ∀ ty, (Instr.next (.pointer (some ⟨w2.heap.size, 0, none⟩)) true ty).run Try.prog (w2.iter Wb pos) = _ := fun ty => run_next_any w2 Wb pos ty hp
                rw [rest_step Wb pos hp, List.length_cons] at hc
                have HC : Hid (c + ((rest Wb (pos + (Utf8.decode Wb pos).2)).length + 1) = RS.length + 1 + j + (ws.length + 1)) := hc
                have hcm : c ≤ 1000 := by omega
                clear hc
                go_wp2_with fail
                go_roundw
                case rel => exact ⟨_, c + 1, rfl, by go_num, by have := HC.out; omega⟩
                case measure => simp; omega
              · have hnx : ∀ ty, (Instr.next (.pointer (some ⟨w2.heap.size, 0, none⟩)) true ty).run Try.prog (w2.iter Wb pos) = _ := fun ty => run_next_end w2 Wb pos ty hp
                rw [rest_end Wb pos hp] at hc
                simp only [List.length_nil, Nat.add_zero] at hc
                have hown4 : (w2.iter Wb pos).ownsRow w.heap.size 28 2 v2 (want ++ [(Wb, (RS.length : Int) + 1 + j)]).length (sgCells (want ++ [(Wb, (RS.length : Int) + 1 + j)])) := hown3.alloc _
                have hbr4 : Below w.heap.size w (w2.iter Wb pos) := hbr2.trans ((below_iter w2 Wb pos).mono hbr2.size)
                clear hown3 hbr2
                have hmt : ∃ m : Int, (m = 40 ∨ m = 41 ∨ m = 44) ∧ ((({ data := #[40, 41, 44] } : ByteArray).extract 0 3).extract 0 1) = Utf8.encode m := mark_text 0
                obtain ⟨m, hm, hmx⟩ := hmt
                have hmsz : ((({ data := #[40, 41, 44] } : ByteArray).extract 0 3).extract 0 1).size ≤ 1 := by rw [hmx]; rcases hm with rfl | rfl | rfl <;> exact Nat.le_of_ble_eq_true rfl
                have HM : Hid (((({ data := #[40, 41, 44] } : ByteArray).extract 0 3).extract 0 1) = Utf8.encode m) := hmx
                clear hmx
                go_wp2_with (at_builtin; refine wpList_append_own _ rfl (.tmp 67) (.tmp 71) 24 rfl w.heap.size 28 i0 (.agg #[.string ByteArray.empty, .int .i64 0]) 2 24 Try.underlying24 hi hz0 hz1 hz2 rfl (by decide) _ _ _ rfl (hown4.alloc _) ⟨(w2.iter Wb pos).heap.size, 0, none⟩ 1 1 [.string ((({ data := #[40, 41, 44] } : ByteArray).extract 0 3).extract 0 1), .int .i64 ((RS.length : Int) + 1 + (j : Int) + ((ws.length : Int) + 1))] rfl rfl (cell_two_new _ _ _ _) (by intro u hu; simp at hu; rcases hu with rfl | rfl <;> rfl) (by simp; unfold maxLen; omega) (by simp; omega) (by have := hbr4.size; simp; omega) ?_; intro v5 w5 hown5 hgrow5 _)
                have hbr5 : Below w.heap.size w w5 := (hbr4.alloc hbr4.size _).grown hgrow5 (by have := hbr4.size; simp; omega) (fun k hk => (hown4.lt k hk).1)
                have hown6 : w5.ownsRow w.heap.size 28 2 v5 (want ++ [(Wb, (RS.length : Int) + 1 + j)] ++ [(((({ data := #[40, 41, 44] } : ByteArray).extract 0 3).extract 0 1), (RS.length : Int) + 1 + (j : Int) + ((ws.length : Int) + 1))]).length (sgCells (want ++ [(Wb, (RS.length : Int) + 1 + j)] ++ [(((({ data := #[40, 41, 44] } : ByteArray).extract 0 3).extract 0 1), (RS.length : Int) + 1 + (j : Int) + ((ws.length : Int) + 1))])) := by rw [sgCells_append (want ++ [(Wb, (RS.length : Int) + 1 + j)])]; simpa [sgCells] using hown5
                clear hown5 hgrow5 hown4 hbr4
                go_roundw
                case rel =>
                  have hstep := join_step RS want j (119 :: ws) m HJ.out (by simp) HLets.out hm
                  refine ⟨i + 1, ((RS ++ List.replicate j 32) ++ (119 :: ws)) ++ [m], _, by omega, by go_num, ?_, ?_, hown6, hbr5, ?_, ?_, ?_⟩
                  · rw [runesBytes_append _ [m], runesBytes_append _ (119 :: ws), HY.out, HWb.out, runesBytes_one, ← HM.out]
                  · simp; omega
                  · unfold Hid
                    rw [HWb.out, ← HM.out] at hstep
                    have e1 : ((RS.length + j : Nat) : Int) + 1 = (RS.length : Int) + 1 + j := by omega
                    have e2 : ((RS.length + j + (119 :: ws).length : Nat) : Int) + 1 = (RS.length : Int) + 1 + (j : Int) + ((ws.length : Int) + 1) := by simp; omega
                    rw [e1, e2] at hstep
                    exact hstep
                  · simp; omega
                  · simp; omega
                case measure => simp [intOf]; omega
    · have hend := join_end RS want HJ.out
      have hsz := runesBytes_size_le RS
      obtain ⟨e1, e2⟩ := hend
      have HE1 : Hid (badOf (runesBytes RS ++ ⟨#[32, 32]⟩) = 0) := e1
      have HE2 : Hid (sgOf (runesBytes RS ++ ⟨#[32, 32]⟩) = want) := e2
      have hz : (runesBytes RS ++ ⟨#[32, 32]⟩).size ≤ 2147483648 := by
        rw [ByteArray.size_append]
        show (runesBytes RS).size + 2 ≤ 2147483648
        omega
      have HZ : Hid ((runesBytes RS ++ ⟨#[32, 32]⟩).size ≤ 2147483648) := hz
      clear e1 e2 hz
      generalize hY : runesBytes RS = Y at *
      clear hY
      by_cases hlt : i < ll
      · have hlt' : (i : Int) < (ll : Int) := by omega
        have h6' : ¬ (i : Int) < 6 := by omega
        have h6d : decide ((i : Int) < 6) = false := by simpa using h6'
        go_wp2_with fail
        refine (signs_ok _ _ ?_ ?_).mono ?_
        · exact HZ.out
        · exact HE1.out
        rintro e w4 ⟨v, rfl, hown4, hb4⟩
        have hown5 : w4.ownsRow wr.heap.size 28 2 v want.length (sgCells want) := by
          have h := HE2.out
          rw [← h]; exact hown4
        have hwant := own_below hown hb4
        have hbr4 := hbr.trans (hb4.mono hbr.size)
        clear hown4 hown hb4 hbr
        go_wp2_with fail
        refine (same_any want _ _ _ _ _ hown5 hwant).mono ?_
        rintro e w5 ⟨rfl, hb5⟩
        have hbr5 := hbr4.trans (hb5.mono hbr4.size)
        clear hown5 hwant
        go_wp2_with fail
        refine (wakes_any _).mono ?_
        rintro e w6 ⟨rfl, hb6⟩
        go_wp2_with fail
        go_ret
        exact ⟨rfl, hbr5.trans (hb6.mono hbr5.size)⟩
      · have hlt' : ¬ (i : Int) < (ll : Int) := by omega
        have hltd : decide ((i : Int) < (ll : Int)) = false := by simpa using hlt'
        go_wp2_with fail
        refine (signs_ok _ _ ?_ ?_).mono ?_
        · exact HZ.out
        · exact HE1.out
        rintro e w4 ⟨v, rfl, hown4, hb4⟩
        have hown5 : w4.ownsRow wr.heap.size 28 2 v want.length (sgCells want) := by
          have h := HE2.out
          rw [← h]; exact hown4
        have hwant := own_below hown hb4
        have hbr4 := hbr.trans (hb4.mono hbr.size)
        clear hown4 hown hb4 hbr
        go_wp2_with fail
        refine (same_any want _ _ _ _ _ hown5 hwant).mono ?_
        rintro e w5 ⟨rfl, hb5⟩
        have hbr5 := hbr4.trans (hb5.mono hbr4.size)
        clear hown5 hwant
        go_wp2_with fail
        refine (wakes_any _).mono ?_
        rintro e w6 ⟨rfl, hb6⟩
        go_wp2_with fail
        go_ret
        exact ⟨rfl, hbr5.trans (hb6.mono hbr5.size)⟩

end Go.Proofs.Ytpopboanflnphaa
