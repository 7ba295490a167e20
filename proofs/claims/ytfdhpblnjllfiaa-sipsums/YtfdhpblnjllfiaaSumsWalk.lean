/- The walk of the statement SipSums. -/
import Derived.Test.YtfdhpblnjllfiaaLongWalk
import Derived.Deep.RegionLaw
namespace Go.Proofs.Ytfdhpblnjllfiaa
open Go.RowKit
set_option linter.unusedVariables false
set_option linter.unusedSimpArgs false

theorem lent_bytes {w : World} {b t m : Nat} {f : Nat → BitVec 8} (h : Blk w b t (cellsB (lentF f m (m + 3)) (m + 3)).toArray) : HasBytes w (some ⟨b, 0, none⟩) m f := by
  intro i hi
  refine ⟨b, 0, rfl, ?_⟩
  rw [Nat.zero_add, h.cellB i (by omega)]
  unfold lentF
  rw [if_pos hi]
theorem drew_below {w w' : World} (h : ∃ n, w' = w.drewN n) : Below w.heap.size w w' := by
  obtain ⟨n, rfl⟩ := h
  exact below_drewN (Below.refl _ _) n
theorem num_back (n : BitVec 64) : numR (byteAt n) 8 = (un n, true) := by unfold numR; rw [if_pos rfl, hi_back]
theorem num_few (f : Nat → BitVec 8) (m : Nat) : numR f (min m 7) = (0, false) := by unfold numR; rw [if_neg (by omega)]
theorem below_step {B : Nat} {w a b : World} (h : Below B w a) (h1 : Below a.heap.size a b) (hB : B ≤ a.heap.size) : Below B w b := h.trans (h1.mono hB)

set_option maxHeartbeats 4000000 in
set_option maxRecDepth 100000 in
theorem sums_walk (ka : Option Addr) (kl kc : Nat) (kf : Nat → BitVec 8) (ba : Option Addr) (bl bc : Nat) (f : Nat → BitVec 8) (n : BitVec 64) (w : World) (hb : HasBytes w ka kl kf) (hk : SliceOk ka kl kc) (hl : kl ≤ 140737488351232)
    (hb' : HasBytes w ba bl f) (hk' : SliceOk ba bl bc) (hl' : bl ≤ 140737488351232) :
    Calls Try.prog 5 #[.slice ka kl kc, .slice ba bl bc, .int .u64 (un n)] w fun e w' => e = .returned (.bool true) ∧ Below w.heap.size w w' := by
  have HB0 : Hid (Blk (w.alloc (.cells #[.int .u8 0, .int .u8 0, .int .u8 0, .int .u8 0, .int .u8 0, .int .u8 0, .int .u8 0, .int .u8 0, .int .u8 0, .int .u8 0, .int .u8 0, .int .u8 0, .int .u8 0, .int .u8 0, .int .u8 0, .int .u8 0] 24)) w.heap.size 24 (cellsB (fun _ => 0) 16).toArray) := Blk.new _ _ _
  have HW0 : Hid (Below w.heap.size w (w.alloc (.cells #[.int .u8 0, .int .u8 0, .int .u8 0, .int .u8 0, .int .u8 0, .int .u8 0, .int .u8 0, .int .u8 0, .int .u8 0, .int .u8 0, .int .u8 0, .int .u8 0, .int .u8 0, .int .u8 0, .int .u8 0, .int .u8 0] 24))) := (Below.refl _ _).alloc (Nat.le_refl _) _
  have HC : Hid (HasBytes (w.alloc (.cells #[.int .u8 0, .int .u8 0, .int .u8 0, .int .u8 0, .int .u8 0, .int .u8 0, .int .u8 0, .int .u8 0, .int .u8 0, .int .u8 0, .int .u8 0, .int .u8 0, .int .u8 0, .int .u8 0, .int .u8 0, .int .u8 0] 24)) ka kl kf) := hb.below HW0.out
  have HB : Hid (HasBytes w ba bl f) := hb'
  have HBK : Hid (SliceOk ba bl bc) := hk'
  clear hb hk hb' hk'
  go_enter Try.func5, Try.ntmps5
  go_wp2_with (refine wpList_copy_splice rfl (.tmp 13) (.tmp 14) 22 22 rfl 5 Try.underlying22 infoByte1 _ _ _ _ _ _ rfl rfl w.heap.size 0 (cellsB (fun _ => 0) 16) 24 HB0.out (cellsB kf (min kl 16)) (by rw [cellsB_length]) (fun hp => ⟨rfl, (HC.out.cut (by omega)).src (by rw [cellsB_length] at hp; exact hp)⟩) (by rw [cellsB_length, cellsB_length]; omega) (cellsB_one _ _) w.heap.size w HW0.out (Nat.le_refl _) ?_; intro w1 hg1 hb1)
  have HB1 : Hid (Blk w1 w.heap.size 24 (keyV (padK kf kl))) := by
    unfold keyV Hid
    rw [← key_splice]
    exact hg1
  have HW1 : Hid (Below w.heap.size w w1) := hb1
  clear HB0 HW0 HC hg1 hb1
  refine (cut_any ba bl bc 80 f w1 (HB.out.below HW1.out) HBK.out (by omega)).mono ?_
  rintro e w2 ⟨v, rfl, hown, hb2⟩
  have HW2 : Hid (Below w.heap.size w w2) := below_step HW1.out hb2 HW1.out.size
  have HB2 : Hid (Blk w2 w.heap.size 24 (keyV (padK kf kl))) := HB1.out.below hb2 HB1.out.lt
  have hm80 : min bl 80 ≤ 80 := by omega
  generalize min bl 80 = m at *
  obtain ⟨co, cc, rfl, hok, hby, hzz⟩ := own_any hown
  have HOK : Hid (SliceOk co m cc) := hok
  have HBY : Hid (HasBytes w2 co m f) := hby
  clear hown hb2 hok hby hzz HB1 HW1 HB HBK
  go_wp2_with fail
  refine (lend_any co m cc f w2 HBY.out HOK.out (by omega)).mono ?_
  rintro e w3 ⟨rfl, hL3, hb3⟩
  have HW3 : Hid (Below w.heap.size w w3) := below_step HW2.out hb3 HW2.out.size
  have HB3 : Hid (Blk w3 w.heap.size 24 (keyV (padK kf kl))) := HB2.out.below hb3 HB2.out.lt
  have HBY3 : Hid (HasBytes w3 co m f) := HBY.out.below hb3
  have HL3 : Hid (Blk w3 w2.heap.size 5 (cellsB (lentF f m (m + 3)) (m + 3)).toArray) := hL3
  clear hb3 hL3 HW2 HB2 HBY
  generalize w2.heap.size = lb at *
  go_wp2_with fail
  refine (bytes_any n w3).mono ?_
  rintro e w4 ⟨rfl, hown4, hb4⟩
  have HW4 : Hid (Below w.heap.size w w4) := below_step HW3.out hb4 HW3.out.size
  have HB4 : Hid (Blk w4 w.heap.size 24 (keyV (padK kf kl))) := HB3.out.below hb4 HB3.out.lt
  have HBY4 : Hid (HasBytes w4 co m f) := HBY3.out.below hb4
  have HL4 : Hid (Blk w4 lb 5 (cellsB (lentF f m (m + 3)) (m + 3)).toArray) := HL3.out.below hb4 HL3.out.lt
  have HN4 : Hid (HasBytes w4 (some ⟨w3.heap.size, 0, none⟩) 8 (byteAt n)) := own_bytes hown4
  clear hb4 hown4 HW3 HB3 HBY3 HL3
  go_wp2_with fail
  refine calls_same (numberR_any _ 8 8 (byteAt n) w4 HN4.out) ?_
  rw [num_back]
  clear HN4
  go_wp2_with fail
  refine (cut_any co m cc 7 f w4 HBY4.out HOK.out (by omega)).mono ?_
  rintro e w5 ⟨v5, rfl, hown5, hb5⟩
  have HW5 : Hid (Below w.heap.size w w5) := below_step HW4.out hb5 HW4.out.size
  have HB5 : Hid (Blk w5 w.heap.size 24 (keyV (padK kf kl))) := HB4.out.below hb5 HB4.out.lt
  have HBY5 : Hid (HasBytes w5 co m f) := HBY4.out.below hb5
  have HL5 : Hid (Blk w5 lb 5 (cellsB (lentF f m (m + 3)) (m + 3)).toArray) := HL4.out.below hb5 HL4.out.lt
  obtain ⟨c5, cc5, rfl, hzz, hby5, hyy⟩ := own_any hown5
  have HBY7 : Hid (HasBytes w5 c5 (min m 7) f) := hby5
  clear hb5 hown5 hby5 hzz hyy HW4 HB4 HBY4 HL4
  go_wp2_with fail
  refine calls_same (numberR_any _ _ _ f w5 HBY7.out) ?_
  rw [num_few]
  clear HBY7
  have HOL : Hid (SliceOk (some ⟨lb, 0, none⟩) m (m + 3)) := ⟨(fun h => by cases h), by omega, by omega⟩
  have HLE : Hid (HasBytes w5.drew (some ⟨lb, 0, none⟩) m f) := lent_bytes HL5.out
  have HBD : Hid (Blk w5.drew w.heap.size 24 (keyV (padK kf kl))) := HB5.out
  have HLD : Hid (Blk w5.drew lb 5 (cellsB (lentF f m (m + 3)) (m + 3)).toArray) := HL5.out
  have HYD : Hid (HasBytes w5.drew co m f) := HBY5.out
  have HWD : Hid (Below w.heap.size w w5.drew) := HW5.out.drew
  have hld := key_cells (W := w5) HB5.out
  have HKV : Hid ((#[.int .u8 (ub (padK kf kl 0)), .int .u8 (ub (padK kf kl 1)), .int .u8 (ub (padK kf kl 2)), .int .u8 (ub (padK kf kl 3)), .int .u8 (ub (padK kf kl 4)), .int .u8 (ub (padK kf kl 5)), .int .u8 (ub (padK kf kl 6)), .int .u8 (ub (padK kf kl 7)), .int .u8 (ub (padK kf kl 8)), .int .u8 (ub (padK kf kl 9)), .int .u8 (ub (padK kf kl 10)), .int .u8 (ub (padK kf kl 11)), .int .u8 (ub (padK kf kl 12)), .int .u8 (ub (padK kf kl 13)), .int .u8 (ub (padK kf kl 14)), .int .u8 (ub (padK kf kl 15))] : Array Value) = keyV (padK kf kl)) := rfl
  clear HB5 HL5 HBY5 HW5 hl hl'
  go_wp2_with fail
  go_region_law (go_simp; first
    | (go_at_call 9; (try rw [HKV.out]); refine (sum_any (padK kf kl) f _ m (m + 3) _ HLE.out HOL.out).mono ?_; rintro e w6 ⟨rfl, hb6⟩; have hld6 := key_cells (HBD.out.below hb6 HBD.out.lt))
    | (go_at_call 10; (try rw [HKV.out]); refine (refSip_any (padK kf kl) f _ m cc _ (HYD.out.below hb6) HOK.out (by omega)).mono ?_; rintro e w7 ⟨rfl, hb7⟩; clear hld hld6)
    | (go_at_call 18; refine (intact_any lb co m cc f _ ((HLD.out.below hb6 HLD.out.lt).below hb7 (Nat.lt_of_lt_of_le HLD.out.lt hb6.size)) ((HYD.out.below hb6).below hb7) (by omega)).mono ?_; rintro e u7 ⟨rfl, hq7⟩; have hc7 := drew_below hq7; clear hq7)
    | (go_at_call 12; refine (bytes_any n _).mono ?_; rintro e w8 ⟨rfl, hown8, hb8⟩)
    | (go_at_call 19; refine (refBytes_any n _).mono ?_; rintro e w9 ⟨v9, rfl, hown9, hb9⟩; obtain ⟨ro, rc, rfl, _, hby9, _⟩ := own_any hown9)
    | (go_at_call 14; refine (same_any _ ro 8 8 rc (byteAt n) _ ((own_bytes hown8).below hb9) hby9 (by decide)).mono ?_; rintro e u9 ⟨rfl, hq9⟩; have hc9 := drew_below hq9; clear hq9; rename_i K hK; show K _ _; refine hK _ _ ?_; refine wpAny_take (i := 18) (v := .bool true) rfl (by kernel_rfl) (by kernel_rfl) (by kernel_rfl) (fun _ _ _ h => h) (Or.inl ⟨(by go_simp), fun w => (by go_simp)⟩) ?_; simp only [Act.put, List.setIfInBounds_toArray, List.set_cons_zero, List.set_cons_succ]; refine wpAny_take (i := 19) (v := .bool true) rfl (by kernel_rfl) (by kernel_rfl) (by kernel_rfl) (fun _ _ _ h => h) (Or.inl ⟨(by go_simp), fun w => (by go_simp)⟩) ?_; simp only [Act.put, List.setIfInBounds_toArray, List.set_cons_zero, List.set_cons_succ]; refine wpAny_take (i := 20) (v := .bool true) rfl (by kernel_rfl) (by kernel_rfl) (by kernel_rfl) (fun _ _ _ h => h) (Or.inl ⟨(by go_simp), fun w => (by go_simp)⟩) ?_; simp only [Act.put, List.setIfInBounds_toArray, List.set_cons_zero, List.set_cons_succ]; refine wpAny_take (i := 21) (v := .bool true) rfl (by kernel_rfl) (by kernel_rfl) (by kernel_rfl) (fun _ _ _ h => h) (Or.inl ⟨(by go_simp), fun w => (by go_simp)⟩) ?_; simp only [Act.put, List.setIfInBounds_toArray, List.set_cons_zero, List.set_cons_succ]; refine wpAny_take (i := 22) (v := .bool true) rfl (by kernel_rfl) (by kernel_rfl) (by kernel_rfl) (fun _ _ _ h => h) (Or.inl ⟨(by go_simp), fun w => (by go_simp)⟩) ?_; simp only [Act.put, List.setIfInBounds_toArray, List.set_cons_zero, List.set_cons_succ]; refine wpAny_take (i := 23) (v := .int .u64 (un n)) rfl (by kernel_rfl) (by kernel_rfl) (by kernel_rfl) (fun _ _ _ h => h) (Or.inl ⟨(by go_simp), fun w => (by go_simp)⟩) ?_; simp only [Act.put, List.setIfInBounds_toArray, List.set_cons_zero, List.set_cons_succ]; refine wpAny_take (i := 24) (v := .int .u64 (un n)) rfl (by kernel_rfl) (by kernel_rfl) (by kernel_rfl) (fun _ _ _ h => h) (Or.inl ⟨(by go_simp), fun w => (by go_simp)⟩) ?_; simp only [Act.put, List.setIfInBounds_toArray, List.set_cons_zero, List.set_cons_succ]; refine wpAny_take (i := 25) (v := .bool true) rfl (by kernel_rfl) (by kernel_rfl) (by kernel_rfl) (fun _ _ _ h => h) (Or.inl ⟨(by go_simp), fun w => (by go_simp)⟩) ?_; simp only [Act.put, List.setIfInBounds_toArray, List.set_cons_zero, List.set_cons_succ]; refine wpAny_take (i := 26) (v := .bool true) rfl (by kernel_rfl) (by kernel_rfl) (by kernel_rfl) (fun _ _ _ h => h) (Or.inl ⟨(by go_simp), fun w => (by go_simp)⟩) ?_; simp only [Act.put, List.setIfInBounds_toArray, List.set_cons_zero, List.set_cons_succ]; refine wpAny_take (i := 27) (v := .bool true) rfl (by kernel_rfl) (by kernel_rfl) (by kernel_rfl) (fun _ _ _ h => h) (Or.inl ⟨(by go_simp), fun w => (by go_simp)⟩) ?_; simp only [Act.put, List.setIfInBounds_toArray, List.set_cons_zero, List.set_cons_succ]; refine wpAny_take (i := 28) (v := .bool false) rfl (by kernel_rfl) (by kernel_rfl) (by kernel_rfl) (fun _ _ _ h => h) (Or.inl ⟨(by go_simp), fun w => (by go_simp)⟩) ?_; simp only [Act.put, List.setIfInBounds_toArray, List.set_cons_zero, List.set_cons_succ]; refine wpAny_take (i := 29) (v := .bool true) rfl (by kernel_rfl) (by kernel_rfl) (by kernel_rfl) (fun _ _ _ h => h) (Or.inl ⟨(by go_simp), fun w => (by go_simp)⟩) ?_; simp only [Act.put, List.setIfInBounds_toArray, List.set_cons_zero, List.set_cons_succ]; refine wpAny_take (i := 30) (v := .bool true) rfl (by kernel_rfl) (by kernel_rfl) (by kernel_rfl) (fun _ _ _ h => h) (Or.inl ⟨(by go_simp), fun w => (by go_simp)⟩) ?_; simp only [Act.put, List.setIfInBounds_toArray, List.set_cons_zero, List.set_cons_succ]; refine wpAny_take (i := 31) (v := .bool true) rfl (by kernel_rfl) (by kernel_rfl) (by kernel_rfl) (fun _ _ _ h => h) (Or.inl ⟨(by go_simp), fun w => (by go_simp)⟩) ?_; simp only [Act.put, List.setIfInBounds_toArray, List.set_cons_zero, List.set_cons_succ])
    | (go_at_call 11; refine (wakes_any _).mono ?_; rintro e w10 ⟨rfl, hb10⟩))
  all_goals
    have hE : Below w.heap.size w w10 := below_step (below_step (below_step (below_step (below_step (below_step (below_step HWD.out hb6 HWD.out.size) hb7 (Nat.le_trans HWD.out.size hb6.size)) hc7 (Nat.le_trans HWD.out.size (Nat.le_trans hb6.size hb7.size))) hb8 (Nat.le_trans HWD.out.size (Nat.le_trans hb6.size (Nat.le_trans hb7.size hc7.size)))) hb9 (Nat.le_trans HWD.out.size (Nat.le_trans hb6.size (Nat.le_trans hb7.size (Nat.le_trans hc7.size hb8.size))))) hc9 (Nat.le_trans HWD.out.size (Nat.le_trans hb6.size (Nat.le_trans hb7.size (Nat.le_trans hc7.size (Nat.le_trans hb8.size hb9.size)))))) hb10 (Nat.le_trans HWD.out.size (Nat.le_trans hb6.size (Nat.le_trans hb7.size (Nat.le_trans hc7.size (Nat.le_trans hb8.size (Nat.le_trans hb9.size hc9.size))))))
    clear hb6 hb7 hc7 hb8 hown8 hb9 hown9 hby9 hc9 hb10
    go_wp2_with fail
    go_ret
    exact ⟨rfl, hE⟩

end Go.Proofs.Ytfdhpblnjllfiaa
