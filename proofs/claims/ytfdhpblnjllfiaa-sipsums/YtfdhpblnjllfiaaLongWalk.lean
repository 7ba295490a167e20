/- The walk of the statement SipLong. -/
import Derived.Test.YtfdhpblnjllfiaaKnownWalk
namespace Go.Proofs.Ytfdhpblnjllfiaa
open Go.RowKit
set_option linter.unusedVariables false

/-- A key of what bytes there are, then noughts. -/
def padK (f : Nat → BitVec 8) (l : Nat) : Nat → BitVec 8 := fun i => if i < l then f i else 0
theorem key_cells {W : World} {b t : Nat} {K : Nat → BitVec 8} (h : Blk W b t (keyV K)) : ∀ j, j < 16 → W.cell? ⟨b, j, none⟩ = some (.int .u8 (ub (K j))) :=
  fun j hj => by rw [h.cell, keyV_get K j hj]
theorem key_splice (f : Nat → BitVec 8) (l : Nat) : splice (cellsB (fun _ => 0) 16) 0 (cellsB f (min l 16)) = cellsB (padK f l) 16 := by
  rw [splice_bytes _ _ _ _ (by omega)]
  apply cellsB_ext
  intro i hi
  unfold padK
  by_cases h : i < l
  · rw [if_pos (by omega), if_pos h]
  · rw [if_neg (by omega), if_neg h]
theorem key_zero' : (cellsB (fun _ => 0) 16).toArray = #[.int .u8 0, .int .u8 0, .int .u8 0, .int .u8 0, .int .u8 0, .int .u8 0, .int .u8 0, .int .u8 0, .int .u8 0, .int .u8 0, .int .u8 0, .int .u8 0, .int .u8 0, .int .u8 0, .int .u8 0, .int .u8 0] := rfl
/-- Steps of a number, as bytes; the first n of them, then noughts. -/
def steps (s : Int) (n : Nat) : Nat → BitVec 8 := fun i => if i < n then byteOf (i * s) else 0
theorem steps_put (s : Int) (n : Nat) : putB (steps s n) n (byteOf (n * s)) = steps s (n + 1) := by
  funext i
  unfold putB steps
  by_cases h : i = n
  · subst h; simp
  · rw [if_neg h]
    by_cases h2 : i < n
    · rw [if_pos h2, if_pos (by omega)]
    · rw [if_neg h2, if_neg (by omega)]

set_option maxHeartbeats 1000000 in
set_option maxRecDepth 100000 in
theorem long_walk (ka : Option Addr) (kl kc : Nat) (kf : Nat → BitVec 8) (n step : Int) (w : World) (hb : HasBytes w ka kl kf) (hk : SliceOk ka kl kc) (hl : kl ≤ 140737488351232)
    (h1 : -9223372036854775808 ≤ n) (h2 : n ≤ 9223372036854775807) (h3 : -9223372036854775808 ≤ step) (h4 : step ≤ 9223372036854775807) :
    Calls Try.prog 3 #[.slice ka kl kc, .int .i64 n, .int .i64 step] w fun e w' => e = .returned (.bool true) ∧ Below w.heap.size w w' := by
  obtain ⟨i1, gi, gz0, gz1, gz2⟩ := info_parts infoByte
  have HB0 : Hid (Blk (w.alloc (.cells #[.int .u8 0, .int .u8 0, .int .u8 0, .int .u8 0, .int .u8 0, .int .u8 0, .int .u8 0, .int .u8 0, .int .u8 0, .int .u8 0, .int .u8 0, .int .u8 0, .int .u8 0, .int .u8 0, .int .u8 0, .int .u8 0] 24)) w.heap.size 24 (cellsB (fun _ => 0) 16).toArray) := Blk.new _ _ _
  have HW0 : Hid (Below w.heap.size w (w.alloc (.cells #[.int .u8 0, .int .u8 0, .int .u8 0, .int .u8 0, .int .u8 0, .int .u8 0, .int .u8 0, .int .u8 0, .int .u8 0, .int .u8 0, .int .u8 0, .int .u8 0, .int .u8 0, .int .u8 0, .int .u8 0, .int .u8 0] 24))) := (Below.refl _ _).alloc (Nat.le_refl _) _
  have HC : Hid (HasBytes (w.alloc (.cells #[.int .u8 0, .int .u8 0, .int .u8 0, .int .u8 0, .int .u8 0, .int .u8 0, .int .u8 0, .int .u8 0, .int .u8 0, .int .u8 0, .int .u8 0, .int .u8 0, .int .u8 0, .int .u8 0, .int .u8 0, .int .u8 0] 24)) ka kl kf) := hb.below HW0.out
  obtain ⟨m, hm⟩ : ∃ m : Nat, n % 300 = m := ⟨(n % 300).toNat, by omega⟩
  have hm300 : m < 300 := by omega
  have HM : Hid (n % 300 = m) := hm
  obtain ⟨s, hs⟩ : ∃ s : Nat, step % 256 = s := ⟨(step % 256).toNat, by omega⟩
  have hs256 : s < 256 := by omega
  have HS : Hid (step % 256 = s) := hs
  have hbw : ∀ n, IntKind.u8.wrap n = ub (byteOf n) := byte_wrap
  clear hm hs hb hk
  go_enter Try.func3, Try.ntmps3
  go_wp2_with (refine wpList_copy_splice rfl (.tmp 10) (.tmp 11) 22 22 rfl 5 Try.underlying22 infoByte1 _ _ _ _ _ _ rfl rfl w.heap.size 0 (cellsB (fun _ => 0) 16) 24 HB0.out (cellsB kf (min kl 16)) (by rw [cellsB_length]) (fun hp => ⟨rfl, (HC.out.cut (by omega)).src (by rw [cellsB_length] at hp; exact hp)⟩) (by rw [cellsB_length, cellsB_length]; omega) (cellsB_one _ _) w.heap.size w HW0.out (Nat.le_refl _) ?_; intro w1 hg1 hb1)
  have hB1 : Blk w1 w.heap.size 24 (keyV (padK kf kl)) := by
    unfold keyV
    rw [← key_splice]
    exact hg1
  have HB1 : Hid (Blk w1 w.heap.size 24 (keyV (padK kf kl))) := hB1
  have HW1 : Hid (Below w.heap.size w w1) := hb1
  have HL1 : Hid (w.heap.size + 1 ≤ w1.heap.size) := hB1.lt
  clear HB0 HW0 HC hg1 hb1 hB1
  refine calls_same (within_any n 300 _ (by omega) (by omega) h1 h2) ?_
  rw [HM.out]
  go_wp2_with (at_make; refine wpList_make_full _ rfl _ _ 22 rfl (w.heap.size + 1) 5 i1 (.int .u8 0) 1 Try.underlying22 gi gz0 gz1 .i64 .i64 _ _ m rfl rfl (by omega) (by omega) (by rw [gz2]; omega) (by unfold maxLen; omega) HL1.out ?_; intro w2 hown hgrow)
  rw [made_bytes] at hown
  have hW2 : Below w.heap.size w w2 := HW1.out.grown hgrow HW1.out.size (fun j hj => by cases hj)
  have hB2 : Blk w2 w.heap.size 24 (keyV (padK kf kl)) := grown_blk (B := w.heap.size + 1) HB1.out hgrow (fun j hj => by cases hj) (by omega)
  have hg2 : w.heap.size + 1 ≤ w1.heap.size := HL1.out
  clear hgrow HB1 HW1
  generalize w1.heap.size = g at *
  go_loopw [19] (fun s19 wr => ∃ i : Nat, i ≤ m ∧ s19 = .int .i64 i ∧ wr.ownsRow (w.heap.size + 1) 5 1 (.slice (some ⟨g, 0, none⟩) m m) m (cellsB (steps s i) m) ∧ Blk wr w.heap.size 24 (keyV (padK kf kl)) ∧ Below w.heap.size w wr) (fun s19 _ => m - (intOf s19).toNat)
  case atStart => exact ⟨0, by omega, rfl, hown, hB2, hW2⟩
  case round =>
    clear hown hB2 hW2
    obtain ⟨i, him, rfl, hown, hB, hW⟩ := hrel
    have HB : Hid (Blk wr w.heap.size 24 (keyV (padK kf kl))) := hB
    have HW : Hid (Below w.heap.size w wr) := hW
    clear hB hW
    by_cases hlt : i < m
    · have hlt' : (i : Int) < (m : Int) := by omega
      have hc : wr.cell? ⟨g, i, none⟩ = some (.int .u8 (ub (steps s i i))) := (hown.cellAt i (by omega)).trans (cellsB_get _ _ _ hlt)
      have hf : wr.frozen? ⟨g, i, none⟩ = false := hown.frozenAt i
      have hst := hown.stored i (.int .u8 (ub (byteOf (i * s))))
      rw [cellsB_set _ _ _ _ hlt, steps_put] at hst
      obtain ⟨hst1, _⟩ := hst
      have hW2 : Below w.heap.size w (wr.setCell ⟨g, i, none⟩ (.int .u8 (ub (byteOf (i * s))))) := HW.out.setCell (by show w.heap.size ≤ g; omega) _
      have hB2 : Blk (wr.setCell ⟨g, i, none⟩ (.int .u8 (ub (byteOf (i * s))))) w.heap.size 24 (keyV (padK kf kl)) := (Below.heap_setCell _ _ _ _ (by show w.heap.size ≠ g; omega)).trans HB.out
      have hpr : (i : Int) * (s : Int) ≤ 76800 := by
        have h1 : i * s ≤ 300 * 256 := Nat.mul_le_mul (by omega) (by omega)
        have h2 : ((i * s : Nat) : Int) = (i : Int) * (s : Int) := Int.natCast_mul i s
        omega
      have hpr0 : 0 ≤ (i : Int) * (s : Int) := Int.mul_nonneg (by omega) (by omega)
      have HST : Hid ((wr.setCell ⟨g, i, none⟩ (.int .u8 (ub (byteOf (i * s))))).ownsRow (w.heap.size + 1) 5 1 (.slice (some ⟨g, 0, none⟩) m m) m (cellsB (steps s (i + 1)) m)) := hst1
      have HB2 : Hid (Blk (wr.setCell ⟨g, i, none⟩ (.int .u8 (ub (byteOf (i * s))))) w.heap.size 24 (keyV (padK kf kl))) := hB2
      have HW2 : Hid (Below w.heap.size w (wr.setCell ⟨g, i, none⟩ (.int .u8 (ub (byteOf (i * s)))))) := hW2
      clear hst1 hB2 hW2 hown
      go_wp2_with fail
      refine calls_same (within_any step 256 _ (by omega) (by omega) h3 h4) ?_
      rw [HS.out]
      go_wp2_with fail
      go_roundw
      case rel => exact ⟨i + 1, by omega, by go_num, HST.out, HB2.out, HW2.out⟩
      case measure => simp [intOf]; omega
    · have hlt' : ¬ (i : Int) < (m : Int) := by omega
      have hmi : i = m := by omega
      subst hmi
      have HBY : Hid (HasBytes wr.drew (some ⟨g, 0, none⟩) i (steps s i)) := own_bytes hown
      have HBK : Hid (Blk wr.drew w.heap.size 24 (keyV (padK kf kl))) := HB.out
      have HOK : Hid (SliceOk (some ⟨g, 0, none⟩) i i) := ⟨(fun h => by cases h), by omega, by omega⟩
      have hld := key_cells (W := wr) HB.out
      clear hown hlt' hlt
      go_wp2_with fail
      go_region_with (first
        | (go_at_call 9; refine (sum_any (padK kf kl) (steps s i) _ i i _ HBY.out HOK.out).mono ?_; rintro e w3 ⟨rfl, hb3⟩; have hld3 := key_cells (HBK.out.below hb3 HBK.out.lt))
        | (go_at_call 10; refine (refSip_any (padK kf kl) (steps s i) _ i i _ (HBY.out.below hb3) HOK.out (by omega)).mono ?_; rintro e w4 ⟨rfl, hb4⟩)
        | (go_at_call 11; refine (wakes_any _).mono ?_; rintro e w5 ⟨rfl, hb5⟩))
      all_goals
        have hE : Below w.heap.size w w5 := below_three HW.out.drew hb3 hb4 hb5 HW.out.size
        clear hld hld3 hb3 hb4 hb5
        go_wp2_with fail
        go_ret
        exact ⟨rfl, hE⟩

end Go.Proofs.Ytfdhpblnjllfiaa
