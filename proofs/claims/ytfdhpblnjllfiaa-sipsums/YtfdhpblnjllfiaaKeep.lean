/- The helpers of the statements on bytes: what each answers. -/
import Derived.Test.YtfdhpblnjllfiaaBits
import Derived.Laws.CopyOwn
import Derived.Laws.BytesArg
namespace Go.Proofs.Ytfdhpblnjllfiaa
open Go.RowKit
set_option linter.unusedVariables false

theorem emod_of_tmod (v n : Int) (hn : 1 ≤ n) : v % n = if Int.tmod v n < 0 then Int.tmod v n + n else Int.tmod v n := by
  have h1 := Int.emod_nonneg v (show n ≠ 0 by omega)
  have h2 := Int.emod_lt_of_pos v (show 0 < n by omega)
  rw [Int.tmod_eq_emod]
  split <;> split <;> omega

set_option maxHeartbeats 400000 in
theorem within_any (v n : Int) (w : World) (hn : 1 ≤ n) (hn2 : n ≤ 4611686018427387904) (hv : -9223372036854775808 ≤ v) (hv2 : v ≤ 9223372036854775807) :
    Calls Try.prog 8 #[.int .i64 v, .int .i64 n] w fun e w' => e = .returned (.int .i64 (v % n)) ∧ w' = w := by
  have hm1 := Int.tmod_lt_of_pos v (show 0 < n by omega)
  have hm2 : -n < Int.tmod v n := by
    have := Int.tmod_lt_of_pos (-v) (show 0 < n by omega)
    rw [Int.neg_tmod] at this; omega
  have H : Hid (v % n = if Int.tmod v n < 0 then Int.tmod v n + n else Int.tmod v n) := emod_of_tmod v n hn
  by_cases hc : Int.tmod v n < 0
  · go_enter Try.func8, Try.ntmps8
    go_wp2
    go_ret
    exact ⟨ret_int (by rw [H.out, if_pos hc]), rfl⟩
  · go_enter Try.func8, Try.ntmps8
    go_wp2
    go_ret
    exact ⟨ret_int (by rw [H.out, if_neg (by omega)]), rfl⟩

set_option maxHeartbeats 1000000 in
set_option maxRecDepth 100000 in
theorem copy_any (ao : Option Addr) (m c : Nat) (f : Nat → BitVec 8) (w : World) (hr : HasBytes w ao m f) (hn : SliceOk ao m c) (hm : m ≤ 140737488355328) :
    Calls Try.prog 15 #[.slice ao m c] w fun e w' => ∃ v, e = .returned v ∧ w'.ownsRow w.heap.size 5 1 v m (cellsB f m) ∧ Below w.heap.size w w' := by
  obtain ⟨i0, hi, hz0, hz1, hz2⟩ := info_parts infoByte
  have HR : Hid (HasBytes w ao m f) := hr
  obtain ⟨hnone, _, _⟩ := hn
  clear hr
  cases ao with
  | none =>
    obtain ⟨rfl, rfl⟩ := hnone rfl
    go_enter Try.func15, Try.ntmps15
    go_wp2_with (at_builtin; refine wpList_append_own_none rfl (.const (.slice none 0 0)) (.tmp 3) 22 rfl w.heap.size 5 i0 1 Try.underlying22 hi _ _ _ rfl (World.ownsRow_nil _ _ _ _) rfl ?_)
    go_ret
    exact ⟨_, rfl, World.ownsRow_nil _ _ _ _, Below.refl _ _⟩
  | some ad =>
    clear hnone
    go_enter Try.func15, Try.ntmps15
    go_wp2_with (at_builtin; refine wpList_append_own _ rfl (.const (.slice none 0 0)) (.tmp 3) 22 rfl w.heap.size 5 i0 (.int .u8 0) 1 1 Try.underlying22 hi hz0 hz1 hz2 rfl (by decide) _ _ _ rfl (World.ownsRow_nil _ _ _ _) ad m c (cellsB f m) rfl (by rw [cellsB_length]; omega) HR.out.news (cellsB_one _ _) (by unfold maxLen; omega) (by omega) (Nat.le_refl _) ?_; intro v2 w2 hown2 hgrow2 _)
    go_ret
    refine ⟨_, rfl, ?_, ?_⟩
    · simpa using hown2
    · exact (Below.refl _ _).grown hgrow2 (Nat.le_refl _) (fun k hk => by simp [Value.ownBlock, Act.eval] at hk)

theorem HasBytes.cut {w : World} {a : Option Addr} {l m : Nat} {f : Nat → BitVec 8} (h : HasBytes w a l f) (hm : m ≤ l) : HasBytes w a m f := fun i hi => h i (by omega)

set_option maxHeartbeats 1000000 in
set_option maxRecDepth 100000 in
theorem cut_any (ao : Option Addr) (l c n : Nat) (f : Nat → BitVec 8) (w : World) (hr : HasBytes w ao l f) (hn : SliceOk ao l c) (hm : n ≤ 1000) :
    Calls Try.prog 16 #[.slice ao l c, .int .i64 n] w fun e w' => ∃ v, e = .returned v ∧ w'.ownsRow w.heap.size 5 1 v (min l n) (cellsB f (min l n)) ∧ Below w.heap.size w w' := by
  obtain ⟨hnn, hlc, hc⟩ := hn
  have HR : Hid (HasBytes w ao l f) := hr
  clear hr
  cases ao with
  | none =>
    obtain ⟨rfl, rfl⟩ := hnn rfl
    have hnn' : (0 : Int) ≤ (n : Int) := by omega
    go_enter Try.func16, Try.ntmps16
    go_wp2_with fail
    refine (copy_any none 0 0 f w (fun i hi => absurd hi (by omega)) ⟨fun _ => ⟨rfl, rfl⟩, by omega, by omega⟩ (by omega)).mono ?_
    rintro e w1 ⟨v, rfl, hown, hb⟩
    go_wp2_with fail
    go_ret
    exact ⟨_, rfl, by rw [Nat.zero_min]; exact hown, hb⟩
  | some ad =>
    clear hnn
    by_cases h : l ≤ n
    · have h' : (l : Int) ≤ (n : Int) := by omega
      rw [Nat.min_eq_left h]
      go_enter Try.func16, Try.ntmps16
      go_wp2_with fail
      refine (copy_any (some ad) l _ f w HR.out ⟨(fun h => by cases h), hlc, hc⟩ (by omega)).mono ?_
      rintro e w1 ⟨v, rfl, hown, hb⟩
      go_wp2_with fail
      go_ret
      exact ⟨_, rfl, hown, hb⟩
    · have h' : (n : Int) < (l : Int) := by omega
      rw [Nat.min_eq_right (by omega)]
      go_enter Try.func16, Try.ntmps16
      go_wp2_with fail
      refine (copy_any (some ad) n _ f w (HR.out.cut (by omega)) ⟨(fun h => by cases h), by omega, hc⟩ (by omega)).mono ?_
      rintro e w1 ⟨v, rfl, hown, hb⟩
      go_wp2_with fail
      go_ret
      exact ⟨_, rfl, hown, hb⟩

theorem u8_of (x : BitVec 64) : IntKind.u8.wrap (un x) = ub (x.setWidth 8) := by
  unfold ub un
  rw [BitVec.toNat_setWidth]
  simp [IntKind.wrap, IntKind.bits, IntKind.signed]
theorem u8_at (n : BitVec 64) (k : Nat) : IntKind.u8.wrap (un n / 2 ^ (8 * k)) = ub (byteAt n k) := by
  rw [un_shr, u8_of]; rfl
/-- The first k bytes of a number, then noughts. -/
def byteTo (n : BitVec 64) (k : Nat) : Nat → BitVec 8 := fun i => if i < k then byteAt n i else 0
theorem byteTo_put (n : BitVec 64) (k : Nat) : putB (byteTo n k) k (byteAt n k) = byteTo n (k + 1) := by
  funext i
  unfold putB byteTo
  by_cases h : i = k
  · subst h; simp
  · rw [if_neg h]
    by_cases h2 : i < k
    · rw [if_pos h2, if_pos (by omega)]
    · rw [if_neg h2, if_neg (by omega)]

set_option maxHeartbeats 1000000 in
set_option maxRecDepth 100000 in
theorem bytes_any (n : BitVec 64) (w : World) :
    Calls Try.prog 12 #[.int .u64 (un n)] w fun e w' => e = .returned (.slice (some ⟨w.heap.size, 0, none⟩) 8 8) ∧ w'.ownsRow w.heap.size 5 1 (.slice (some ⟨w.heap.size, 0, none⟩) 8 8) 8 (cellsB (byteAt n) 8) ∧ Below w.heap.size w w' := by
  obtain ⟨i1, gi, gz0, gz1, gz2⟩ := info_parts infoByte
  go_enter Try.func12, Try.ntmps12
  go_wp2_with (at_make; refine wpList_make_full _ rfl _ _ 22 rfl w.heap.size 5 i1 (.int .u8 0) 1 Try.underlying22 gi gz0 gz1 .i64 .i64 _ _ 8 rfl rfl (by omega) (by omega) (by rw [gz2]; omega) (by unfold maxLen; omega) (Nat.le_refl _) ?_; intro w1 hown hgrow)
  rw [made_bytes] at hown
  have hb1 : Below w.heap.size w w1 := (Below.refl _ _).grown hgrow (Nat.le_refl _) (fun j hj => by cases hj)
  clear hgrow
  go_loopw [8] (fun s8 wr => ∃ k : Nat, k ≤ 8 ∧ s8 = .int .i64 k ∧ wr.ownsRow w.heap.size 5 1 (.slice (some ⟨w.heap.size, 0, none⟩) 8 8) 8 (cellsB (byteTo n k) 8) ∧ Below w.heap.size w wr) (fun s8 _ => 8 - (intOf s8).toNat)
  case atStart => exact ⟨0, by omega, rfl, hown, hb1⟩
  case round =>
    clear hown hb1
    obtain ⟨k, hk, rfl, hownr, hbr⟩ := hrel
    by_cases hlt : k < 8
    · have hlt' : (k : Int) < 8 := by omega
      have hc : wr.cell? ⟨w.heap.size, k, none⟩ = some (.int .u8 (ub (byteTo n k k))) := (hownr.cellAt k (by omega)).trans (cellsB_get _ _ _ hlt)
      have hf : wr.frozen? ⟨w.heap.size, k, none⟩ = false := hownr.frozenAt k
      have hst := hownr.stored k (.int .u8 (ub (byteAt n k)))
      rw [cellsB_set _ _ _ _ hlt, byteTo_put] at hst
      obtain ⟨hst1, hst2⟩ := hst
      have hbr2 : Below w.heap.size w (wr.setCell ⟨w.heap.size, k, none⟩ (.int .u8 (ub (byteAt n k)))) := hbr.setCell (Nat.le_refl _) _
      have hat := u8_at n k
      have h8 : 8 * k ≤ 64 := by omega
      clear hst2 hownr hbr
      go_wp2_with fail
      go_roundw
      case rel => exact ⟨k + 1, by omega, by go_num, hst1, hbr2⟩
      case measure => simp [intOf]; omega
    · have hlt' : ¬ (k : Int) < 8 := by omega
      have hk8 : k = 8 := by omega
      subst hk8
      rw [cellsB_ext (byteTo n 8) (byteAt n) 8 (fun i hi => by unfold byteTo; rw [if_pos hi])] at hownr
      go_wp2_with fail
      go_ret
      exact ⟨rfl, hownr, hbr⟩

set_option maxHeartbeats 1000000 in
set_option maxRecDepth 100000 in
theorem refBytes_any (n : BitVec 64) (w : World) :
    Calls Try.prog 19 #[.int .u64 (un n)] w fun e w' => ∃ v, e = .returned v ∧ w'.ownsRow w.heap.size 5 1 v 8 (cellsB (byteAt n) 8) ∧ Below w.heap.size w w' := by
  obtain ⟨i1, gi, gz0, gz1, gz2⟩ := info_parts infoByte
  go_enter Try.func19, Try.ntmps19
  go_wp2_with fail
  go_loopw [3, 4] (fun s3 s4 wr => ∃ k : Nat, k ≤ 8 ∧ s4 = .int .i64 k ∧ wr.ownsRow w.heap.size 5 1 s3 k (cellsB (byteAt n) k) ∧ Below w.heap.size w wr) (fun _ s4 _ => 8 - (intOf s4).toNat)
  case atStart => exact ⟨0, by omega, rfl, World.ownsRow_nil _ _ _ _, Below.refl _ _⟩
  case round =>
    obtain ⟨k, hk, rfl, hownr, hbr⟩ := hrel
    by_cases hlt : k < 8
    · have hlt' : (k : Int) < 8 := by omega
      have hat := u8_at n k
      have h8 : 8 * k ≤ 64 := by omega
      go_wp2_with (at_builtin; refine wpList_append_own _ rfl (.tmp 9) (.tmp 16) 22 rfl w.heap.size 5 i1 (.int .u8 0) 1 1 Try.underlying22 gi gz0 gz1 gz2 rfl (by decide) _ _ _ rfl (hownr.alloc _) ⟨wr.heap.size, 0, none⟩ 1 1 [.int .u8 (ub (byteAt n k))] rfl rfl (cell_one_at wr _ _) (by intro u hu; simp at hu; subst hu; rfl) (by unfold maxLen; omega) (by omega) (by have := hbr.size; simp; omega) ?_; intro v2 w2 hown2 hgrow2 _)
      have hbr2 : Below w.heap.size w w2 := (hbr.alloc hbr.size _).grown hgrow2 (by have := hbr.size; simp; omega) (fun k hk => (hownr.lt k hk).1)
      rw [← cellsB_snoc] at hown2
      go_roundw
      case rel => exact ⟨k + 1, by omega, by go_num, hown2, hbr2⟩
      case measure => simp [intOf]; omega
    · have hlt' : ¬ (k : Int) < 8 := by omega
      have hk8 : k = 8 := by omega
      subst hk8
      go_wp2_with fail
      go_ret
      exact ⟨_, rfl, hownr, hbr⟩

end Go.Proofs.Ytfdhpblnjllfiaa
