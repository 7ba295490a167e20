/- The document's example, as the statements ask for it. -/
import Derived.Test.YtfdhpblnjllfiaaSum
namespace Go.Proofs.Ytfdhpblnjllfiaa
open Go.RowKit
set_option linter.unusedVariables false

def putB (g : Nat → BitVec 8) (k : Nat) (y : BitVec 8) : Nat → BitVec 8 := fun i => if i = k then y else g i
theorem cellsB_set (g : Nat → BitVec 8) (m k : Nat) (y : BitVec 8) (hk : k < m) : (cellsB g m).set k (.int .u8 (ub y)) = cellsB (putB g k y) m := by
  apply List.ext_getElem?
  intro i
  by_cases hi : i < m
  · rw [List.getElem?_set]
    by_cases e : k = i
    · subst e; rw [if_pos rfl, if_pos (by rw [cellsB_length]; exact hi), cellsB_get _ _ _ hi]; simp [putB]
    · rw [if_neg e, cellsB_get _ _ _ hi, cellsB_get _ _ _ hi]; unfold putB; rw [if_neg (fun h => e h.symm)]
  · rw [List.getElem?_eq_none (by rw [List.length_set, cellsB_length]; omega), List.getElem?_eq_none (by rw [cellsB_length]; omega)]
theorem cellsB_ext (f g : Nat → BitVec 8) (m : Nat) (h : ∀ i, i < m → f i = g i) : cellsB f m = cellsB g m := by
  apply List.ext_getElem?
  intro i
  by_cases hi : i < m
  · rw [cellsB_get _ _ _ hi, cellsB_get _ _ _ hi, h i hi]
  · rw [List.getElem?_eq_none (by rw [cellsB_length]; omega), List.getElem?_eq_none (by rw [cellsB_length]; omega)]
theorem keyV_set (g : Nat → BitVec 8) (k : Nat) (y : BitVec 8) (hk : k < 16) : (keyV g).setIfInBounds k (.int .u8 (ub y)) = keyV (putB g k y) := by
  unfold keyV
  rw [← cellsB_set g 16 k y hk]
  simp
theorem keyV_ext (f g : Nat → BitVec 8) (h : ∀ i, i < 16 → f i = g i) : keyV f = keyV g := by unfold keyV; rw [cellsB_ext f g 16 h]
theorem below_row {B : Nat} {a w : World} (h : Below B a w) {g : Nat} (hg : B ≤ g) (cs : Array Value) : Below B a (w.setRow g cs) :=
  h.trans ⟨rfl, rfl, rfl, by rw [setRow_size]; exact Nat.le_refl _, fun k hk => setRow_other w g k cs (by omega)⟩
theorem infoKey : (Try.prog.info? 24).map (fun i => i.size) = some 16 := by kernel_rfl
theorem keyV_one (g : Nat → BitVec 8) : (keyV g).all (·.oneCell') = true := by
  rw [Array.all_eq_true_iff_forall_mem]
  intro x hx
  simp only [keyV, List.mem_toArray, cellsB, List.mem_map] at hx
  obtain ⟨i, _, rfl⟩ := hx
  rfl
/-- 0, 1, 2, .. as bytes; the first n of them, then noughts. -/
def upto (n : Nat) : Nat → BitVec 8 := fun i => if i < n then byteOf i else 0
theorem upto_put (n : Nat) : ∀ i, putB (upto n) n (byteOf n) i = upto (n + 1) i := by
  intro i
  unfold putB upto
  by_cases h : i = n
  · subst h; simp
  · rw [if_neg h]
    by_cases h2 : i < n
    · rw [if_pos h2, if_pos (by omega)]
    · rw [if_neg h2, if_neg (by omega)]
theorem putB_eq (n : Nat) : putB (upto n) n (byteOf n) = upto (n + 1) := funext (upto_put n)
theorem key_zero : keyV (upto 0) = #[.int .u8 0, .int .u8 0, .int .u8 0, .int .u8 0, .int .u8 0, .int .u8 0, .int .u8 0, .int .u8 0, .int .u8 0, .int .u8 0, .int .u8 0, .int .u8 0, .int .u8 0, .int .u8 0, .int .u8 0, .int .u8 0] := rfl

set_option maxHeartbeats 1000000 in
set_option maxRecDepth 100000 in
theorem key_any (w : World) :
    Calls Try.prog 20 #[] w fun e w' => e = .returned (.agg (keyV (upto 16))) ∧ Below w.heap.size w w' := by
  have hbw : ∀ n, IntKind.u8.wrap n = ub (byteOf n) := byte_wrap
  go_enter Try.func20, Try.ntmps20
  go_wp2_with fail
  rw [← key_zero]
  go_loopw [3] (fun s3 wr => ∃ n : Nat, n ≤ 16 ∧ s3 = .int .i64 n ∧ Blk wr (w.heap.size + 1) 24 (keyV (upto n)) ∧ Blk wr w.heap.size 24 (keyV (upto 0)) ∧ Below w.heap.size w wr) (fun s3 _ => 16 - (intOf s3).toNat)
  case atStart => exact ⟨0, by omega, rfl, heap_alloc2_new _ _ _, heap_alloc2_old _ _ _, ((Below.refl _ _).alloc (Nat.le_refl _) _).alloc (by simp) _⟩
  case round =>
    obtain ⟨n, hn, rfl, hB, hZ, hb⟩ := hrel
    have HB : Hid (Blk wr (w.heap.size + 1) 24 (keyV (upto n))) := hB
    have HZ : Hid (Blk wr w.heap.size 24 (keyV (upto 0))) := hZ
    clear hB hZ
    by_cases hlt : n < 16
    · have hlt' : (n : Int) < 16 := by omega
      have hc : wr.cell? ⟨w.heap.size + 1, n, none⟩ = some (.int .u8 (ub (upto n n))) := by rw [HB.out.cell, keyV_get _ _ hlt]
      have hf : wr.frozen? ⟨w.heap.size + 1, n, none⟩ = false := HB.out.frozen n
      go_wp2_with fail
      go_roundw
      case rel =>
        refine ⟨n + 1, by omega, by go_num, ?_, ?_, hb.setCell (Nat.le_succ _) _⟩
        · have := HB.out.set n (.int .u8 (ub (byteOf n)))
          rw [keyV_set _ _ _ hlt, putB_eq] at this
          exact this
        · exact (Below.heap_setCell _ _ _ _ (by simp)).trans HZ.out
      case measure => simp [intOf]; omega
    · have hlt' : ¬ (n : Int) < 16 := by omega
      have hn16 : n = 16 := by omega
      subst hn16
      go_wp2_with (first
        | (refine wpList_load_row rfl 24 (.tmp 1) rfl (w.heap.size + 1) rfl 24 (keyV (upto 16)) (0, 0) _ HB.out Try.underlying24 rfl (infoKey.trans (by rw [keyV_size])) ?_)
        | (refine wpList_store_row rfl 24 (.tmp 0) (.tmp 11) rfl w.heap.size (keyV (upto 16)) rfl rfl 24 (keyV (upto 0)) HZ.out (infoKey.trans (by rw [keyV_size])) (by rw [keyV_size, keyV_size]) (keyV_one _) ?_))
      refine bodyPost_ret (results_cell_row rfl _ _ w.heap.size 24 (keyV (upto 16)) (0, 0) _ rfl (setRow_heap wr w.heap.size _ _ 24 (0, 0) HZ.out) Try.underlying24 rfl (infoKey.trans (by rw [keyV_size]))) rfl ?_
      exact ⟨rfl, below_row hb (Nat.le_refl _) _⟩

theorem infoByte : (Try.prog.info? 5).map (fun i => (i.zero, i.size, i.bytes)) = some (some (.int .u8 0), 1, 1) := by kernel_rfl
theorem made_bytes (n : Nat) : (madeCells (Value.int .u8 0).cells (n * 1)).toList = cellsB (fun _ => 0) n := by
  rw [show (Value.int .u8 0).cells = #[Value.int .u8 0] from rfl, toList_madeCells_one, Nat.mul_one]
  apply List.ext_getElem?
  intro i
  by_cases hi : i < n
  · rw [cellsB_get _ _ _ hi, List.getElem?_replicate, if_pos hi]; rfl
  · rw [List.getElem?_eq_none (by rw [List.length_replicate]; omega), List.getElem?_eq_none (by rw [cellsB_length]; omega)]
theorem own_bytes {w : World} {B : Nat} {e : TypeId} {b cap m : Nat} {g : Nat → BitVec 8} (h : w.ownsRow B e 1 (.slice (some ⟨b, 0, none⟩) m cap) m (cellsB g m)) : HasBytes w (some ⟨b, 0, none⟩) m g := by
  intro i hi
  refine ⟨b, 0, rfl, ?_⟩
  rw [Nat.zero_add, h.cellAt i (by omega), cellsB_get _ _ _ hi]
theorem sip15 : sipF (upto 16) (upto 15) 15 = 11613035633349379557#64 := by decide +kernel
theorem un15 : un (sipF (upto 16) (upto 15) 15) = 11613035633349379557 := by rw [sip15]; rfl

set_option maxHeartbeats 1000000 in
set_option maxRecDepth 100000 in
theorem wakes_any (w : World) :
    Calls Try.prog 11 #[] w fun e w' => e = .returned (.bool true) ∧ Below w.heap.size w w' := by
  obtain ⟨i1, gi, gz0, gz1, gz2⟩ := info_parts infoByte
  have hbw : ∀ n, IntKind.u8.wrap n = ub (byteOf n) := byte_wrap
  go_enter Try.func11, Try.ntmps11
  go_wp2_with (at_make; refine wpList_make_full _ rfl _ _ 22 rfl w.heap.size 5 i1 (.int .u8 0) 1 Try.underlying22 gi gz0 gz1 .i64 .i64 _ _ 15 rfl rfl (by omega) (by omega) (by rw [gz2]; omega) (by unfold maxLen; omega) (Nat.le_refl _) ?_; intro w1 hown hgrow)
  rw [made_bytes] at hown
  have hb1 : Below w.heap.size w w1 := (Below.refl _ _).grown hgrow (Nat.le_refl _) (fun j hj => by cases hj)
  clear hgrow
  go_loopw [6] (fun s6 wr => ∃ n : Nat, n ≤ 15 ∧ s6 = .int .i64 n ∧ wr.ownsRow w.heap.size 5 1 (.slice (some ⟨w.heap.size, 0, none⟩) 15 15) 15 (cellsB (upto n) 15) ∧ Below w.heap.size w wr) (fun s6 _ => 15 - (intOf s6).toNat)
  case atStart => exact ⟨0, by omega, rfl, hown, hb1⟩
  case round =>
    clear hown hb1
    obtain ⟨n, hn, rfl, hownr, hbr⟩ := hrel
    by_cases hlt : n < 15
    · have hlt' : (n : Int) < 15 := by omega
      have hc : wr.cell? ⟨w.heap.size, n, none⟩ = some (.int .u8 (ub (upto n n))) := (hownr.cellAt n (by omega)).trans (cellsB_get _ _ _ hlt)
      have hf : wr.frozen? ⟨w.heap.size, n, none⟩ = false := hownr.frozenAt n
      have hst := hownr.stored n (.int .u8 (ub (byteOf n)))
      rw [cellsB_set _ _ _ _ hlt, putB_eq] at hst
      obtain ⟨hst1, hst2⟩ := hst
      have hbr2 : Below w.heap.size w (wr.setCell ⟨w.heap.size, n, none⟩ (.int .u8 (ub (byteOf n)))) := hbr.setCell (Nat.le_refl _) _
      clear hst2 hownr hbr
      go_wp2_with fail
      go_roundw
      case rel => exact ⟨n + 1, by omega, by go_num, hst1, hbr2⟩
      case measure => simp [intOf]; omega
    · have hlt' : ¬ (n : Int) < 15 := by omega
      have hn15 : n = 15 := by omega
      subst hn15
      have HR : Hid (HasBytes wr (some ⟨w.heap.size, 0, none⟩) 15 (upto 15)) := own_bytes hownr
      have HB : Hid (Below w.heap.size w wr) := hbr
      clear hownr hbr
      go_wp2_with fail
      refine (key_any _).mono ?_
      rintro e w2 ⟨rfl, hb2⟩
      go_wp2_with fail
      refine (sum_any (upto 16) (upto 15) _ 15 15 _ (HR.out.below hb2) ⟨(fun h => by cases h), by omega, by omega⟩).mono ?_
      rintro e w3 ⟨rfl, hb3⟩
      rw [un15]
      go_wp2_with fail
      go_ret
      exact ⟨rfl, HB.out.trans ((hb2.mono HB.out.size).trans (hb3.mono (Nat.le_trans HB.out.size hb2.size)))⟩
end Go.Proofs.Ytfdhpblnjllfiaa
