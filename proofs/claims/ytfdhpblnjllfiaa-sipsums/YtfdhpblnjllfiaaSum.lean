/- The sum of any bytes with any key, as the program makes it. -/
import Derived.Test.YtfdhpblnjllfiaaNums
import Derived.Deep.WholeRow
import Derived.Deep.RegionWith
namespace Go.Proofs.Ytfdhpblnjllfiaa
open Go.RowKit
set_option linter.unusedVariables false

def byteOf (n : Int) : BitVec 8 := BitVec.ofInt 8 n
theorem byte_wrap (n : Int) : IntKind.u8.wrap n = ub (byteOf n) := by
  unfold ub byteOf
  rw [BitVec.toNat_ofInt]
  simp [IntKind.wrap, IntKind.bits, IntKind.signed]
  omega

set_option maxHeartbeats 1000000 in
set_option maxRecDepth 100000 in
theorem lastNumber_any (ao : Option Addr) (len cap : Nat) (f : Nat → BitVec 8) (n : Int) (w : World) (hr : HasBytes w ao len f) (hl : len ≤ 8) :
    Calls Try.prog 25 #[.slice ao len cap, .int .i64 n] w fun e w' => e = .returned (.int .u64 (un (hi f len 0 ||| (wide (byteOf n)) <<< 56))) ∧ w' = w := by
  have hcv := conv_u8 (byteOf n)
  have hub := ub_bd (byteOf n)
  have hbw := byte_wrap n
  go_enter Try.func25, Try.ntmps25
  go_wp2_with fail
  refine calls_same (number_any _ _ _ f _ hr hl) ?_
  go_wp2_with fail
  go_ret
  exact ⟨ret_int (by rw [← un_or, ← un_shl]; rfl), rfl⟩

/-- Bytes as cells. -/
def cellsB (f : Nat → BitVec 8) (m : Nat) : List Value := (List.range m).map fun i => .int .u8 (ub (f i))
theorem cellsB_length (f : Nat → BitVec 8) (m : Nat) : (cellsB f m).length = m := by simp [cellsB]
theorem cellsB_get (f : Nat → BitVec 8) (m i : Nat) (h : i < m) : (cellsB f m)[i]? = some (.int .u8 (ub (f i))) := by simp [cellsB, h]
/-- A key as a value. -/
def keyV (k : Nat → BitVec 8) : Array Value := (cellsB k 16).toArray
theorem keyV_size (k : Nat → BitVec 8) : (keyV k).size = 16 := by simp [keyV, cellsB_length]
theorem keyV_get (k : Nat → BitVec 8) (i : Nat) (h : i < 16) : (keyV k)[i]? = some (.int .u8 (ub (k i))) := by simp [keyV, cellsB, h]

theorem Blk.lt {w : World} {b t : Nat} {cs : Array Value} (h : Blk w b t cs) : b < w.heap.size := (Array.getElem?_eq_some_iff.1 h).1
theorem Blk.alloc {w : World} {b t : Nat} {cs : Array Value} (h : Blk w b t cs) (o : Obj) : Blk (w.alloc o) b t cs := (Below.heap_alloc w o b h.lt).trans h
theorem Blk.below {w w' : World} {b t B : Nat} {cs : Array Value} (h : Blk w b t cs) (hb : Below B w w') (hB : b < B) : Blk w' b t cs := (hb.block b hB).trans h
theorem Blk.new (w : World) (t : Nat) (cs : Array Value) : Blk (w.alloc (.cells cs t)) w.heap.size t cs := heap_alloc_new w _
theorem hi_shift (f : Nat → BitVec 8) (d : Nat) : ∀ n j, hi (fun i => f (d + i)) n j = hi f n (d + j)
  | 0, _ => rfl
  | n + 1, j => by
    show (hi (fun i => f (d + i)) n (j + 1)) <<< 8 ||| wide (f (d + j)) = (hi f n (d + j + 1)) <<< 8 ||| wide (f (d + j))
    rw [hi_shift f d n (j + 1)]; rfl
theorem key_bytes {W : World} {b t : Nat} {k : Nat → BitVec 8} (h : Blk W b t (keyV k)) (d : Nat) (hd : d ≤ 8) : HasBytes W (some ⟨b, d, none⟩) 8 (fun i => k (d + i)) :=
  fun i hi => ⟨b, d, rfl, by rw [h.cell, keyV_get k (d + i) (by omega)]⟩
def zero4 : W4 := ⟨0, 0, 0, 0⟩
theorem zero_blk {w w1 : World} {o : Obj} (hb1 : Below ((w.alloc o).alloc (.cells #[.int .u64 0, .int .u64 0, .int .u64 0, .int .u64 0] 44)).drew.heap.size ((w.alloc o).alloc (.cells #[.int .u64 0, .int .u64 0, .int .u64 0, .int .u64 0] 44)).drew w1) : Blk w1 (w.heap.size + 1) 44 (four zero4) :=
  have h : Blk ((w.alloc o).alloc (.cells #[.int .u64 0, .int .u64 0, .int .u64 0, .int .u64 0] 44)).drew (w.heap.size + 1) 44 (four zero4) := heap_alloc2_new w o _
  h.below hb1 (by simp)
theorem below_four {w w1 : World} (h : Below w.heap.size w w1) (x y z u : Value) : Below w.heap.size w ((((w1.setCell ⟨w.heap.size + 1, 0, none⟩ x).setCell ⟨w.heap.size + 1, 1, none⟩ y).setCell ⟨w.heap.size + 1, 2, none⟩ z).setCell ⟨w.heap.size + 1, 3, none⟩ u) :=
  (((h.setCell (Nat.le_succ _) _).setCell (Nat.le_succ _) _).setCell (Nat.le_succ _) _).setCell (Nat.le_succ _) _
theorem HasBytes.below {w w' : World} {a : Option Addr} {len : Nat} {f : Nat → BitVec 8} (h : HasBytes w a len f) (hb : Below w.heap.size w w') : HasBytes w' a len f := by
  intro i hi
  obtain ⟨b, off, e, hc⟩ := h i hi
  exact ⟨b, off, e, (hb.cell (World.block_lt_of_cell? w _ hc)).trans hc⟩
theorem HasBytes.part {w : World} {b off len : Nat} {f : Nat → BitVec 8} (h : HasBytes w (some ⟨b, off, none⟩) len f) (i n : Nat) (hn : i + n ≤ len) : HasBytes w (some ⟨b, off + i, none⟩) n (fun t => f (i + t)) := by
  intro t ht
  obtain ⟨b', off', e, hc⟩ := h (i + t) (by omega)
  injection e with e
  injection e with e1 e2 e3
  subst e1 e2
  exact ⟨b, off + i, rfl, by rw [Nat.add_assoc]; exact hc⟩
theorem HasBytes.rest {w : World} {ad : Addr} {len : Nat} {f : Nat → BitVec 8} (h : HasBytes w (some ad) len f) (n : Nat) : HasBytes w (some (ad.add n)) (len - n) (fun t => f (n + t)) := by
  intro t ht
  obtain ⟨b, off, e, hc⟩ := h (n + t) (by omega)
  injection e with e
  subst e
  refine ⟨b, off + n, ?_, by rw [Nat.add_assoc]; exact hc⟩
  by_cases j0 : n = 0
  · subst j0; simp [Addr.add]
  · simp [Addr.add, j0]
/-- What is known of a slice that came in. -/
def SliceOk (a : Option Addr) (l c : Nat) : Prop := (a = none → l = 0 ∧ c = 0) ∧ l ≤ c ∧ c ≤ 9223372036854775807
def begun (k : Nat → BitVec 8) : W4 := first (hi k 8 0) (hi k 8 8)
/-- The words behind j blocks. -/
def blocks (k f : Nat → BitVec 8) : Nat → W4
  | 0 => begun k
  | j + 1 => take (blocks k f j) (hi f 8 (8 * j))
def lastM (f : Nat → BitVec 8) (len : Nat) : BitVec 64 := hi f (len % 8) (8 * (len / 8)) ||| (wide (byteOf len)) <<< 56
/-- The sum of len bytes with a key. -/
def sipF (k f : Nat → BitVec 8) (len : Nat) : BitVec 64 := fin (take (blocks k f (len / 8)) (lastM f len))
theorem hi_zero (f : Nat → BitVec 8) (n d : Nat) : hi (fun i => f (d + i)) n 0 = hi f n d := hi_shift f d n 0

set_option maxHeartbeats 1000000 in
set_option maxRecDepth 100000 in
theorem sum_any (k f : Nat → BitVec 8) (ao : Option Addr) (len cap : Nat) (w : World) (hr : HasBytes w ao len f) (hs : SliceOk ao len cap) :
    Calls Try.prog 9 #[.agg (keyV k), .slice ao len cap] w fun e w' => e = .returned (.int .u64 (un (sipF k f len))) ∧ Below w.heap.size w w' := by
  obtain ⟨hnone, hlc, hcm⟩ := hs
  have hks := keyV_size k
  have HN : Hid (∀ W c d, d ≤ 8 → Blk W w.heap.size 24 (keyV k) → Calls Try.prog 23 #[.slice (some ⟨w.heap.size, d, none⟩) 8 c] W fun e w' => e = .returned (.int .u64 (un (hi k 8 d))) ∧ w' = W) := by
    intro W c d hd hB
    have := number_any _ 8 c (fun i => k (d + i)) W (key_bytes hB d hd) (by omega)
    rw [hi_shift] at this
    exact this
  have HK : Hid (Blk (w.alloc (.cells (keyV k) 24)) w.heap.size 24 (keyV k)) := Blk.new _ _ _
  have HW : Hid (Below w.heap.size w (w.alloc (.cells (keyV k) 24))) := (Below.refl _ _).alloc (Nat.le_refl _) _
  generalize keyV k = kv at *
  go_enter Try.func9, Try.ntmps9
  go_upto_region 1 with fail
  go_cut [5] (fun s5 wx => ∃ b, s5 = .pointer (some ⟨b, 0, none⟩) ∧ Blk wx b 44 (four (begun k)) ∧ w.heap.size ≤ b ∧ Below w.heap.size w wx)
  case first =>
    go_region_with (first
      | (go_at_call 23; refine calls_same (HN.out _ _ _ (by omega) (by repeat (first | with_reducible exact HK.out | with_reducible refine Blk.drew ?_ | with_reducible refine Blk.alloc ?_ _))) ?_)
      | (go_at_call 22; refine (begin_any _ _ _).mono ?_; rintro e w1 ⟨rfl, hb1, hs1⟩; clear hs1; simp only [four]; have hc1 := @Below.cell _ _ _ hb1; have hf1 := @Below.frozen _ _ _ hb1))
    all_goals
      have hB1 : Below w.heap.size w w1 := Below.trans (by repeat (first | with_reducible exact HW.out | with_reducible refine Below.drew ?_ | with_reducible refine Below.alloc ?_ (by simp) _)) (hb1.mono (by simp; try omega))
      go_wp2_with fail
      go_meet
    · exact ⟨_, rfl, Blk.new _ _ _, hB1.size, hB1.alloc hB1.size _⟩
    all_goals exact ⟨_, rfl, ((((zero_blk hb1).s0 _).s1 _).s2 _).s3 _, Nat.le_succ _, below_four hB1 _ _ _ _⟩
  case rest =>
    obtain ⟨b, rfl, hB, hbw, hbl⟩ := hcut
    have HR : Hid (HasBytes w ao len f) := hr
    clear hr HN HK HW
    obtain ⟨n, hn⟩ : ∃ n : Nat, n = 8 * (len / 8) := ⟨_, rfl⟩
    have hwh : (len : Int) - (len : Int) % 8 = (n : Int) := by omega
    have HN : Hid (n = 8 * (len / 8)) := hn
    have hnl : n ≤ len := by omega
    have HNO : Hid (ao = none → len = 0 ∧ cap = 0) := hnone
    clear hn hnone
    go_wp2_with fail
    go_loopw [7] (fun s7 wr => ∃ j i : Nat, Hid (i = 8 * j) ∧ i ≤ n ∧ s7 = .int .i64 i ∧ Blk wr b 44 (four (blocks k f j)) ∧ Below w.heap.size w wr) (fun s7 _ => n - (intOf s7).toNat)
    case atStart => exact ⟨0, 0, rfl, by omega, rfl, hB, hbl⟩
    case round =>
      obtain ⟨j, i, HI, hin, rfl, hBr, hbr⟩ := hrel
      have HB : Hid (Blk wr b 44 (four (blocks k f j))) := hBr
      have HRr : Hid (HasBytes wr ao len f) := HR.out.below hbr
      clear hBr
      by_cases hlt : i < n
      · have hlt' : (i : Int) < (n : Int) := by omega
        have hi8 : i + 8 ≤ n := by have := HI.out; have := HN.out; omega
        have hi8' : (i : Int) + 8 ≤ (len : Int) := by omega
        have hcap : ¬ cap = i := by omega
        obtain ⟨bb, off, rfl, _⟩ := HRr.out i (by omega)
        go_wp2_with fail
        refine calls_same (number_any _ 8 _ (fun t => f (i + t)) _ (HRr.out.part i 8 (by omega)) (by omega)) ?_
        rw [hi_zero]
        go_wp2_with fail
        refine calls_blk (take_any b _ _ _ HB.out) ?_
        intro w2 hB2 hO2
        go_wp2_with fail
        go_roundw
        case rel => exact ⟨j + 1, i + 8, by have := HI.out; show i + 8 = 8 * (j + 1); omega, by omega, by go_num, by have := HI.out; subst this; exact hB2, hbr.trans (hO2.below.mono hbw)⟩
        case measure => simp [intOf]; omega
      · have hlt' : ¬ (i : Int) < (n : Int) := by omega
        have hin' : i = n := by omega
        have HJ : Hid (j = len / 8) := by have := HI.out; have := HN.out; show j = len / 8; omega
        have HM : Hid (len - n = len % 8) := by have := HN.out; show len - n = len % 8; omega
        have hnl' : (n : Int) ≤ (len : Int) := by omega
        have HE : Hid (∀ w3, Only b wr w3 → Below w.heap.size w w3) := fun w3 h => hbr.trans (h.below.mono hbw)
        have HL : Hid (hi f (len - n) n ||| (wide (byteOf len)) <<< 56 = lastM f len) := by
          show hi f (len - n) n ||| _ = hi f (len % 8) (8 * (len / 8)) ||| _
          rw [HM.out, HN.out]
        have HF : Hid (fin (take (blocks k f j) (lastM f len)) = sipF k f len) := by rw [HJ.out]; rfl
        have hl8 : len - n ≤ 8 := by have := HM.out; omega
        clear HI hin hlt hwh HM HN HJ hbl hB hin'
        cases ao with
        | none =>
          obtain ⟨rfl, rfl⟩ := HNO.out rfl
          have hn0 : n = 0 := by omega
          subst hn0
          go_wp2_with fail
          refine calls_same (lastNumber_any none 0 _ (fun t => f (0 + t)) _ _ (fun i hi => absurd hi (by omega)) (by omega)) ?_
          rw [hi_zero]
          rw [show hi f 0 0 = hi f (0 - 0) 0 from rfl]
          first | rw [HL.out] | rw [show ((0 : Int)) = ((0 : Nat) : Int) from rfl, HL.out]
          go_wp2_with fail
          refine calls_blk (take_any b _ _ _ HB.out) ?_
          intro w2 hB2 hO2
          go_wp2_with fail
          refine (end_any b _ _ hB2).mono ?_
          rintro e w3 ⟨rfl, hO3⟩
          rw [HF.out]
          go_wp2_with fail
          go_ret
          exact ⟨rfl, HE.out _ (hO2.trans hO3)⟩
        | some ad =>
          by_cases hcn : cap = n
          · have hz : len - n = 0 := by omega
            have HL2 : Hid (hi f 0 n ||| (wide (byteOf len)) <<< 56 = lastM f len) := by rw [← HL.out, hz]; rfl
            go_wp2_with fail
            refine calls_same (lastNumber_any (some ad) 0 _ (fun t => f (n + t)) _ _ (fun i hi => absurd hi (by omega)) (by omega)) ?_
            rw [hi_zero, HL2.out]
            go_wp2_with fail
            refine calls_blk (take_any b _ _ _ HB.out) ?_
            intro w2 hB2 hO2
            go_wp2_with fail
            refine (end_any b _ _ hB2).mono ?_
            rintro e w3 ⟨rfl, hO3⟩
            rw [HF.out]
            go_wp2_with fail
            go_ret
            exact ⟨rfl, HE.out _ (hO2.trans hO3)⟩
          · have HP : Hid (HasBytes wr (some (ad.add n)) (len - n) (fun t => f (n + t))) := HRr.out.rest n
            go_wp2_with fail
            refine calls_same (lastNumber_any _ (len - n) _ (fun t => f (n + t)) _ _ HP.out hl8) ?_
            rw [hi_zero, HL.out]
            go_wp2_with fail
            refine calls_blk (take_any b _ _ _ HB.out) ?_
            intro w2 hB2 hO2
            go_wp2_with fail
            refine (end_any b _ _ hB2).mono ?_
            rintro e w3 ⟨rfl, hO3⟩
            rw [HF.out]
            go_wp2_with fail
            go_ret
            exact ⟨rfl, HE.out _ (hO2.trans hO3)⟩

end Go.Proofs.Ytfdhpblnjllfiaa
