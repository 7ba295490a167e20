/- Numbers of bytes, bytes held against bytes, bytes lent: what each call answers. -/
import Derived.Test.YtfdhpblnjllfiaaKeep
namespace Go.Proofs.Ytfdhpblnjllfiaa
open Go.RowKit
set_option linter.unusedVariables false

theorem ret_num {a b : Int} {p q : Bool} (h : (a, p) = (b, q)) : Ending.returned (.tuple #[.int .u64 a, .bool p]) = .returned (.tuple #[.int .u64 b, .bool q]) := by
  injection h with h1 h2; rw [h1, h2]
/-- What Number answers. -/
def numR (f : Nat → BitVec 8) (len : Nat) : Int × Bool := if len = 8 then (un (hi f 8 0), true) else (0, false)

set_option maxHeartbeats 1000000 in
set_option maxRecDepth 100000 in
theorem numberR_any (ao : Option Addr) (len cap : Nat) (f : Nat → BitVec 8) (w : World) (hr : HasBytes w ao len f) :
    Calls Try.prog 13 #[.slice ao len cap] w fun e w' => e = .returned (.tuple #[.int .u64 (numR f len).1, .bool (numR f len).2]) ∧ w' = w := by
  have HR : Hid (HasBytes w ao len f) := hr
  clear hr
  by_cases h : len = 8
  · subst h
    go_enter Try.func13, Try.ntmps13
    go_wp2_with fail
    refine calls_same (number_any _ 8 _ f _ HR.out (by omega)) ?_
    go_wp2_with fail
    go_ret2
    exact ⟨ret_num (by simp [numR]), rfl⟩
  · have h' : ¬ (len : Int) = 8 := by omega
    go_enter Try.func13, Try.ntmps13
    go_wp2_with fail
    go_ret2
    exact ⟨ret_num (by simp [numR, h]), rfl⟩

theorem below_drewN {B : Nat} {a w : World} (h : Below B a w) (n : Nat) : Below B a (w.drewN n) := ⟨h.os, h.tape, h.output, h.size, h.block⟩
theorem HasBytes.drewN {w : World} {a : Option Addr} {l : Nat} {f : Nat → BitVec 8} (h : HasBytes w a l f) (n : Nat) : HasBytes (w.drewN n) a l f := h

set_option maxHeartbeats 1000000 in
set_option maxRecDepth 100000 in
theorem same_any (ao bo : Option Addr) (m c d : Nat) (f : Nat → BitVec 8) (w : World) (ha : HasBytes w ao m f) (hb : HasBytes w bo m f) (hm : m ≤ 9223372036854775807) :
    Calls Try.prog 14 #[.slice ao m c, .slice bo m d] w fun e w' => e = .returned (.bool true) ∧ ∃ n, w' = w.drewN n := by
  have HA : Hid (HasBytes w ao m f) := ha
  have HB : Hid (HasBytes w bo m f) := hb
  clear ha hb
  go_enter Try.func14, Try.ntmps14
  go_wp2_with fail
  go_loopw [5] (fun s5 wr => ∃ k n : Nat, k ≤ m ∧ s5 = .int .i64 k ∧ wr = w.drewN n) (fun s5 _ => m - (intOf s5).toNat)
  case atStart => exact ⟨0, 0, by omega, rfl, rfl⟩
  case round =>
    obtain ⟨k, n, hk, rfl, rfl⟩ := hrel
    by_cases hlt : k < m
    · have hlt' : (k : Int) < (m : Int) := by omega
      obtain ⟨b1, o1, rfl, hc1⟩ := HA.out k hlt
      obtain ⟨b2, o2, rfl, hc2⟩ := HB.out k hlt
      go_wp2_with fail
      go_quiet (fail)
      go_wp2_with fail
      go_roundw
      case rel => exact ⟨k + 1, _, by omega, by go_num, rfl⟩
      case measure => simp [intOf]; omega
    · have hlt' : ¬ (k : Int) < (m : Int) := by omega
      go_wp2_with fail
      go_ret
      exact ⟨rfl, n, rfl⟩

/-- The text of bytes. -/
def txt (f : Nat → BitVec 8) (l : Nat) : ByteArray := strOfNums ((List.range l).map fun i => ub (f i))
theorem getD_range (f : Nat → BitVec 8) (l i : Nat) (h : i < l) : ((List.range l).map fun i => ub (f i)).getD i 0 = ub (f i) := by simp [List.getD, h]
theorem conv_txt {w : World} {ao : Option Addr} {l c : Nat} {f : Nat → BitVec 8} (h : HasBytes w ao l f) (hn : SliceOk ao l c) : (convert 22 9 (.slice ao l c)).run Try.prog w = .ok (.string (txt f l)) w := by
  cases ao with
  | none =>
    obtain ⟨rfl, rfl⟩ := hn.1 rfl
    exact run_convert_bytes_nil w 22 5 Try.underlying22 Try.underlying5 0 0 9 Try.underlying9
  | some ad =>
    by_cases hl : l = 0
    · subst hl
      have hl : (loadCells ad 0).run Try.prog w = .ok (([] : List Int).map (Value.int .u8)).toArray w := by simpa using run_loadCells_list (P := Try.prog) w ad [] (by simp)
      rw [run_convert_bytes_string w 22 9 5 _ 0 c Try.underlying22 Try.underlying5 Try.underlying9, run_bytesToString w _ 0 c [] hl]
      rfl
    · obtain ⟨b, off, e, _⟩ := h 0 (by omega)
      injection e with e
      subst e
      refine run_convert_bytes_arg w 22 5 Try.underlying22 Try.underlying5 b off l c _ (by simp) (fun i hi => ?_) 9 Try.underlying9
      obtain ⟨b', off', e, hc⟩ := h i hi
      injection e with e
      injection e with e1 e2 e3
      subst e1 e2
      rw [getD_range f l i hi]
      exact hc

theorem list_beq (S T : ByteArray) : (S.toList == T.toList) = decide (S = T) := by
  rw [ByteArray.toList_eq, ByteArray.toList_eq]
  by_cases h : S = T
  · subst h; simp
  · have : S.data.toList ≠ T.data.toList := fun e => h (Go.WideShapes.bytes_inj e)
    rw [decide_eq_false h]
    simpa using this
theorem txt_data (f : Nat → BitVec 8) (l : Nat) : (txt f l).data.toList = (List.range l).map fun i => UInt8.ofNat (f i).toNat := by
  unfold txt
  rw [strOfNums_data, List.map_map]
  rfl
theorem txt_eq (f g : Nat → BitVec 8) (l m : Nat) : txt f l = txt g m ↔ l = m ∧ ∀ i, i < l → f i = g i := by
  constructor
  · intro h
    have h2 : (txt f l).data.toList = (txt g m).data.toList := by rw [h]
    rw [txt_data, txt_data] at h2
    have hl : l = m := by have := congrArg List.length h2; simpa using this
    subst hl
    refine ⟨rfl, fun i hi => ?_⟩
    have h3 := congrArg (fun x => x[i]?) h2
    simp [hi] at h3
    exact h3
  · rintro ⟨rfl, h⟩
    unfold txt
    congr 1
    apply List.map_congr_left
    intro i hi
    rw [h i (by simpa using hi)]

set_option maxHeartbeats 1000000 in
set_option maxRecDepth 100000 in
theorem equal_any (ao bo : Option Addr) (l m c d : Nat) (f g : Nat → BitVec 8) (w : World) (ha : HasBytes w ao l f) (hb : HasBytes w bo m g) (ka : SliceOk ao l c) (kb : SliceOk bo m d) :
    Calls Try.prog 29 #[.slice ao l c, .slice bo m d] w fun e w' => e = .returned (.bool (decide (txt f l = txt g m))) ∧ w' = w := by
  have h1 := conv_txt ha ka
  have h2 := conv_txt hb kb
  clear ha hb ka kb
  generalize txt f l = S at *
  generalize txt g m = T at *
  go_enter Try.func29, Try.ntmps29
  go_wp2_with fail
  go_ret
  exact ⟨ret_bool (list_beq S T), rfl⟩

set_option maxHeartbeats 1000000 in
set_option maxRecDepth 100000 in
theorem sipSame_any (ao bo : Option Addr) (l m c d : Nat) (f g : Nat → BitVec 8) (w : World) (ha : HasBytes w ao l f) (hb : HasBytes w bo m g) (ka : SliceOk ao l c) (kb : SliceOk bo m d) :
    Calls Try.prog 21 #[.slice ao l c, .slice bo m d] w fun e w' => e = .returned (.bool (decide (txt f l = txt g m))) ∧ w' = w := by
  have HC := equal_any ao bo l m c d f g w ha hb ka kb
  have HC' : Hid (Calls Try.prog 29 #[.slice ao l c, .slice bo m d] w fun e w' => e = .returned (.bool (decide (txt f l = txt g m))) ∧ w' = w) := HC
  clear HC ha hb ka kb
  generalize decide (txt f l = txt g m) = B at *
  go_enter Try.func21, Try.ntmps21
  go_wp2_with fail
  refine calls_same HC'.out ?_
  go_wp2_with fail
  go_ret
  exact ⟨rfl, rfl⟩

theorem HasBytes.src {w : World} {ao : Option Addr} {m : Nat} {f : Nat → BitVec 8} (h : HasBytes w ao m f) (hm : 0 < m) : ∃ ad, ao = some ad ∧ ∀ (j : Nat) (v : Value), (cellsB f m)[j]? = some v → w.cell? (ad.add j) = some v := by
  obtain ⟨b, off, rfl, _⟩ := h 0 hm
  exact ⟨_, rfl, h.news⟩
/-- 'make' with room behind the length. -/
theorem wpList_make_room {P : Program} (w : World) {ops : Array Oper} {rest : List Oper} {o : Oper} {a : Act} {Q : Exit → Act → World → Prop}
    (hg : o.guard = none) (l c : Operand) (t : TypeId) (hop : o.op = Op.makeSlice t l c)
    (e : TypeId) (i : TypeInfo) (z : Value) (h1 : P.underlying t = some (.slice e)) (h2 : P.info? e = some i) (h3 : i.zero = some z)
    (kl kc : IntKind) (L C : Int) (n m : Nat) (hl : a.eval l = .int kl L) (hc : a.eval c = .int kc C) (hL : L = (n : Int)) (hC : C = (m : Int)) (hnm : n ≤ m) (b2 : (i.bytes : Int) * (m : Int) ≤ 281474976710656) (b3 : m ≤ 9223372036854775807)
    (hK : wpList P ops Q rest (a.put o.dst (.slice (some ⟨w.heap.size, 0, none⟩) n m)) (w.alloc (.cells (madeCells z.cells (m * i.size)) e))) :
    wpList P ops Q (o :: rest) a w := by
  refine wpList_plain hg fun K hK' => ?_
  have hrun := run_make (P := P) w t e i z h1 h2 h3 kl kc L C (by omega) (by omega) (by rw [hC]; exact b2) (by omega)
  subst hL
  subst hC
  unfold Oper.wp
  simp [execOp, hop, hl, hc, hrun, Result.andThen]
  exact hK' _ _ hK

/-- Bytes lent, of whose room behind them the first k - m are 0x55. -/
def lentF (f : Nat → BitVec 8) (m k : Nat) : Nat → BitVec 8 := fun i => if i < m then f i else if i < k then 85#8 else 0
theorem lentF_put (f : Nat → BitVec 8) (m k : Nat) (h : m ≤ k) : putB (lentF f m k) k 85#8 = lentF f m (k + 1) := by
  funext i
  unfold putB lentF
  by_cases h1 : i = k
  · subst h1; rw [if_pos rfl, if_neg (by omega), if_pos (by omega)]
  · rw [if_neg h1]
    by_cases h2 : i < m
    · rw [if_pos h2, if_pos h2]
    · rw [if_neg h2, if_neg h2]
      by_cases h3 : i < k
      · rw [if_pos h3, if_pos (by omega)]
      · rw [if_neg h3, if_neg (by omega)]
theorem cellsB_setA (g : Nat → BitVec 8) (m k : Nat) (y : BitVec 8) (hk : k < m) : (cellsB g m).toArray.setIfInBounds k (.int .u8 (ub y)) = (cellsB (putB g k y) m).toArray := by
  rw [← cellsB_set g m k y hk]; simp
theorem splice_bytes (g f : Nat → BitVec 8) (n m : Nat) (h : m ≤ n) : splice (cellsB g n) 0 (cellsB f m) = cellsB (fun i => if i < m then f i else g i) n := by
  apply List.ext_getElem?
  intro i
  simp only [splice, List.take_zero, List.nil_append, Nat.zero_add, cellsB_length]
  by_cases hi : i < n
  · rw [cellsB_get _ _ _ hi]
    by_cases h2 : i < m
    · rw [List.getElem?_append_left (by rw [cellsB_length]; exact h2), cellsB_get _ _ _ h2, if_pos h2]
    · rw [List.getElem?_append_right (by rw [cellsB_length]; omega), cellsB_length, List.getElem?_drop, show m + (i - m) = i by omega, cellsB_get _ _ _ hi, if_neg h2]
  · rw [List.getElem?_eq_none (by simp [cellsB_length]; omega), List.getElem?_eq_none (by rw [cellsB_length]; omega)]
theorem infoByte1 : (Try.prog.info? 5).map (fun i => i.size) = some 1 := by kernel_rfl
theorem Blk.cellB {w : World} {b t m : Nat} {g : Nat → BitVec 8} (h : Blk w b t (cellsB g m).toArray) (i : Nat) (hi : i < m) : w.cell? ⟨b, i, none⟩ = some (.int .u8 (ub (g i))) := by
  rw [h.cell]; simpa using cellsB_get g m i hi

set_option maxHeartbeats 1000000 in
set_option maxRecDepth 100000 in
theorem lend_any (ao : Option Addr) (m c : Nat) (f : Nat → BitVec 8) (w : World) (hr : HasBytes w ao m f) (hs : SliceOk ao m c) (hm : m ≤ 1000) :
    Calls Try.prog 17 #[.slice ao m c] w fun e w' => e = .returned (.slice (some ⟨w.heap.size, 0, none⟩) m (m + 3)) ∧ Blk w' w.heap.size 5 (cellsB (lentF f m (m + 3)) (m + 3)).toArray ∧ Below w.heap.size w w' := by
  obtain ⟨i1, gi, gz0, gz1, gz2⟩ := info_parts infoByte
  have HR : Hid (HasBytes w ao m f) := hr
  have hW0 : Below w.heap.size w (w.alloc (.cells (madeCells #[.int .u8 0] (m + 3)) 5)) := (Below.refl _ _).alloc (Nat.le_refl _) _
  have HB0 : Hid (Blk (w.alloc (.cells (madeCells #[.int .u8 0] (m + 3)) 5)) w.heap.size 5 (cellsB (fun _ => 0) (m + 3)).toArray) := by
    have h1 := Blk.new w 5 (madeCells #[.int .u8 0] (m + 3))
    have h2 := made_bytes (m + 3)
    rw [Nat.mul_one] at h2
    rw [← h2, Array.toArray_toList]
    exact h1
  have HW0 : Hid (Below w.heap.size w (w.alloc (.cells (madeCells #[.int .u8 0] (m + 3)) 5))) := hW0
  have HC : Hid (HasBytes (w.alloc (.cells (madeCells #[.int .u8 0] (m + 3)) 5)) ao m f) := hr.below hW0
  have HMIN : Hid (m = Nat.min m m) := (Nat.min_self m).symm
  clear hr hW0
  go_enter Try.func17, Try.ntmps17
  go_wp2_with (first
    | (at_make; refine wpList_make_room _ rfl _ _ 22 rfl 5 i1 (.int .u8 0) Try.underlying22 gi gz0 .i64 .i64 _ _ m (m + 3) rfl rfl rfl (by omega) (by omega) (by rw [gz2]; omega) (by omega) ?_)
    | (refine wpList_copy_splice rfl (.tmp 12) (.tmp 13) 22 22 rfl 5 Try.underlying22 infoByte1 _ _ _ _ _ _ rfl rfl w.heap.size 0 (cellsB (fun _ => 0) (m + 3)) 5 HB0.out (cellsB f m) (by rw [cellsB_length]; exact HMIN.out) (fun hp => ⟨rfl, HC.out.src (by rw [cellsB_length] at hp; exact hp)⟩) (by rw [cellsB_length, cellsB_length]; omega) (cellsB_one _ _) w.heap.size w HW0.out (Nat.le_refl _) ?_; intro w1 hg1 hb1))
  have hB1 : Blk w1 w.heap.size 5 (cellsB (lentF f m m) (m + 3)).toArray := by
    have e : splice (cellsB (fun _ => 0) (m + 3)) 0 (cellsB f m) = cellsB (lentF f m m) (m + 3) := by
      rw [splice_bytes _ _ _ _ (by omega)]
      apply cellsB_ext
      intro i hi
      unfold lentF
      by_cases h : i < m
      · rw [if_pos h, if_pos h]
      · rw [if_neg h, if_neg h, if_neg h]
    rw [← e]
    exact hg1
  have e85 : (85 : Int) = ub 85#8 := rfl
  have HE : Hid ((85 : Int) = ub 85#8) := e85
  clear e85 hg1 HB0 HW0 HC HMIN HR
  go_loopw [5] (fun s5 wr => ∃ k : Nat, m ≤ k ∧ k ≤ m + 3 ∧ s5 = .int .i64 k ∧ Blk wr w.heap.size 5 (cellsB (lentF f m k) (m + 3)).toArray ∧ Below w.heap.size w wr) (fun s5 _ => m + 3 - (intOf s5).toNat)
  case atStart => exact ⟨m, by omega, by omega, rfl, hB1, hb1⟩
  case round =>
    clear hB1 hb1
    obtain ⟨k, hmk, hk, rfl, hB, hb⟩ := hrel
    by_cases hlt : k < m + 3
    · have hlt' : (k : Int) < (m : Int) + 3 := by omega
      have hc := hB.cellB k hlt
      have hf : wr.frozen? ⟨w.heap.size, k, none⟩ = false := hB.frozen k
      have hB2 := hB.set k (.int .u8 (ub 85#8))
      rw [cellsB_setA _ _ _ _ hlt, lentF_put f m k hmk] at hB2
      have HB2 : Hid (Blk (wr.setCell ⟨w.heap.size, k, none⟩ (.int .u8 (ub 85#8))) w.heap.size 5 (cellsB (lentF f m (k + 1)) (m + 3)).toArray) := hB2
      have HW2 : Hid (Below w.heap.size w (wr.setCell ⟨w.heap.size, k, none⟩ (.int .u8 (ub 85#8)))) := hb.setCell (Nat.le_refl _) _
      clear hB2 hB hb
      go_wp2_with fail
      go_roundw
      case rel => exact ⟨k + 1, by omega, by omega, by go_num, HB2.out, HW2.out⟩
      case measure => simp [intOf]; omega
    · have hlt' : ¬ (k : Int) < (m : Int) + 3 := by omega
      have hkm : k = m + 3 := by omega
      subst hkm
      go_wp2_with fail
      go_ret
      exact ⟨rfl, hB, hb⟩

set_option maxHeartbeats 1000000 in
set_option maxRecDepth 100000 in
theorem intact_any (b : Nat) (ao : Option Addr) (m c : Nat) (f : Nat → BitVec 8) (w : World) (hB : Blk w b 5 (cellsB (lentF f m (m + 3)) (m + 3)).toArray) (hr : HasBytes w ao m f) (hm : m ≤ 1000) :
    Calls Try.prog 18 #[.slice (some ⟨b, 0, none⟩) m (m + 3), .slice ao m c] w fun e w' => e = .returned (.bool true) ∧ ∃ n, w' = w.drewN n := by
  have HR : Hid (HasBytes w ao m f) := hr
  have HB : Hid (Blk w b 5 (cellsB (lentF f m (m + 3)) (m + 3)).toArray) := hB
  clear hr hB
  go_enter Try.func18, Try.ntmps18
  go_wp2_with fail
  go_loopw [27] (fun s27 wr => ∃ k n : Nat, k ≤ m + 3 ∧ s27 = .int .i64 k ∧ wr = w.drewN n) (fun s27 _ => m + 3 - (intOf s27).toNat)
  case atStart => exact ⟨0, 0, by omega, rfl, rfl⟩
  case round =>
    obtain ⟨k, n, hk, rfl, rfl⟩ := hrel
    by_cases hlt : k < m + 3
    · have hlt' : (k : Int) < (m : Int) + 3 := by omega
      have hc := HB.out.cellB k hlt
      by_cases hkm : k < m
      · have hkm' : (k : Int) < (m : Int) := by omega
        have hge : decide ((k : Int) ≥ (m : Int)) = false := decide_eq_false (by omega)
        have hge2 : ¬ m ≤ k := by omega
        have e : lentF f m (m + 3) k = f k := by unfold lentF; rw [if_pos hkm]
        rw [e] at hc
        obtain ⟨b2, o2, rfl, hc2⟩ := HR.out k hkm
        go_wp2_with fail
        go_quiet (fail)
        go_wp2_with fail
        go_roundw
        case rel => exact ⟨k + 1, _, by omega, by go_num, rfl⟩
        case measure => simp [intOf]; omega
      · have hkm' : decide ((k : Int) < (m : Int)) = false := decide_eq_false (by omega)
        have hge : (m : Int) ≤ (k : Int) := by omega
        have e : lentF f m (m + 3) k = 85#8 := by unfold lentF; rw [if_neg hkm, if_pos hlt]
        rw [e, show ub 85#8 = 85 from rfl] at hc
        go_wp2_with fail
        go_quiet (fail)
        go_wp2_with fail
        go_roundw
        case rel => exact ⟨k + 1, _, by omega, by go_num, rfl⟩
        case measure => simp [intOf]; omega
    · have hlt' : ¬ (k : Int) < (m : Int) + 3 := by omega
      go_wp2_with fail
      go_ret
      exact ⟨rfl, n, rfl⟩

end Go.Proofs.Ytfdhpblnjllfiaa
