/- Bytes in memory as plain lists; numbers as bytes, texts behind their lengths. -/
import Derived.Test.YtkioolbjmcpjpaaDoorPk0
import Derived.Lib.AppendStr
import Derived.Laws.CopyOwn
import Derived.Laws.BytesArg
namespace Go.Proofs.YtkioolbjmcpjpaaDoor.Ev
open Go.RowKit
set_option linter.unusedVariables false

/-- The cells of bytes. -/
def rowB (l : List UInt8) : List Value := l.map fun b => .int .u8 b.toNat
theorem rowB_len (l : List UInt8) : (rowB l).length = l.length := by simp [rowB]
theorem rowB_get (l : List UInt8) (i : Nat) (x : UInt8) (h : l[i]? = some x) : (rowB l)[i]? = some (.int .u8 x.toNat) := by simp [rowB, h]
theorem rowB_app (a b : List UInt8) : rowB (a ++ b) = rowB a ++ rowB b := by simp [rowB]
theorem rowB_one (l : List UInt8) : ∀ u ∈ rowB l, u.oneCell' = true := by
  intro u hu
  obtain ⟨t, _, rfl⟩ := List.mem_map.1 hu
  rfl
theorem rowB_str (s : ByteArray) : Lib.strCells s = rowB s.data.toList := rfl
/-- Bytes of the call's own. -/
def OwnB (w : World) (B : Nat) (v : Value) (l : List UInt8) : Prop := w.ownsRow B 5 1 v l.length (rowB l)
theorem own_lower {w : World} {B B' : Nat} {v : Value} {l : List UInt8} (h : OwnB w B v l) (hB : B' ≤ B) : OwnB w B' v l := by
  refine ⟨h.1, ?_⟩
  rcases h.2 with h2 | ⟨g, cap, cur, h1, h2, h3⟩
  · exact .inl h2
  · exact .inr ⟨g, cap, cur, h1, Nat.le_trans hB h2, h3⟩
theorem own_below {w w' : World} {B : Nat} {v : Value} {l : List UInt8} (h : OwnB w B v l) (hb : Below w.heap.size w w') : OwnB w' B v l :=
  World.ownsRow.kept h (grown_of_below hb none) (by cases hv : v.ownBlock <;> simp)
theorem infoByte : (Tryd.prog.info? 5).map (fun i => (i.zero, i.size, i.bytes)) = some (some (.int .u8 0), 1, 1) := by kernel_rfl
theorem made_rowB (n : Nat) : (madeCells (Value.int .u8 0).cells (n * 1)).toList = rowB (List.replicate n 0) := by
  rw [show (Value.int .u8 0).cells = #[Value.int .u8 0] from rfl, toList_madeCells_one, Nat.mul_one]
  simp [rowB]
theorem gf_set (l : List UInt8) (k i : Nat) (x : UInt8) (hl : l.length = k) (h : l[i]? = some x) : (rowB (l.take i ++ List.replicate (k - i) 0)).set i (.int .u8 x.toNat) = rowB (l.take (i + 1) ++ List.replicate (k - (i + 1)) 0) := by
  have hi : i < l.length := (List.getElem?_eq_some_iff.1 h).1
  obtain ⟨m, hm⟩ : ∃ m, k - i = m + 1 := ⟨k - i - 1, by omega⟩
  rw [hm, show k - (i + 1) = m by omega, List.replicate_succ, rowB_app, rowB_app, List.set_append_right _ _ (by rw [rowB_len, List.length_take]; omega), rowB_len, List.length_take, show i - min i l.length = 0 by omega]
  have ht : l.take (i + 1) = l.take i ++ [x] := by rw [List.take_add_one, h]; rfl
  rw [ht, rowB_app, List.append_assoc]
  rfl
theorem gf_byte (n j : Nat) (x : UInt8) (hx : x = UInt8.ofNat (n / 256 ^ j)) : IntKind.u8.wrap ((n : Int) / 2 ^ (8 * j)) = (x.toNat : Int) := by
  subst hx
  have e : (2 : Int) ^ (8 * j) = ((256 ^ j : Nat) : Int) := by rw [Int.pow_mul]; norm_cast
  rw [e, ← Int.natCast_ediv]
  simp [IntKind.wrap, IntKind.bits, IntKind.signed]

set_option maxHeartbeats 1000000 in
set_option maxRecDepth 100000 in
theorem gf_any (n k : Nat) (w : World) (hn : n < 18446744073709551616) (hk : k ≤ 8) :
    Calls Tryd.prog 8 #[.int .u64 n, .int .i64 k] w fun e w' => ∃ v, e = .returned v ∧ OwnB w' w.heap.size v (gfL n k) ∧ Below w.heap.size w w' := by
  obtain ⟨i1, gi, gz0, gz1, gz2⟩ := info_parts infoByte
  unfold OwnB
  have HL : Hid ((gfL n k).length = k) := gfL_length n k
  have HG : Hid (∀ i j, k = i + 1 + j → (gfL n k)[i]? = some (UInt8.ofNat (n / 256 ^ j))) := fun i j h => by
    unfold gfL
    rw [List.getElem?_map, List.getElem?_range (by omega)]
    simp only [Option.map_some]
    rw [show k - 1 - i = j by omega]
  generalize gfL n k = L at *
  rw [HL.out]
  go_enter Tryd.func8, Tryd.ntmps8
  go_wp2_with (at_make; refine wpList_make_full _ rfl _ _ 22 rfl w.heap.size 5 i1 (.int .u8 0) 1 Tryd.underlying22 gi gz0 gz1 .i64 .i64 _ _ k rfl rfl (by omega) (by omega) (by rw [gz2]; omega) (by unfold maxLen; omega) (Nat.le_refl _) ?_; intro w1 hown hgrow)
  rw [made_rowB] at hown
  have hb1 : Below w.heap.size w w1 := (Below.refl _ _).grown hgrow (Nat.le_refl _) (fun j hj => by cases hj)
  clear hgrow
  go_loopw [11] (fun s11 wr => ∃ i : Nat, i ≤ k ∧ s11 = .int .i64 i ∧ wr.ownsRow w.heap.size 5 1 (.slice (some ⟨w.heap.size, 0, none⟩) k k) k (rowB (L.take i ++ List.replicate (k - i) 0)) ∧ Below w.heap.size w wr) (fun s11 _ => k - (intOf s11).toNat)
  case atStart => exact ⟨0, by omega, rfl, by simpa using hown, hb1⟩
  case round =>
    clear hown hb1
    obtain ⟨i, hi, rfl, hownr, hbr⟩ := hrel
    by_cases hlt : i < k
    · obtain ⟨j, hj⟩ : ∃ j, k = i + 1 + j := ⟨k - i - 1, by omega⟩
      have hx := HG.out i j hj
      have hst := hownr.stored i (.int .u8 (UInt8.ofNat (n / 256 ^ j)).toNat)
      rw [gf_set L k i _ HL.out hx] at hst
      obtain ⟨hst1, hst2⟩ := hst
      have hc := hownr.cellAt i (by omega)
      have hlen : i < (rowB (L.take i ++ List.replicate (k - i) 0)).length := by rw [rowB_len, List.length_append, List.length_take, List.length_replicate, HL.out]; omega
      obtain ⟨y, hy⟩ : ∃ y, (rowB (L.take i ++ List.replicate (k - i) 0))[i]? = some y := ⟨_, List.getElem?_eq_getElem hlen⟩
      rw [hy] at hc
      clear hy
      have hf : wr.frozen? ⟨w.heap.size, i, none⟩ = false := hownr.frozenAt i
      have hat := gf_byte n j _ rfl
      generalize UInt8.ofNat (n / 256 ^ j) = x at *
      have HS := hidIn hst1
      have HB := hidIn (hbr.setCell (show w.heap.size ≤ (⟨w.heap.size, i, none⟩ : Addr).block from Nat.le_refl _) (.int .u8 x.toNat))
      have hlt' : (i : Int) < (k : Int) := by omega
      have e1 : ((k : Int) - 1 - (i : Int)) = (j : Int) := by omega
      have e3 : 8 * j < 64 := by omega
      have HJ := hidIn hj
      clear hst1 hst2 hownr hbr hx hj hlen
      go_wp2_with fail
      go_roundw
      case rel => exact ⟨i + 1, by omega, by go_num, HS.out, HB.out⟩
      case measure => simp [intOf]; omega
    · have hlt' : ¬ (i : Int) < (k : Int) := by omega
      have hik : i = k := by omega
      subst hik
      rw [List.take_of_length_le (by rw [HL.out]; exact Nat.le_refl _), Nat.sub_self, List.replicate_zero, List.append_nil] at hownr
      go_wp2_with fail
      go_ret
      exact ⟨_, rfl, hownr, hbr⟩

theorem wrap64 (n : Int) : IntKind.u64.wrap n = (nat64 n : Int) := by
  unfold nat64
  simp [IntKind.wrap, IntKind.bits, IntKind.signed]
  omega
set_option maxHeartbeats 1000000 in
set_option maxRecDepth 100000 in
theorem number8_any (n : Int) (w : World) : Calls Tryd.prog 4 #[.int .i64 n] w fun e w' => ∃ v, e = .returned v ∧ OwnB w' w.heap.size v (gfL (nat64 n) 8) ∧ Below w.heap.size w w' := by
  have hw := wrap64 n
  have HG := hidIn (gf_any (nat64 n) 8 w (by have := nat64_lt n; omega) (by omega))
  generalize nat64 n = m at *
  go_enter Tryd.func4, Tryd.ntmps4
  go_wp2_with fail
  refine HG.out.mono ?_
  rintro e w1 ⟨v, rfl, hv, hb⟩
  have HV := hidIn hv
  have HB := hidIn hb
  clear hv hb
  go_wp2_with fail
  go_ret
  exact ⟨_, rfl, HV.out, HB.out⟩
set_option maxHeartbeats 1000000 in
set_option maxRecDepth 100000 in
theorem ptext_any (s : ByteArray) (k : Nat) (w : World) (hs : s.size ≤ 2147483648) (hk : k ≤ 8) : Calls Tryd.prog 18 #[.string s, .int .i64 k] w fun e w' => ∃ v, e = .returned v ∧ OwnB w' w.heap.size v (txL s k) ∧ Below w.heap.size w w' := by
  obtain ⟨i0, gi, gz0, gz1, gz2⟩ := info_parts infoByte
  have HG := hidIn (gf_any s.size k w (by omega) hk)
  have hw : IntKind.u64.wrap (s.size : Int) = (s.size : Int) := by rw [wrap64]; unfold nat64; omega
  have HT : Hid (txL s k = gfL s.size k ++ s.data.toList) := rfl
  have HL : Hid ((gfL s.size k).length = k) := gfL_length _ _
  have HZ : Hid (s.data.toList.length = s.size) := by unfold Hid; simp
  unfold OwnB
  rw [HT.out, List.length_append, HL.out, HZ.out]
  unfold OwnB at HG
  rw [HL.out] at HG
  go_enter Tryd.func18, Tryd.ntmps18
  go_wp2_with fail
  refine HG.out.mono ?_
  rintro e w1 ⟨v, rfl, hv, hb⟩
  have HV := hidIn hv
  have HB := hidIn hb
  clear hv hb
  go_wp2_with (at_builtin; refine Lib.wpList_append_own_string w1 rfl _ _ 22 9 rfl w.heap.size 5 i0 Tryd.underlying22 Tryd.underlying9 gi gz0 gz1 gz2 v k (rowB (gfL s.size k)) rfl HV.out s rfl (by unfold maxLen; omega) (by omega) HB.out.size ?_; intro v2 w2 hown2 hgrow2 _)
  go_ret
  exact ⟨_, rfl, by rw [rowB_app]; exact hown2, HB.out.grown hgrow2 HB.out.size (fun j hj => (World.ownsRow.lt HV.out j hj).1)⟩

end Go.Proofs.YtkioolbjmcpjpaaDoor.Ev
