/- What pack.Event and pack.Entry answer, of any event. -/
import Derived.Test.YtkioolbjmcpjpaaDoorPkA
import Derived.WalkSmall
namespace Go.Proofs.YtkioolbjmcpjpaaDoor.Ev
open Go.RowKit
set_option linter.unusedVariables false

def ordS : ByteArray := ⟨#[73, 78, 76, 67, 68, 86, 84]⟩
/-- A kind's letters among the first j in the order of bytes. -/
def ordT (k : Int) (j : Nat) : ByteArray := ⟨((order7.take j).filter (fun c => hasB (flds k) c)).toArray⟩
theorem ordT_zero (k : Int) : ordT k 0 = ⟨#[]⟩ := rfl
theorem ordT_all (k : Int) : ordT k 7 = ⟨(ordL k).toArray⟩ := by unfold ordT; rw [ordL_filter]; rfl
theorem ordT_yes (k : Int) (j : Nat) (c : UInt8) (hc : order7[j]? = some c) (h : hasB (flds k) c = true) : ordT k (j + 1) = ordT k j ++ ⟨#[c]⟩ := by
  apply Go.WideShapes.bytes_inj
  unfold ordT
  rw [List.take_add_one, hc, List.filter_append]
  simp [h]
theorem ordT_no (k : Int) (j : Nat) (c : UInt8) (hc : order7[j]? = some c) (h : hasB (flds k) c = false) : ordT k (j + 1) = ordT k j := by
  unfold ordT
  rw [List.take_add_one, hc, List.filter_append]
  simp [h]
theorem ordT_size (k : Int) (j : Nat) : (ordT k j).size ≤ 7 := by
  have h1 := List.length_filter_le (fun c => hasB (flds k) c) (order7.take j)
  have h2 : (order7.take j).length ≤ 7 := by rw [List.length_take]; exact Nat.min_le_right _ _
  exact Nat.le_trans h1 h2
theorem enc_ascii (c : UInt8) (h : c.toNat < 128) : Utf8.encode (c.toNat : Int) = ⟨#[c]⟩ := by
  have : ∀ n : Nat, n < 128 → Utf8.encode ((UInt8.ofNat n).toNat : Int) = ⟨#[UInt8.ofNat n]⟩ := by decide +kernel
  have h2 := this c.toNat h
  rwa [UInt8.ofNat_toNat] at h2

set_option maxHeartbeats 4000000 in
set_option maxRecDepth 100000 in
theorem pfields_any (k : Int) (w : World) : Calls Tryd.prog 12 #[.int .i64 k] w fun e w' => e = .returned (.string ⟨(ordL k).toArray⟩) ∧ Below w.heap.size w w' := by
  have HF := hidIn (fun w => fields_any k w)
  have HC : Hid (∀ (j : Nat) (c : UInt8) (w : World), order7[j]? = some c → Calls Tryd.prog 17 #[.string (flds k), .int .i32 (c.toNat : Int)] w fun e w' => e = .returned (.bool (hasB (flds k) c)) ∧ w' = w) := fun j c w hj => by
    have h128 : c.toNat < 128 := by
      have : ∀ c ∈ order7, c.toNat < 128 := by decide +kernel
      exact this c (List.mem_of_getElem? hj)
    have h := Tryd.strings_ContainsRune_ascii (flds k) (c.toNat : Int) w (by omega) (by omega)
    rw [show ((c.toNat : Int)).toNat.toUInt8 = c by simp] at h
    exact h
  have HY := hidIn (ordT_yes k)
  have HN := hidIn (ordT_no k)
  have HA := hidIn (ordT_all k)
  have H0 := hidIn (ordT_zero k)
  have HZ := hidIn (ordT_size k)
  generalize flds k = f at *
  generalize ordT k = T at *
  generalize (⟨(ordL k).toArray⟩ : ByteArray) = res at *
  go_enter Tryd.func12, Tryd.ntmps12
  go_wp2_with fail
  refine calls_same (HF.out w) ?_
  go_wp2_with fail
  go_loopw [4] (fun s4 wr => ∃ j : Nat, j ≤ 7 ∧ s4 = .string (T j) ∧ wr = w.iter ordS j) (fun _ wr => 7 - wr.iterPos w.heap.size)
  case atStart => exact ⟨0, by omega, by rw [H0.out], rfl⟩
  case round =>
    obtain ⟨j, hj, rfl, rfl⟩ := hrel
    by_cases hlt : j < 7
    · obtain ⟨c, hc⟩ : ∃ c, order7[j]? = some c := ⟨_, List.getElem?_eq_getElem (show j < order7.length from hlt)⟩
      have hp : j < ordS.size := hlt
      have hcs : ordS[j]'hp = c := by
        have : order7[j]'(show j < order7.length from hlt) = c := by rw [List.getElem?_eq_getElem (show j < order7.length from hlt)] at hc; exact Option.some.inj hc
        rw [← this]
        rfl
      have h128 : c.toNat < 128 := by
        have : ∀ c ∈ order7, c.toNat < 128 := by decide +kernel
        exact this c (List.mem_of_getElem? hc)
      have hnx : ∀ ty, (Instr.next (.pointer (some ⟨w.heap.size, 0, none⟩)) true ty).run Tryd.prog (w.iter ordS j) = .ok (.tuple #[.bool true, .int .i64 j, .int .i32 c.toNat]) (w.iter ordS (j + 1)) := fun ty => by
        have := run_next_ascii (P := Tryd.prog) w ordS j ty hp (by rw [hcs]; exact h128)
        rw [hcs] at this
        exact this
      have hen := enc_ascii c h128
      have hzj := HZ.out j
      have HC1 := hidIn (HC.out j c (w.iter ordS (j + 1)) hc)
      have HY1 := hidIn (HY.out j c hc)
      have HN1 := hidIn (HN.out j c hc)
      obtain ⟨z, hz⟩ : ∃ z : ByteArray, (⟨#[c]⟩ : ByteArray) = z := ⟨_, rfl⟩
      rw [hz] at hen HY1
      have hz1 : z.size = 1 := by rw [← hz]; rfl
      clear hcs hp hz h128
      cases hb : hasB f c
      · rw [hb] at HC1
        go_wp2_with fail
        refine calls_same HC1.out ?_
        go_wp2_with fail
        go_roundw
        case rel => exact ⟨j + 1, by omega, by rw [HN1.out hb], rfl⟩
        case measure => simp; omega
      · rw [hb] at HC1
        go_wp2_with fail
        refine calls_same HC1.out ?_
        go_wp2_with fail
        go_roundw
        case rel => exact ⟨j + 1, by omega, by rw [HY1.out hb], rfl⟩
        case measure => simp; omega
    · have h7 : j = 7 := by omega
      subst h7
      have hnx : ∀ ty, (Instr.next (.pointer (some ⟨w.heap.size, 0, none⟩)) true ty).run Tryd.prog (w.iter ordS 7) = _ := fun ty => run_next_end w ordS 7 ty (by decide)
      rw [HA.out]
      go_wp2_with fail
      go_ret
      exact ⟨rfl, below_iter _ _ _⟩

structure Ev.Sz (e : Ev) : Prop where
  i : e.i.size ≤ 2147483648
  n : e.n.size ≤ 2147483648
  l : e.l.size ≤ 2147483648
  u : e.u.size ≤ 2147483648
theorem wTextC_size (c : C) : (wTextC c).size ≤ 1000 := by
  unfold wTextC
  split
  · split
    · decide
    · omega
  · decide
/-- What packed answers. -/
def FdPost (w : World) (l : List UInt8) (r : Ending) (w' : World) : Prop := ∃ v, r = .returned v ∧ OwnB w' w.heap.size v l ∧ Below w.heap.size w w'

set_option maxHeartbeats 4000000 in
set_option maxRecDepth 100000 in
theorem packed_any (e : Ev) (hok : e.Ok) (hsz : e.Sz) (c : UInt8) (hc : c ∈ order7) (w : World) (ht : TabW w) : Calls Tryd.prog 13 #[e.val, .int .i32 (c.toNat : Int)] w (FdPost w (fdL e c)) := by
  have HW := hidIn (fun w ht => writeC_any e.t hok.t hok.w w ht)
  have HT := hidIn ht
  have HI := hidIn (fun w => ptext_any e.i 1 w hsz.i (by omega))
  have HN := hidIn (fun w => ptext_any e.n 1 w hsz.n (by omega))
  have HL := hidIn (fun w => ptext_any e.l 1 w hsz.l (by omega))
  have HU := hidIn (fun w => ptext_any e.u 1 w hsz.u (by omega))
  have HD := hidIn (fun w => number8_any e.d w)
  have HV := hidIn (fun w => number8_any e.v w)
  have HX := hidIn (fun w => ptext_any (wTextC e.t) 2 w (by have := wTextC_size e.t; omega) (by omega))
  have one := e.t.one' hok.t
  have hcc : c = 73 ∨ c = 78 ∨ c = 76 ∨ c = 67 ∨ c = 68 ∨ c = 86 ∨ c = 84 := by simpa [order7] using hc
  unfold FdPost
  have F73 : Hid (fdL e 73 = txL e.i 1) := rfl
  have F78 : Hid (fdL e 78 = txL e.n 1) := rfl
  have F76 : Hid (fdL e 76 = txL e.l 1) := rfl
  have F67 : Hid (fdL e 67 = txL e.u 1) := rfl
  have F68 : Hid (fdL e 68 = gfL (nat64 e.d) 8) := rfl
  have F86 : Hid (fdL e 86 = gfL (nat64 e.v) 8) := rfl
  have F84 : Hid (fdL e 84 = txL (wTextC e.t) 2) := rfl
  generalize fdL e = fd at *
  clear hok hsz ht hc
  obtain ⟨k, i, n, l, u, d, v, t⟩ := e
  unfold Ev.val Ev.cs at *
  simp only at *
  generalize txL i 1 = ri at *
  generalize txL n 1 = rn at *
  generalize txL l 1 = rl at *
  generalize txL u 1 = ru at *
  generalize gfL (nat64 d) 8 = rd at *
  generalize gfL (nat64 v) 8 = rv at *
  generalize t.val = tv at *
  have HBV : Hid (Below w.heap.size w (w.alloc (.cells #[.int .i64 k, .string i, .string n, .string l, .string u, .int .i64 d, .int .i64 v, tv] 37))) := below_alloc (Below.refl _ _) _
  have hx := heap_alloc_new w (.cells #[.int .i64 k, .string i, .string n, .string l, .string u, .int .i64 d, .int .i64 v, tv] 37)
  have HXX := hidIn hx
  clear hx
  rcases hcc with rfl | rfl | rfl | rfl | rfl | rfl | rfl
  · rw [F73.out, show (((73 : UInt8).toNat : Nat) : Int) = 73 from rfl]
    clear F73 F78 F76 F67 F68 F86 F84
    go_enter Tryd.func13, Tryd.ntmps13
    go_wp2_with fail
    generalize w.alloc (.cells #[.int .i64 k, .string i, .string n, .string l, .string u, .int .i64 d, .int .i64 v, tv] 37) = V at *
    refine (HI.out V).mono ?_
    rintro e w1 ⟨v1, rfl, hv1, hb1⟩
    have HV1 := hidIn hv1
    have HB1 := hidIn hb1
    clear hv1 hb1
    go_wp2_with fail
    go_ret
    exact ⟨_, rfl, own_lower HV1.out HBV.out.size, HBV.out.trans (HB1.out.mono HBV.out.size)⟩
  · rw [F78.out, show (((78 : UInt8).toNat : Nat) : Int) = 78 from rfl]
    clear F73 F78 F76 F67 F68 F86 F84
    go_enter Tryd.func13, Tryd.ntmps13
    go_wp2_with fail
    generalize w.alloc (.cells #[.int .i64 k, .string i, .string n, .string l, .string u, .int .i64 d, .int .i64 v, tv] 37) = V at *
    refine (HN.out V).mono ?_
    rintro e w1 ⟨v1, rfl, hv1, hb1⟩
    have HV1 := hidIn hv1
    have HB1 := hidIn hb1
    clear hv1 hb1
    go_wp2_with fail
    go_ret
    exact ⟨_, rfl, own_lower HV1.out HBV.out.size, HBV.out.trans (HB1.out.mono HBV.out.size)⟩
  · rw [F76.out, show (((76 : UInt8).toNat : Nat) : Int) = 76 from rfl]
    clear F73 F78 F76 F67 F68 F86 F84
    go_enter Tryd.func13, Tryd.ntmps13
    go_wp2_with fail
    generalize w.alloc (.cells #[.int .i64 k, .string i, .string n, .string l, .string u, .int .i64 d, .int .i64 v, tv] 37) = V at *
    refine (HL.out V).mono ?_
    rintro e w1 ⟨v1, rfl, hv1, hb1⟩
    have HV1 := hidIn hv1
    have HB1 := hidIn hb1
    clear hv1 hb1
    go_wp2_with fail
    go_ret
    exact ⟨_, rfl, own_lower HV1.out HBV.out.size, HBV.out.trans (HB1.out.mono HBV.out.size)⟩
  · rw [F67.out, show (((67 : UInt8).toNat : Nat) : Int) = 67 from rfl]
    clear F73 F78 F76 F67 F68 F86 F84
    go_enter Tryd.func13, Tryd.ntmps13
    go_wp2_with fail
    generalize w.alloc (.cells #[.int .i64 k, .string i, .string n, .string l, .string u, .int .i64 d, .int .i64 v, tv] 37) = V at *
    refine (HU.out V).mono ?_
    rintro e w1 ⟨v1, rfl, hv1, hb1⟩
    have HV1 := hidIn hv1
    have HB1 := hidIn hb1
    clear hv1 hb1
    go_wp2_with fail
    go_ret
    exact ⟨_, rfl, own_lower HV1.out HBV.out.size, HBV.out.trans (HB1.out.mono HBV.out.size)⟩
  · rw [F68.out, show (((68 : UInt8).toNat : Nat) : Int) = 68 from rfl]
    clear F73 F78 F76 F67 F68 F86 F84
    go_enter Tryd.func13, Tryd.ntmps13
    go_wp2_with fail
    generalize w.alloc (.cells #[.int .i64 k, .string i, .string n, .string l, .string u, .int .i64 d, .int .i64 v, tv] 37) = V at *
    refine (HD.out V).mono ?_
    rintro e w1 ⟨v1, rfl, hv1, hb1⟩
    have HV1 := hidIn hv1
    have HB1 := hidIn hb1
    clear hv1 hb1
    go_wp2_with fail
    go_ret
    exact ⟨_, rfl, own_lower HV1.out HBV.out.size, HBV.out.trans (HB1.out.mono HBV.out.size)⟩
  · rw [F86.out, show (((86 : UInt8).toNat : Nat) : Int) = 86 from rfl]
    clear F73 F78 F76 F67 F68 F86 F84
    go_enter Tryd.func13, Tryd.ntmps13
    go_wp2_with fail
    generalize w.alloc (.cells #[.int .i64 k, .string i, .string n, .string l, .string u, .int .i64 d, .int .i64 v, tv] 37) = V at *
    refine (HV.out V).mono ?_
    rintro e w1 ⟨v1, rfl, hv1, hb1⟩
    have HV1 := hidIn hv1
    have HB1 := hidIn hb1
    clear hv1 hb1
    go_wp2_with fail
    go_ret
    exact ⟨_, rfl, own_lower HV1.out HBV.out.size, HBV.out.trans (HB1.out.mono HBV.out.size)⟩
  · rw [F84.out, show (((84 : UInt8).toNat : Nat) : Int) = 84 from rfl]
    clear F73 F78 F76 F67 F68 F86 F84
    generalize wTextC t = tx at *
    go_enter Tryd.func13, Tryd.ntmps13
    go_wp2_with fail
    generalize w.alloc (.cells #[.int .i64 k, .string i, .string n, .string l, .string u, .int .i64 d, .int .i64 v, tv] 37) = V at *
    refine (HW.out V (tabW_below HT.out HBV.out)).mono ?_
    rintro e w1 ⟨rfl, hb1⟩
    have HB1 := hidIn (HBV.out.trans (hb1.mono HBV.out.size))
    clear hb1
    go_wp2_with fail
    refine (HX.out w1).mono ?_
    rintro e w2 ⟨v2, rfl, hv2, hb2⟩
    have HV2 := hidIn hv2
    have HB2 := hidIn hb2
    clear hv2 hb2
    go_wp2_with fail
    go_ret
    exact ⟨_, rfl, own_lower HV2.out HB1.out.size, HB1.out.trans (HB2.out.mono HB1.out.size)⟩

end Go.Proofs.YtkioolbjmcpjpaaDoor.Ev
