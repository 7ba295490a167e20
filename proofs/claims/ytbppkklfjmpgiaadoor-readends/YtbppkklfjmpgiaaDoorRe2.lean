/- What a reader reads as a number, as a contract. -/
import Derived.Test.YtbppkklfjmpgiaaDoorRe1
import Derived.Lib.ItoaLen
import Derived.Laws.AppendOwnNone
import Derived.Test.YtbppkklfjmpgiaaDoorRefT
import Derived.Test.YtbppkklfjmpgiaaDoorFormT
import Derived.Test.YtbppkklfjmpgiaaDoorRefO
import Derived.Test.YtbppkklfjmpgiaaDoorMakerC1
import Derived.Test.YtbppkklfjmpgiaaDoorMakerC2
import Derived.Test.YtbppkklfjmpgiaaDoorMakerC4
import Derived.Test.YtbppkklfjmpgiaaDoorMakerC5
import Derived.Test.YtbppkklfjmpgiaaDoorMakerC6
import Derived.Test.YtbppkklfjmpgiaaDoorTermSize
import Derived.Test.YtbppkklfjmpgiaaDoorTermP
namespace Go.Proofs.YtbppkklfjmpgiaaDoor
open Go.RowKit
set_option linter.unusedVariables false

def lpB : ByteArray := ⟨#[40]⟩
def rpB : ByteArray := ⟨#[41]⟩
def cmB : ByteArray := ⟨#[44]⟩
def wFix : ByteArray := ⟨#[102, 105, 120]⟩
def wAdd : ByteArray := ⟨#[97, 100, 100]⟩
def wNeg : ByteArray := ⟨#[110, 101, 103]⟩
def wMul : ByteArray := ⟨#[109, 117, 108]⟩
def wMax : ByteArray := ⟨#[109, 97, 120]⟩
def wZero : ByteArray := ⟨#[122, 101, 114, 111]⟩
def wOne : ByteArray := ⟨#[111, 110, 101]⟩
def wGive : ByteArray := ⟨#[103, 105, 118, 101]⟩
def wAnd : ByteArray := ⟨#[97, 110, 100]⟩
def wOr : ByteArray := ⟨#[111, 114]⟩
def wScale : ByteArray := ⟨#[115, 99, 97, 108, 101]⟩
def wWhen : ByteArray := ⟨#[119, 104, 101, 110]⟩
def wIf : ByteArray := ⟨#[105, 102]⟩
/-- Two numbers between brackets. -/
def pairF (rec : RS → O × RS) (r : RS) : O × O × RS :=
  ((rec (markR r lpB)).1, (rec (markR (rec (markR r lpB)).2 cmB)).1, markR (rec (markR (rec (markR r lpB)).2 cmB)).2 rpB)
/-- What is read as a number, and the reader behind it. -/
def obsR : Nat → RS → Nat → O × RS
  | 0, r, _ => (.const 0, r)
  | f + 1, r, d =>
    if (takeS r).1 = wFix then (.fix (takeS (markR (firstR r d) lpB)).1, markR (nameR (markR (firstR r d) lpB)) rpB)
    else if (takeS r).1 = wAdd then (.add (pairF (fun q => obsR f q (d + 1)) (firstR r d)).1 (pairF (fun q => obsR f q (d + 1)) (firstR r d)).2.1, (pairF (fun q => obsR f q (d + 1)) (firstR r d)).2.2)
    else if (takeS r).1 = wNeg then (.neg (obsR f (markR (firstR r d) lpB) (d + 1)).1, markR (obsR f (markR (firstR r d) lpB) (d + 1)).2 rpB)
    else if (takeS r).1 = wMul then (.mul (pairF (fun q => obsR f q (d + 1)) (firstR r d)).1 (pairF (fun q => obsR f q (d + 1)) (firstR r d)).2.1, (pairF (fun q => obsR f q (d + 1)) (firstR r d)).2.2)
    else if (takeS r).1 = wMax then (.max (pairF (fun q => obsR f q (d + 1)) (firstR r d)).1 (pairF (fun q => obsR f q (d + 1)) (firstR r d)).2.1, (pairF (fun q => obsR f q (d + 1)) (firstR r d)).2.2)
    else (.const (Rn.numOf (takeS r).1.data.toList).1, fitR (firstR r d) (takeS r) (Rn.numOf (takeS r).1.data.toList).2)
def lastF (rec : RS → C × RS) (r : RS) : C × RS := ((rec r).1, markR (rec r).2 rpB)
def lastsF (rec : RS → C × RS) (r : RS) : C × C × RS := ((rec r).1, (lastF rec (markR (rec r).2 cmB)).1, (lastF rec (markR (rec r).2 cmB)).2)
/-- What is read as a contract, and the reader behind it. -/
def termR : Nat → RS → Nat → C × RS
  | 0, r, _ => (.odd .nilIface, r)
  | f + 1, r, d =>
    if (takeS r).1 = wZero then (.zero, firstR r d)
    else if (takeS r).1 = wOne then (.one (takeS (markR (firstR r d) lpB)).1, markR (nameR (markR (firstR r d) lpB)) rpB)
    else if (takeS r).1 = wGive then (.give (lastF (fun q => termR f q (d + 1)) (markR (firstR r d) lpB)).1, (lastF (fun q => termR f q (d + 1)) (markR (firstR r d) lpB)).2)
    else if (takeS r).1 = wAnd then (.and (lastsF (fun q => termR f q (d + 1)) (markR (firstR r d) lpB)).1 (lastsF (fun q => termR f q (d + 1)) (markR (firstR r d) lpB)).2.1, (lastsF (fun q => termR f q (d + 1)) (markR (firstR r d) lpB)).2.2)
    else if (takeS r).1 = wOr then (.or (takeS (markR (firstR r d) lpB)).1 (lastsF (fun q => termR f q (d + 1)) (markR (nameR (markR (firstR r d) lpB)) cmB)).1 (lastsF (fun q => termR f q (d + 1)) (markR (nameR (markR (firstR r d) lpB)) cmB)).2.1, (lastsF (fun q => termR f q (d + 1)) (markR (nameR (markR (firstR r d) lpB)) cmB)).2.2)
    else if (takeS r).1 = wScale then (.scale (obsR f (markR (firstR r d) lpB) (d + 1)).1 (lastF (fun q => termR f q (d + 1)) (markR (obsR f (markR (firstR r d) lpB) (d + 1)).2 cmB)).1, (lastF (fun q => termR f q (d + 1)) (markR (obsR f (markR (firstR r d) lpB) (d + 1)).2 cmB)).2)
    else if (takeS r).1 = wWhen then (.when (dayV (markR (firstR r d) lpB)) (lastF (fun q => termR f q (d + 1)) (markR (dayR (markR (firstR r d) lpB)) cmB)).1, (lastF (fun q => termR f q (d + 1)) (markR (dayR (markR (firstR r d) lpB)) cmB)).2)
    else if (takeS r).1 = wIf then (.iff (obsR f (markR (firstR r d) lpB) (d + 1)).1 (lastsF (fun q => termR f q (d + 1)) (markR (obsR f (markR (firstR r d) lpB) (d + 1)).2 cmB)).1 (lastsF (fun q => termR f q (d + 1)) (markR (obsR f (markR (firstR r d) lpB) (d + 1)).2 cmB)).2.1, (lastsF (fun q => termR f q (d + 1)) (markR (obsR f (markR (firstR r d) lpB) (d + 1)).2 cmB)).2.2)
    else (.odd .nilIface, fitR (firstR r d) (takeS r) false)
theorem takeR_e (r : RS) : (takeR r).e = r.e := by unfold takeR; split <;> rfl
theorem refuseR_e (r : RS) (p e : Int) (h : r.e ≠ 0) : (refuseR r p e).e ≠ 0 := by unfold refuseR; rw [if_neg h]; exact h
theorem fitR_e (r : RS) (s : Rn.Sg) (ok : Bool) (h : r.e ≠ 0) : (fitR r s ok).e ≠ 0 := by
  unfold fitR; split
  · exact h
  · exact refuseR_e r _ _ h
theorem markR_e (r : RS) (t : ByteArray) (h : r.e ≠ 0) : (markR r t).e ≠ 0 := fitR_e _ _ _ (by rw [takeR_e]; exact h)
theorem nameR_e (r : RS) (h : r.e ≠ 0) : (nameR r).e ≠ 0 := fitR_e _ _ _ (by rw [takeR_e]; exact h)
theorem dayR_e (r : RS) (h : r.e ≠ 0) : (dayR r).e ≠ 0 := fitR_e _ _ _ (by rw [takeR_e]; exact h)
theorem firstR_e (r : RS) (d : Nat) (h : r.e ≠ 0) : (firstR r d).e ≠ 0 := by
  unfold firstR; split
  · exact refuseR_e _ _ _ (by rw [takeR_e]; exact h)
  · rw [takeR_e]; exact h
theorem firstR_deep (r : RS) (d : Nat) (h : 12 < d) : (firstR r d).e ≠ 0 := by
  unfold firstR
  rw [if_pos h]
  unfold refuseR
  split
  · show (5 : Int) ≠ 0; decide
  · assumption
theorem pairF_e (rec : RS → O × RS) (hr : ∀ q, q.e ≠ 0 → (rec q).2.e ≠ 0) (r : RS) (h : r.e ≠ 0) : (pairF rec r).2.2.e ≠ 0 :=
  markR_e _ _ (hr _ (markR_e _ _ (hr _ (markR_e _ _ h))))
theorem lastF_e (rec : RS → C × RS) (hr : ∀ q, q.e ≠ 0 → (rec q).2.e ≠ 0) (r : RS) (h : r.e ≠ 0) : (lastF rec r).2.e ≠ 0 := markR_e _ _ (hr _ h)
theorem lastsF_e (rec : RS → C × RS) (hr : ∀ q, q.e ≠ 0 → (rec q).2.e ≠ 0) (r : RS) (h : r.e ≠ 0) : (lastsF rec r).2.2.e ≠ 0 := lastF_e rec hr _ (markR_e _ _ (hr _ h))
theorem obsR_e (f : Nat) : ∀ r d, r.e ≠ 0 → (obsR f r d).2.e ≠ 0 := by
  induction f with
  | zero => intro r d h; exact h
  | succ f ih =>
    intro r d h
    have h1 := firstR_e r d h
    have ih' : ∀ q, q.e ≠ 0 → ((fun q => obsR f q (d + 1)) q).2.e ≠ 0 := fun q hq => ih q (d + 1) hq
    unfold obsR
    repeat' split
    · exact markR_e _ _ (nameR_e _ (markR_e _ _ h1))
    · exact pairF_e _ ih' _ h1
    · exact markR_e _ _ (ih _ _ (markR_e _ _ h1))
    · exact pairF_e _ ih' _ h1
    · exact pairF_e _ ih' _ h1
    · exact fitR_e _ _ _ h1
theorem takeS_none (r : RS) (h : r.e ≠ 0) : takeS r = (⟨#[]⟩, r.past) := by unfold takeS noS; rw [if_neg h]

/-- What is known of the call that reads a number so deep. -/
def ObsC (f d : Nat) : Prop := ∀ (r : RS) (w : World) (R : Nat), (14 ≤ d → r.e ≠ 0) → RIn w R r →
  Calls Tryd.prog 36 #[.pointer (some ⟨R, 0, none⟩), .int .i64 (d : Int)] w fun e w' => e = .returned (obsR f r d).1.val ∧ (obsR f r d).1.Ok ∧ RIn w' R (obsR f r d).2 ∧ Grew R none w w'
def TermC (f d : Nat) : Prop := ∀ (r : RS) (w : World) (R : Nat), (14 ≤ d → r.e ≠ 0) → RIn w R r →
  Calls Tryd.prog 16 #[.pointer (some ⟨R, 0, none⟩), .int .i64 (d : Int)] w fun e w' => e = .returned (termR f r d).1.val ∧ (termR f r d).1.Ok ∧ RIn w' R (termR f r d).2 ∧ Grew R none w w'

set_option maxHeartbeats 1000000 in
set_option maxRecDepth 100000 in
theorem two_any (f d : Nat) (hd : d ≤ 100) (hI : ObsC f (d + 1)) (r : RS) (w : World) (R : Nat) (he : 13 ≤ d → r.e ≠ 0) (h : RIn w R r) :
    Calls Tryd.prog 61 #[.pointer (some ⟨R, 0, none⟩), .int .i64 (d : Int)] w fun e w' => e = .returned (.tuple #[(pairF (fun q => obsR f q (d + 1)) r).1.val, (pairF (fun q => obsR f q (d + 1)) r).2.1.val]) ∧ (pairF (fun q => obsR f q (d + 1)) r).1.Ok ∧ (pairF (fun q => obsR f q (d + 1)) r).2.1.Ok ∧ RIn w' R (pairF (fun q => obsR f q (d + 1)) r).2.2 ∧ Grew R none w w' := by
  have HI : Hid (∀ (r : RS) (w : World) (R : Nat), (13 ≤ d → r.e ≠ 0) → RIn w R r → Calls Tryd.prog 36 #[.pointer (some ⟨R, 0, none⟩), .int .i64 ((d : Int) + 1)] w fun e w' => e = .returned (obsR f r (d + 1)).1.val ∧ (obsR f r (d + 1)).1.Ok ∧ RIn w' R (obsR f r (d + 1)).2 ∧ Grew R none w w') := fun r w R hr hR => hI r w R (fun hd => hr (by omega)) hR
  have HH := hidIn h
  have HE0 := hidIn he
  clear h hI he
  unfold pairF
  go_enter Tryd.func61, Tryd.ntmps61
  go_wp2_with fail
  refine (mark_any w R r lpB HH.out).mono ?_
  rintro e w1 ⟨rfl, h1, hg1⟩
  have HR1 := hidIn h1
  have HG1 := hidIn hg1
  have HE1 : Hid (13 ≤ d → (markR r lpB).e ≠ 0) := fun hd => markR_e _ _ (HE0.out hd)
  clear h1 hg1
  go_wp2_with fail
  refine (HI.out _ w1 R HE1.out HR1.out).mono ?_
  rintro e w2 ⟨rfl, hok2, h2, hg2⟩
  have HR2 := hidIn h2
  have HO2 := hidIn hok2
  have HG2 := hidIn (HG1.out.tr hg2)
  have HE2 : Hid (13 ≤ d → (obsR f (markR r lpB) (d + 1)).2.e ≠ 0) := fun hd => obsR_e _ _ _ (HE1.out hd)
  clear h2 hg2 hok2
  go_wp2_with fail
  refine (mark_any w2 R _ cmB HR2.out).mono ?_
  rintro e w3 ⟨rfl, h3, hg3⟩
  have HR3 := hidIn h3
  have HG3 := hidIn (HG2.out.tr hg3)
  have HE3 : Hid (13 ≤ d → (markR (obsR f (markR r lpB) (d + 1)).2 cmB).e ≠ 0) := fun hd => markR_e _ _ (HE2.out hd)
  clear h3 hg3
  go_wp2_with fail
  refine (HI.out _ w3 R HE3.out HR3.out).mono ?_
  rintro e w4 ⟨rfl, hok4, h4, hg4⟩
  have HR4 := hidIn h4
  have HO4 := hidIn hok4
  have HG4 := hidIn (HG3.out.tr hg4)
  clear h4 hg4 hok4
  go_wp2_with fail
  refine (mark_any w4 R _ rpB HR4.out).mono ?_
  rintro e w5 ⟨rfl, h5, hg5⟩
  have HR5 := hidIn h5
  have HG5 := hidIn (HG4.out.tr hg5)
  clear h5 hg5
  go_wp2_with fail
  go_ret2
  exact ⟨rfl, HO2.out, HO4.out, HR5.out, HG5.out⟩
theorem tl_eq {a b : ByteArray} {l : List UInt8} (hb : b.toList = l) : (a.toList == l) = decide (a = b) := by
  subst hb
  by_cases h : a = b
  · subst h; simp
  · rw [decide_eq_false h]; exact beq_eq_false_iff_ne.2 (fun e => h (toList_inj e))
theorem tlFix : wFix.toList = [102, 105, 120] := by decide +kernel
theorem tlAdd : wAdd.toList = [97, 100, 100] := by decide +kernel
theorem tlNeg : wNeg.toList = [110, 101, 103] := by decide +kernel
theorem tlMul : wMul.toList = [109, 117, 108] := by decide +kernel
theorem tlMax : wMax.toList = [109, 97, 120] := by decide +kernel
theorem tlZero : wZero.toList = [122, 101, 114, 111] := by decide +kernel
theorem tlOne : wOne.toList = [111, 110, 101] := by decide +kernel
theorem tlGive : wGive.toList = [103, 105, 118, 101] := by decide +kernel
theorem tlAnd : wAnd.toList = [97, 110, 100] := by decide +kernel
theorem tlOr : wOr.toList = [111, 114] := by decide +kernel
theorem tlScale : wScale.toList = [115, 99, 97, 108, 101] := by decide +kernel
theorem tlWhen : wWhen.toList = [119, 104, 101, 110] := by decide +kernel
theorem tlIf : wIf.toList = [105, 102] := by decide +kernel
theorem numOf_bd (l : List UInt8) : -9223372036854775808 ≤ (Rn.numOf l).1 ∧ (Rn.numOf l).1 ≤ 9223372036854775807 := by
  cases l with
  | nil => rw [Rn.numOf_nil]; decide
  | cons a t =>
    by_cases h : a = 45
    · subst h
      rw [Rn.numOf_neg]
      have := Rn.natOf_bd t
      split
      · constructor <;> simp only <;> omega
      · constructor <;> simp only <;> omega
    · rw [Rn.numOf_pos _ (by simpa using h)]
      have := Rn.natOf_bd (a :: t)
      omega
theorem ba_ne {a b : ByteArray} (h : ¬ a = b) : ¬ a.toList = b.toList := fun e => h (toList_inj e)
theorem ba_nb {a b : ByteArray} (h : ¬ a = b) : (a.toList == b.toList) = false := beq_eq_false_iff_ne.2 (ba_ne h)

set_option maxHeartbeats 4000000 in
set_option maxRecDepth 100000 in
theorem obs_step (f d : Nat) (hdf : d + (f + 1) = 15) (hI : ObsC f (d + 1)) (r : RS) (w : World) (R : Nat) (he : 14 ≤ d → r.e ≠ 0) (h : RIn w R r) :
    Calls Tryd.prog 36 #[.pointer (some ⟨R, 0, none⟩), .int .i64 (d : Int)] w fun e w' => e = .returned (obsR (f + 1) r d).1.val ∧ (obsR (f + 1) r d).1.Ok ∧ RIn w' R (obsR (f + 1) r d).2 ∧ Grew R none w w' := by
  have HI : Hid (∀ (r : RS) (w : World) (R : Nat), (13 ≤ d → r.e ≠ 0) → RIn w R r → Calls Tryd.prog 36 #[.pointer (some ⟨R, 0, none⟩), .int .i64 ((d : Int) + 1)] w fun e w' => e = .returned (obsR f r (d + 1)).1.val ∧ (obsR f r (d + 1)).1.Ok ∧ RIn w' R (obsR f r (d + 1)).2 ∧ Grew R none w w') := fun r w R hr hR => hI r w R (fun hd => hr (by omega)) hR
  have H2 := hidIn (two_any f d (by omega) hI)
  clear hI
  have HH := hidIn h
  have HLT0 := hidIn h.lt
  have HSZ := hidIn (takeS_size h)
  have HDD : Hid (d + (f + 1) = 15) := hdf
  have HER := hidIn he
  clear h he
  go_enter Tryd.func36, Tryd.ntmps36
  go_wp2_with fail
  refine (first_any w R r d (by omega) HH.out).mono ?_
  rintro e w1 ⟨rfl, h1, hg1⟩
  have HR1 := hidIn h1
  have HG1 := hidIn hg1
  have HE1 : Hid (13 ≤ d → (firstR r d).e ≠ 0) := fun hd => firstR_deep r d (by omega)
  clear h1 hg1
  obtain ⟨s, hse⟩ : ∃ s, takeS r = s := ⟨_, rfl⟩
  have HSE := hidIn hse
  rw [hse] at HSZ
  rw [hse]
  clear hse
  unfold sgV
  go_upto_region 3 with fail
  obtain ⟨W, hW⟩ : ∃ W, W = w1.alloc (.cells #[.string s.1, .int .i64 s.2] 97) := ⟨_, rfl⟩
  have HBL : Hid (Below w1.heap.size w1 W) := by rw [hW]; exact below_alloc (Below.refl _ _) _
  have HBK : Hid (Blk W w1.heap.size 97 #[.string s.1, .int .i64 s.2]) := by rw [hW]; exact blk_new rfl
  have HR0 := hidIn (HR1.out.below HBL.out)
  have HG0 : Hid (Grew R none w W) := HG1.out.tr (Grew.of_below HBL.out)
  have c0 : W.cell? ⟨w1.heap.size, 0, none⟩ = some (.string s.1) := HBK.out.cell 0
  have c1 : W.cell? ⟨w1.heap.size, 1, none⟩ = some (.int .i64 s.2) := HBK.out.cell 1
  rw [← hW]
  clear hW HR1 HG1
  obtain ⟨r1, hr1⟩ : ∃ r1, firstR r d = r1 := ⟨_, rfl⟩
  rw [hr1] at HR0 HE1
  have HRR := hidIn hr1
  clear hr1

  by_cases k0 : s.1 = wFix
  · have HT : Hid (obsR (f + 1) r d = (.fix (takeS (markR r1 lpB)).1, markR (nameR (markR r1 lpB)) rpB)) := by show _ = _; rw [obsR, HSE.out, HRR.out, if_pos k0]
    have y : (s.1.toList == [102, 105, 120]) = true := by rw [tl_eq tlFix]; exact decide_eq_true k0
    clear k0
    go_wp2_with fail
    refine (mark_any W R r1 lpB HR0.out).mono ?_
    rintro e v1 ⟨rfl, h, hg⟩
    have HR1 := hidIn h
    have HG1 := hidIn (HG0.out.tr hg)
    clear h hg
    have HNS := hidIn (takeS_size HR1.out)
    go_wp2_with fail
    refine (rname_any _ R _ HR1.out).mono ?_
    rintro e v2 ⟨rfl, h, hg⟩
    have HR2 := hidIn h
    have HG2 := hidIn (HG1.out.tr hg)
    clear h hg
    go_wp2_with fail
    refine (mark_any _ R _ rpB HR2.out).mono ?_
    rintro e v3 ⟨rfl, h, hg⟩
    have HR3 := hidIn h
    have HG3 := hidIn (HG2.out.tr hg)
    clear h hg
    go_wp2_with fail
    go_ret
    rw [HT.out]
    exact ⟨rfl, HNS.out, HR3.out, HG3.out⟩
  by_cases k1 : s.1 = wAdd
  · have HT : Hid (obsR (f + 1) r d = (.add (pairF (fun q => obsR f q (d + 1)) r1).1 (pairF (fun q => obsR f q (d + 1)) r1).2.1, (pairF (fun q => obsR f q (d + 1)) r1).2.2)) := by show _ = _; rw [obsR, HSE.out, HRR.out, if_neg k0, if_pos k1]
    have n0 : (s.1.toList == [102, 105, 120]) = false := by rw [tl_eq tlFix]; exact decide_eq_false k0
    have y : (s.1.toList == [97, 100, 100]) = true := by rw [tl_eq tlAdd]; exact decide_eq_true k1
    clear k0 k1
    go_wp2_with fail
    refine (H2.out r1 W R HE1.out HR0.out).mono ?_
    rintro e v1 ⟨rfl, ho, ho2, h, hg⟩
    have HO1 := hidIn ho
    have HP1 := hidIn ho2
    clear ho ho2
    have HR1 := hidIn h
    have HG1 := hidIn (HG0.out.tr hg)
    clear h hg
    obtain ⟨xa, hxa⟩ : ∃ v, (pairF (fun q => obsR f q (d + 1)) r1).1.val = v := ⟨_, rfl⟩
    have HXa := hidIn hxa
    have qa := (pairF (fun q => obsR f q (d + 1)) r1).1.one' HO1.out
    rw [hxa] at qa
    rw [hxa]
    clear hxa
    have sva := qa.store
    have cva := qa.cells
    have mva := qa.cells
    unfold Value.cells at mva
    clear qa
    obtain ⟨xb, hxb⟩ : ∃ v, (pairF (fun q => obsR f q (d + 1)) r1).2.1.val = v := ⟨_, rfl⟩
    have HXb := hidIn hxb
    have qb := (pairF (fun q => obsR f q (d + 1)) r1).2.1.one' HP1.out
    rw [hxb] at qb
    rw [hxb]
    clear hxb
    have svb := qb.store
    have cvb := qb.cells
    have mvb := qb.cells
    unfold Value.cells at mvb
    clear qb
    go_wp2_with fail
    go_ret
    rw [HT.out]
    exact ⟨by show _ = Ending.returned (.iface _ (.agg #[O.val _, O.val _])); rw [HXa.out, HXb.out]; rfl, ⟨HO1.out, HP1.out⟩, HR1.out, HG1.out⟩
  by_cases k2 : s.1 = wNeg
  · have HT : Hid (obsR (f + 1) r d = (.neg (obsR f (markR r1 lpB) (d + 1)).1, markR (obsR f (markR r1 lpB) (d + 1)).2 rpB)) := by show _ = _; rw [obsR, HSE.out, HRR.out, if_neg k0, if_neg k1, if_pos k2]
    have n0 : (s.1.toList == [102, 105, 120]) = false := by rw [tl_eq tlFix]; exact decide_eq_false k0
    have n1 : (s.1.toList == [97, 100, 100]) = false := by rw [tl_eq tlAdd]; exact decide_eq_false k1
    have y : (s.1.toList == [110, 101, 103]) = true := by rw [tl_eq tlNeg]; exact decide_eq_true k2
    clear k0 k1 k2
    go_wp2_with fail
    refine (mark_any W R r1 lpB HR0.out).mono ?_
    rintro e v1 ⟨rfl, h, hg⟩
    have HR1 := hidIn h
    have HG1 := hidIn (HG0.out.tr hg)
    clear h hg
    go_wp2_with fail
    refine (HI.out _ _ R (fun hd => markR_e _ _ (HE1.out hd)) HR1.out).mono ?_
    rintro e v2 ⟨rfl, ho, h, hg⟩
    have HO2 := hidIn ho
    clear ho
    have HR2 := hidIn h
    have HG2 := hidIn (HG1.out.tr hg)
    clear h hg
    obtain ⟨xa, hxa⟩ : ∃ v, (obsR f (markR r1 lpB) (d + 1)).1.val = v := ⟨_, rfl⟩
    have HXa := hidIn hxa
    have qa := (obsR f (markR r1 lpB) (d + 1)).1.one' HO2.out
    rw [hxa] at qa
    rw [hxa]
    clear hxa
    have sva := qa.store
    have cva := qa.cells
    have mva := qa.cells
    unfold Value.cells at mva
    clear qa
    go_wp2_with fail
    refine (mark_any _ R _ rpB HR2.out).mono ?_
    rintro e v3 ⟨rfl, h, hg⟩
    have HR3 := hidIn h
    have HG3 := hidIn (HG2.out.tr hg)
    clear h hg
    go_wp2_with fail
    go_ret
    rw [HT.out]
    exact ⟨by show _ = Ending.returned (.iface _ (.agg #[O.val _])); rw [HXa.out]; rfl, HO2.out, HR3.out, HG3.out⟩
  by_cases k3 : s.1 = wMul
  · have HT : Hid (obsR (f + 1) r d = (.mul (pairF (fun q => obsR f q (d + 1)) r1).1 (pairF (fun q => obsR f q (d + 1)) r1).2.1, (pairF (fun q => obsR f q (d + 1)) r1).2.2)) := by show _ = _; rw [obsR, HSE.out, HRR.out, if_neg k0, if_neg k1, if_neg k2, if_pos k3]
    have n0 : (s.1.toList == [102, 105, 120]) = false := by rw [tl_eq tlFix]; exact decide_eq_false k0
    have n1 : (s.1.toList == [97, 100, 100]) = false := by rw [tl_eq tlAdd]; exact decide_eq_false k1
    have n2 : (s.1.toList == [110, 101, 103]) = false := by rw [tl_eq tlNeg]; exact decide_eq_false k2
    have y : (s.1.toList == [109, 117, 108]) = true := by rw [tl_eq tlMul]; exact decide_eq_true k3
    clear k0 k1 k2 k3
    go_wp2_with fail
    refine (H2.out r1 W R HE1.out HR0.out).mono ?_
    rintro e v1 ⟨rfl, ho, ho2, h, hg⟩
    have HO1 := hidIn ho
    have HP1 := hidIn ho2
    clear ho ho2
    have HR1 := hidIn h
    have HG1 := hidIn (HG0.out.tr hg)
    clear h hg
    obtain ⟨xa, hxa⟩ : ∃ v, (pairF (fun q => obsR f q (d + 1)) r1).1.val = v := ⟨_, rfl⟩
    have HXa := hidIn hxa
    have qa := (pairF (fun q => obsR f q (d + 1)) r1).1.one' HO1.out
    rw [hxa] at qa
    rw [hxa]
    clear hxa
    have sva := qa.store
    have cva := qa.cells
    have mva := qa.cells
    unfold Value.cells at mva
    clear qa
    obtain ⟨xb, hxb⟩ : ∃ v, (pairF (fun q => obsR f q (d + 1)) r1).2.1.val = v := ⟨_, rfl⟩
    have HXb := hidIn hxb
    have qb := (pairF (fun q => obsR f q (d + 1)) r1).2.1.one' HP1.out
    rw [hxb] at qb
    rw [hxb]
    clear hxb
    have svb := qb.store
    have cvb := qb.cells
    have mvb := qb.cells
    unfold Value.cells at mvb
    clear qb
    go_wp2_with fail
    go_ret
    rw [HT.out]
    exact ⟨by show _ = Ending.returned (.iface _ (.agg #[O.val _, O.val _])); rw [HXa.out, HXb.out]; rfl, ⟨HO1.out, HP1.out⟩, HR1.out, HG1.out⟩
  by_cases k4 : s.1 = wMax
  · have HT : Hid (obsR (f + 1) r d = (.max (pairF (fun q => obsR f q (d + 1)) r1).1 (pairF (fun q => obsR f q (d + 1)) r1).2.1, (pairF (fun q => obsR f q (d + 1)) r1).2.2)) := by show _ = _; rw [obsR, HSE.out, HRR.out, if_neg k0, if_neg k1, if_neg k2, if_neg k3, if_pos k4]
    have n0 : (s.1.toList == [102, 105, 120]) = false := by rw [tl_eq tlFix]; exact decide_eq_false k0
    have n1 : (s.1.toList == [97, 100, 100]) = false := by rw [tl_eq tlAdd]; exact decide_eq_false k1
    have n2 : (s.1.toList == [110, 101, 103]) = false := by rw [tl_eq tlNeg]; exact decide_eq_false k2
    have n3 : (s.1.toList == [109, 117, 108]) = false := by rw [tl_eq tlMul]; exact decide_eq_false k3
    have y : (s.1.toList == [109, 97, 120]) = true := by rw [tl_eq tlMax]; exact decide_eq_true k4
    clear k0 k1 k2 k3 k4
    go_wp2_with fail
    refine (H2.out r1 W R HE1.out HR0.out).mono ?_
    rintro e v1 ⟨rfl, ho, ho2, h, hg⟩
    have HO1 := hidIn ho
    have HP1 := hidIn ho2
    clear ho ho2
    have HR1 := hidIn h
    have HG1 := hidIn (HG0.out.tr hg)
    clear h hg
    obtain ⟨xa, hxa⟩ : ∃ v, (pairF (fun q => obsR f q (d + 1)) r1).1.val = v := ⟨_, rfl⟩
    have HXa := hidIn hxa
    have qa := (pairF (fun q => obsR f q (d + 1)) r1).1.one' HO1.out
    rw [hxa] at qa
    rw [hxa]
    clear hxa
    have sva := qa.store
    have cva := qa.cells
    have mva := qa.cells
    unfold Value.cells at mva
    clear qa
    obtain ⟨xb, hxb⟩ : ∃ v, (pairF (fun q => obsR f q (d + 1)) r1).2.1.val = v := ⟨_, rfl⟩
    have HXb := hidIn hxb
    have qb := (pairF (fun q => obsR f q (d + 1)) r1).2.1.one' HP1.out
    rw [hxb] at qb
    rw [hxb]
    clear hxb
    have svb := qb.store
    have cvb := qb.cells
    have mvb := qb.cells
    unfold Value.cells at mvb
    clear qb
    go_wp2_with fail
    go_ret
    rw [HT.out]
    exact ⟨by show _ = Ending.returned (.iface _ (.agg #[O.val _, O.val _])); rw [HXa.out, HXb.out]; rfl, ⟨HO1.out, HP1.out⟩, HR1.out, HG1.out⟩
  have HT : Hid (obsR (f + 1) r d = (.const (Rn.numOf s.1.data.toList).1, fitR r1 s (Rn.numOf s.1.data.toList).2)) := by show _ = _; rw [obsR, HSE.out, HRR.out, if_neg k0, if_neg k1, if_neg k2, if_neg k3, if_neg k4]
  have n0 : (s.1.toList == [102, 105, 120]) = false := by rw [tl_eq tlFix]; exact decide_eq_false k0
  have n1 : (s.1.toList == [97, 100, 100]) = false := by rw [tl_eq tlAdd]; exact decide_eq_false k1
  have n2 : (s.1.toList == [110, 101, 103]) = false := by rw [tl_eq tlNeg]; exact decide_eq_false k2
  have n3 : (s.1.toList == [109, 117, 108]) = false := by rw [tl_eq tlMul]; exact decide_eq_false k3
  have n4 : (s.1.toList == [109, 97, 120]) = false := by rw [tl_eq tlMax]; exact decide_eq_false k4
  clear k0 k1 k2 k3 k4
  go_wp2_with fail
  refine (Rn.number_any s.1 W (by have := HSZ.out; unfold maxLen; omega)).mono ?_
  rintro e w2 ⟨rfl, hb2⟩
  have hk := HBK.out.below hb2 HBK.out.lt
  have d0 : w2.cell? ⟨w1.heap.size, 0, none⟩ = some (.string s.1) := hk.cell 0
  have d1 : w2.cell? ⟨w1.heap.size, 1, none⟩ = some (.int .i64 s.2) := hk.cell 1
  have HR1 := hidIn (HR0.out.below hb2)
  have HG1 := hidIn (HG0.out.tr (Grew.of_below hb2))
  have HNB := hidIn (numOf_bd s.1.data.toList)
  clear hb2 hk c0 c1
  go_wp2_with fail
  refine (fit_any _ R r1 s _ HR1.out).mono ?_
  rintro e v2 ⟨rfl, h, hg⟩
  have HR2 := hidIn h
  have HG2 := hidIn (HG1.out.tr hg)
  clear h hg
  go_wp2_with fail
  go_ret
  rw [HT.out]
  exact ⟨rfl, HNB.out, HR2.out, HG2.out⟩
theorem dead_first (r : RS) (d : Nat) (h : r.e ≠ 0) : firstR r d = r := by
  have h1 : takeR r = r := by unfold takeR; rw [if_neg h]
  unfold firstR
  rw [h1]
  split
  · unfold refuseR; rw [if_neg h]
  · rfl
theorem dead_fit (r : RS) (s : Rn.Sg) (h : r.e ≠ 0) : fitR r s false = r := by
  unfold fitR refuseR
  rw [if_neg (by decide), if_neg h]
set_option maxHeartbeats 4000000 in
set_option maxRecDepth 100000 in
theorem obs_dead (d : Nat) (hd : d ≤ 15) (r : RS) (w : World) (R : Nat) (he : r.e ≠ 0) (h : RIn w R r) :
    Calls Tryd.prog 36 #[.pointer (some ⟨R, 0, none⟩), .int .i64 (d : Int)] w fun e w' => e = .returned (O.const 0).val ∧ RIn w' R r ∧ Grew R none w w' := by
  have hdf : d + (0 + 1) ≤ 16 := by omega
  have HDE : Hid (takeS r = (⟨#[]⟩, r.past) ∧ firstR r d = r ∧ ∀ s, fitR r s false = r) := ⟨takeS_none r he, dead_first r d he, fun s => dead_fit r s he⟩
  clear he
  have HH := hidIn h
  have HLT0 := hidIn h.lt
  have HSZ := hidIn (takeS_size h)
  clear h
  go_enter Tryd.func36, Tryd.ntmps36
  go_wp2_with fail
  refine (first_any w R r d (by omega) HH.out).mono ?_
  rintro e w1 ⟨rfl, h1, hg1⟩
  have HR1 := hidIn h1
  have HG1 := hidIn hg1
  clear h1 hg1
  obtain ⟨s, hse⟩ : ∃ s, takeS r = s := ⟨_, rfl⟩
  have HSE := hidIn hse
  rw [hse] at HSZ
  rw [hse]
  clear hse
  unfold sgV
  go_upto_region 3 with fail
  obtain ⟨W, hW⟩ : ∃ W, W = w1.alloc (.cells #[.string s.1, .int .i64 s.2] 97) := ⟨_, rfl⟩
  have HBL : Hid (Below w1.heap.size w1 W) := by rw [hW]; exact below_alloc (Below.refl _ _) _
  have HBK : Hid (Blk W w1.heap.size 97 #[.string s.1, .int .i64 s.2]) := by rw [hW]; exact blk_new rfl
  have HR0 := hidIn (HR1.out.below HBL.out)
  have HG0 : Hid (Grew R none w W) := HG1.out.tr (Grew.of_below HBL.out)
  have c0 : W.cell? ⟨w1.heap.size, 0, none⟩ = some (.string s.1) := HBK.out.cell 0
  have c1 : W.cell? ⟨w1.heap.size, 1, none⟩ = some (.int .i64 s.2) := HBK.out.cell 1
  rw [← hW]
  clear hW HR1 HG1
  obtain ⟨r1, hr1⟩ : ∃ r1, firstR r d = r1 := ⟨_, rfl⟩
  rw [hr1] at HR0
  have HRR := hidIn hr1
  clear hr1
  have hs0 : s = (⟨#[]⟩, r.past) := HSE.out.symm.trans HDE.out.1
  have hrr : r1 = r := HRR.out.symm.trans HDE.out.2.1
  have n0 : (s.1.toList == [102, 105, 120]) = false := by rw [tl_eq tlFix, hs0]; show decide ((⟨#[]⟩ : ByteArray) = wFix) = false; decide
  have n1 : (s.1.toList == [97, 100, 100]) = false := by rw [tl_eq tlAdd, hs0]; show decide ((⟨#[]⟩ : ByteArray) = wAdd) = false; decide
  have n2 : (s.1.toList == [110, 101, 103]) = false := by rw [tl_eq tlNeg, hs0]; show decide ((⟨#[]⟩ : ByteArray) = wNeg) = false; decide
  have n3 : (s.1.toList == [109, 117, 108]) = false := by rw [tl_eq tlMul, hs0]; show decide ((⟨#[]⟩ : ByteArray) = wMul) = false; decide
  have n4 : (s.1.toList == [109, 97, 120]) = false := by rw [tl_eq tlMax, hs0]; show decide ((⟨#[]⟩ : ByteArray) = wMax) = false; decide
  have HS0 := hidIn hs0
  have HR9 := hidIn hrr
  clear hs0 hrr
  go_wp2_with fail
  refine (Rn.number_any s.1 W (by have := HSZ.out; unfold maxLen; omega)).mono ?_
  rintro e w2 ⟨rfl, hb2⟩
  have hk := HBK.out.below hb2 HBK.out.lt
  have d0 : w2.cell? ⟨w1.heap.size, 0, none⟩ = some (.string s.1) := hk.cell 0
  have d1 : w2.cell? ⟨w1.heap.size, 1, none⟩ = some (.int .i64 s.2) := hk.cell 1
  have HR1 := hidIn (HR0.out.below hb2)
  have HG1 := hidIn (HG0.out.tr (Grew.of_below hb2))
  clear hb2 hk c0 c1
  have hn0 : Rn.numOf s.1.data.toList = (0, false) := by rw [HS0.out]; rfl
  rw [hn0]
  clear hn0
  go_wp2_with fail
  refine (fit_any _ R r1 s _ HR1.out).mono ?_
  rintro e v2 ⟨rfl, h, hg⟩
  have HR2 := hidIn h
  have HG2 := hidIn (HG1.out.tr hg)
  clear h hg
  go_wp2_with fail
  go_ret
  have h2 := HR2.out
  rw [HR9.out, HDE.out.2.2] at h2
  exact ⟨rfl, h2, HG2.out⟩
theorem obs_all : ∀ f d, d + f = 15 → ObsC f d := by
  intro f
  induction f with
  | zero =>
    intro d hd r w R he h
    refine (obs_dead d (by omega) r w R (he (by omega)) h).mono ?_
    rintro e w' ⟨rfl, h1, h2⟩
    exact ⟨rfl, by show _ ∧ _; decide, h1, h2⟩
  | succ f ih =>
    intro d hd r w R he h
    exact obs_step f d hd (ih (d + 1) (by omega)) r w R he h

end Go.Proofs.YtbppkklfjmpgiaaDoor
namespace Go.Proofs.YtbppkklfjmpgiaaDoor
open Go.RowKit
set_option linter.unusedVariables false

theorem termR_e (f : Nat) : ∀ r d, r.e ≠ 0 → (termR f r d).2.e ≠ 0 := by
  induction f with
  | zero => intro r d h; exact h
  | succ f ih =>
    intro r d h
    have h1 := firstR_e r d h
    have ih' : ∀ q, q.e ≠ 0 → ((fun q => termR f q (d + 1)) q).2.e ≠ 0 := fun q hq => ih q (d + 1) hq
    unfold termR
    repeat' split
    · exact h1
    · exact markR_e _ _ (nameR_e _ (markR_e _ _ h1))
    · exact lastF_e _ ih' _ (markR_e _ _ h1)
    · exact lastsF_e _ ih' _ (markR_e _ _ h1)
    · exact lastsF_e _ ih' _ (markR_e _ _ (nameR_e _ (markR_e _ _ h1)))
    · exact lastF_e _ ih' _ (markR_e _ _ (obsR_e _ _ _ (markR_e _ _ h1)))
    · exact lastF_e _ ih' _ (markR_e _ _ (dayR_e _ (markR_e _ _ h1)))
    · exact lastsF_e _ ih' _ (markR_e _ _ (obsR_e _ _ _ (markR_e _ _ h1)))
    · exact fitR_e _ _ _ h1

set_option maxHeartbeats 1000000 in
set_option maxRecDepth 100000 in
theorem last_any (f d : Nat) (hd : d ≤ 100) (hI : TermC f (d + 1)) (r : RS) (w : World) (R : Nat) (he : 13 ≤ d → r.e ≠ 0) (h : RIn w R r) :
    Calls Tryd.prog 34 #[.pointer (some ⟨R, 0, none⟩), .int .i64 (d : Int)] w fun e w' => e = .returned (lastF (fun q => termR f q (d + 1)) r).1.val ∧ (lastF (fun q => termR f q (d + 1)) r).1.Ok ∧ RIn w' R (lastF (fun q => termR f q (d + 1)) r).2 ∧ Grew R none w w' := by
  have HI : Hid (∀ (r : RS) (w : World) (R : Nat), (13 ≤ d → r.e ≠ 0) → RIn w R r → Calls Tryd.prog 16 #[.pointer (some ⟨R, 0, none⟩), .int .i64 ((d : Int) + 1)] w fun e w' => e = .returned (termR f r (d + 1)).1.val ∧ (termR f r (d + 1)).1.Ok ∧ RIn w' R (termR f r (d + 1)).2 ∧ Grew R none w w') := fun r w R hr hR => hI r w R (fun hd => hr (by omega)) hR
  have HH := hidIn h
  have HE0 := hidIn he
  clear h hI he
  unfold lastF
  go_enter Tryd.func34, Tryd.ntmps34
  go_wp2_with fail
  refine (HI.out _ w R HE0.out HH.out).mono ?_
  rintro e w2 ⟨rfl, hok2, h2, hg2⟩
  have HR2 := hidIn h2
  have HO2 := hidIn hok2
  have HG2 := hidIn hg2
  clear h2 hg2 hok2
  go_wp2_with fail
  refine (mark_any w2 R _ rpB HR2.out).mono ?_
  rintro e w3 ⟨rfl, h3, hg3⟩
  have HR3 := hidIn h3
  have HG3 := hidIn (HG2.out.tr hg3)
  clear h3 hg3
  go_wp2_with fail
  go_ret
  exact ⟨rfl, HO2.out, HR3.out, HG3.out⟩
set_option maxHeartbeats 1000000 in
set_option maxRecDepth 100000 in
theorem lasts_any (f d : Nat) (hd : d ≤ 100) (hI : TermC f (d + 1)) (r : RS) (w : World) (R : Nat) (he : 13 ≤ d → r.e ≠ 0) (h : RIn w R r) :
    Calls Tryd.prog 35 #[.pointer (some ⟨R, 0, none⟩), .int .i64 (d : Int)] w fun e w' => e = .returned (.tuple #[(lastsF (fun q => termR f q (d + 1)) r).1.val, (lastsF (fun q => termR f q (d + 1)) r).2.1.val]) ∧ (lastsF (fun q => termR f q (d + 1)) r).1.Ok ∧ (lastsF (fun q => termR f q (d + 1)) r).2.1.Ok ∧ RIn w' R (lastsF (fun q => termR f q (d + 1)) r).2.2 ∧ Grew R none w w' := by
  have HI : Hid (∀ (r : RS) (w : World) (R : Nat), (13 ≤ d → r.e ≠ 0) → RIn w R r → Calls Tryd.prog 16 #[.pointer (some ⟨R, 0, none⟩), .int .i64 ((d : Int) + 1)] w fun e w' => e = .returned (termR f r (d + 1)).1.val ∧ (termR f r (d + 1)).1.Ok ∧ RIn w' R (termR f r (d + 1)).2 ∧ Grew R none w w') := fun r w R hr hR => hI r w R (fun hd => hr (by omega)) hR
  have HL := hidIn (last_any f d hd hI)
  have HH := hidIn h
  have HE0 := hidIn he
  clear h hI he
  unfold lastsF
  go_enter Tryd.func35, Tryd.ntmps35
  go_wp2_with fail
  refine (HI.out _ w R HE0.out HH.out).mono ?_
  rintro e w2 ⟨rfl, hok2, h2, hg2⟩
  have HR2 := hidIn h2
  have HO2 := hidIn hok2
  have HG2 := hidIn hg2
  have HE2 : Hid (13 ≤ d → (termR f r (d + 1)).2.e ≠ 0) := fun hd => termR_e _ _ _ (HE0.out hd)
  clear h2 hg2 hok2
  go_wp2_with fail
  refine (mark_any w2 R _ cmB HR2.out).mono ?_
  rintro e w3 ⟨rfl, h3, hg3⟩
  have HR3 := hidIn h3
  have HG3 := hidIn (HG2.out.tr hg3)
  clear h3 hg3
  go_wp2_with fail
  refine (HL.out _ w3 R (fun hd => markR_e _ _ (HE2.out hd)) HR3.out).mono ?_
  rintro e w4 ⟨rfl, hok4, h4, hg4⟩
  have HR4 := hidIn h4
  have HO4 := hidIn hok4
  have HG4 := hidIn (HG3.out.tr hg4)
  clear h4 hg4 hok4
  go_wp2_with fail
  go_ret2
  exact ⟨rfl, HO2.out, HO4.out, HR4.out, HG4.out⟩

set_option maxHeartbeats 4000000 in
set_option maxRecDepth 100000 in
theorem term_step (f d : Nat) (hdf : d + (f + 1) = 15) (hI : TermC f (d + 1)) (r : RS) (w : World) (R : Nat) (he : 14 ≤ d → r.e ≠ 0) (h : RIn w R r) :
    Calls Tryd.prog 16 #[.pointer (some ⟨R, 0, none⟩), .int .i64 (d : Int)] w fun e w' => e = .returned (termR (f + 1) r d).1.val ∧ (termR (f + 1) r d).1.Ok ∧ RIn w' R (termR (f + 1) r d).2 ∧ Grew R none w w' := by
  have hO := obs_all f (d + 1) (by omega)
  have HI : Hid (∀ (r : RS) (w : World) (R : Nat), (13 ≤ d → r.e ≠ 0) → RIn w R r → Calls Tryd.prog 36 #[.pointer (some ⟨R, 0, none⟩), .int .i64 ((d : Int) + 1)] w fun e w' => e = .returned (obsR f r (d + 1)).1.val ∧ (obsR f r (d + 1)).1.Ok ∧ RIn w' R (obsR f r (d + 1)).2 ∧ Grew R none w w') := fun r w R hr hR => hO r w R (fun hd => hr (by omega)) hR
  have HL1 := hidIn (last_any f d (by omega) hI)
  have HL2 := hidIn (lasts_any f d (by omega) hI)
  clear hI hO
  have HH := hidIn h
  have HLT0 := hidIn h.lt
  have HSZ := hidIn (takeS_size h)
  have HDD : Hid (d + (f + 1) = 15) := hdf
  have HER := hidIn he
  clear h he
  go_enter Tryd.func16, Tryd.ntmps16
  go_wp2_with fail
  refine (first_any w R r d (by omega) HH.out).mono ?_
  rintro e w1 ⟨rfl, h1, hg1⟩
  have HR1 := hidIn h1
  have HG1 := hidIn hg1
  have HE1 : Hid (13 ≤ d → (firstR r d).e ≠ 0) := fun hd => firstR_deep r d (by omega)
  clear h1 hg1
  obtain ⟨s, hse⟩ : ∃ s, takeS r = s := ⟨_, rfl⟩
  have HSE := hidIn hse
  rw [hse] at HSZ
  rw [hse]
  clear hse
  unfold sgV
  go_upto_region 3 with fail
  obtain ⟨W, hW⟩ : ∃ W, W = w1.alloc (.cells #[.string s.1, .int .i64 s.2] 97) := ⟨_, rfl⟩
  have HBL : Hid (Below w1.heap.size w1 W) := by rw [hW]; exact below_alloc (Below.refl _ _) _
  have HBK : Hid (Blk W w1.heap.size 97 #[.string s.1, .int .i64 s.2]) := by rw [hW]; exact blk_new rfl
  have HR0 := hidIn (HR1.out.below HBL.out)
  have HG0 : Hid (Grew R none w W) := HG1.out.tr (Grew.of_below HBL.out)
  have c0 : W.cell? ⟨w1.heap.size, 0, none⟩ = some (.string s.1) := HBK.out.cell 0
  have c1 : W.cell? ⟨w1.heap.size, 1, none⟩ = some (.int .i64 s.2) := HBK.out.cell 1
  rw [← hW]
  clear hW HR1 HG1
  obtain ⟨r1, hr1⟩ : ∃ r1, firstR r d = r1 := ⟨_, rfl⟩
  rw [hr1] at HR0 HE1
  have HRR := hidIn hr1
  clear hr1

  by_cases k0 : s.1 = wZero
  · have HT : Hid (termR (f + 1) r d = (.zero, r1)) := by show _ = _; rw [termR, HSE.out, HRR.out, if_pos k0]
    have y : (s.1.toList == [122, 101, 114, 111]) = true := by rw [tl_eq tlZero]; exact decide_eq_true k0
    clear k0
    go_wp2_with fail
    go_ret
    rw [HT.out]
    exact ⟨rfl, trivial, HR0.out, HG0.out⟩
  by_cases k1 : s.1 = wOne
  · have HT : Hid (termR (f + 1) r d = (.one (takeS (markR r1 lpB)).1, markR (nameR (markR r1 lpB)) rpB)) := by show _ = _; rw [termR, HSE.out, HRR.out, if_neg k0, if_pos k1]
    have n0 : (s.1.toList == [122, 101, 114, 111]) = false := by rw [tl_eq tlZero]; exact decide_eq_false k0
    have y : (s.1.toList == [111, 110, 101]) = true := by rw [tl_eq tlOne]; exact decide_eq_true k1
    clear k0 k1
    go_wp2_with fail
    refine (mark_any W R r1 lpB HR0.out).mono ?_
    rintro e v1 ⟨rfl, h, hg⟩
    have HR1 := hidIn h
    have HG1 := hidIn (HG0.out.tr hg)
    clear h hg
    have HNS := hidIn (takeS_size HR1.out)
    go_wp2_with fail
    refine (rname_any _ R _ HR1.out).mono ?_
    rintro e v2 ⟨rfl, h, hg⟩
    have HR2 := hidIn h
    have HG2 := hidIn (HG1.out.tr hg)
    clear h hg
    go_wp2_with fail
    refine (mark_any _ R _ rpB HR2.out).mono ?_
    rintro e v3 ⟨rfl, h, hg⟩
    have HR3 := hidIn h
    have HG3 := hidIn (HG2.out.tr hg)
    clear h hg
    go_wp2_with fail
    go_ret
    rw [HT.out]
    exact ⟨rfl, HNS.out, HR3.out, HG3.out⟩
  by_cases k2 : s.1 = wGive
  · have HT : Hid (termR (f + 1) r d = (.give (lastF (fun q => termR f q (d + 1)) (markR r1 lpB)).1, (lastF (fun q => termR f q (d + 1)) (markR r1 lpB)).2)) := by show _ = _; rw [termR, HSE.out, HRR.out, if_neg k0, if_neg k1, if_pos k2]
    have n0 : (s.1.toList == [122, 101, 114, 111]) = false := by rw [tl_eq tlZero]; exact decide_eq_false k0
    have n1 : (s.1.toList == [111, 110, 101]) = false := by rw [tl_eq tlOne]; exact decide_eq_false k1
    have y : (s.1.toList == [103, 105, 118, 101]) = true := by rw [tl_eq tlGive]; exact decide_eq_true k2
    clear k0 k1 k2
    go_wp2_with fail
    refine (mark_any W R r1 lpB HR0.out).mono ?_
    rintro e v1 ⟨rfl, h, hg⟩
    have HR1 := hidIn h
    have HG1 := hidIn (HG0.out.tr hg)
    clear h hg
    go_wp2_with fail
    refine (HL1.out _ _ R (fun hd => markR_e _ _ (HE1.out hd)) HR1.out).mono ?_
    rintro e v2 ⟨rfl, ho, h, hg⟩
    have HO2 := hidIn ho
    clear ho
    have HR2 := hidIn h
    have HG2 := hidIn (HG1.out.tr hg)
    clear h hg
    obtain ⟨xa, hxa⟩ : ∃ v, (lastF (fun q => termR f q (d + 1)) (markR r1 lpB)).1.val = v := ⟨_, rfl⟩
    have HXa := hidIn hxa
    have qa := (lastF (fun q => termR f q (d + 1)) (markR r1 lpB)).1.one' HO2.out
    rw [hxa] at qa
    rw [hxa]
    clear hxa
    have sva := qa.store
    have cva := qa.cells
    have mva := qa.cells
    unfold Value.cells at mva
    clear qa
    go_wp2_with fail
    go_ret
    rw [HT.out]
    exact ⟨by show _ = Ending.returned (.iface _ (.agg #[C.val _])); rw [HXa.out]; rfl, HO2.out, HR2.out, HG2.out⟩
  by_cases k3 : s.1 = wAnd
  · have HT : Hid (termR (f + 1) r d = (.and (lastsF (fun q => termR f q (d + 1)) (markR r1 lpB)).1 (lastsF (fun q => termR f q (d + 1)) (markR r1 lpB)).2.1, (lastsF (fun q => termR f q (d + 1)) (markR r1 lpB)).2.2)) := by show _ = _; rw [termR, HSE.out, HRR.out, if_neg k0, if_neg k1, if_neg k2, if_pos k3]
    have n0 : (s.1.toList == [122, 101, 114, 111]) = false := by rw [tl_eq tlZero]; exact decide_eq_false k0
    have n1 : (s.1.toList == [111, 110, 101]) = false := by rw [tl_eq tlOne]; exact decide_eq_false k1
    have n2 : (s.1.toList == [103, 105, 118, 101]) = false := by rw [tl_eq tlGive]; exact decide_eq_false k2
    have y : (s.1.toList == [97, 110, 100]) = true := by rw [tl_eq tlAnd]; exact decide_eq_true k3
    clear k0 k1 k2 k3
    go_wp2_with fail
    refine (mark_any W R r1 lpB HR0.out).mono ?_
    rintro e v1 ⟨rfl, h, hg⟩
    have HR1 := hidIn h
    have HG1 := hidIn (HG0.out.tr hg)
    clear h hg
    go_wp2_with fail
    refine (HL2.out _ _ R (fun hd => markR_e _ _ (HE1.out hd)) HR1.out).mono ?_
    rintro e v2 ⟨rfl, ho, ho2, h, hg⟩
    have HO2 := hidIn ho
    have HP2 := hidIn ho2
    clear ho ho2
    have HR2 := hidIn h
    have HG2 := hidIn (HG1.out.tr hg)
    clear h hg
    obtain ⟨xa, hxa⟩ : ∃ v, (lastsF (fun q => termR f q (d + 1)) (markR r1 lpB)).1.val = v := ⟨_, rfl⟩
    have HXa := hidIn hxa
    have qa := (lastsF (fun q => termR f q (d + 1)) (markR r1 lpB)).1.one' HO2.out
    rw [hxa] at qa
    rw [hxa]
    clear hxa
    have sva := qa.store
    have cva := qa.cells
    have mva := qa.cells
    unfold Value.cells at mva
    clear qa
    obtain ⟨xb, hxb⟩ : ∃ v, (lastsF (fun q => termR f q (d + 1)) (markR r1 lpB)).2.1.val = v := ⟨_, rfl⟩
    have HXb := hidIn hxb
    have qb := (lastsF (fun q => termR f q (d + 1)) (markR r1 lpB)).2.1.one' HP2.out
    rw [hxb] at qb
    rw [hxb]
    clear hxb
    have svb := qb.store
    have cvb := qb.cells
    have mvb := qb.cells
    unfold Value.cells at mvb
    clear qb
    go_wp2_with fail
    go_ret
    rw [HT.out]
    exact ⟨by show _ = Ending.returned (.iface _ (.agg #[C.val _, C.val _])); rw [HXa.out, HXb.out]; rfl, ⟨HO2.out, HP2.out⟩, HR2.out, HG2.out⟩
  by_cases k4 : s.1 = wOr
  · have HT : Hid (termR (f + 1) r d = (.or (takeS (markR r1 lpB)).1 (lastsF (fun q => termR f q (d + 1)) (markR (nameR (markR r1 lpB)) cmB)).1 (lastsF (fun q => termR f q (d + 1)) (markR (nameR (markR r1 lpB)) cmB)).2.1, (lastsF (fun q => termR f q (d + 1)) (markR (nameR (markR r1 lpB)) cmB)).2.2)) := by show _ = _; rw [termR, HSE.out, HRR.out, if_neg k0, if_neg k1, if_neg k2, if_neg k3, if_pos k4]
    have n0 : (s.1.toList == [122, 101, 114, 111]) = false := by rw [tl_eq tlZero]; exact decide_eq_false k0
    have n1 : (s.1.toList == [111, 110, 101]) = false := by rw [tl_eq tlOne]; exact decide_eq_false k1
    have n2 : (s.1.toList == [103, 105, 118, 101]) = false := by rw [tl_eq tlGive]; exact decide_eq_false k2
    have n3 : (s.1.toList == [97, 110, 100]) = false := by rw [tl_eq tlAnd]; exact decide_eq_false k3
    have y : (s.1.toList == [111, 114]) = true := by rw [tl_eq tlOr]; exact decide_eq_true k4
    clear k0 k1 k2 k3 k4
    go_wp2_with fail
    refine (mark_any W R r1 lpB HR0.out).mono ?_
    rintro e v1 ⟨rfl, h, hg⟩
    have HR1 := hidIn h
    have HG1 := hidIn (HG0.out.tr hg)
    clear h hg
    have HNS := hidIn (takeS_size HR1.out)
    go_wp2_with fail
    refine (rname_any _ R _ HR1.out).mono ?_
    rintro e v2 ⟨rfl, h, hg⟩
    have HR2 := hidIn h
    have HG2 := hidIn (HG1.out.tr hg)
    clear h hg
    go_wp2_with fail
    refine (mark_any _ R _ cmB HR2.out).mono ?_
    rintro e v3 ⟨rfl, h, hg⟩
    have HR3 := hidIn h
    have HG3 := hidIn (HG2.out.tr hg)
    clear h hg
    go_wp2_with fail
    refine (HL2.out _ _ R (fun hd => markR_e _ _ (nameR_e _ (markR_e _ _ (HE1.out hd)))) HR3.out).mono ?_
    rintro e v4 ⟨rfl, ho, ho2, h, hg⟩
    have HO4 := hidIn ho
    have HP4 := hidIn ho2
    clear ho ho2
    have HR4 := hidIn h
    have HG4 := hidIn (HG3.out.tr hg)
    clear h hg
    obtain ⟨xa, hxa⟩ : ∃ v, (lastsF (fun q => termR f q (d + 1)) (markR (nameR (markR r1 lpB)) cmB)).1.val = v := ⟨_, rfl⟩
    have HXa := hidIn hxa
    have qa := (lastsF (fun q => termR f q (d + 1)) (markR (nameR (markR r1 lpB)) cmB)).1.one' HO4.out
    rw [hxa] at qa
    rw [hxa]
    clear hxa
    have sva := qa.store
    have cva := qa.cells
    have mva := qa.cells
    unfold Value.cells at mva
    clear qa
    obtain ⟨xb, hxb⟩ : ∃ v, (lastsF (fun q => termR f q (d + 1)) (markR (nameR (markR r1 lpB)) cmB)).2.1.val = v := ⟨_, rfl⟩
    have HXb := hidIn hxb
    have qb := (lastsF (fun q => termR f q (d + 1)) (markR (nameR (markR r1 lpB)) cmB)).2.1.one' HP4.out
    rw [hxb] at qb
    rw [hxb]
    clear hxb
    have svb := qb.store
    have cvb := qb.cells
    have mvb := qb.cells
    unfold Value.cells at mvb
    clear qb
    go_wp2_with fail
    go_ret
    rw [HT.out]
    exact ⟨by show _ = Ending.returned (.iface _ (.agg #[_, C.val _, C.val _])); rw [HXa.out, HXb.out]; rfl, ⟨HNS.out, HO4.out, HP4.out⟩, HR4.out, HG4.out⟩
  by_cases k5 : s.1 = wScale
  · have HT : Hid (termR (f + 1) r d = (.scale (obsR f (markR r1 lpB) (d + 1)).1 (lastF (fun q => termR f q (d + 1)) (markR (obsR f (markR r1 lpB) (d + 1)).2 cmB)).1, (lastF (fun q => termR f q (d + 1)) (markR (obsR f (markR r1 lpB) (d + 1)).2 cmB)).2)) := by show _ = _; rw [termR, HSE.out, HRR.out, if_neg k0, if_neg k1, if_neg k2, if_neg k3, if_neg k4, if_pos k5]
    have n0 : (s.1.toList == [122, 101, 114, 111]) = false := by rw [tl_eq tlZero]; exact decide_eq_false k0
    have n1 : (s.1.toList == [111, 110, 101]) = false := by rw [tl_eq tlOne]; exact decide_eq_false k1
    have n2 : (s.1.toList == [103, 105, 118, 101]) = false := by rw [tl_eq tlGive]; exact decide_eq_false k2
    have n3 : (s.1.toList == [97, 110, 100]) = false := by rw [tl_eq tlAnd]; exact decide_eq_false k3
    have n4 : (s.1.toList == [111, 114]) = false := by rw [tl_eq tlOr]; exact decide_eq_false k4
    have y : (s.1.toList == [115, 99, 97, 108, 101]) = true := by rw [tl_eq tlScale]; exact decide_eq_true k5
    clear k0 k1 k2 k3 k4 k5
    go_wp2_with fail
    refine (mark_any W R r1 lpB HR0.out).mono ?_
    rintro e v1 ⟨rfl, h, hg⟩
    have HR1 := hidIn h
    have HG1 := hidIn (HG0.out.tr hg)
    clear h hg
    go_wp2_with fail
    refine (HI.out _ _ R (fun hd => markR_e _ _ (HE1.out hd)) HR1.out).mono ?_
    rintro e v2 ⟨rfl, ho, h, hg⟩
    have HO2 := hidIn ho
    clear ho
    have HR2 := hidIn h
    have HG2 := hidIn (HG1.out.tr hg)
    clear h hg
    obtain ⟨xa, hxa⟩ : ∃ v, (obsR f (markR r1 lpB) (d + 1)).1.val = v := ⟨_, rfl⟩
    have HXa := hidIn hxa
    have qa := (obsR f (markR r1 lpB) (d + 1)).1.one' HO2.out
    rw [hxa] at qa
    rw [hxa]
    clear hxa
    have sva := qa.store
    have cva := qa.cells
    have mva := qa.cells
    unfold Value.cells at mva
    clear qa
    go_wp2_with fail
    refine (mark_any _ R _ cmB HR2.out).mono ?_
    rintro e v3 ⟨rfl, h, hg⟩
    have HR3 := hidIn h
    have HG3 := hidIn (HG2.out.tr hg)
    clear h hg
    go_wp2_with fail
    refine (HL1.out _ _ R (fun hd => markR_e _ _ (obsR_e _ _ _ (markR_e _ _ (HE1.out hd)))) HR3.out).mono ?_
    rintro e v4 ⟨rfl, ho, h, hg⟩
    have HO4 := hidIn ho
    clear ho
    have HR4 := hidIn h
    have HG4 := hidIn (HG3.out.tr hg)
    clear h hg
    obtain ⟨xb, hxb⟩ : ∃ v, (lastF (fun q => termR f q (d + 1)) (markR (obsR f (markR r1 lpB) (d + 1)).2 cmB)).1.val = v := ⟨_, rfl⟩
    have HXb := hidIn hxb
    have qb := (lastF (fun q => termR f q (d + 1)) (markR (obsR f (markR r1 lpB) (d + 1)).2 cmB)).1.one' HO4.out
    rw [hxb] at qb
    rw [hxb]
    clear hxb
    have svb := qb.store
    have cvb := qb.cells
    have mvb := qb.cells
    unfold Value.cells at mvb
    clear qb
    go_wp2_with fail
    go_ret
    rw [HT.out]
    exact ⟨by show _ = Ending.returned (.iface _ (.agg #[O.val _, C.val _])); rw [HXa.out, HXb.out]; rfl, ⟨HO2.out, HO4.out⟩, HR4.out, HG4.out⟩
  by_cases k6 : s.1 = wWhen
  · have HT : Hid (termR (f + 1) r d = (.when (dayV (markR r1 lpB)) (lastF (fun q => termR f q (d + 1)) (markR (dayR (markR r1 lpB)) cmB)).1, (lastF (fun q => termR f q (d + 1)) (markR (dayR (markR r1 lpB)) cmB)).2)) := by show _ = _; rw [termR, HSE.out, HRR.out, if_neg k0, if_neg k1, if_neg k2, if_neg k3, if_neg k4, if_neg k5, if_pos k6]
    have n0 : (s.1.toList == [122, 101, 114, 111]) = false := by rw [tl_eq tlZero]; exact decide_eq_false k0
    have n1 : (s.1.toList == [111, 110, 101]) = false := by rw [tl_eq tlOne]; exact decide_eq_false k1
    have n2 : (s.1.toList == [103, 105, 118, 101]) = false := by rw [tl_eq tlGive]; exact decide_eq_false k2
    have n3 : (s.1.toList == [97, 110, 100]) = false := by rw [tl_eq tlAnd]; exact decide_eq_false k3
    have n4 : (s.1.toList == [111, 114]) = false := by rw [tl_eq tlOr]; exact decide_eq_false k4
    have n5 : (s.1.toList == [115, 99, 97, 108, 101]) = false := by rw [tl_eq tlScale]; exact decide_eq_false k5
    have y : (s.1.toList == [119, 104, 101, 110]) = true := by rw [tl_eq tlWhen]; exact decide_eq_true k6
    clear k0 k1 k2 k3 k4 k5 k6
    go_wp2_with fail
    refine (mark_any W R r1 lpB HR0.out).mono ?_
    rintro e v1 ⟨rfl, h, hg⟩
    have HR1 := hidIn h
    have HG1 := hidIn (HG0.out.tr hg)
    clear h hg
    have HNB := hidIn (numOf_bd (takeS (markR r1 lpB)).1.data.toList)
    go_wp2_with fail
    refine (rday_any _ R _ HR1.out).mono ?_
    rintro e v2 ⟨rfl, h, hg⟩
    have HR2 := hidIn h
    have HG2 := hidIn (HG1.out.tr hg)
    clear h hg
    go_wp2_with fail
    refine (mark_any _ R _ cmB HR2.out).mono ?_
    rintro e v3 ⟨rfl, h, hg⟩
    have HR3 := hidIn h
    have HG3 := hidIn (HG2.out.tr hg)
    clear h hg
    go_wp2_with fail
    refine (HL1.out _ _ R (fun hd => markR_e _ _ (dayR_e _ (markR_e _ _ (HE1.out hd)))) HR3.out).mono ?_
    rintro e v4 ⟨rfl, ho, h, hg⟩
    have HO4 := hidIn ho
    clear ho
    have HR4 := hidIn h
    have HG4 := hidIn (HG3.out.tr hg)
    clear h hg
    obtain ⟨xb, hxb⟩ : ∃ v, (lastF (fun q => termR f q (d + 1)) (markR (dayR (markR r1 lpB)) cmB)).1.val = v := ⟨_, rfl⟩
    have HXb := hidIn hxb
    have qb := (lastF (fun q => termR f q (d + 1)) (markR (dayR (markR r1 lpB)) cmB)).1.one' HO4.out
    rw [hxb] at qb
    rw [hxb]
    clear hxb
    have svb := qb.store
    have cvb := qb.cells
    have mvb := qb.cells
    unfold Value.cells at mvb
    clear qb
    go_wp2_with fail
    go_ret
    rw [HT.out]
    exact ⟨by show _ = Ending.returned (.iface _ (.agg #[_, C.val _])); rw [HXb.out]; rfl, ⟨HNB.out, HO4.out⟩, HR4.out, HG4.out⟩
  by_cases k7 : s.1 = wIf
  · have HT : Hid (termR (f + 1) r d = (.iff (obsR f (markR r1 lpB) (d + 1)).1 (lastsF (fun q => termR f q (d + 1)) (markR (obsR f (markR r1 lpB) (d + 1)).2 cmB)).1 (lastsF (fun q => termR f q (d + 1)) (markR (obsR f (markR r1 lpB) (d + 1)).2 cmB)).2.1, (lastsF (fun q => termR f q (d + 1)) (markR (obsR f (markR r1 lpB) (d + 1)).2 cmB)).2.2)) := by show _ = _; rw [termR, HSE.out, HRR.out, if_neg k0, if_neg k1, if_neg k2, if_neg k3, if_neg k4, if_neg k5, if_neg k6, if_pos k7]
    have n0 : (s.1.toList == [122, 101, 114, 111]) = false := by rw [tl_eq tlZero]; exact decide_eq_false k0
    have n1 : (s.1.toList == [111, 110, 101]) = false := by rw [tl_eq tlOne]; exact decide_eq_false k1
    have n2 : (s.1.toList == [103, 105, 118, 101]) = false := by rw [tl_eq tlGive]; exact decide_eq_false k2
    have n3 : (s.1.toList == [97, 110, 100]) = false := by rw [tl_eq tlAnd]; exact decide_eq_false k3
    have n4 : (s.1.toList == [111, 114]) = false := by rw [tl_eq tlOr]; exact decide_eq_false k4
    have n5 : (s.1.toList == [115, 99, 97, 108, 101]) = false := by rw [tl_eq tlScale]; exact decide_eq_false k5
    have n6 : (s.1.toList == [119, 104, 101, 110]) = false := by rw [tl_eq tlWhen]; exact decide_eq_false k6
    have y : (s.1.toList == [105, 102]) = true := by rw [tl_eq tlIf]; exact decide_eq_true k7
    clear k0 k1 k2 k3 k4 k5 k6 k7
    go_wp2_with fail
    refine (mark_any W R r1 lpB HR0.out).mono ?_
    rintro e v1 ⟨rfl, h, hg⟩
    have HR1 := hidIn h
    have HG1 := hidIn (HG0.out.tr hg)
    clear h hg
    go_wp2_with fail
    refine (HI.out _ _ R (fun hd => markR_e _ _ (HE1.out hd)) HR1.out).mono ?_
    rintro e v2 ⟨rfl, ho, h, hg⟩
    have HO2 := hidIn ho
    clear ho
    have HR2 := hidIn h
    have HG2 := hidIn (HG1.out.tr hg)
    clear h hg
    obtain ⟨xa, hxa⟩ : ∃ v, (obsR f (markR r1 lpB) (d + 1)).1.val = v := ⟨_, rfl⟩
    have HXa := hidIn hxa
    have qa := (obsR f (markR r1 lpB) (d + 1)).1.one' HO2.out
    rw [hxa] at qa
    rw [hxa]
    clear hxa
    have sva := qa.store
    have cva := qa.cells
    have mva := qa.cells
    unfold Value.cells at mva
    clear qa
    go_wp2_with fail
    refine (mark_any _ R _ cmB HR2.out).mono ?_
    rintro e v3 ⟨rfl, h, hg⟩
    have HR3 := hidIn h
    have HG3 := hidIn (HG2.out.tr hg)
    clear h hg
    go_wp2_with fail
    refine (HL2.out _ _ R (fun hd => markR_e _ _ (obsR_e _ _ _ (markR_e _ _ (HE1.out hd)))) HR3.out).mono ?_
    rintro e v4 ⟨rfl, ho, ho2, h, hg⟩
    have HO4 := hidIn ho
    have HP4 := hidIn ho2
    clear ho ho2
    have HR4 := hidIn h
    have HG4 := hidIn (HG3.out.tr hg)
    clear h hg
    obtain ⟨xb, hxb⟩ : ∃ v, (lastsF (fun q => termR f q (d + 1)) (markR (obsR f (markR r1 lpB) (d + 1)).2 cmB)).1.val = v := ⟨_, rfl⟩
    have HXb := hidIn hxb
    have qb := (lastsF (fun q => termR f q (d + 1)) (markR (obsR f (markR r1 lpB) (d + 1)).2 cmB)).1.one' HO4.out
    rw [hxb] at qb
    rw [hxb]
    clear hxb
    have svb := qb.store
    have cvb := qb.cells
    have mvb := qb.cells
    unfold Value.cells at mvb
    clear qb
    obtain ⟨xc, hxc⟩ : ∃ v, (lastsF (fun q => termR f q (d + 1)) (markR (obsR f (markR r1 lpB) (d + 1)).2 cmB)).2.1.val = v := ⟨_, rfl⟩
    have HXc := hidIn hxc
    have qc := (lastsF (fun q => termR f q (d + 1)) (markR (obsR f (markR r1 lpB) (d + 1)).2 cmB)).2.1.one' HP4.out
    rw [hxc] at qc
    rw [hxc]
    clear hxc
    have svc := qc.store
    have cvc := qc.cells
    have mvc := qc.cells
    unfold Value.cells at mvc
    clear qc
    go_wp2_with fail
    go_ret
    rw [HT.out]
    exact ⟨by show _ = Ending.returned (.iface _ (.agg #[O.val _, C.val _, C.val _])); rw [HXa.out, HXb.out, HXc.out]; rfl, ⟨HO2.out, HO4.out, HP4.out⟩, HR4.out, HG4.out⟩
  have HT : Hid (termR (f + 1) r d = (.odd .nilIface, fitR r1 s false)) := by show _ = _; rw [termR, HSE.out, HRR.out, if_neg k0, if_neg k1, if_neg k2, if_neg k3, if_neg k4, if_neg k5, if_neg k6, if_neg k7]
  have n0 : (s.1.toList == [122, 101, 114, 111]) = false := by rw [tl_eq tlZero]; exact decide_eq_false k0
  have n1 : (s.1.toList == [111, 110, 101]) = false := by rw [tl_eq tlOne]; exact decide_eq_false k1
  have n2 : (s.1.toList == [103, 105, 118, 101]) = false := by rw [tl_eq tlGive]; exact decide_eq_false k2
  have n3 : (s.1.toList == [97, 110, 100]) = false := by rw [tl_eq tlAnd]; exact decide_eq_false k3
  have n4 : (s.1.toList == [111, 114]) = false := by rw [tl_eq tlOr]; exact decide_eq_false k4
  have n5 : (s.1.toList == [115, 99, 97, 108, 101]) = false := by rw [tl_eq tlScale]; exact decide_eq_false k5
  have n6 : (s.1.toList == [119, 104, 101, 110]) = false := by rw [tl_eq tlWhen]; exact decide_eq_false k6
  have n7 : (s.1.toList == [105, 102]) = false := by rw [tl_eq tlIf]; exact decide_eq_false k7
  clear k0 k1 k2 k3 k4 k5 k6 k7
  go_wp2_with fail
  refine (fit_any _ R r1 s false HR0.out).mono ?_
  rintro e v1 ⟨rfl, h, hg⟩
  have HR1 := hidIn h
  have HG1 := hidIn (HG0.out.tr hg)
  clear h hg
  go_wp2_with fail
  go_ret
  rw [HT.out]
  exact ⟨rfl, .inl rfl, HR1.out, HG1.out⟩
set_option maxHeartbeats 4000000 in
set_option maxRecDepth 100000 in
theorem term_dead (d : Nat) (hd : d ≤ 15) (r : RS) (w : World) (R : Nat) (he : r.e ≠ 0) (h : RIn w R r) :
    Calls Tryd.prog 16 #[.pointer (some ⟨R, 0, none⟩), .int .i64 (d : Int)] w fun e w' => e = .returned .nilIface ∧ RIn w' R r ∧ Grew R none w w' := by
  have hdf : d + (0 + 1) ≤ 16 := by omega
  have HDE : Hid (takeS r = (⟨#[]⟩, r.past) ∧ firstR r d = r ∧ ∀ s, fitR r s false = r) := ⟨takeS_none r he, dead_first r d he, fun s => dead_fit r s he⟩
  clear he
  have HH := hidIn h
  have HLT0 := hidIn h.lt
  have HSZ := hidIn (takeS_size h)
  clear h
  go_enter Tryd.func16, Tryd.ntmps16
  go_wp2_with fail
  refine (first_any w R r d (by omega) HH.out).mono ?_
  rintro e w1 ⟨rfl, h1, hg1⟩
  have HR1 := hidIn h1
  have HG1 := hidIn hg1
  clear h1 hg1
  obtain ⟨s, hse⟩ : ∃ s, takeS r = s := ⟨_, rfl⟩
  have HSE := hidIn hse
  rw [hse] at HSZ
  rw [hse]
  clear hse
  unfold sgV
  go_upto_region 3 with fail
  obtain ⟨W, hW⟩ : ∃ W, W = w1.alloc (.cells #[.string s.1, .int .i64 s.2] 97) := ⟨_, rfl⟩
  have HBL : Hid (Below w1.heap.size w1 W) := by rw [hW]; exact below_alloc (Below.refl _ _) _
  have HBK : Hid (Blk W w1.heap.size 97 #[.string s.1, .int .i64 s.2]) := by rw [hW]; exact blk_new rfl
  have HR0 := hidIn (HR1.out.below HBL.out)
  have HG0 : Hid (Grew R none w W) := HG1.out.tr (Grew.of_below HBL.out)
  have c0 : W.cell? ⟨w1.heap.size, 0, none⟩ = some (.string s.1) := HBK.out.cell 0
  have c1 : W.cell? ⟨w1.heap.size, 1, none⟩ = some (.int .i64 s.2) := HBK.out.cell 1
  rw [← hW]
  clear hW HR1 HG1
  obtain ⟨r1, hr1⟩ : ∃ r1, firstR r d = r1 := ⟨_, rfl⟩
  rw [hr1] at HR0
  have HRR := hidIn hr1
  clear hr1
  have hs0 : s = (⟨#[]⟩, r.past) := HSE.out.symm.trans HDE.out.1
  have hrr : r1 = r := HRR.out.symm.trans HDE.out.2.1
  have n0 : (s.1.toList == [122, 101, 114, 111]) = false := by rw [tl_eq tlZero, hs0]; show decide ((⟨#[]⟩ : ByteArray) = wZero) = false; decide
  have n1 : (s.1.toList == [111, 110, 101]) = false := by rw [tl_eq tlOne, hs0]; show decide ((⟨#[]⟩ : ByteArray) = wOne) = false; decide
  have n2 : (s.1.toList == [103, 105, 118, 101]) = false := by rw [tl_eq tlGive, hs0]; show decide ((⟨#[]⟩ : ByteArray) = wGive) = false; decide
  have n3 : (s.1.toList == [97, 110, 100]) = false := by rw [tl_eq tlAnd, hs0]; show decide ((⟨#[]⟩ : ByteArray) = wAnd) = false; decide
  have n4 : (s.1.toList == [111, 114]) = false := by rw [tl_eq tlOr, hs0]; show decide ((⟨#[]⟩ : ByteArray) = wOr) = false; decide
  have n5 : (s.1.toList == [115, 99, 97, 108, 101]) = false := by rw [tl_eq tlScale, hs0]; show decide ((⟨#[]⟩ : ByteArray) = wScale) = false; decide
  have n6 : (s.1.toList == [119, 104, 101, 110]) = false := by rw [tl_eq tlWhen, hs0]; show decide ((⟨#[]⟩ : ByteArray) = wWhen) = false; decide
  have n7 : (s.1.toList == [105, 102]) = false := by rw [tl_eq tlIf, hs0]; show decide ((⟨#[]⟩ : ByteArray) = wIf) = false; decide
  have HS0 := hidIn hs0
  have HR9 := hidIn hrr
  clear hs0 hrr
  go_wp2_with fail
  refine (fit_any _ R r1 s false HR0.out).mono ?_
  rintro e v1 ⟨rfl, h, hg⟩
  have HR1 := hidIn h
  have HG1 := hidIn (HG0.out.tr hg)
  clear h hg
  go_wp2_with fail
  go_ret
  have h2 := HR1.out
  rw [HR9.out, HDE.out.2.2] at h2
  exact ⟨rfl, h2, HG1.out⟩
theorem term_all : ∀ f d, d + f = 15 → TermC f d := by
  intro f
  induction f with
  | zero =>
    intro d hd r w R he h
    refine (term_dead d (by omega) r w R (he (by omega)) h).mono ?_
    rintro e w' ⟨rfl, h1, h2⟩
    exact ⟨rfl, .inl rfl, h1, h2⟩
  | succ f ih =>
    intro d hd r w R he h
    exact term_step f d hd (ih (d + 1) (by omega)) r w R he h

end Go.Proofs.YtbppkklfjmpgiaaDoor
namespace Go.Proofs.YtbppkklfjmpgiaaDoor
open Go.RowKit
set_option linter.unusedVariables false

theorem enc_size (r : Int) : (Utf8.encode r).size ≤ 4 := by
  unfold Utf8.encode
  generalize (if Utf8.valid r = true then r.toNat else Utf8.runeError) = c
  simp only []
  split
  · show 1 ≤ 4; omega
  · split
    · show 2 ≤ 4; omega
    · split
      · show 3 ≤ 4; omega
      · show 4 ≤ 4; omega
theorem runesB_size (l : List Int) : (runesBytes l).size ≤ 4 * l.length := by
  have key : ∀ (l : List Int) (a : ByteArray), (l.foldl (fun r n => r ++ Utf8.encode n) a).size ≤ a.size + 4 * l.length := by
    intro l
    induction l with
    | nil => intro a; simp
    | cons x l ih =>
      intro a
      have h := ih (a ++ Utf8.encode x)
      have h2 := enc_size x
      rw [ByteArray.size_append] at h
      simp only [List.foldl_cons, List.length_cons]
      omega
  have h := key l ByteArray.empty
  simpa [runesBytes] using h
theorem endR_small (l : List Rn.Sg) (run : List Int) (e : Int) (N : Nat) (hl : ∀ x ∈ l, x.1.size ≤ 4 * N + 4) (hr : run.length ≤ N) : ∀ x ∈ Rn.endR l run e, x.1.size ≤ 4 * N + 4 := by
  unfold Rn.endR
  split
  · exact hl
  · intro x hx
    rcases List.mem_append.1 hx with h | h
    · exact hl x h
    · rw [List.mem_singleton] at h
      subst h
      have := runesB_size run
      show (runesBytes run).size ≤ _
      omega
theorem cut_small (rs : List Int) : ∀ (l : List Rn.Sg) (run : List Int) (p N : Nat), (∀ x ∈ l, x.1.size ≤ 4 * N + 4) → run.length + rs.length ≤ N → ∀ x ∈ Rn.cutGo l run p rs, x.1.size ≤ 4 * N + 4 := by
  induction rs with
  | nil => intro l run p N hl hr; exact endR_small l run _ N hl (by simpa using hr)
  | cons r rs ih =>
    intro l run p N hl hr
    simp only [List.length_cons] at hr
    unfold Rn.cutGo
    split
    · exact ih l (run ++ [r]) (p + 1) N hl (by simp; omega)
    · split
      · refine ih _ [] (p + 1) N ?_ (by simp; omega)
        intro x hx
        rcases List.mem_append.1 hx with h | h
        · exact endR_small l run _ N hl (by omega) x h
        · rw [List.mem_singleton] at h
          subst h
          have := enc_size r
          show (Utf8.encode r).size ≤ _
          omega
      · exact ih _ [] (p + 1) N (endR_small l run _ N hl (by omega)) (by simp; omega)
theorem sg_small (s : ByteArray) (hs : s.size ≤ 1000) : ∀ x ∈ Rn.sgOf s, x.1.size ≤ 2147483648 := by
  intro x hx
  have h1 := rest_length s 0
  have h2 := cut_small (runesOf s) [] [] 0 (runesOf s).length (by simp) (by simp) x hx
  have h3 : (runesOf s).length ≤ s.size := by unfold runesOf; omega
  omega
theorem sg_cell {w : World} {B : Nat} {e : TypeId} {v : Value} {l : List Rn.Sg} (h : w.ownsRow B e 2 v l.length (Rn.sgCells l)) : ∃ ao cap, v = .slice ao l.length cap ∧ l.length ≤ cap ∧ cap ≤ 9223372036854775807 ∧ ∀ k x, l[k]? = some x → ∃ g, ao = some ⟨g, 0, none⟩ ∧ g < w.heap.size ∧ w.cell? ⟨g, k * 2, none⟩ = some (.string x.1) ∧ w.cell? ⟨g, k * 2 + 1, none⟩ = some (.int .i64 x.2) := by
  have hcs : ∀ (l : List Rn.Sg) k x, l[k]? = some x → (Rn.sgCells l)[k * 2]? = some (.string x.1) ∧ (Rn.sgCells l)[k * 2 + 1]? = some (.int .i64 x.2) := by
    intro l
    induction l with
    | nil => intro k x hk; simp at hk
    | cons a l ih =>
      intro k x hk
      have e : Rn.sgCells (a :: l) = .string a.1 :: .int .i64 a.2 :: Rn.sgCells l := by simp [Rn.sgCells]
      rw [e]
      cases k with
      | zero => simp at hk; subst hk; exact ⟨rfl, rfl⟩
      | succ k =>
        have := ih k x (by simpa using hk)
        rw [show (k + 1) * 2 = k * 2 + 1 + 1 by omega]
        simpa using this
  have h' := h
  rcases h.2 with ⟨rfl, h0⟩ | ⟨g, cap, cur, rfl, hb, hg, hnc, hcm, _⟩
  · exact ⟨none, 0, by rw [h0], by omega, by omega, fun k x hk => by
      have := (List.getElem?_eq_some_iff.1 hk).1
      omega⟩
  · refine ⟨some ⟨g, 0, none⟩, cap, rfl, hnc, by unfold maxLen at hcm; omega, fun k x hk => ?_⟩
    have hlt := (List.getElem?_eq_some_iff.1 hk).1
    exact ⟨g, rfl, (Array.getElem?_eq_some_iff.1 hg).1, by rw [h'.cellAt _ (by omega)]; exact (hcs l k x hk).1, by rw [h'.cellAt _ (by omega)]; exact (hcs l k x hk).2⟩

theorem decode_fits (s : ByteArray) (i : Nat) (h : i < s.size) : i + (Utf8.decode s i).2 ≤ s.size := by
  unfold Utf8.decode
  simp only []
  split
  · show i + 1 ≤ _; omega
  · split
    · rename_i hc
      simp only [Bool.and_eq_true, decide_eq_true_eq, beq_iff_eq] at hc
      split
      · show i + 2 ≤ _; omega
      · show i + 1 ≤ _; omega
    · split
      · rename_i hc
        simp only [Bool.and_eq_true, decide_eq_true_eq, beq_iff_eq] at hc
        split
        · show i + 3 ≤ _; omega
        · show i + 1 ≤ _; omega
      · split
        · rename_i hc
          simp only [Bool.and_eq_true, decide_eq_true_eq, beq_iff_eq] at hc
          split
          · show i + 4 ≤ _; omega
          · show i + 1 ≤ _; omega
        · show i + 1 ≤ _; omega
set_option maxHeartbeats 1000000 in
set_option maxRecDepth 100000 in
theorem count_any (s : ByteArray) (w : World) (hs : s.size ≤ 1000) :
    Calls Tryd.prog 30 #[.string s] w fun e w' => e = .returned (.int .i64 ((runesOf s).length : Int)) ∧ ∃ pos, w' = w.iter s pos := by
  go_enter Tryd.func30, Tryd.ntmps30
  go_wp2
  go_loopw [3] (fun n w' => ∃ (pos p : Nat), p ≤ pos ∧ pos ≤ s.size ∧ w' = w.iter s pos ∧ n = .int .i64 p ∧ p + (rest s pos).length = (runesOf s).length) (fun _ w' => s.size - w'.iterPos w.heap.size)
  case atStart => exact ⟨0, 0, by omega, by omega, rfl, rfl, by show 0 + (rest s 0).length = (rest s 0).length; omega⟩
  case round =>
    obtain ⟨pos, p, hpp, hps, rfl, rfl, hc⟩ := hrel
    by_cases hp : pos < s.size
    · have hwd := width_pos s pos hp
      have hst := rest_step s pos hp
      have hle := decode_fits s pos hp
      have HC : Hid (p + 1 + (rest s (pos + (Utf8.decode s pos).2)).length = (runesOf s).length) := by rw [← hc, hst]; show _ = _; simp; omega
      clear hc hst
      have hnx : ∀ ty, (Instr.next (.pointer (some ⟨w.heap.size, 0, none⟩)) true ty).run Tryd.prog (w.iter s pos) = _ := fun ty => run_next_any w s pos ty hp
      generalize hr : ((Utf8.decode s pos).1 : Int) = r at *
      generalize hwi : (Utf8.decode s pos).2 = wi at *
      clear hr hwi
      go_wp2_with fail
      go_roundw
      case rel => exact ⟨pos + wi, p + 1, by omega, by omega, rfl, by go_num, HC.out⟩
      case measure => simp; omega
    · have hnx : ∀ ty, (Instr.next (.pointer (some ⟨w.heap.size, 0, none⟩)) true ty).run Tryd.prog (w.iter s pos) = _ := fun ty => run_next_end w s pos ty hp
      rw [rest_end s pos hp] at hc
      have HC2 : Hid (p = (runesOf s).length) := hc
      clear hc
      go_wp2
      go_ret
      refine ⟨ret_int ?_, _, rfl⟩
      rw [← HC2.out]
/-- A reader, opened on a text. -/
def openR (s : ByteArray) : RS :=
  if 1000 < s.size then ⟨[], 0, 0, 5⟩ else if Rn.badOf s ≠ 0 then ⟨[], 0, (Rn.badOf s : Int), 2⟩ else ⟨Rn.sgOf s, ((runesOf s).length : Int) + 1, 0, 0⟩
theorem rin_none {w : World} {R : Nat} {p a e : Int} (hb : Blk w R 67 #[.slice none 0 0, .int .i64 p, .int .i64 a, .int .i64 e]) : RIn w R ⟨[], p, a, e⟩ :=
  ⟨none, 0, hb, by simp, by omega, fun j x hj => by simp at hj⟩

set_option maxHeartbeats 2000000 in
set_option maxRecDepth 100000 in
theorem ropen_any (s : ByteArray) (w : World) (hs : s.size ≤ 140737488351232) :
    Calls Tryd.prog 15 #[.string s] w fun e w' => ∃ R, e = .returned (.pointer (some ⟨R, 0, none⟩)) ∧ w.heap.size ≤ R ∧ RIn w' R (openR s) ∧ Below w.heap.size w w' := by
  go_enter Tryd.func15, Tryd.ntmps15
  by_cases h1 : 1000 < s.size
  · have h1' : (1000 : Int) < (s.size : Int) := by omega
    have HO : Hid (openR s = ⟨[], 0, 0, 5⟩) := by show _ = _; unfold openR; rw [if_pos h1]
    go_wp2_with fail
    go_ret
    exact ⟨_, rfl, Nat.le_refl _, by rw [HO.out]; exact rin_none (blk_new rfl), below_alloc (Below.refl _ _) _⟩
  · have h1' : ¬ (1000 : Int) < (s.size : Int) := by omega
    by_cases h2 : Rn.badOf s = 0
    · have HO : Hid (openR s = ⟨Rn.sgOf s, ((runesOf s).length : Int) + 1, 0, 0⟩) := by show _ = _; unfold openR; rw [if_neg h1, if_neg (by simpa using h2)]
      have HSM := hidIn (sg_small s (by omega))
      have HRL : Hid ((runesOf s).length ≤ 1000) := by have := rest_length s 0; show (rest s 0).length ≤ _; omega
      go_wp2_with fail
      refine (Rn.signs_ok s w (by omega) h2).mono ?_
      rintro e w1 ⟨v, rfl, hown, hb1⟩
      obtain ⟨ao, cap, rfl, hc1, hc2, hcs⟩ := sg_cell hown
      have HCS := hidIn hcs
      have HB1 := hidIn hb1
      have HCC : Hid ((Rn.sgOf s).length ≤ cap ∧ cap ≤ 9223372036854775807) := ⟨hc1, hc2⟩
      clear hown hcs hb1 hc1 hc2
      go_wp2_with fail
      refine (count_any s w1 (by omega)).mono ?_
      rintro e w2 ⟨rfl, pos, rfl⟩
      have HB2 := hidIn (below_iter w1 s pos)
      have hrl := HRL.out
      generalize w1.iter s pos = w2 at *
      go_wp2_with fail
      go_ret
      refine ⟨_, rfl, Nat.le_trans HB1.out.size HB2.out.size, ?_, below_alloc (HB1.out.trans (HB2.out.mono HB1.out.size)) _⟩
      rw [HO.out]
      refine ⟨ao, cap, blk_new rfl, HCC.out.1, HCC.out.2, ?_⟩
      intro j x hj
      obtain ⟨g, rfl, hg, q0, q1⟩ := HCS.out j x hj
      have hb3 := below_alloc HB2.out (.cells #[.slice (some ⟨g, 0, none⟩) (Rn.sgOf s).length cap, .int .i64 (((runesOf s).length : Int) + 1), .int .i64 0, .int .i64 0] 67)
      refine ⟨g, 0, rfl, Nat.lt_of_lt_of_le hg HB2.out.size, by simp; have := HB2.out.size; omega, ?_, ?_, HSM.out x (List.mem_of_getElem? hj)⟩
      · rw [Nat.zero_add]; exact (hb3.cell (p := ⟨g, j * 2, none⟩) hg).trans q0
      · rw [Nat.zero_add]; exact (hb3.cell (p := ⟨g, j * 2 + 1, none⟩) hg).trans q1
    · have HO : Hid (openR s = ⟨[], 0, (Rn.badOf s : Int), 2⟩) := by show _ = _; unfold openR; rw [if_neg h1, if_pos h2]
      go_wp2_with fail
      refine (Rn.signs_bad s w (by unfold maxLen; omega) h2).mono ?_
      rintro e w1 ⟨rfl, hb1⟩
      have h2' : ((Rn.badOf s : Nat) : Int) ≠ 0 := by omega
      have h2n : (((Rn.badOf s : Nat) : Int) == 0) = false := beq_eq_false_iff_ne.2 h2'
      have HB1 := hidIn hb1
      clear hb1 h2
      generalize hbd : Rn.badOf s = bd at *
      go_wp2_with fail
      go_ret
      exact ⟨_, rfl, HB1.out.size, by rw [HO.out]; exact rin_none (blk_new rfl), below_alloc HB1.out _⟩

end Go.Proofs.YtbppkklfjmpgiaaDoor
namespace Go.Proofs.YtbppkklfjmpgiaaDoor
open Go.RowKit
set_option linter.unusedVariables false

theorem refuseR_left (r : RS) (p e : Int) : (refuseR r p e).left = r.left := by unfold refuseR; split <;> rfl
theorem fitR_left (r : RS) (s : Rn.Sg) (ok : Bool) : (fitR r s ok).left = r.left := by unfold fitR; split; rfl; exact refuseR_left _ _ _
theorem takeR_left (r : RS) : (takeR r).left.length ≤ r.left.length := by
  unfold takeR; split
  · simp
  · exact Nat.le_refl _
theorem fit_z {r : RS} {s : Rn.Sg} {ok : Bool} (h : (fitR r s ok).e = 0) : r.e = 0 := by
  by_cases h0 : r.e = 0
  · exact h0
  · exact absurd h (fitR_e r s ok h0)
theorem fit_zok {r : RS} {s : Rn.Sg} {ok : Bool} (h : (fitR r s ok).e = 0) : ok = true := by
  cases ok with
  | true => rfl
  | false =>
    exfalso
    have h0 := fit_z h
    unfold fitR refuseR at h
    rw [if_neg (by decide), if_pos h0] at h
    exact absurd h (by show ¬ (2 : Int) = 0; decide)
theorem mark_z {r : RS} {t : ByteArray} (h : (markR r t).e = 0) : r.e = 0 ∧ (markR r t).left.length ≤ r.left.length := by
  have h1 := fit_z h
  rw [takeR_e] at h1
  exact ⟨h1, by unfold markR; rw [fitR_left]; exact takeR_left r⟩
theorem name_z {r : RS} (h : (nameR r).e = 0) : r.e = 0 ∧ (nameR r).left.length ≤ r.left.length := by
  have h1 := fit_z h
  rw [takeR_e] at h1
  exact ⟨h1, by unfold nameR; rw [fitR_left]; exact takeR_left r⟩
theorem day_z {r : RS} (h : (dayR r).e = 0) : r.e = 0 ∧ (dayR r).left.length ≤ r.left.length := by
  have h1 := fit_z h
  rw [takeR_e] at h1
  exact ⟨h1, by unfold dayR; rw [fitR_left]; exact takeR_left r⟩
theorem end_z {r : RS} (h : (endRd r).e = 0) : r.e = 0 := by
  have h1 := fit_z h
  rwa [takeR_e] at h1
theorem first_z {r : RS} {d : Nat} (h : (firstR r d).e = 0) : r.e = 0 ∧ d ≤ 12 ∧ firstR r d = takeR r := by
  have hd : ¬ 12 < d := fun hd => firstR_deep r d hd h
  have h1 : firstR r d = takeR r := by unfold firstR; rw [if_neg hd]
  rw [h1, takeR_e] at h
  exact ⟨h, by omega, h1⟩
theorem take_some {r : RS} (h : r.e = 0) (hs : (takeS r).1 ≠ ⟨#[]⟩) : (takeR r).left.length + 1 = r.left.length := by
  unfold takeS noS at hs
  unfold takeR
  rw [if_pos h] at hs ⊢
  cases hl : r.left with
  | nil => rw [hl] at hs; exact absurd rfl hs
  | cons a l => simp
theorem pairF_sz (rec : RS → O × RS) (hr : ∀ q, (rec q).2.e = 0 → q.e = 0 ∧ (rec q).1.nodes + (rec q).2.left.length ≤ q.left.length) (r : RS) (h : (pairF rec r).2.2.e = 0) :
    r.e = 0 ∧ (pairF rec r).1.nodes + (pairF rec r).2.1.nodes + (pairF rec r).2.2.left.length ≤ r.left.length := by
  unfold pairF at h ⊢
  have h1 := mark_z h
  have h2 := hr _ h1.1
  have h3 := mark_z h2.1
  have h4 := hr _ h3.1
  have h5 := mark_z h4.1
  exact ⟨h5.1, by simp only; omega⟩
theorem obsR_sz (f : Nat) : ∀ r d, d + f = 15 → (14 ≤ d → r.e ≠ 0) → (obsR f r d).2.e = 0 → r.e = 0 ∧ (obsR f r d).1.nodes + (obsR f r d).2.left.length ≤ r.left.length := by
  induction f with
  | zero => intro r d hd he h; exact absurd h (he (by omega))
  | succ f ih =>
    intro r d hd he h
    have hfirst : ∀ x : RS, x.e = 0 → (∀ q : RS, q.e ≠ 0 → True) → True := fun _ _ _ => trivial
    have hfe : (firstR r d).e = 0 := by
      by_cases h0 : (firstR r d).e = 0
      · exact h0
      · exfalso
        have ih' : ∀ q, q.e ≠ 0 → ((fun q => obsR f q (d + 1)) q).2.e ≠ 0 := fun q hq => obsR_e f q (d + 1) hq
        unfold obsR at h
        revert h
        repeat' split
        · exact markR_e _ _ (nameR_e _ (markR_e _ _ h0))
        · exact pairF_e _ ih' _ h0
        · exact markR_e _ _ (obsR_e _ _ _ (markR_e _ _ h0))
        · exact pairF_e _ ih' _ h0
        · exact pairF_e _ ih' _ h0
        · exact fitR_e _ _ _ h0
    obtain ⟨he0, hd12, hft⟩ := first_z hfe
    have hrec : ∀ q, ((fun q => obsR f q (d + 1)) q).2.e = 0 → q.e = 0 ∧ ((fun q => obsR f q (d + 1)) q).1.nodes + ((fun q => obsR f q (d + 1)) q).2.left.length ≤ q.left.length := fun q hq => ih q (d + 1) (by omega) (fun hx => absurd hx (by omega)) hq
    have hts : (takeS r).1 ≠ ⟨#[]⟩ → (firstR r d).left.length + 1 = r.left.length := fun hs => by rw [hft]; exact take_some he0 hs
    refine ⟨he0, ?_⟩
    unfold obsR at h ⊢
    by_cases k0 : (takeS r).1 = wFix
    · rw [if_pos k0] at h ⊢
      have h1 := mark_z h
      have h2 := name_z h1.1
      have h3 := mark_z h2.1
      have h4 := hts (by rw [k0]; decide)
      simp only [O.nodes]; omega
    rw [if_neg k0] at h ⊢
    by_cases k1 : (takeS r).1 = wAdd
    · rw [if_pos k1] at h ⊢
      have h1 := pairF_sz _ hrec _ h
      have h4 := hts (by rw [k1]; decide)
      simp only [O.nodes]; omega
    rw [if_neg k1] at h ⊢
    by_cases k2 : (takeS r).1 = wNeg
    · rw [if_pos k2] at h ⊢
      have h1 := mark_z h
      have h2 := hrec _ h1.1
      have h3 := mark_z h2.1
      have h4 := hts (by rw [k2]; decide)
      simp only [O.nodes] at h2 ⊢; omega
    rw [if_neg k2] at h ⊢
    by_cases k3 : (takeS r).1 = wMul
    · rw [if_pos k3] at h ⊢
      have h1 := pairF_sz _ hrec _ h
      have h4 := hts (by rw [k3]; decide)
      simp only [O.nodes]; omega
    rw [if_neg k3] at h ⊢
    by_cases k4 : (takeS r).1 = wMax
    · rw [if_pos k4] at h ⊢
      have h1 := pairF_sz _ hrec _ h
      have h4 := hts (by rw [k4]; decide)
      simp only [O.nodes]; omega
    rw [if_neg k4] at h ⊢
    have h1 := fit_zok h
    have h4 := hts (fun e => by rw [e] at h1; exact absurd h1 (by decide))
    simp only [O.nodes]
    rw [fitR_left]
    omega
theorem lastF_sz (rec : RS → C × RS) (hr : ∀ q, (rec q).2.e = 0 → q.e = 0 ∧ (rec q).1.weight + (rec q).2.left.length ≤ q.left.length) (r : RS) (h : (lastF rec r).2.e = 0) :
    r.e = 0 ∧ (lastF rec r).1.weight + (lastF rec r).2.left.length ≤ r.left.length := by
  unfold lastF at h ⊢
  have h1 := mark_z h
  have h2 := hr _ h1.1
  exact ⟨h2.1, by simp only; omega⟩
theorem lastsF_sz (rec : RS → C × RS) (hr : ∀ q, (rec q).2.e = 0 → q.e = 0 ∧ (rec q).1.weight + (rec q).2.left.length ≤ q.left.length) (r : RS) (h : (lastsF rec r).2.2.e = 0) :
    r.e = 0 ∧ (lastsF rec r).1.weight + (lastsF rec r).2.1.weight + (lastsF rec r).2.2.left.length ≤ r.left.length := by
  unfold lastsF at h ⊢
  have h1 := lastF_sz rec hr _ h
  have h2 := mark_z h1.1
  have h3 := hr _ h2.1
  exact ⟨h3.1, by simp only; omega⟩
theorem termR_sz (f : Nat) : ∀ r d, d + f = 15 → (14 ≤ d → r.e ≠ 0) → (termR f r d).2.e = 0 → r.e = 0 ∧ (termR f r d).1.weight + (termR f r d).2.left.length ≤ r.left.length := by
  induction f with
  | zero => intro r d hd he h; exact absurd h (he (by omega))
  | succ f ih =>
    intro r d hd he h
    have hfe : (firstR r d).e = 0 := by
      by_cases h0 : (firstR r d).e = 0
      · exact h0
      · exfalso
        have h1 := h0
        have ih' : ∀ q, q.e ≠ 0 → ((fun q => termR f q (d + 1)) q).2.e ≠ 0 := fun q hq => termR_e f q (d + 1) hq
        unfold termR at h
        revert h
        repeat' split
        · exact h1
        · exact markR_e _ _ (nameR_e _ (markR_e _ _ h1))
        · exact lastF_e _ ih' _ (markR_e _ _ h1)
        · exact lastsF_e _ ih' _ (markR_e _ _ h1)
        · exact lastsF_e _ ih' _ (markR_e _ _ (nameR_e _ (markR_e _ _ h1)))
        · exact lastF_e _ ih' _ (markR_e _ _ (obsR_e _ _ _ (markR_e _ _ h1)))
        · exact lastF_e _ ih' _ (markR_e _ _ (dayR_e _ (markR_e _ _ h1)))
        · exact lastsF_e _ ih' _ (markR_e _ _ (obsR_e _ _ _ (markR_e _ _ h1)))
        · exact fitR_e _ _ _ h1
    obtain ⟨he0, hd12, hft⟩ := first_z hfe
    have hrec : ∀ q, ((fun q => termR f q (d + 1)) q).2.e = 0 → q.e = 0 ∧ ((fun q => termR f q (d + 1)) q).1.weight + ((fun q => termR f q (d + 1)) q).2.left.length ≤ q.left.length := fun q hq => ih q (d + 1) (by omega) (fun hx => absurd hx (by omega)) hq
    have hobs : ∀ q, (obsR f q (d + 1)).2.e = 0 → q.e = 0 ∧ (obsR f q (d + 1)).1.nodes + (obsR f q (d + 1)).2.left.length ≤ q.left.length := fun q hq => obsR_sz f q (d + 1) (by omega) (fun hx => absurd hx (by omega)) hq
    have hts : (takeS r).1 ≠ ⟨#[]⟩ → (firstR r d).left.length + 1 = r.left.length := fun hs => by rw [hft]; exact take_some he0 hs
    refine ⟨he0, ?_⟩
    unfold termR at h ⊢
    by_cases k0 : (takeS r).1 = wZero
    · rw [if_pos k0] at h ⊢
      have h4 := hts (by rw [k0]; decide)
      simp only [C.weight]; omega
    rw [if_neg k0] at h ⊢
    by_cases k1 : (takeS r).1 = wOne
    · rw [if_pos k1] at h ⊢
      have h1 := mark_z h
      have h2 := name_z h1.1
      have h3 := mark_z h2.1
      have h4 := hts (by rw [k1]; decide)
      simp only [C.weight]; omega
    rw [if_neg k1] at h ⊢
    by_cases k2 : (takeS r).1 = wGive
    · rw [if_pos k2] at h ⊢
      have h1 := lastF_sz _ hrec _ h
      have h2 := mark_z h1.1
      have h4 := hts (by rw [k2]; decide)
      simp only [C.weight]; omega
    rw [if_neg k2] at h ⊢
    by_cases k3 : (takeS r).1 = wAnd
    · rw [if_pos k3] at h ⊢
      have h1 := lastsF_sz _ hrec _ h
      have h2 := mark_z h1.1
      have h4 := hts (by rw [k3]; decide)
      simp only [C.weight]; omega
    rw [if_neg k3] at h ⊢
    by_cases k4 : (takeS r).1 = wOr
    · rw [if_pos k4] at h ⊢
      have h1 := lastsF_sz _ hrec _ h
      have h2 := mark_z h1.1
      have h3 := name_z h2.1
      have h5 := mark_z h3.1
      have h4 := hts (by rw [k4]; decide)
      simp only [C.weight]; omega
    rw [if_neg k4] at h ⊢
    by_cases k5 : (takeS r).1 = wScale
    · rw [if_pos k5] at h ⊢
      have h1 := lastF_sz _ hrec _ h
      have h2 := mark_z h1.1
      have h3 := hobs _ h2.1
      have h5 := mark_z h3.1
      have h4 := hts (by rw [k5]; decide)
      simp only [C.weight]; omega
    rw [if_neg k5] at h ⊢
    by_cases k6 : (takeS r).1 = wWhen
    · rw [if_pos k6] at h ⊢
      have h1 := lastF_sz _ hrec _ h
      have h2 := mark_z h1.1
      have h3 := day_z h2.1
      have h5 := mark_z h3.1
      have h4 := hts (by rw [k6]; decide)
      simp only [C.weight]; omega
    rw [if_neg k6] at h ⊢
    by_cases k7 : (takeS r).1 = wIf
    · rw [if_pos k7] at h ⊢
      have h1 := lastsF_sz _ hrec _ h
      have h2 := mark_z h1.1
      have h3 := hobs _ h2.1
      have h5 := mark_z h3.1
      have h4 := hts (by rw [k7]; decide)
      simp only [C.weight]; omega
    rw [if_neg k7] at h ⊢
    have h1 := fit_zok h
    cases h1
theorem cut_len (rs : List Int) : ∀ (l : List Rn.Sg) (run : List Int) (p : Nat), (Rn.cutGo l run p rs).length ≤ l.length + 1 + 2 * rs.length := by
  induction rs with
  | nil => intro l run p; have := Rn.endR_len l run (p + 1 : Nat); show (Rn.endR l run (p + 1 : Nat)).length ≤ _; simp only [List.length_nil]; omega
  | cons r rs ih =>
    intro l run p
    have he := Rn.endR_len l run (p + 1 : Nat)
    unfold Rn.cutGo
    simp only [List.length_cons]
    split
    · have := ih l (run ++ [r]) (p + 1); omega
    · split
      · have := ih (Rn.endR l run (p + 1 : Nat) ++ [(Utf8.encode r, ((p + 1 : Nat) : Int))]) [] (p + 1)
        rw [List.length_append] at this
        simp only [List.length_cons, List.length_nil] at this
        omega
      · have := ih (Rn.endR l run (p + 1 : Nat)) [] (p + 1); omega
theorem open_len (s : ByteArray) : (openR s).left.length ≤ 2001 := by
  unfold openR
  split
  · simp
  · split
    · simp
    · rename_i h1 _
      have h := cut_len (runesOf s) [] [] 0
      have h2 := rest_length s 0
      have h3 : (runesOf s).length ≤ s.size := by unfold runesOf; omega
      show (Rn.cutGo [] [] 0 (runesOf s)).length ≤ _
      simp at h
      omega
/-- What read.Term answers: the contract, the place, the error. -/
def rdT (s : ByteArray) : C × Int × Int :=
  if (endRd (termR 14 (openR s) 1).2).e = 0 then
    (if chkC (termR 14 (openR s) 1).1 = 0 then ((termR 14 (openR s) 1).1, 0, 0) else (.odd .nilIface, (endRd (termR 14 (openR s) 1).2).pl, chkC (termR 14 (openR s) 1).1))
  else (.odd .nilIface, (endRd (termR 14 (openR s) 1).2).pl, (endRd (termR 14 (openR s) 1).2).e)
def rdO (s : ByteArray) : O × Int × Int :=
  if (endRd (obsR 14 (openR s) 1).2).e = 0 then
    (if chk (obsR 14 (openR s) 1).1 = 0 then ((obsR 14 (openR s) 1).1, 0, 0) else (.odd .nilIface, (endRd (obsR 14 (openR s) 1).2).pl, chk (obsR 14 (openR s) 1).1))
  else (.odd .nilIface, (endRd (obsR 14 (openR s) 1).2).pl, (endRd (obsR 14 (openR s) 1).2).e)
theorem RIn.cells {w : World} {R : Nat} {r : RS} (h : RIn w R r) : w.cell? ⟨R, 2, none⟩ = some (.int .i64 r.pl) ∧ w.cell? ⟨R, 3, none⟩ = some (.int .i64 r.e) ∧ w.frozen? ⟨R, 3, none⟩ = false := by
  obtain ⟨a, c, hb, _⟩ := h.has
  exact ⟨hb.cell 2, hb.cell 3, hb.frozen 3⟩
theorem bel_drewN {B : Nat} {w w' : World} (h : Below B w w') (n : Nat) : Below B w (w'.drewN n) := ⟨h.os, h.tape, h.output, h.size, h.block⟩
theorem bel_set {B : Nat} {w w' : World} (h : Below B w w') {R : Nat} (hR : B ≤ R) (i : Nat) (x : Value) (n : Nat) : Below B w ((w'.setCell ⟨R, i, none⟩ x).drewN n) := bel_drewN (h.setCell hR x) n
theorem Grew.low {M : Nat} {u w w' : World} (h : Grew M none w w') (hb : Below u.heap.size u w) (hM : u.heap.size ≤ M) : Below u.heap.size u w' :=
  hb.trans (h.below hb.size hM (fun k hk => by cases hk))

set_option maxHeartbeats 4000000 in
set_option maxRecDepth 100000 in
theorem readT_any (s : ByteArray) (w : World) (hs : s.size ≤ 140737488351232) :
    Calls Tryd.prog 8 #[.string s] w fun e w' => e = .returned (.tuple #[(rdT s).1.val, .int .i64 (rdT s).2.1, .int .i64 (rdT s).2.2]) ∧ (rdT s).1.Ok ∧ Below w.heap.size w w' := by
  have HRD : Hid (rdT s = if (endRd (termR 14 (openR s) 1).2).e = 0 then (if chkC (termR 14 (openR s) 1).1 = 0 then ((termR 14 (openR s) 1).1, 0, 0) else (.odd .nilIface, (endRd (termR 14 (openR s) 1).2).pl, chkC (termR 14 (openR s) 1).1)) else (.odd .nilIface, (endRd (termR 14 (openR s) 1).2).pl, (endRd (termR 14 (openR s) 1).2).e)) := rfl
  have HSZ : Hid ((endRd (termR 14 (openR s) 1).2).e = 0 → (termR 14 (openR s) 1).1.weight ≤ 2001) := fun h => by
    have h1 := (termR_sz 14 (openR s) 1 rfl (fun hx => absurd hx (by omega)) (end_z h)).2
    have h2 := open_len s
    omega
  go_enter Tryd.func8, Tryd.ntmps8
  go_wp2_with fail
  refine (ropen_any s w hs).mono ?_
  rintro e w1 ⟨R, rfl, hR, h1, hb1⟩
  have HR := hidIn hR
  have HB1 := hidIn hb1
  have H1 := hidIn h1
  clear hR h1 hb1
  go_wp2_with fail
  refine (term_all 14 1 rfl (openR s) w1 R (fun hx => absurd hx (by omega)) H1.out).mono ?_
  rintro e w2 ⟨rfl, hok, h2, hg2⟩
  have HOK := hidIn hok
  have H2 := hidIn h2
  have HB2 := hidIn (hg2.low HB1.out HR.out)
  clear hok h2 hg2
  go_wp2_with fail
  refine (end_any w2 R _ H2.out).mono ?_
  rintro e w3 ⟨rfl, h3, hg3⟩
  have H3 := hidIn h3
  have HB3 := hidIn (hg3.low HB2.out HR.out)
  obtain ⟨q2, q3, qf⟩ := h3.cells
  clear h3 hg3
  generalize (termR 14 (openR s) 1).1 = c at *
  generalize endRd (termR 14 (openR s) 1).2 = r9 at *
  obtain ⟨en, hen⟩ : ∃ en, r9.e = en := ⟨_, rfl⟩
  obtain ⟨pl, hpl⟩ : ∃ pl, r9.pl = pl := ⟨_, rfl⟩
  rw [hen, hpl] at HRD
  rw [hen] at HSZ q3
  rw [hpl] at q2
  obtain ⟨ra, rc, hblk, _, _, _⟩ := H3.out.has
  have HBLK := hidIn hblk
  have HEN := hidIn hen
  have HPL := hidIn hpl
  clear hblk hen hpl
  by_cases h0 : en = 0
  · rw [if_pos h0] at HRD
    have HW := hidIn (HSZ.out h0)
    subst h0
    go_wp2_with fail
    refine (checkT_any c HOK.out (by have := HW.out; omega) w3).mono ?_
    rintro e w4 ⟨rfl, hb4⟩
    have hk4 := HBLK.out.below hb4 HBLK.out.lt
    have z2 : w4.cell? ⟨R, 2, none⟩ = some (.int .i64 pl) := by rw [← HPL.out]; exact hk4.cell 2
    have z3 : w4.cell? ⟨R, 3, none⟩ = some (.int .i64 0) := by rw [← HEN.out]; exact hk4.cell 3
    have f3 : w4.frozen? ⟨R, 3, none⟩ = false := hk4.frozen 3
    have HB4 := hidIn (HB3.out.trans (hb4.mono HB3.out.size))
    clear hb4 hk4 q2 q3 qf
    by_cases hc : chkC c = 0
    · rw [if_pos hc] at HRD
      rw [hc]
      go_wp2_with fail
      go_ret3
      rw [HRD.out]
      exact ⟨rfl, HOK.out, HB4.out.setCell HR.out _⟩
    · rw [if_neg hc] at HRD
      obtain ⟨k, hk⟩ : ∃ k, chkC c = k := ⟨_, rfl⟩
      rw [hk] at hc HRD
      rw [hk]
      have hcn : (k == 0) = false := beq_eq_false_iff_ne.2 hc
      go_wp2_with fail
      go_quiet (fail)
      go_wp2_with fail
      go_ret3
      rw [HRD.out]
      exact ⟨rfl, .inl rfl, bel_set HB4.out HR.out 3 _ _⟩
  · rw [if_neg h0] at HRD
    have hcn : (en == 0) = false := beq_eq_false_iff_ne.2 h0
    go_wp2_with fail
    go_quiet (fail)
    go_wp2_with fail
    go_ret3
    rw [HRD.out]
    exact ⟨rfl, .inl rfl, bel_drewN HB3.out _⟩

end Go.Proofs.YtbppkklfjmpgiaaDoor
namespace Go.Proofs.YtbppkklfjmpgiaaDoor
open Go.RowKit
set_option linter.unusedVariables false

theorem cut_word (w : List Int) : ∀ (l : List Rn.Sg) (run : List Int) (p : Nat) (m : Int) (rs : List Int), (∀ x ∈ w, Rn.joinB x = true) → Rn.joinB m = false → Rn.markB m = true → run ++ w ≠ [] →
    Rn.cutGo l run p (w ++ m :: rs) = Rn.cutGo (l ++ [(runesBytes (run ++ w), ((p + w.length + 1 : Nat) : Int) - ((run ++ w).length : Int))] ++ [(Utf8.encode m, ((p + w.length + 1 : Nat) : Int))]) [] (p + w.length + 1) rs := by
  induction w with
  | nil =>
    intro l run p m rs hw hj hm hne
    rw [List.nil_append, Rn.cutGo_mark l run p m rs hj hm]
    simp only [List.append_nil] at hne ⊢
    unfold Rn.endR
    rw [if_neg hne]
    simp
  | cons x w ih =>
    intro l run p m rs hw hj hm hne
    rw [List.cons_append, Rn.cutGo_join l run p x _ (hw x List.mem_cons_self), ih l (run ++ [x]) (p + 1) m rs (fun y hy => hw y (List.mem_cons_of_mem _ hy)) hj hm (by simp)]
    have e : run ++ [x] ++ w = run ++ x :: w := by simp
    rw [e]
    simp only [List.length_cons]
    rw [show p + 1 + w.length + 1 = p + (w.length + 1) + 1 by omega]
theorem cut_last (w : List Int) : ∀ (l : List Rn.Sg) (run : List Int) (p : Nat), (∀ x ∈ w, Rn.joinB x = true) → run ++ w ≠ [] →
    Rn.cutGo l run p w = l ++ [(runesBytes (run ++ w), ((p + w.length + 1 : Nat) : Int) - ((run ++ w).length : Int))] := by
  induction w with
  | nil =>
    intro l run p hw hne
    simp only [List.append_nil] at hne ⊢
    show Rn.endR l run _ = _
    unfold Rn.endR
    rw [if_neg hne]
    simp
  | cons x w ih =>
    intro l run p hw hne
    rw [Rn.cutGo_join l run p x _ (hw x List.mem_cons_self), ih l (run ++ [x]) (p + 1) (fun y hy => hw y (List.mem_cons_of_mem _ hy)) (by simp)]
    have e : run ++ [x] ++ w = run ++ x :: w := by simp
    rw [e]
    simp only [List.length_cons]
    rw [show p + 1 + w.length + 1 = p + (w.length + 1) + 1 by omega]
theorem cut_mark (l : List Rn.Sg) (p : Nat) (m : Int) (rs : List Int) (hj : Rn.joinB m = false) (hm : Rn.markB m = true) : Rn.cutGo l [] p (m :: rs) = Rn.cutGo (l ++ [(Utf8.encode m, ((p + 1 : Nat) : Int))]) [] (p + 1) rs := by
  rw [Rn.cutGo_mark l [] p m rs hj hm]; rfl
theorem ba_x {a b : ByteArray} (h : a.data.toList = b.data.toList) : a = b := by
  cases a with | mk a => cases b with | mk b => simp only [ByteArray.mk.injEq]; exact Array.toList_inj.1 h
theorem let_join (r : Int) (h : letB r = true) : Rn.joinB r = true := by unfold Rn.joinB; rw [h]; simp

/-- A text by its runes, its signs from a place on: a word, what stands between brackets. -/
def numB (n : Int) : ByteArray := ⟨(Lib.itoa n).toArray⟩
def rnN (n : Int) : List Int := (Lib.itoa n).map fun b => (b.toNat : Int)
def rnO : O → List Int
  | .const n => rnN n
  | .fix s => [102, 105, 120, 40] ++ (runesOf s ++ [41])
  | .add l r => [97, 100, 100, 40] ++ (rnO l ++ 44 :: (rnO r ++ [41]))
  | .neg o => [110, 101, 103, 40] ++ (rnO o ++ [41])
  | .mul l r => [109, 117, 108, 40] ++ (rnO l ++ 44 :: (rnO r ++ [41]))
  | .max l r => [109, 97, 120, 40] ++ (rnO l ++ 44 :: (rnO r ++ [41]))
  | .odd _ => []
def sgO (p : Nat) : O → List Rn.Sg
  | .const n => [(numB n, ((p + 1 : Nat) : Int))]
  | .fix s => (wFix, ((p + 1 : Nat) : Int)) :: (lpB, ((p + 4 : Nat) : Int)) :: (s, ((p + 5 : Nat) : Int)) :: [(rpB, ((p + 5 + (runesOf s).length : Nat) : Int))]
  | .add l r => (wAdd, ((p + 1 : Nat) : Int)) :: (lpB, ((p + 4 : Nat) : Int)) :: (sgO (p + 4) l ++ (cmB, ((p + 4 + (rnO l).length + 1 : Nat) : Int)) :: (sgO (p + 4 + (rnO l).length + 1) r ++ [(rpB, ((p + 4 + (rnO l).length + 1 + (rnO r).length + 1 : Nat) : Int))]))
  | .neg o => (wNeg, ((p + 1 : Nat) : Int)) :: (lpB, ((p + 4 : Nat) : Int)) :: (sgO (p + 4) o ++ [(rpB, ((p + 4 + (rnO o).length + 1 : Nat) : Int))])
  | .mul l r => (wMul, ((p + 1 : Nat) : Int)) :: (lpB, ((p + 4 : Nat) : Int)) :: (sgO (p + 4) l ++ (cmB, ((p + 4 + (rnO l).length + 1 : Nat) : Int)) :: (sgO (p + 4 + (rnO l).length + 1) r ++ [(rpB, ((p + 4 + (rnO l).length + 1 + (rnO r).length + 1 : Nat) : Int))]))
  | .max l r => (wMax, ((p + 1 : Nat) : Int)) :: (lpB, ((p + 4 : Nat) : Int)) :: (sgO (p + 4) l ++ (cmB, ((p + 4 + (rnO l).length + 1 : Nat) : Int)) :: (sgO (p + 4 + (rnO l).length + 1) r ++ [(rpB, ((p + 4 + (rnO l).length + 1 + (rnO r).length + 1 : Nat) : Int))]))
  | .odd _ => []
theorem dec_digs (n : Nat) : ∀ b ∈ Lib.decDigits n, 48 ≤ b.toNat ∧ b.toNat ≤ 57 := by
  induction n using Nat.strongRecOn with
  | _ n ih =>
    have hone : ∀ k, k < 10 → 48 ≤ (UInt8.ofNat (48 + k)).toNat ∧ (UInt8.ofNat (48 + k)).toNat ≤ 57 := by decide
    intro b hb
    rw [Lib.decDigits] at hb
    by_cases h : n < 10
    · rw [dif_pos h, List.mem_singleton] at hb; subst hb; exact hone n h
    · rw [dif_neg h] at hb
      rcases List.mem_append.1 hb with hb | hb
      · exact ih (n / 10) (by omega) b hb
      · rw [List.mem_singleton] at hb; subst hb; exact hone (n % 10) (by omega)
theorem dec_some (n : Nat) : Lib.decDigits n ≠ [] := by rw [Lib.decDigits]; split <;> simp
theorem dec_valB (n : Nat) : Rn.valB (Lib.decDigits n) = n := by
  induction n using Nat.strongRecOn with
  | _ n ih =>
    have hone : ∀ k : Nat, k < 10 → ((UInt8.ofNat (48 + k)).toNat : Int) - 48 = k := by decide
    rw [Lib.decDigits]
    by_cases h : n < 10
    · rw [dif_pos h]; simp only [Rn.valB, List.foldl_cons, List.foldl_nil]; rw [hone n h]; omega
    · rw [dif_neg h, Rn.valB_snoc, ih (n / 10) (by omega), hone (n % 10) (by omega)]; omega
theorem dec_head (n : Nat) (h : (Lib.decDigits n).head? = some 48) : n = 0 := by
  induction n using Nat.strongRecOn with
  | _ n ih =>
    have hone : ∀ k : Nat, k < 10 → UInt8.ofNat (48 + k) = 48 → k = 0 := by decide
    rw [Lib.decDigits] at h
    by_cases h10 : n < 10
    · rw [dif_pos h10] at h; simp only [List.head?_cons, Option.some.injEq] at h; exact hone n h10 h
    · exfalso
      rw [dif_neg h10, List.head?_append] at h
      cases hq : Lib.decDigits (n / 10) with
      | nil => exact dec_some _ hq
      | cons a l =>
        rw [hq] at h
        simp at h
        have := ih (n / 10) (by omega) (by rw [hq, h]; rfl)
        omega
theorem dec_long (f : Nat) : ∀ n, n < 10 ^ (f + 1) → (Lib.decDigits n).length ≤ f + 1 := by
  induction f with
  | zero =>
    intro n h
    have h' : n < 10 := by simpa using h
    rw [Lib.decDigits, dif_pos h']
    simp
  | succ f ih =>
    intro n h
    rw [Lib.decDigits]
    by_cases h10 : n < 10
    · rw [dif_pos h10]; simp
    · rw [dif_neg h10]
      have := ih (n / 10) (by rw [Nat.pow_succ] at h; omega)
      simp; omega
theorem natOf_dec (n : Nat) (h : n ≤ 1000000000000) : Rn.natOf (Lib.decDigits n) = ((n : Int), true) := by
  have h1 := dec_long 12 n (by have : (10 : Nat) ^ (12 + 1) = 10000000000000 := rfl; omega)
  have hall : (Lib.decDigits n).all Rn.isDig = true := by
    rw [List.all_eq_true]
    intro b hb
    have := dec_digs n b hb
    unfold Rn.isDig digB
    simp; omega
  unfold Rn.natOf
  rw [if_neg, if_pos hall, dec_valB, if_neg (by omega)]
  rintro (e | e | ⟨e1, e2⟩)
  · exact dec_some n e
  · omega
  · have := dec_head n e2
    subst this
    exact absurd e1 (by decide +kernel)
theorem numOf_itoa (n : Int) (h : vB n = true) : Rn.numOf (Lib.itoa n) = (n, true) := by
  rw [vB_iff] at h
  unfold Lib.itoa
  by_cases hn : n < 0
  · rw [if_pos hn, Rn.numOf_neg, natOf_dec _ (by omega), if_pos ⟨rfl, by simp only; omega⟩]
    simp only [Prod.mk.injEq, and_true]; omega
  · rw [if_neg hn, Rn.numOf_pos, natOf_dec _ (by omega)]
    · simp only [Prod.mk.injEq, and_true]; omega
    · intro e
      cases hl : Lib.decDigits n.toNat with
      | nil => exact dec_some _ hl
      | cons a l =>
        rw [hl] at e
        simp at e
        subst e
        have := dec_digs n.toNat 45 (by rw [hl]; exact List.mem_cons_self)
        exact absurd this.1 (by decide)
theorem itoa_join (n : Int) : (∀ x ∈ rnN n, Rn.joinB x = true) ∧ rnN n ≠ [] ∧ runesBytes (rnN n) = numB n := by
  have hd : ∀ b ∈ Lib.itoa n, b.toNat = 45 ∨ (48 ≤ b.toNat ∧ b.toNat ≤ 57) := by
    unfold Lib.itoa
    split
    · intro b hb
      rcases List.mem_cons.1 hb with rfl | hb
      · exact .inl rfl
      · exact .inr (dec_digs _ b hb)
    · intro b hb; exact .inr (dec_digs _ b hb)
  refine ⟨?_, ?_, ?_⟩
  · intro x hx
    obtain ⟨b, hb, rfl⟩ := List.mem_map.1 hx
    rcases hd b hb with e | e
    · rw [e]; rfl
    · unfold Rn.joinB letB digB; simp; omega
  · unfold rnN
    intro e
    have : Lib.itoa n = [] := List.map_eq_nil_iff.1 e
    unfold Lib.itoa at this
    split at this
    · cases this
    · exact dec_some _ this
  · have key : ∀ l : List UInt8, (∀ b ∈ l, b.toNat < 128) → runesBytes (l.map fun b => (b.toNat : Int)) = ⟨l.toArray⟩ := by
      intro l
      induction l with
      | nil => intro _; rfl
      | cons b l ih =>
        intro hl
        have hb := hl b List.mem_cons_self
        have hval : Utf8.valid (b.toNat : Int) = true := by simp [Utf8.valid]; omega
        rw [List.map_cons, Rn.runesBytes_cons, ih (fun x hx => hl x (List.mem_cons_of_mem _ hx))]
        have he : Utf8.encode (b.toNat : Int) = ⟨#[b]⟩ := by
          simp only [Utf8.encode, hval, if_true, Int.toNat_natCast]
          rw [if_pos hb, of_toNat rfl]
        rw [he, show (#[b] : Array UInt8) = [b].toArray from rfl, Rn.append_mk]
        simp
    exact key _ (fun b hb => by rcases hd b hb with e | e <;> omega)
theorem name_join (s : ByteArray) (h : nameGo 0 (runesOf s) = true) : (∀ x ∈ runesOf s, Rn.joinB x = true) ∧ runesOf s ≠ [] ∧ runesBytes (runesOf s) = s := by
  have hl : ∀ (c : Nat) (rs : List Int), nameGo c rs = true → ∀ r ∈ rs, letB r = true := by
    intro c rs
    induction rs generalizing c with
    | nil => intro _ r hr; cases hr
    | cons a rs ih =>
      intro h r hr
      have hno : (!letB a || ((c == 0) && digB a) || (c == 12)) = false := by
        cases hx : (!letB a || ((c == 0) && digB a) || (c == 12)) with
        | false => rfl
        | true => rw [nameGo_no c a rs hx] at h; cases h
      simp only [Bool.or_eq_false_iff] at hno
      rw [nameGo_yes c a rs (by simpa using hno.1.1) hno.1.2 hno.2] at h
      rcases List.mem_cons.1 hr with rfl | hr
      · simpa using hno.1.1
      · exact ih (c + 1) h r hr
  have h1 := hl 0 _ h
  refine ⟨fun x hx => let_join x (h1 x hx), ?_, ?_⟩
  · intro e; rw [e] at h; cases h
  · have hr := round_at s s.size 0 (by omega) (fun r hr => let_ne r (h1 r hr))
    rw [List.drop_zero] at hr
    exact ba_x hr

end Go.Proofs.YtbppkklfjmpgiaaDoor
namespace Go.Proofs.YtbppkklfjmpgiaaDoor
open Go.RowKit
set_option linter.unusedVariables false

theorem enc_lp : Utf8.encode 40 = lpB := by decide +kernel
theorem enc_rp : Utf8.encode 41 = rpB := by decide +kernel
theorem enc_cm : Utf8.encode 44 = cmB := by decide +kernel
theorem cutFix (l : List Rn.Sg) (p : Nat) (rs : List Int) : Rn.cutGo l [] p ([102, 105, 120] ++ 40 :: rs) = Rn.cutGo (l ++ [(wFix, ((p + 1 : Nat) : Int)), (lpB, ((p + 4 : Nat) : Int))]) [] (p + 4) rs := by
  rw [cut_word [102, 105, 120] l [] p 40 rs (by decide) (by decide) (by decide) (by decide), show runesBytes ([] ++ [102, 105, 120]) = wFix from by decide +kernel, enc_lp]
  simp only [List.length_cons, List.length_nil, List.nil_append, List.append_assoc, List.cons_append]
  rw [show (((p + (0 + 1 + 1 + 1) + 1 : Nat) : Int) - ((0 + 1 + 1 + 1 : Nat) : Int)) = ((p + 1 : Nat) : Int) by omega]
theorem cutAdd (l : List Rn.Sg) (p : Nat) (rs : List Int) : Rn.cutGo l [] p ([97, 100, 100] ++ 40 :: rs) = Rn.cutGo (l ++ [(wAdd, ((p + 1 : Nat) : Int)), (lpB, ((p + 4 : Nat) : Int))]) [] (p + 4) rs := by
  rw [cut_word [97, 100, 100] l [] p 40 rs (by decide) (by decide) (by decide) (by decide), show runesBytes ([] ++ [97, 100, 100]) = wAdd from by decide +kernel, enc_lp]
  simp only [List.length_cons, List.length_nil, List.nil_append, List.append_assoc, List.cons_append]
  rw [show (((p + (0 + 1 + 1 + 1) + 1 : Nat) : Int) - ((0 + 1 + 1 + 1 : Nat) : Int)) = ((p + 1 : Nat) : Int) by omega]
theorem cutNeg (l : List Rn.Sg) (p : Nat) (rs : List Int) : Rn.cutGo l [] p ([110, 101, 103] ++ 40 :: rs) = Rn.cutGo (l ++ [(wNeg, ((p + 1 : Nat) : Int)), (lpB, ((p + 4 : Nat) : Int))]) [] (p + 4) rs := by
  rw [cut_word [110, 101, 103] l [] p 40 rs (by decide) (by decide) (by decide) (by decide), show runesBytes ([] ++ [110, 101, 103]) = wNeg from by decide +kernel, enc_lp]
  simp only [List.length_cons, List.length_nil, List.nil_append, List.append_assoc, List.cons_append]
  rw [show (((p + (0 + 1 + 1 + 1) + 1 : Nat) : Int) - ((0 + 1 + 1 + 1 : Nat) : Int)) = ((p + 1 : Nat) : Int) by omega]
theorem cutMul (l : List Rn.Sg) (p : Nat) (rs : List Int) : Rn.cutGo l [] p ([109, 117, 108] ++ 40 :: rs) = Rn.cutGo (l ++ [(wMul, ((p + 1 : Nat) : Int)), (lpB, ((p + 4 : Nat) : Int))]) [] (p + 4) rs := by
  rw [cut_word [109, 117, 108] l [] p 40 rs (by decide) (by decide) (by decide) (by decide), show runesBytes ([] ++ [109, 117, 108]) = wMul from by decide +kernel, enc_lp]
  simp only [List.length_cons, List.length_nil, List.nil_append, List.append_assoc, List.cons_append]
  rw [show (((p + (0 + 1 + 1 + 1) + 1 : Nat) : Int) - ((0 + 1 + 1 + 1 : Nat) : Int)) = ((p + 1 : Nat) : Int) by omega]
theorem cutMax (l : List Rn.Sg) (p : Nat) (rs : List Int) : Rn.cutGo l [] p ([109, 97, 120] ++ 40 :: rs) = Rn.cutGo (l ++ [(wMax, ((p + 1 : Nat) : Int)), (lpB, ((p + 4 : Nat) : Int))]) [] (p + 4) rs := by
  rw [cut_word [109, 97, 120] l [] p 40 rs (by decide) (by decide) (by decide) (by decide), show runesBytes ([] ++ [109, 97, 120]) = wMax from by decide +kernel, enc_lp]
  simp only [List.length_cons, List.length_nil, List.nil_append, List.append_assoc, List.cons_append]
  rw [show (((p + (0 + 1 + 1 + 1) + 1 : Nat) : Int) - ((0 + 1 + 1 + 1 : Nat) : Int)) = ((p + 1 : Nat) : Int) by omega]
theorem cutZero (l : List Rn.Sg) (p : Nat) (rs : List Int) : Rn.cutGo l [] p ([122, 101, 114, 111] ++ 40 :: rs) = Rn.cutGo (l ++ [(wZero, ((p + 1 : Nat) : Int)), (lpB, ((p + 5 : Nat) : Int))]) [] (p + 5) rs := by
  rw [cut_word [122, 101, 114, 111] l [] p 40 rs (by decide) (by decide) (by decide) (by decide), show runesBytes ([] ++ [122, 101, 114, 111]) = wZero from by decide +kernel, enc_lp]
  simp only [List.length_cons, List.length_nil, List.nil_append, List.append_assoc, List.cons_append]
  rw [show (((p + (0 + 1 + 1 + 1 + 1) + 1 : Nat) : Int) - ((0 + 1 + 1 + 1 + 1 : Nat) : Int)) = ((p + 1 : Nat) : Int) by omega]
theorem cutOne (l : List Rn.Sg) (p : Nat) (rs : List Int) : Rn.cutGo l [] p ([111, 110, 101] ++ 40 :: rs) = Rn.cutGo (l ++ [(wOne, ((p + 1 : Nat) : Int)), (lpB, ((p + 4 : Nat) : Int))]) [] (p + 4) rs := by
  rw [cut_word [111, 110, 101] l [] p 40 rs (by decide) (by decide) (by decide) (by decide), show runesBytes ([] ++ [111, 110, 101]) = wOne from by decide +kernel, enc_lp]
  simp only [List.length_cons, List.length_nil, List.nil_append, List.append_assoc, List.cons_append]
  rw [show (((p + (0 + 1 + 1 + 1) + 1 : Nat) : Int) - ((0 + 1 + 1 + 1 : Nat) : Int)) = ((p + 1 : Nat) : Int) by omega]
theorem cutGive (l : List Rn.Sg) (p : Nat) (rs : List Int) : Rn.cutGo l [] p ([103, 105, 118, 101] ++ 40 :: rs) = Rn.cutGo (l ++ [(wGive, ((p + 1 : Nat) : Int)), (lpB, ((p + 5 : Nat) : Int))]) [] (p + 5) rs := by
  rw [cut_word [103, 105, 118, 101] l [] p 40 rs (by decide) (by decide) (by decide) (by decide), show runesBytes ([] ++ [103, 105, 118, 101]) = wGive from by decide +kernel, enc_lp]
  simp only [List.length_cons, List.length_nil, List.nil_append, List.append_assoc, List.cons_append]
  rw [show (((p + (0 + 1 + 1 + 1 + 1) + 1 : Nat) : Int) - ((0 + 1 + 1 + 1 + 1 : Nat) : Int)) = ((p + 1 : Nat) : Int) by omega]
theorem cutAnd (l : List Rn.Sg) (p : Nat) (rs : List Int) : Rn.cutGo l [] p ([97, 110, 100] ++ 40 :: rs) = Rn.cutGo (l ++ [(wAnd, ((p + 1 : Nat) : Int)), (lpB, ((p + 4 : Nat) : Int))]) [] (p + 4) rs := by
  rw [cut_word [97, 110, 100] l [] p 40 rs (by decide) (by decide) (by decide) (by decide), show runesBytes ([] ++ [97, 110, 100]) = wAnd from by decide +kernel, enc_lp]
  simp only [List.length_cons, List.length_nil, List.nil_append, List.append_assoc, List.cons_append]
  rw [show (((p + (0 + 1 + 1 + 1) + 1 : Nat) : Int) - ((0 + 1 + 1 + 1 : Nat) : Int)) = ((p + 1 : Nat) : Int) by omega]
theorem cutOr (l : List Rn.Sg) (p : Nat) (rs : List Int) : Rn.cutGo l [] p ([111, 114] ++ 40 :: rs) = Rn.cutGo (l ++ [(wOr, ((p + 1 : Nat) : Int)), (lpB, ((p + 3 : Nat) : Int))]) [] (p + 3) rs := by
  rw [cut_word [111, 114] l [] p 40 rs (by decide) (by decide) (by decide) (by decide), show runesBytes ([] ++ [111, 114]) = wOr from by decide +kernel, enc_lp]
  simp only [List.length_cons, List.length_nil, List.nil_append, List.append_assoc, List.cons_append]
  rw [show (((p + (0 + 1 + 1) + 1 : Nat) : Int) - ((0 + 1 + 1 : Nat) : Int)) = ((p + 1 : Nat) : Int) by omega]
theorem cutScale (l : List Rn.Sg) (p : Nat) (rs : List Int) : Rn.cutGo l [] p ([115, 99, 97, 108, 101] ++ 40 :: rs) = Rn.cutGo (l ++ [(wScale, ((p + 1 : Nat) : Int)), (lpB, ((p + 6 : Nat) : Int))]) [] (p + 6) rs := by
  rw [cut_word [115, 99, 97, 108, 101] l [] p 40 rs (by decide) (by decide) (by decide) (by decide), show runesBytes ([] ++ [115, 99, 97, 108, 101]) = wScale from by decide +kernel, enc_lp]
  simp only [List.length_cons, List.length_nil, List.nil_append, List.append_assoc, List.cons_append]
  rw [show (((p + (0 + 1 + 1 + 1 + 1 + 1) + 1 : Nat) : Int) - ((0 + 1 + 1 + 1 + 1 + 1 : Nat) : Int)) = ((p + 1 : Nat) : Int) by omega]
theorem cutWhen (l : List Rn.Sg) (p : Nat) (rs : List Int) : Rn.cutGo l [] p ([119, 104, 101, 110] ++ 40 :: rs) = Rn.cutGo (l ++ [(wWhen, ((p + 1 : Nat) : Int)), (lpB, ((p + 5 : Nat) : Int))]) [] (p + 5) rs := by
  rw [cut_word [119, 104, 101, 110] l [] p 40 rs (by decide) (by decide) (by decide) (by decide), show runesBytes ([] ++ [119, 104, 101, 110]) = wWhen from by decide +kernel, enc_lp]
  simp only [List.length_cons, List.length_nil, List.nil_append, List.append_assoc, List.cons_append]
  rw [show (((p + (0 + 1 + 1 + 1 + 1) + 1 : Nat) : Int) - ((0 + 1 + 1 + 1 + 1 : Nat) : Int)) = ((p + 1 : Nat) : Int) by omega]
theorem cutIf (l : List Rn.Sg) (p : Nat) (rs : List Int) : Rn.cutGo l [] p ([105, 102] ++ 40 :: rs) = Rn.cutGo (l ++ [(wIf, ((p + 1 : Nat) : Int)), (lpB, ((p + 3 : Nat) : Int))]) [] (p + 3) rs := by
  rw [cut_word [105, 102] l [] p 40 rs (by decide) (by decide) (by decide) (by decide), show runesBytes ([] ++ [105, 102]) = wIf from by decide +kernel, enc_lp]
  simp only [List.length_cons, List.length_nil, List.nil_append, List.append_assoc, List.cons_append]
  rw [show (((p + (0 + 1 + 1) + 1 : Nat) : Int) - ((0 + 1 + 1 : Nat) : Int)) = ((p + 1 : Nat) : Int) by omega]
/-- A number's runes, and a mark: its signs, and that mark. -/
theorem cutO (x : O) (hf : formB x = true) : ∀ (l : List Rn.Sg) (p : Nat) (m : Int) (rs : List Int), Rn.joinB m = false → Rn.markB m = true →
    Rn.cutGo l [] p (rnO x ++ m :: rs) = Rn.cutGo (l ++ sgO p x ++ [(Utf8.encode m, ((p + (rnO x).length + 1 : Nat) : Int))]) [] (p + (rnO x).length + 1) rs := by
  have j41 : Rn.joinB 41 = false := by decide
  have m41 : Rn.markB 41 = true := by decide
  have j44 : Rn.joinB 44 = false := by decide
  have m44 : Rn.markB 44 = true := by decide
  induction x with
  | const n =>
    intro l p m rs hj hm
    obtain ⟨h1, h2, h3⟩ := itoa_join n
    simp only [rnO, sgO]
    rw [cut_word _ l [] p m rs h1 hj hm (by simpa using h2), List.nil_append, h3]
    rw [show (((p + (rnN n).length + 1 : Nat) : Int) - ((rnN n).length : Int)) = ((p + 1 : Nat) : Int) by omega]
  | fix s =>
    intro l p m rs hj hm
    obtain ⟨h1, h2, h3⟩ := name_join s hf
    simp only [rnO, sgO, List.cons_append, List.nil_append, List.append_assoc, List.length_cons, List.length_append, List.length_nil]
    rw [show (102 :: 105 :: 120 :: 40 :: (runesOf s ++ 41 :: m :: rs) : List Int) = [102, 105, 120] ++ 40 :: (runesOf s ++ 41 :: (m :: rs)) from rfl, cutFix, cut_word _ _ [] _ 41 _ h1 j41 m41 (by simpa using h2), List.nil_append, h3, enc_rp, cut_mark _ _ m rs hj hm]
    simp only [List.append_assoc, List.cons_append, List.nil_append]
    congr 1
    · congr 1
      simp only [List.cons.injEq, Prod.mk.injEq, true_and, and_true]
      refine ⟨?_, ?_, ?_⟩ <;> omega
    · omega
  | odd v => cases hf
  | add a b iha ihb =>
    intro l p m rs hj hm
    simp only [formB, Bool.and_eq_true] at hf
    simp only [rnO, sgO, List.cons_append, List.nil_append, List.append_assoc, List.length_cons, List.length_append, List.length_nil]
    rw [show (97 :: 100 :: 100 :: 40 :: (rnO a ++ 44 :: (rnO b ++ 41 :: m :: rs)) : List Int) = [97, 100, 100] ++ 40 :: (rnO a ++ 44 :: (rnO b ++ 41 :: (m :: rs))) from rfl, cutAdd, iha hf.1 _ _ 44 _ j44 m44, ihb hf.2 _ _ 41 _ j41 m41, enc_rp, enc_cm, cut_mark _ _ m rs hj hm]
    simp only [List.append_assoc, List.cons_append, List.nil_append]
    congr 1
    · congr 1
      simp only [List.cons.injEq, Prod.mk.injEq, true_and, and_true, List.append_cancel_left_eq]
      omega
    · omega
  | neg o ih =>
    intro l p m rs hj hm
    simp only [rnO, sgO, List.cons_append, List.nil_append, List.append_assoc, List.length_cons, List.length_append, List.length_nil]
    rw [show (110 :: 101 :: 103 :: 40 :: (rnO o ++ 41 :: m :: rs) : List Int) = [110, 101, 103] ++ 40 :: (rnO o ++ 41 :: (m :: rs)) from rfl, cutNeg, ih hf _ _ 41 _ j41 m41, enc_rp, cut_mark _ _ m rs hj hm]
    simp only [List.append_assoc, List.cons_append, List.nil_append]
    congr 1
    · congr 1
      simp only [List.cons.injEq, Prod.mk.injEq, true_and, and_true, List.append_cancel_left_eq]
      omega
    · omega
  | mul a b iha ihb =>
    intro l p m rs hj hm
    simp only [formB, Bool.and_eq_true] at hf
    simp only [rnO, sgO, List.cons_append, List.nil_append, List.append_assoc, List.length_cons, List.length_append, List.length_nil]
    rw [show (109 :: 117 :: 108 :: 40 :: (rnO a ++ 44 :: (rnO b ++ 41 :: m :: rs)) : List Int) = [109, 117, 108] ++ 40 :: (rnO a ++ 44 :: (rnO b ++ 41 :: (m :: rs))) from rfl, cutMul, iha hf.1 _ _ 44 _ j44 m44, ihb hf.2 _ _ 41 _ j41 m41, enc_rp, enc_cm, cut_mark _ _ m rs hj hm]
    simp only [List.append_assoc, List.cons_append, List.nil_append]
    congr 1
    · congr 1
      simp only [List.cons.injEq, Prod.mk.injEq, true_and, and_true, List.append_cancel_left_eq]
      omega
    · omega
  | max a b iha ihb =>
    intro l p m rs hj hm
    simp only [formB, Bool.and_eq_true] at hf
    simp only [rnO, sgO, List.cons_append, List.nil_append, List.append_assoc, List.length_cons, List.length_append, List.length_nil]
    rw [show (109 :: 97 :: 120 :: 40 :: (rnO a ++ 44 :: (rnO b ++ 41 :: m :: rs)) : List Int) = [109, 97, 120] ++ 40 :: (rnO a ++ 44 :: (rnO b ++ 41 :: (m :: rs))) from rfl, cutMax, iha hf.1 _ _ 44 _ j44 m44, ihb hf.2 _ _ 41 _ j41 m41, enc_rp, enc_cm, cut_mark _ _ m rs hj hm]
    simp only [List.append_assoc, List.cons_append, List.nil_append]
    congr 1
    · congr 1
      simp only [List.cons.injEq, Prod.mk.injEq, true_and, and_true, List.append_cancel_left_eq]
      omega
    · omega

end Go.Proofs.YtbppkklfjmpgiaaDoor
namespace Go.Proofs.YtbppkklfjmpgiaaDoor
open Go.RowKit
set_option linter.unusedVariables false

/-- The reader, with these signs left. -/
def RS.put (r : RS) (l : List Rn.Sg) : RS := { r with left := l }
theorem put_put (r : RS) (a b : List Rn.Sg) : (r.put a).put b = r.put b := rfl
theorem put_e (r : RS) (a : List Rn.Sg) : (r.put a).e = r.e := rfl
theorem put_left (r : RS) (a : List Rn.Sg) : (r.put a).left = a := rfl
theorem take_cons {r : RS} {a : Rn.Sg} {l : List Rn.Sg} (h : r.e = 0) (hl : r.left = a :: l) : takeS r = a ∧ takeR r = r.put l := by
  unfold takeS takeR RS.put
  rw [if_pos h, if_pos h, hl]
  exact ⟨rfl, rfl⟩
theorem mark_cons (r : RS) (t : ByteArray) (q : Int) (l : List Rn.Sg) (h : r.e = 0) : markR (r.put ((t, q) :: l)) t = r.put l := by
  obtain ⟨h1, h2⟩ := take_cons (r := r.put ((t, q) :: l)) (a := (t, q)) (l := l) h rfl
  unfold markR
  rw [h1, h2]
  unfold fitR
  rw [if_pos (by simp)]
  rfl
theorem name_cons (r : RS) (s : ByteArray) (q : Int) (l : List Rn.Sg) (h : r.e = 0) (hs : nameGo 0 (runesOf s) = true) : nameR (r.put ((s, q) :: l)) = r.put l ∧ (takeS (r.put ((s, q) :: l))).1 = s := by
  obtain ⟨h1, h2⟩ := take_cons (r := r.put ((s, q) :: l)) (a := (s, q)) (l := l) h rfl
  unfold nameR
  rw [h1, h2]
  unfold fitR
  rw [if_pos hs]
  exact ⟨rfl, rfl⟩
theorem day_cons (r : RS) (n : Int) (q : Int) (l : List Rn.Sg) (h : r.e = 0) (hn : dayB n = true) : dayR (r.put ((numB n, q) :: l)) = r.put l ∧ dayV (r.put ((numB n, q) :: l)) = n := by
  obtain ⟨h1, h2⟩ := take_cons (r := r.put ((numB n, q) :: l)) (a := (numB n, q)) (l := l) h rfl
  have hb : 0 ≤ n ∧ n ≤ 10000 := by simpa [dayB] using hn
  have hnum : Rn.numOf (numB n).data.toList = (n, true) := by
    have : (numB n).data.toList = Lib.itoa n := by simp [numB]
    rw [this, numOf_itoa n ((vB_iff n).2 (by omega))]
  unfold dayR dayOkR dayV
  rw [h1, h2, hnum]
  refine ⟨?_, rfl⟩
  unfold fitR
  rw [if_pos (by simp [hb.1, hb.2])]
  rfl
theorem first_cons (r : RS) (d : Nat) (hd : d ≤ 12) (a : Rn.Sg) (l : List Rn.Sg) (h : r.e = 0) : firstR (r.put (a :: l)) d = r.put l ∧ takeS (r.put (a :: l)) = a := by
  obtain ⟨h1, h2⟩ := take_cons (r := r.put (a :: l)) (a := a) (l := l) h rfl
  unfold firstR
  rw [if_neg (by omega), h2, h1]
  exact ⟨rfl, rfl⟩
theorem num_word (n : Int) (w : ByteArray) (b : UInt8) (t : List UInt8) (hw : w.data.toList = b :: t) (hb : ¬ (b.toNat = 45 ∨ (48 ≤ b.toNat ∧ b.toNat ≤ 57))) : numB n ≠ w := by
  intro e
  have : (numB n).data.toList = Lib.itoa n := by simp [numB]
  rw [e, hw] at this
  have hd : ∀ b ∈ Lib.itoa n, b.toNat = 45 ∨ (48 ≤ b.toNat ∧ b.toNat ≤ 57) := by
    unfold Lib.itoa
    split
    · intro b hb
      rcases List.mem_cons.1 hb with rfl | hb
      · exact .inl rfl
      · exact .inr (dec_digs _ b hb)
    · intro b hb; exact .inr (dec_digs _ b hb)
  exact hb (hd b (by rw [← this]; exact List.mem_cons_self))
theorem depth1 (x : O) (h : formB x = true) : 1 ≤ x.depth := by
  cases x <;> simp [O.depth] <;> cases h
/-- A number's signs are read as that number. -/
theorem obs_back (x : O) (hf : formB x = true) : ∀ (f d : Nat) (r : RS) (p : Nat) (rest : List Rn.Sg), d + f = 15 → d + x.depth ≤ 13 → r.e = 0 → obsR f (r.put (sgO p x ++ rest)) d = (x, r.put rest) := by
  have n1 : wAdd ≠ wFix := by decide
  have n2 : wNeg ≠ wFix := by decide
  have n3 : wNeg ≠ wAdd := by decide
  have n4 : wMul ≠ wFix := by decide
  have n5 : wMul ≠ wAdd := by decide
  have n6 : wMul ≠ wNeg := by decide
  have n7 : wMax ≠ wFix := by decide
  have n8 : wMax ≠ wAdd := by decide
  have n9 : wMax ≠ wNeg := by decide
  have n0 : wMax ≠ wMul := by decide
  have hd1 := depth1 x hf
  induction x with
  | odd v => cases hf
  | const n =>
    intro f d r p rest hdf hdd he
    obtain ⟨f, rfl⟩ : ∃ g, f = g + 1 := ⟨f - 1, by omega⟩
    simp only [sgO, List.cons_append, List.nil_append]
    obtain ⟨h1, h2⟩ := first_cons r d (by omega) (numB n, ((p + 1 : Nat) : Int)) rest he
    have hnum : Rn.numOf (numB n).data.toList = (n, true) := by
      have : (numB n).data.toList = Lib.itoa n := by simp [numB]
      rw [this, numOf_itoa n hf]
    rw [obsR, h1, h2]
    simp only
    rw [if_neg (num_word n wFix 102 _ rfl (by decide)), if_neg (num_word n wAdd 97 _ rfl (by decide)), if_neg (num_word n wNeg 110 _ rfl (by decide)), if_neg (num_word n wMul 109 _ rfl (by decide)), if_neg (num_word n wMax 109 _ rfl (by decide)), hnum]
    rfl
  | fix s =>
    intro f d r p rest hdf hdd he
    obtain ⟨f, rfl⟩ : ∃ g, f = g + 1 := ⟨f - 1, by omega⟩
    simp only [sgO, List.cons_append, List.nil_append]
    obtain ⟨h1, h2⟩ := first_cons r d (by omega) (wFix, ((p + 1 : Nat) : Int)) ((lpB, ((p + 4 : Nat) : Int)) :: (s, ((p + 5 : Nat) : Int)) :: (rpB, ((p + 5 + (runesOf s).length : Nat) : Int)) :: rest) he
    rw [obsR, h1, h2]
    simp only
    obtain ⟨h3, h4⟩ := name_cons r s ((p + 5 : Nat) : Int) ((rpB, ((p + 5 + (runesOf s).length : Nat) : Int)) :: rest) he hf
    rw [if_pos trivial, mark_cons r lpB _ _ he, h3, h4, mark_cons r rpB _ _ he]
  | neg x ih =>
    intro f d r p rest hdf hdd he
    obtain ⟨f, rfl⟩ : ∃ g, f = g + 1 := ⟨f - 1, by omega⟩
    simp only [O.depth] at hdd
    simp only [sgO, List.cons_append, List.nil_append, List.append_assoc]
    obtain ⟨h1, h2⟩ := first_cons r d (by omega) (wNeg, ((p + 1 : Nat) : Int)) ((lpB, ((p + 4 : Nat) : Int)) :: (sgO (p + 4) x ++ (rpB, ((p + 4 + (rnO x).length + 1 : Nat) : Int)) :: rest)) he
    rw [obsR, h1, h2]
    simp only
    rw [if_neg n2, if_neg n3, if_pos trivial, mark_cons r lpB _ _ he, ih hf (depth1 x hf) f (d + 1) r (p + 4) _ (by omega) (by omega) he, mark_cons r rpB _ _ he]
  | add a b iha ihb =>
    intro f d r p rest hdf hdd he
    obtain ⟨f, rfl⟩ : ∃ g, f = g + 1 := ⟨f - 1, by omega⟩
    simp only [formB, Bool.and_eq_true] at hf
    simp only [O.depth] at hdd
    simp only [sgO, List.cons_append, List.nil_append, List.append_assoc]
    obtain ⟨h1, h2⟩ := first_cons r d (by omega) (wAdd, ((p + 1 : Nat) : Int)) ((lpB, ((p + 4 : Nat) : Int)) :: (sgO (p + 4) a ++ (cmB, ((p + 4 + (rnO a).length + 1 : Nat) : Int)) :: (sgO (p + 4 + (rnO a).length + 1) b ++ (rpB, ((p + 4 + (rnO a).length + 1 + (rnO b).length + 1 : Nat) : Int)) :: rest))) he
    rw [obsR, h1, h2]
    simp only
    rw [if_neg n1, if_pos trivial]
    unfold pairF
    simp only
    rw [mark_cons r lpB _ _ he, iha hf.1 (depth1 a hf.1) f (d + 1) r (p + 4) _ (by omega) (by omega) he]
    simp only
    rw [mark_cons r cmB _ _ he, ihb hf.2 (depth1 b hf.2) f (d + 1) r (p + 4 + (rnO a).length + 1) _ (by omega) (by omega) he]
    simp only
    rw [mark_cons r rpB _ _ he]
  | mul a b iha ihb =>
    intro f d r p rest hdf hdd he
    obtain ⟨f, rfl⟩ : ∃ g, f = g + 1 := ⟨f - 1, by omega⟩
    simp only [formB, Bool.and_eq_true] at hf
    simp only [O.depth] at hdd
    simp only [sgO, List.cons_append, List.nil_append, List.append_assoc]
    obtain ⟨h1, h2⟩ := first_cons r d (by omega) (wMul, ((p + 1 : Nat) : Int)) ((lpB, ((p + 4 : Nat) : Int)) :: (sgO (p + 4) a ++ (cmB, ((p + 4 + (rnO a).length + 1 : Nat) : Int)) :: (sgO (p + 4 + (rnO a).length + 1) b ++ (rpB, ((p + 4 + (rnO a).length + 1 + (rnO b).length + 1 : Nat) : Int)) :: rest))) he
    rw [obsR, h1, h2]
    simp only
    rw [if_neg n4, if_neg n5, if_neg n6, if_pos trivial]
    unfold pairF
    simp only
    rw [mark_cons r lpB _ _ he, iha hf.1 (depth1 a hf.1) f (d + 1) r (p + 4) _ (by omega) (by omega) he]
    simp only
    rw [mark_cons r cmB _ _ he, ihb hf.2 (depth1 b hf.2) f (d + 1) r (p + 4 + (rnO a).length + 1) _ (by omega) (by omega) he]
    simp only
    rw [mark_cons r rpB _ _ he]
  | max a b iha ihb =>
    intro f d r p rest hdf hdd he
    obtain ⟨f, rfl⟩ : ∃ g, f = g + 1 := ⟨f - 1, by omega⟩
    simp only [formB, Bool.and_eq_true] at hf
    simp only [O.depth] at hdd
    simp only [sgO, List.cons_append, List.nil_append, List.append_assoc]
    obtain ⟨h1, h2⟩ := first_cons r d (by omega) (wMax, ((p + 1 : Nat) : Int)) ((lpB, ((p + 4 : Nat) : Int)) :: (sgO (p + 4) a ++ (cmB, ((p + 4 + (rnO a).length + 1 : Nat) : Int)) :: (sgO (p + 4 + (rnO a).length + 1) b ++ (rpB, ((p + 4 + (rnO a).length + 1 + (rnO b).length + 1 : Nat) : Int)) :: rest))) he
    rw [obsR, h1, h2]
    simp only
    rw [if_neg n7, if_neg n8, if_neg n9, if_neg n0, if_pos trivial]
    unfold pairF
    simp only
    rw [mark_cons r lpB _ _ he, iha hf.1 (depth1 a hf.1) f (d + 1) r (p + 4) _ (by omega) (by omega) he]
    simp only
    rw [mark_cons r cmB _ _ he, ihb hf.2 (depth1 b hf.2) f (d + 1) r (p + 4 + (rnO a).length + 1) _ (by omega) (by omega) he]
    simp only
    rw [mark_cons r rpB _ _ he]

end Go.Proofs.YtbppkklfjmpgiaaDoor
namespace Go.Proofs.YtbppkklfjmpgiaaDoor
open Go.RowKit
set_option linter.unusedVariables false

def rnC : C → List Int
  | .zero => [122, 101, 114, 111]
  | .one s => [111, 110, 101, 40] ++ ((runesOf s) ++ [41])
  | .give c => [103, 105, 118, 101, 40] ++ ((rnC c) ++ [41])
  | .and a b => [97, 110, 100, 40] ++ ((rnC a) ++ 44 :: ((rnC b) ++ [41]))
  | .or s a b => [111, 114, 40] ++ ((runesOf s) ++ 44 :: ((rnC a) ++ 44 :: ((rnC b) ++ [41])))
  | .scale o c => [115, 99, 97, 108, 101, 40] ++ ((rnO o) ++ 44 :: ((rnC c) ++ [41]))
  | .when n c => [119, 104, 101, 110, 40] ++ ((rnN n) ++ 44 :: ((rnC c) ++ [41]))
  | .iff o a b => [105, 102, 40] ++ ((rnO o) ++ 44 :: ((rnC a) ++ 44 :: ((rnC b) ++ [41])))
  | .odd _ => []
def sgC (p : Nat) : C → List Rn.Sg
  | .zero => [(wZero, ((p + 1 : Nat) : Int))]
  | .one s => (wOne, ((p + 1 : Nat) : Int)) :: (lpB, ((p + 4 : Nat) : Int)) :: ([(s, ((p + 4 + 1 : Nat) : Int))] ++ (rpB, ((p + 4 + (runesOf s).length + 1 : Nat) : Int)) :: [])
  | .give c => (wGive, ((p + 1 : Nat) : Int)) :: (lpB, ((p + 5 : Nat) : Int)) :: (sgC (p + 5) c ++ (rpB, ((p + 5 + (rnC c).length + 1 : Nat) : Int)) :: [])
  | .and a b => (wAnd, ((p + 1 : Nat) : Int)) :: (lpB, ((p + 4 : Nat) : Int)) :: (sgC (p + 4) a ++ (cmB, ((p + 4 + (rnC a).length + 1 : Nat) : Int)) :: (sgC (p + 4 + (rnC a).length + 1) b ++ (rpB, ((p + 4 + (rnC a).length + 1 + (rnC b).length + 1 : Nat) : Int)) :: []))
  | .or s a b => (wOr, ((p + 1 : Nat) : Int)) :: (lpB, ((p + 3 : Nat) : Int)) :: ([(s, ((p + 3 + 1 : Nat) : Int))] ++ (cmB, ((p + 3 + (runesOf s).length + 1 : Nat) : Int)) :: (sgC (p + 3 + (runesOf s).length + 1) a ++ (cmB, ((p + 3 + (runesOf s).length + 1 + (rnC a).length + 1 : Nat) : Int)) :: (sgC (p + 3 + (runesOf s).length + 1 + (rnC a).length + 1) b ++ (rpB, ((p + 3 + (runesOf s).length + 1 + (rnC a).length + 1 + (rnC b).length + 1 : Nat) : Int)) :: [])))
  | .scale o c => (wScale, ((p + 1 : Nat) : Int)) :: (lpB, ((p + 6 : Nat) : Int)) :: (sgO (p + 6) o ++ (cmB, ((p + 6 + (rnO o).length + 1 : Nat) : Int)) :: (sgC (p + 6 + (rnO o).length + 1) c ++ (rpB, ((p + 6 + (rnO o).length + 1 + (rnC c).length + 1 : Nat) : Int)) :: []))
  | .when n c => (wWhen, ((p + 1 : Nat) : Int)) :: (lpB, ((p + 5 : Nat) : Int)) :: ([(numB n, ((p + 5 + 1 : Nat) : Int))] ++ (cmB, ((p + 5 + (rnN n).length + 1 : Nat) : Int)) :: (sgC (p + 5 + (rnN n).length + 1) c ++ (rpB, ((p + 5 + (rnN n).length + 1 + (rnC c).length + 1 : Nat) : Int)) :: []))
  | .iff o a b => (wIf, ((p + 1 : Nat) : Int)) :: (lpB, ((p + 3 : Nat) : Int)) :: (sgO (p + 3) o ++ (cmB, ((p + 3 + (rnO o).length + 1 : Nat) : Int)) :: (sgC (p + 3 + (rnO o).length + 1) a ++ (cmB, ((p + 3 + (rnO o).length + 1 + (rnC a).length + 1 : Nat) : Int)) :: (sgC (p + 3 + (rnO o).length + 1 + (rnC a).length + 1) b ++ (rpB, ((p + 3 + (rnO o).length + 1 + (rnC a).length + 1 + (rnC b).length + 1 : Nat) : Int)) :: [])))
  | .odd _ => []
theorem cutN (s : ByteArray) (hs : nameGo 0 (runesOf s) = true) (l : List Rn.Sg) (p : Nat) (m : Int) (rs : List Int) (hj : Rn.joinB m = false) (hm : Rn.markB m = true) :
    Rn.cutGo l [] p (runesOf s ++ m :: rs) = Rn.cutGo (l ++ [(s, ((p + 1 : Nat) : Int))] ++ [(Utf8.encode m, ((p + (runesOf s).length + 1 : Nat) : Int))]) [] (p + (runesOf s).length + 1) rs := by
  obtain ⟨h1, h2, h3⟩ := name_join s hs
  rw [cut_word _ l [] p m rs h1 hj hm (by simpa using h2), List.nil_append, h3]
  rw [show (((p + (runesOf s).length + 1 : Nat) : Int) - ((runesOf s).length : Int)) = ((p + 1 : Nat) : Int) by omega]
theorem cutD (n : Int) (l : List Rn.Sg) (p : Nat) (m : Int) (rs : List Int) (hj : Rn.joinB m = false) (hm : Rn.markB m = true) :
    Rn.cutGo l [] p (rnN n ++ m :: rs) = Rn.cutGo (l ++ [(numB n, ((p + 1 : Nat) : Int))] ++ [(Utf8.encode m, ((p + (rnN n).length + 1 : Nat) : Int))]) [] (p + (rnN n).length + 1) rs := by
  obtain ⟨h1, h2, h3⟩ := itoa_join n
  rw [cut_word _ l [] p m rs h1 hj hm (by simpa using h2), List.nil_append, h3]
  rw [show (((p + (rnN n).length + 1 : Nat) : Int) - ((rnN n).length : Int)) = ((p + 1 : Nat) : Int) by omega]
theorem j41 : Rn.joinB 41 = false := by decide
theorem m41 : Rn.markB 41 = true := by decide
theorem j44 : Rn.joinB 44 = false := by decide
theorem m44 : Rn.markB 44 = true := by decide
theorem zero_word : (∀ x ∈ ([122, 101, 114, 111] : List Int), Rn.joinB x = true) ∧ runesBytes [122, 101, 114, 111] = wZero := ⟨by decide, by decide +kernel⟩
/-- A contract's runes, and a mark: its signs, and that mark. -/
theorem cutC (x : C) (hf : formC x = true) : ∀ (l : List Rn.Sg) (p : Nat) (m : Int) (rs : List Int), Rn.joinB m = false → Rn.markB m = true →
    Rn.cutGo l [] p (rnC x ++ m :: rs) = Rn.cutGo (l ++ sgC p x ++ [(Utf8.encode m, ((p + (rnC x).length + 1 : Nat) : Int))]) [] (p + (rnC x).length + 1) rs := by
  induction x with
  | odd v => cases hf
  | zero =>
    intro l p m rs hj hm
    simp only [rnC, sgC]
    rw [cut_word _ l [] p m rs zero_word.1 hj hm (by simp), List.nil_append, zero_word.2]
    simp only [List.length_cons, List.length_nil]
    rw [show (((p + (0 + 1 + 1 + 1 + 1) + 1 : Nat) : Int) - ((0 + 1 + 1 + 1 + 1 : Nat) : Int)) = ((p + 1 : Nat) : Int) by omega]
  | one s =>
    intro l p m rs hj hm
    simp only [rnC, sgC, List.cons_append, List.nil_append, List.append_assoc, List.length_cons, List.length_append, List.length_nil]
    rw [show (111 :: 110 :: 101 :: 40 :: ((runesOf s) ++ 41 :: m :: rs) : List Int) = [111, 110, 101] ++ 40 :: ((runesOf s) ++ 41 :: (m :: rs)) from rfl, cutOne, cutN s hf _ _ 41 _ j41 m41, enc_rp, cut_mark _ _ m rs hj hm]
    simp only [List.append_assoc, List.cons_append, List.nil_append]
    congr 1
    · congr 1
      simp only [List.cons.injEq, Prod.mk.injEq, true_and, and_true]
      omega
    · omega
  | give c ih1 =>
    intro l p m rs hj hm
    simp only [rnC, sgC, List.cons_append, List.nil_append, List.append_assoc, List.length_cons, List.length_append, List.length_nil]
    rw [show (103 :: 105 :: 118 :: 101 :: 40 :: ((rnC c) ++ 41 :: m :: rs) : List Int) = [103, 105, 118, 101] ++ 40 :: ((rnC c) ++ 41 :: (m :: rs)) from rfl, cutGive, ih1 hf _ _ 41 _ j41 m41, enc_rp, cut_mark _ _ m rs hj hm]
    simp only [List.append_assoc, List.cons_append, List.nil_append]
    congr 1
    · congr 1
      simp only [List.cons.injEq, Prod.mk.injEq, true_and, and_true, List.append_cancel_left_eq]
      omega
    · omega
  | and a b ih1 ih2 =>
    intro l p m rs hj hm
    simp only [formC, Bool.and_eq_true] at hf
    simp only [rnC, sgC, List.cons_append, List.nil_append, List.append_assoc, List.length_cons, List.length_append, List.length_nil]
    rw [show (97 :: 110 :: 100 :: 40 :: ((rnC a) ++ 44 :: ((rnC b) ++ 41 :: m :: rs)) : List Int) = [97, 110, 100] ++ 40 :: ((rnC a) ++ 44 :: ((rnC b) ++ 41 :: (m :: rs))) from rfl, cutAnd, ih1 hf.1 _ _ 44 _ j44 m44, ih2 hf.2 _ _ 41 _ j41 m41, enc_rp, enc_cm, cut_mark _ _ m rs hj hm]
    simp only [List.append_assoc, List.cons_append, List.nil_append]
    congr 1
    · congr 1
      simp only [List.cons.injEq, Prod.mk.injEq, true_and, and_true, List.append_cancel_left_eq]
      omega
    · omega
  | or s a b ih1 ih2 =>
    intro l p m rs hj hm
    simp only [formC, Bool.and_eq_true] at hf
    simp only [rnC, sgC, List.cons_append, List.nil_append, List.append_assoc, List.length_cons, List.length_append, List.length_nil]
    rw [show (111 :: 114 :: 40 :: ((runesOf s) ++ 44 :: ((rnC a) ++ 44 :: ((rnC b) ++ 41 :: m :: rs))) : List Int) = [111, 114] ++ 40 :: ((runesOf s) ++ 44 :: ((rnC a) ++ 44 :: ((rnC b) ++ 41 :: (m :: rs)))) from rfl, cutOr, cutN s hf.1.1 _ _ 44 _ j44 m44, ih1 hf.1.2 _ _ 44 _ j44 m44, ih2 hf.2 _ _ 41 _ j41 m41, enc_rp, enc_cm, cut_mark _ _ m rs hj hm]
    simp only [List.append_assoc, List.cons_append, List.nil_append]
    congr 1
    · congr 1
      simp only [List.cons.injEq, Prod.mk.injEq, true_and, and_true, List.append_cancel_left_eq]
      omega
    · omega
  | scale o c ih1 =>
    intro l p m rs hj hm
    simp only [formC, Bool.and_eq_true] at hf
    simp only [rnC, sgC, List.cons_append, List.nil_append, List.append_assoc, List.length_cons, List.length_append, List.length_nil]
    rw [show (115 :: 99 :: 97 :: 108 :: 101 :: 40 :: ((rnO o) ++ 44 :: ((rnC c) ++ 41 :: m :: rs)) : List Int) = [115, 99, 97, 108, 101] ++ 40 :: ((rnO o) ++ 44 :: ((rnC c) ++ 41 :: (m :: rs))) from rfl, cutScale, cutO o hf.1 _ _ 44 _ j44 m44, ih1 hf.2 _ _ 41 _ j41 m41, enc_rp, enc_cm, cut_mark _ _ m rs hj hm]
    simp only [List.append_assoc, List.cons_append, List.nil_append]
    congr 1
    · congr 1
      simp only [List.cons.injEq, Prod.mk.injEq, true_and, and_true, List.append_cancel_left_eq]
      omega
    · omega
  | when n c ih1 =>
    intro l p m rs hj hm
    simp only [formC, Bool.and_eq_true] at hf
    simp only [rnC, sgC, List.cons_append, List.nil_append, List.append_assoc, List.length_cons, List.length_append, List.length_nil]
    rw [show (119 :: 104 :: 101 :: 110 :: 40 :: ((rnN n) ++ 44 :: ((rnC c) ++ 41 :: m :: rs)) : List Int) = [119, 104, 101, 110] ++ 40 :: ((rnN n) ++ 44 :: ((rnC c) ++ 41 :: (m :: rs))) from rfl, cutWhen, cutD n _ _ 44 _ j44 m44, ih1 hf.2 _ _ 41 _ j41 m41, enc_rp, enc_cm, cut_mark _ _ m rs hj hm]
    simp only [List.append_assoc, List.cons_append, List.nil_append]
    congr 1
    · congr 1
      simp only [List.cons.injEq, Prod.mk.injEq, true_and, and_true, List.append_cancel_left_eq]
      omega
    · omega
  | iff o a b ih1 ih2 =>
    intro l p m rs hj hm
    simp only [formC, Bool.and_eq_true] at hf
    simp only [rnC, sgC, List.cons_append, List.nil_append, List.append_assoc, List.length_cons, List.length_append, List.length_nil]
    rw [show (105 :: 102 :: 40 :: ((rnO o) ++ 44 :: ((rnC a) ++ 44 :: ((rnC b) ++ 41 :: m :: rs))) : List Int) = [105, 102] ++ 40 :: ((rnO o) ++ 44 :: ((rnC a) ++ 44 :: ((rnC b) ++ 41 :: (m :: rs)))) from rfl, cutIf, cutO o hf.1.1 _ _ 44 _ j44 m44, ih1 hf.1.2 _ _ 44 _ j44 m44, ih2 hf.2 _ _ 41 _ j41 m41, enc_rp, enc_cm, cut_mark _ _ m rs hj hm]
    simp only [List.append_assoc, List.cons_append, List.nil_append]
    congr 1
    · congr 1
      simp only [List.cons.injEq, Prod.mk.injEq, true_and, and_true, List.append_cancel_left_eq]
      omega
    · omega
theorem cdepth1 (x : C) (h : formC x = true) : 1 ≤ x.depth := by
  cases x <;> simp [C.depth] <;> cases h
/-- A contract's signs are read as that contract. -/
theorem term_back (x : C) (hf : formC x = true) : ∀ (f d : Nat) (r : RS) (p : Nat) (rest : List Rn.Sg), d + f = 15 → d + x.depth ≤ 13 → r.e = 0 → termR f (r.put (sgC p x ++ rest)) d = (x, r.put rest) := by
  have hd1 := cdepth1 x hf
  induction x with
  | odd v => cases hf
  | zero =>
    intro f d r p rest hdf hdd he
    obtain ⟨f, rfl⟩ : ∃ g, f = g + 1 := ⟨f - 1, by omega⟩
    simp only [sgC, List.cons_append, List.nil_append]
    obtain ⟨h1, h2⟩ := first_cons r d (by omega) (wZero, ((p + 1 : Nat) : Int)) rest he
    rw [termR, h1, h2]
    simp only
    rw [if_pos trivial]
  | one s =>
    intro f d r p rest hdf hdd he
    obtain ⟨f, rfl⟩ : ∃ g, f = g + 1 := ⟨f - 1, by omega⟩
    simp only [C.depth] at hdd
    simp only [sgC, List.cons_append, List.nil_append]
    obtain ⟨h1, h2⟩ := first_cons r d (by omega) (wOne, ((p + 1 : Nat) : Int)) ((lpB, ((p + 4 : Nat) : Int)) :: ((s, ((p + 4 + 1 : Nat) : Int)) :: (rpB, ((p + 4 + (runesOf s).length + 1 : Nat) : Int)) :: rest)) he
    rw [termR, h1, h2]
    simp only
    rw [if_neg (by decide), if_pos trivial, mark_cons r lpB _ _ he]
    rw [(name_cons r s _ _ he hf).1, (name_cons r s _ _ he hf).2, mark_cons r rpB _ _ he]
  | give c ih1 =>
    intro f d r p rest hdf hdd he
    obtain ⟨f, rfl⟩ : ∃ g, f = g + 1 := ⟨f - 1, by omega⟩
    simp only [C.depth] at hdd
    simp only [sgC, List.cons_append, List.nil_append, List.append_assoc]
    obtain ⟨h1, h2⟩ := first_cons r d (by omega) (wGive, ((p + 1 : Nat) : Int)) ((lpB, ((p + 5 : Nat) : Int)) :: (sgC (p + 5) c ++ (rpB, ((p + 5 + (rnC c).length + 1 : Nat) : Int)) :: rest)) he
    rw [termR, h1, h2]
    simp only
    rw [if_neg (by decide), if_neg (by decide), if_pos trivial, mark_cons r lpB _ _ he]
    unfold lastF
    simp only
    rw [ih1 hf (cdepth1 c hf) f (d + 1) r (p + 5) _ (by omega) (by omega) he]
    simp only
    rw [mark_cons r rpB _ _ he]
  | and a b ih1 ih2 =>
    intro f d r p rest hdf hdd he
    obtain ⟨f, rfl⟩ : ∃ g, f = g + 1 := ⟨f - 1, by omega⟩
    simp only [formC, Bool.and_eq_true] at hf
    simp only [C.depth] at hdd
    simp only [sgC, List.cons_append, List.nil_append, List.append_assoc]
    obtain ⟨h1, h2⟩ := first_cons r d (by omega) (wAnd, ((p + 1 : Nat) : Int)) ((lpB, ((p + 4 : Nat) : Int)) :: (sgC (p + 4) a ++ (cmB, ((p + 4 + (rnC a).length + 1 : Nat) : Int)) :: (sgC (p + 4 + (rnC a).length + 1) b ++ (rpB, ((p + 4 + (rnC a).length + 1 + (rnC b).length + 1 : Nat) : Int)) :: rest))) he
    rw [termR, h1, h2]
    simp only
    rw [if_neg (by decide), if_neg (by decide), if_neg (by decide), if_pos trivial, mark_cons r lpB _ _ he]
    unfold lastsF lastF
    simp only
    rw [ih1 hf.1 (cdepth1 a hf.1) f (d + 1) r (p + 4) _ (by omega) (by omega) he]
    simp only
    rw [mark_cons r cmB _ _ he]
    rw [ih2 hf.2 (cdepth1 b hf.2) f (d + 1) r (p + 4 + (rnC a).length + 1) _ (by omega) (by omega) he]
    simp only
    rw [mark_cons r rpB _ _ he]
  | or s a b ih1 ih2 =>
    intro f d r p rest hdf hdd he
    obtain ⟨f, rfl⟩ : ∃ g, f = g + 1 := ⟨f - 1, by omega⟩
    simp only [formC, Bool.and_eq_true] at hf
    simp only [C.depth] at hdd
    simp only [sgC, List.cons_append, List.nil_append, List.append_assoc]
    obtain ⟨h1, h2⟩ := first_cons r d (by omega) (wOr, ((p + 1 : Nat) : Int)) ((lpB, ((p + 3 : Nat) : Int)) :: ((s, ((p + 3 + 1 : Nat) : Int)) :: (cmB, ((p + 3 + (runesOf s).length + 1 : Nat) : Int)) :: (sgC (p + 3 + (runesOf s).length + 1) a ++ (cmB, ((p + 3 + (runesOf s).length + 1 + (rnC a).length + 1 : Nat) : Int)) :: (sgC (p + 3 + (runesOf s).length + 1 + (rnC a).length + 1) b ++ (rpB, ((p + 3 + (runesOf s).length + 1 + (rnC a).length + 1 + (rnC b).length + 1 : Nat) : Int)) :: rest)))) he
    rw [termR, h1, h2]
    simp only
    rw [if_neg (by decide), if_neg (by decide), if_neg (by decide), if_neg (by decide), if_pos trivial, mark_cons r lpB _ _ he]
    rw [(name_cons r s _ _ he hf.1.1).1, (name_cons r s _ _ he hf.1.1).2, mark_cons r cmB _ _ he]
    unfold lastsF lastF
    simp only
    rw [ih1 hf.1.2 (cdepth1 a hf.1.2) f (d + 1) r (p + 3 + (runesOf s).length + 1) _ (by omega) (by omega) he]
    simp only
    rw [mark_cons r cmB _ _ he]
    rw [ih2 hf.2 (cdepth1 b hf.2) f (d + 1) r (p + 3 + (runesOf s).length + 1 + (rnC a).length + 1) _ (by omega) (by omega) he]
    simp only
    rw [mark_cons r rpB _ _ he]
  | scale o c ih1 =>
    intro f d r p rest hdf hdd he
    obtain ⟨f, rfl⟩ : ∃ g, f = g + 1 := ⟨f - 1, by omega⟩
    simp only [formC, Bool.and_eq_true] at hf
    simp only [C.depth] at hdd
    simp only [sgC, List.cons_append, List.nil_append, List.append_assoc]
    obtain ⟨h1, h2⟩ := first_cons r d (by omega) (wScale, ((p + 1 : Nat) : Int)) ((lpB, ((p + 6 : Nat) : Int)) :: (sgO (p + 6) o ++ (cmB, ((p + 6 + (rnO o).length + 1 : Nat) : Int)) :: (sgC (p + 6 + (rnO o).length + 1) c ++ (rpB, ((p + 6 + (rnO o).length + 1 + (rnC c).length + 1 : Nat) : Int)) :: rest))) he
    rw [termR, h1, h2]
    simp only
    rw [if_neg (by decide), if_neg (by decide), if_neg (by decide), if_neg (by decide), if_neg (by decide), if_pos trivial, mark_cons r lpB _ _ he]
    rw [obs_back o hf.1 f (d + 1) r (p + 6) _ (by omega) (by omega) he]
    simp only
    rw [mark_cons r cmB _ _ he]
    unfold lastF
    simp only
    rw [ih1 hf.2 (cdepth1 c hf.2) f (d + 1) r (p + 6 + (rnO o).length + 1) _ (by omega) (by omega) he]
    simp only
    rw [mark_cons r rpB _ _ he]
  | when n c ih1 =>
    intro f d r p rest hdf hdd he
    obtain ⟨f, rfl⟩ : ∃ g, f = g + 1 := ⟨f - 1, by omega⟩
    simp only [formC, Bool.and_eq_true] at hf
    simp only [C.depth] at hdd
    simp only [sgC, List.cons_append, List.nil_append, List.append_assoc]
    obtain ⟨h1, h2⟩ := first_cons r d (by omega) (wWhen, ((p + 1 : Nat) : Int)) ((lpB, ((p + 5 : Nat) : Int)) :: ((numB n, ((p + 5 + 1 : Nat) : Int)) :: (cmB, ((p + 5 + (rnN n).length + 1 : Nat) : Int)) :: (sgC (p + 5 + (rnN n).length + 1) c ++ (rpB, ((p + 5 + (rnN n).length + 1 + (rnC c).length + 1 : Nat) : Int)) :: rest))) he
    rw [termR, h1, h2]
    simp only
    rw [if_neg (by decide), if_neg (by decide), if_neg (by decide), if_neg (by decide), if_neg (by decide), if_neg (by decide), if_pos trivial, mark_cons r lpB _ _ he]
    rw [(day_cons r n _ _ he hf.1).1, (day_cons r n _ _ he hf.1).2, mark_cons r cmB _ _ he]
    unfold lastF
    simp only
    rw [ih1 hf.2 (cdepth1 c hf.2) f (d + 1) r (p + 5 + (rnN n).length + 1) _ (by omega) (by omega) he]
    simp only
    rw [mark_cons r rpB _ _ he]
  | iff o a b ih1 ih2 =>
    intro f d r p rest hdf hdd he
    obtain ⟨f, rfl⟩ : ∃ g, f = g + 1 := ⟨f - 1, by omega⟩
    simp only [formC, Bool.and_eq_true] at hf
    simp only [C.depth] at hdd
    simp only [sgC, List.cons_append, List.nil_append, List.append_assoc]
    obtain ⟨h1, h2⟩ := first_cons r d (by omega) (wIf, ((p + 1 : Nat) : Int)) ((lpB, ((p + 3 : Nat) : Int)) :: (sgO (p + 3) o ++ (cmB, ((p + 3 + (rnO o).length + 1 : Nat) : Int)) :: (sgC (p + 3 + (rnO o).length + 1) a ++ (cmB, ((p + 3 + (rnO o).length + 1 + (rnC a).length + 1 : Nat) : Int)) :: (sgC (p + 3 + (rnO o).length + 1 + (rnC a).length + 1) b ++ (rpB, ((p + 3 + (rnO o).length + 1 + (rnC a).length + 1 + (rnC b).length + 1 : Nat) : Int)) :: rest)))) he
    rw [termR, h1, h2]
    simp only
    rw [if_neg (by decide), if_neg (by decide), if_neg (by decide), if_neg (by decide), if_neg (by decide), if_neg (by decide), if_neg (by decide), if_pos trivial, mark_cons r lpB _ _ he]
    rw [obs_back o hf.1.1 f (d + 1) r (p + 3) _ (by omega) (by omega) he]
    simp only
    rw [mark_cons r cmB _ _ he]
    unfold lastsF lastF
    simp only
    rw [ih1 hf.1.2 (cdepth1 a hf.1.2) f (d + 1) r (p + 3 + (rnO o).length + 1) _ (by omega) (by omega) he]
    simp only
    rw [mark_cons r cmB _ _ he]
    rw [ih2 hf.2 (cdepth1 b hf.2) f (d + 1) r (p + 3 + (rnO o).length + 1 + (rnC a).length + 1) _ (by omega) (by omega) he]
    simp only
    rw [mark_cons r rpB _ _ he]

end Go.Proofs.YtbppkklfjmpgiaaDoor
namespace Go.Proofs.YtbppkklfjmpgiaaDoor
open Go.RowKit
set_option linter.unusedVariables false

theorem cut_behind (m : Int) (hj : Rn.joinB m = false) (hm : Rn.markB m = true) (ws : List Int) : ∀ (l : List Rn.Sg) (run : List Int) (p : Nat), Rn.cutGo l run p (ws ++ [m]) = Rn.cutGo l run p ws ++ [(Utf8.encode m, ((p + ws.length + 1 : Nat) : Int))] := by
  induction ws with
  | nil =>
    intro l run p
    rw [List.nil_append, Rn.cutGo_mark l run p m [] hj hm]
    rfl
  | cons x ws ih =>
    intro l run p
    have e : p + 1 + ws.length + 1 = p + (x :: ws).length + 1 := by simp only [List.length_cons]; omega
    rw [List.cons_append]
    cases h1 : Rn.joinB x with
    | true => rw [Rn.cutGo_join l run p x _ h1, Rn.cutGo_join l run p x _ h1, ih, e]
    | false =>
      cases h2 : Rn.markB x with
      | true => rw [Rn.cutGo_mark l run p x _ h1 h2, Rn.cutGo_mark l run p x _ h1 h2, ih, e]
      | false => rw [Rn.cutGo_skip l run p x _ h1 h2, Rn.cutGo_skip l run p x _ h1 h2, ih, e]
theorem cutC_all (x : C) (hf : formC x = true) : Rn.cutGo [] [] 0 (rnC x) = sgC 0 x := by
  have h1 := cut_behind 41 j41 m41 (rnC x) [] [] 0
  have h2 := cutC x hf [] 0 41 [] j41 m41
  rw [h2] at h1
  have h3 : Rn.cutGo ([] ++ sgC 0 x ++ [(Utf8.encode 41, ((0 + (rnC x).length + 1 : Nat) : Int))]) [] (0 + (rnC x).length + 1) [] = sgC 0 x ++ [(Utf8.encode 41, ((0 + (rnC x).length + 1 : Nat) : Int))] := rfl
  rw [h3] at h1
  exact (List.append_cancel_right h1).symm
theorem cutO_all (x : O) (hf : formB x = true) : Rn.cutGo [] [] 0 (rnO x) = sgO 0 x := by
  have h1 := cut_behind 41 j41 m41 (rnO x) [] [] 0
  have h2 := cutO x hf [] 0 41 [] j41 m41
  rw [h2] at h1
  have h3 : Rn.cutGo ([] ++ sgO 0 x ++ [(Utf8.encode 41, ((0 + (rnO x).length + 1 : Nat) : Int))]) [] (0 + (rnO x).length + 1) [] = sgO 0 x ++ [(Utf8.encode 41, ((0 + (rnO x).length + 1 : Nat) : Int))] := rfl
  rw [h3] at h1
  exact (List.append_cancel_right h1).symm
theorem join_ok (r : Int) (h : Rn.joinB r = true) : Rn.okR r = true := by unfold Rn.okR; rw [h]; simp
theorem all_app {a b : List Int} (ha : a.all Rn.okR = true) (hb : b.all Rn.okR = true) : (a ++ b).all Rn.okR = true := by rw [List.all_append, ha, hb]; rfl
theorem all_cm {b : List Int} (hb : b.all Rn.okR = true) : (44 :: b).all Rn.okR = true := by rw [List.all_cons, hb]; decide
theorem all_name (s : ByteArray) (h : nameGo 0 (runesOf s) = true) : (runesOf s).all Rn.okR = true := List.all_eq_true.2 fun r hr => join_ok r ((name_join s h).1 r hr)
theorem all_num (n : Int) : (rnN n).all Rn.okR = true := List.all_eq_true.2 fun r hr => join_ok r ((itoa_join n).1 r hr)
theorem rnO_all (x : O) (hf : formB x = true) : (rnO x).all Rn.okR = true := by
  induction x with
  | odd v => cases hf
  | const n => exact all_num n
  | fix s => exact all_app (by decide) (all_app (all_name s hf) (by decide))
  | neg o ih => exact all_app (by decide) (all_app (ih hf) (by decide))
  | add a b iha ihb => simp only [formB, Bool.and_eq_true] at hf; exact all_app (by decide) (all_app (iha hf.1) (all_cm (all_app (ihb hf.2) (by decide))))
  | mul a b iha ihb => simp only [formB, Bool.and_eq_true] at hf; exact all_app (by decide) (all_app (iha hf.1) (all_cm (all_app (ihb hf.2) (by decide))))
  | max a b iha ihb => simp only [formB, Bool.and_eq_true] at hf; exact all_app (by decide) (all_app (iha hf.1) (all_cm (all_app (ihb hf.2) (by decide))))
theorem rnC_all (x : C) (hf : formC x = true) : (rnC x).all Rn.okR = true := by
  induction x with
  | odd v => cases hf
  | zero => decide
  | one s => exact all_app (by decide) (all_app (all_name s hf) (by decide))
  | give c ih => exact all_app (by decide) (all_app (ih hf) (by decide))
  | and a b iha ihb => simp only [formC, Bool.and_eq_true] at hf; exact all_app (by decide) (all_app (iha hf.1) (all_cm (all_app (ihb hf.2) (by decide))))
  | or s a b iha ihb => simp only [formC, Bool.and_eq_true] at hf; exact all_app (by decide) (all_app (all_name s hf.1.1) (all_cm (all_app (iha hf.1.2) (all_cm (all_app (ihb hf.2) (by decide))))))
  | scale o c ih => simp only [formC, Bool.and_eq_true] at hf; exact all_app (by decide) (all_app (rnO_all o hf.1) (all_cm (all_app (ih hf.2) (by decide))))
  | when n c ih => simp only [formC, Bool.and_eq_true] at hf; exact all_app (by decide) (all_app (all_num n) (all_cm (all_app (ih hf.2) (by decide))))
  | iff o a b iha ihb => simp only [formC, Bool.and_eq_true] at hf; exact all_app (by decide) (all_app (rnO_all o hf.1.1) (all_cm (all_app (iha hf.1.2) (all_cm (all_app (ihb hf.2) (by decide))))))
theorem bad_none (rs : List Int) (h : ∀ r ∈ rs, Rn.okR r = true) : ∀ p, Rn.badGo p rs = 0 := by
  induction rs with
  | nil => intro p; rfl
  | cons a rs ih =>
    intro p
    rw [Rn.badGo_yes p a rs (h a List.mem_cons_self)]
    exact ih (fun r hr => h r (List.mem_cons_of_mem _ hr)) (p + 1)
theorem end_none (r : RS) (h : r.e = 0) : endRd (r.put []) = r.put [] := by
  have h1 : takeS (r.put []) = (⟨#[]⟩, r.past) := by unfold takeS noS; rw [if_pos (by exact h)]; rfl
  have h2 : takeR (r.put []) = r.put [] := by unfold takeR; rw [if_pos (by exact h)]; rfl
  unfold endRd
  rw [h1, h2]
  unfold fitR
  rw [if_pos (by simp)]
/-- A text whose runes are a contract's is read as that contract. -/
theorem rdT_back (c : C) (hc : chkC c = 0) (hf : formC c = true) (hd : c.depth ≤ 12) (s : ByteArray) (hs : runesOf s = rnC c) (hz : s.size ≤ 1000) : rdT s = (c, 0, 0) := by
  have hb : Rn.badOf s = 0 := by unfold Rn.badOf; rw [hs]; exact bad_none _ (List.all_eq_true.1 (rnC_all c hf)) 0
  have hsg : Rn.sgOf s = sgC 0 c := by unfold Rn.sgOf; rw [hs]; exact cutC_all c hf
  have ho : openR s = (⟨[], ((runesOf s).length : Int) + 1, 0, 0⟩ : RS).put (sgC 0 c ++ []) := by
    unfold openR
    rw [if_neg (by omega), if_neg (by simpa using hb), hsg, List.append_nil]
    rfl
  have ht := term_back c hf 14 1 ⟨[], ((runesOf s).length : Int) + 1, 0, 0⟩ 0 [] rfl (by omega) rfl
  unfold rdT
  rw [ho, ht]
  simp only
  rw [end_none _ rfl]
  exact (if_pos rfl).trans (if_pos hc)
theorem rdO_back (c : O) (hc : chk c = 0) (hf : formB c = true) (hd : c.depth ≤ 12) (s : ByteArray) (hs : runesOf s = rnO c) (hz : s.size ≤ 1000) : rdO s = (c, 0, 0) := by
  have hb : Rn.badOf s = 0 := by unfold Rn.badOf; rw [hs]; exact bad_none _ (List.all_eq_true.1 (rnO_all c hf)) 0
  have hsg : Rn.sgOf s = sgO 0 c := by unfold Rn.sgOf; rw [hs]; exact cutO_all c hf
  have ho : openR s = (⟨[], ((runesOf s).length : Int) + 1, 0, 0⟩ : RS).put (sgO 0 c ++ []) := by
    unfold openR
    rw [if_neg (by omega), if_neg (by simpa using hb), hsg, List.append_nil]
    rfl
  have ht := obs_back c hf 14 1 ⟨[], ((runesOf s).length : Int) + 1, 0, 0⟩ 0 [] rfl (by omega) rfl
  unfold rdO
  rw [ho, ht]
  simp only
  rw [end_none _ rfl]
  exact (if_pos rfl).trans (if_pos hc)

end Go.Proofs.YtbppkklfjmpgiaaDoor
namespace Go.Proofs.YtbppkklfjmpgiaaDoor
open Go.RowKit
set_option linter.unusedVariables false

/-- A contract's signs, without the last one. -/
def sgL (p : Nat) : C → List Rn.Sg
  | .one s => (wOne, ((p + 1 : Nat) : Int)) :: (lpB, ((p + 4 : Nat) : Int)) :: [(s, ((p + 4 + 1 : Nat) : Int))]
  | .give c => (wGive, ((p + 1 : Nat) : Int)) :: (lpB, ((p + 5 : Nat) : Int)) :: sgC (p + 5) c
  | .and a b => (wAnd, ((p + 1 : Nat) : Int)) :: (lpB, ((p + 4 : Nat) : Int)) :: (sgC (p + 4) a ++ (cmB, ((p + 4 + (rnC a).length + 1 : Nat) : Int)) :: sgC (p + 4 + (rnC a).length + 1) b)
  | .or s a b => (wOr, ((p + 1 : Nat) : Int)) :: (lpB, ((p + 3 : Nat) : Int)) :: ([(s, ((p + 3 + 1 : Nat) : Int))] ++ (cmB, ((p + 3 + (runesOf s).length + 1 : Nat) : Int)) :: (sgC (p + 3 + (runesOf s).length + 1) a ++ (cmB, ((p + 3 + (runesOf s).length + 1 + (rnC a).length + 1 : Nat) : Int)) :: sgC (p + 3 + (runesOf s).length + 1 + (rnC a).length + 1) b))
  | .scale o c => (wScale, ((p + 1 : Nat) : Int)) :: (lpB, ((p + 6 : Nat) : Int)) :: (sgO (p + 6) o ++ (cmB, ((p + 6 + (rnO o).length + 1 : Nat) : Int)) :: sgC (p + 6 + (rnO o).length + 1) c)
  | .when n c => (wWhen, ((p + 1 : Nat) : Int)) :: (lpB, ((p + 5 : Nat) : Int)) :: ([(numB n, ((p + 5 + 1 : Nat) : Int))] ++ (cmB, ((p + 5 + (rnN n).length + 1 : Nat) : Int)) :: sgC (p + 5 + (rnN n).length + 1) c)
  | .iff o a b => (wIf, ((p + 1 : Nat) : Int)) :: (lpB, ((p + 3 : Nat) : Int)) :: (sgO (p + 3) o ++ (cmB, ((p + 3 + (rnO o).length + 1 : Nat) : Int)) :: (sgC (p + 3 + (rnO o).length + 1) a ++ (cmB, ((p + 3 + (rnO o).length + 1 + (rnC a).length + 1 : Nat) : Int)) :: sgC (p + 3 + (rnO o).length + 1 + (rnC a).length + 1) b))
  | _ => []
def C.isZero : C → Bool
  | .zero => true
  | _ => false
theorem sgL_snoc (p : Nat) (x : C) (hf : formC x = true) (hz : x.isZero = false) : ∃ q, sgC p x = sgL p x ++ [(rpB, q)] := by
  cases x with
  | odd v => cases hf
  | zero => cases hz
  | one s => exact ⟨((p + 4 + (runesOf s).length + 1 : Nat) : Int), by simp [sgC, sgL]⟩
  | give c => exact ⟨((p + 5 + (rnC c).length + 1 : Nat) : Int), by simp [sgC, sgL]⟩
  | and a b => exact ⟨((p + 4 + (rnC a).length + 1 + (rnC b).length + 1 : Nat) : Int), by simp [sgC, sgL]⟩
  | or s a b => exact ⟨((p + 3 + (runesOf s).length + 1 + (rnC a).length + 1 + (rnC b).length + 1 : Nat) : Int), by simp [sgC, sgL]⟩
  | scale o c => exact ⟨((p + 6 + (rnO o).length + 1 + (rnC c).length + 1 : Nat) : Int), by simp [sgC, sgL]⟩
  | when n c => exact ⟨((p + 5 + (rnN n).length + 1 + (rnC c).length + 1 : Nat) : Int), by simp [sgC, sgL]⟩
  | iff o a b => exact ⟨((p + 3 + (rnO o).length + 1 + (rnC a).length + 1 + (rnC b).length + 1 : Nat) : Int), by simp [sgC, sgL]⟩
theorem mark_none (r : RS) (h : r.e = 0) : (markR (r.put []) rpB).e = 2 ∧ (markR (r.put []) rpB).pl = r.past := by
  have h1 : takeS (r.put []) = (⟨#[]⟩, r.past) := by unfold takeS noS; rw [if_pos (by exact h)]; rfl
  have h2 : takeR (r.put []) = r.put [] := by unfold takeR; rw [if_pos (by exact h)]; rfl
  unfold markR
  rw [h1, h2]
  unfold fitR refuseR
  rw [if_neg (by show ¬ decide ((⟨#[]⟩ : ByteArray) = rpB) = true; decide), if_pos (by exact h)]
  exact ⟨rfl, rfl⟩
theorem dead_end (r : RS) (h : r.e ≠ 0) : endRd r = r := by
  have h1 : takeR r = r := by unfold takeR; rw [if_neg h]
  have h2 : takeS r = (⟨#[]⟩, r.past) := takeS_none r h
  unfold endRd
  rw [h1, h2]
  unfold fitR
  rw [if_pos (by simp)]
/-- Without its last sign it lacks that one. -/
theorem term_lack (x : C) (hf : formC x = true) (hz : x.isZero = false) (f d : Nat) (r : RS) (p : Nat) (hdf : d + f = 15) (hdd : d + x.depth ≤ 13) (he : r.e = 0) : (termR f (r.put (sgL p x)) d).2 = markR (r.put []) rpB := by
  have hd1 := cdepth1 x hf
  obtain ⟨f, rfl⟩ : ∃ g, f = g + 1 := ⟨f - 1, by omega⟩
  cases x with
  | odd v => cases hf
  | zero => cases hz
  | one s =>
    have hl : sgL p (.one s) = (wOne, ((p + 1 : Nat) : Int)) :: (lpB, ((p + 4 : Nat) : Int)) :: [(s, ((p + 4 + 1 : Nat) : Int))] := rfl
    rw [hl]
    obtain ⟨h1, h2⟩ := first_cons r d (by omega) (wOne, ((p + 1 : Nat) : Int)) ((lpB, ((p + 4 : Nat) : Int)) :: [(s, ((p + 4 + 1 : Nat) : Int))]) he
    rw [termR, h1, h2]
    simp only
    rw [if_neg (by decide), if_pos trivial, mark_cons r lpB _ _ he]
    rw [(name_cons r s _ _ he hf).1]
  | give c =>
    simp only [C.depth] at hdd
    have hl : sgL p (.give c) = (wGive, ((p + 1 : Nat) : Int)) :: (lpB, ((p + 5 : Nat) : Int)) :: (sgC (p + 5) c ++ []) := by simp [sgL]
    rw [hl]
    obtain ⟨h1, h2⟩ := first_cons r d (by omega) (wGive, ((p + 1 : Nat) : Int)) ((lpB, ((p + 5 : Nat) : Int)) :: (sgC (p + 5) c ++ [])) he
    rw [termR, h1, h2]
    simp only
    rw [if_neg (by decide), if_neg (by decide), if_pos trivial, mark_cons r lpB _ _ he]
    unfold lastF
    simp only
    rw [term_back c hf f (d + 1) r (p + 5) _ (by omega) (by omega) he]
  | and a b =>
    simp only [formC, Bool.and_eq_true] at hf
    simp only [C.depth] at hdd
    have hl : sgL p (.and a b) = (wAnd, ((p + 1 : Nat) : Int)) :: (lpB, ((p + 4 : Nat) : Int)) :: (sgC (p + 4) a ++ (cmB, ((p + 4 + (rnC a).length + 1 : Nat) : Int)) :: (sgC (p + 4 + (rnC a).length + 1) b ++ [])) := by simp [sgL]
    rw [hl]
    obtain ⟨h1, h2⟩ := first_cons r d (by omega) (wAnd, ((p + 1 : Nat) : Int)) ((lpB, ((p + 4 : Nat) : Int)) :: (sgC (p + 4) a ++ (cmB, ((p + 4 + (rnC a).length + 1 : Nat) : Int)) :: (sgC (p + 4 + (rnC a).length + 1) b ++ []))) he
    rw [termR, h1, h2]
    simp only
    rw [if_neg (by decide), if_neg (by decide), if_neg (by decide), if_pos trivial, mark_cons r lpB _ _ he]
    unfold lastsF lastF
    simp only
    rw [term_back a hf.1 f (d + 1) r (p + 4) _ (by omega) (by omega) he]
    simp only
    rw [mark_cons r cmB _ _ he]
    rw [term_back b hf.2 f (d + 1) r (p + 4 + (rnC a).length + 1) _ (by omega) (by omega) he]
  | or s a b =>
    simp only [formC, Bool.and_eq_true] at hf
    simp only [C.depth] at hdd
    have hl : sgL p (.or s a b) = (wOr, ((p + 1 : Nat) : Int)) :: (lpB, ((p + 3 : Nat) : Int)) :: ((s, ((p + 3 + 1 : Nat) : Int)) :: (cmB, ((p + 3 + (runesOf s).length + 1 : Nat) : Int)) :: (sgC (p + 3 + (runesOf s).length + 1) a ++ (cmB, ((p + 3 + (runesOf s).length + 1 + (rnC a).length + 1 : Nat) : Int)) :: (sgC (p + 3 + (runesOf s).length + 1 + (rnC a).length + 1) b ++ []))) := by simp [sgL]
    rw [hl]
    obtain ⟨h1, h2⟩ := first_cons r d (by omega) (wOr, ((p + 1 : Nat) : Int)) ((lpB, ((p + 3 : Nat) : Int)) :: ((s, ((p + 3 + 1 : Nat) : Int)) :: (cmB, ((p + 3 + (runesOf s).length + 1 : Nat) : Int)) :: (sgC (p + 3 + (runesOf s).length + 1) a ++ (cmB, ((p + 3 + (runesOf s).length + 1 + (rnC a).length + 1 : Nat) : Int)) :: (sgC (p + 3 + (runesOf s).length + 1 + (rnC a).length + 1) b ++ [])))) he
    rw [termR, h1, h2]
    simp only
    rw [if_neg (by decide), if_neg (by decide), if_neg (by decide), if_neg (by decide), if_pos trivial, mark_cons r lpB _ _ he]
    rw [(name_cons r s _ _ he hf.1.1).1, mark_cons r cmB _ _ he]
    unfold lastsF lastF
    simp only
    rw [term_back a hf.1.2 f (d + 1) r (p + 3 + (runesOf s).length + 1) _ (by omega) (by omega) he]
    simp only
    rw [mark_cons r cmB _ _ he]
    rw [term_back b hf.2 f (d + 1) r (p + 3 + (runesOf s).length + 1 + (rnC a).length + 1) _ (by omega) (by omega) he]
  | scale o c =>
    simp only [formC, Bool.and_eq_true] at hf
    simp only [C.depth] at hdd
    have hl : sgL p (.scale o c) = (wScale, ((p + 1 : Nat) : Int)) :: (lpB, ((p + 6 : Nat) : Int)) :: (sgO (p + 6) o ++ (cmB, ((p + 6 + (rnO o).length + 1 : Nat) : Int)) :: (sgC (p + 6 + (rnO o).length + 1) c ++ [])) := by simp [sgL]
    rw [hl]
    obtain ⟨h1, h2⟩ := first_cons r d (by omega) (wScale, ((p + 1 : Nat) : Int)) ((lpB, ((p + 6 : Nat) : Int)) :: (sgO (p + 6) o ++ (cmB, ((p + 6 + (rnO o).length + 1 : Nat) : Int)) :: (sgC (p + 6 + (rnO o).length + 1) c ++ []))) he
    rw [termR, h1, h2]
    simp only
    rw [if_neg (by decide), if_neg (by decide), if_neg (by decide), if_neg (by decide), if_neg (by decide), if_pos trivial, mark_cons r lpB _ _ he]
    rw [obs_back o hf.1 f (d + 1) r (p + 6) _ (by omega) (by omega) he]
    simp only
    rw [mark_cons r cmB _ _ he]
    unfold lastF
    simp only
    rw [term_back c hf.2 f (d + 1) r (p + 6 + (rnO o).length + 1) _ (by omega) (by omega) he]
  | when n c =>
    simp only [formC, Bool.and_eq_true] at hf
    simp only [C.depth] at hdd
    have hl : sgL p (.when n c) = (wWhen, ((p + 1 : Nat) : Int)) :: (lpB, ((p + 5 : Nat) : Int)) :: ((numB n, ((p + 5 + 1 : Nat) : Int)) :: (cmB, ((p + 5 + (rnN n).length + 1 : Nat) : Int)) :: (sgC (p + 5 + (rnN n).length + 1) c ++ [])) := by simp [sgL]
    rw [hl]
    obtain ⟨h1, h2⟩ := first_cons r d (by omega) (wWhen, ((p + 1 : Nat) : Int)) ((lpB, ((p + 5 : Nat) : Int)) :: ((numB n, ((p + 5 + 1 : Nat) : Int)) :: (cmB, ((p + 5 + (rnN n).length + 1 : Nat) : Int)) :: (sgC (p + 5 + (rnN n).length + 1) c ++ []))) he
    rw [termR, h1, h2]
    simp only
    rw [if_neg (by decide), if_neg (by decide), if_neg (by decide), if_neg (by decide), if_neg (by decide), if_neg (by decide), if_pos trivial, mark_cons r lpB _ _ he]
    rw [(day_cons r n _ _ he hf.1).1, mark_cons r cmB _ _ he]
    unfold lastF
    simp only
    rw [term_back c hf.2 f (d + 1) r (p + 5 + (rnN n).length + 1) _ (by omega) (by omega) he]
  | iff o a b =>
    simp only [formC, Bool.and_eq_true] at hf
    simp only [C.depth] at hdd
    have hl : sgL p (.iff o a b) = (wIf, ((p + 1 : Nat) : Int)) :: (lpB, ((p + 3 : Nat) : Int)) :: (sgO (p + 3) o ++ (cmB, ((p + 3 + (rnO o).length + 1 : Nat) : Int)) :: (sgC (p + 3 + (rnO o).length + 1) a ++ (cmB, ((p + 3 + (rnO o).length + 1 + (rnC a).length + 1 : Nat) : Int)) :: (sgC (p + 3 + (rnO o).length + 1 + (rnC a).length + 1) b ++ []))) := by simp [sgL]
    rw [hl]
    obtain ⟨h1, h2⟩ := first_cons r d (by omega) (wIf, ((p + 1 : Nat) : Int)) ((lpB, ((p + 3 : Nat) : Int)) :: (sgO (p + 3) o ++ (cmB, ((p + 3 + (rnO o).length + 1 : Nat) : Int)) :: (sgC (p + 3 + (rnO o).length + 1) a ++ (cmB, ((p + 3 + (rnO o).length + 1 + (rnC a).length + 1 : Nat) : Int)) :: (sgC (p + 3 + (rnO o).length + 1 + (rnC a).length + 1) b ++ [])))) he
    rw [termR, h1, h2]
    simp only
    rw [if_neg (by decide), if_neg (by decide), if_neg (by decide), if_neg (by decide), if_neg (by decide), if_neg (by decide), if_neg (by decide), if_pos trivial, mark_cons r lpB _ _ he]
    rw [obs_back o hf.1.1 f (d + 1) r (p + 3) _ (by omega) (by omega) he]
    simp only
    rw [mark_cons r cmB _ _ he]
    unfold lastsF lastF
    simp only
    rw [term_back a hf.1.2 f (d + 1) r (p + 3 + (rnO o).length + 1) _ (by omega) (by omega) he]
    simp only
    rw [mark_cons r cmB _ _ he]
    rw [term_back b hf.2 f (d + 1) r (p + 3 + (rnO o).length + 1 + (rnC a).length + 1) _ (by omega) (by omega) he]
theorem open_of (s : ByteArray) (rs : List Int) (l : List Rn.Sg) (hs : runesOf s = rs) (hz : s.size ≤ 1000) (hok : rs.all Rn.okR = true) (hl : Rn.cutGo [] [] 0 rs = l) : openR s = (⟨[], (rs.length : Int) + 1, 0, 0⟩ : RS).put l := by
  have hb : Rn.badOf s = 0 := by unfold Rn.badOf; rw [hs]; exact bad_none _ (List.all_eq_true.1 hok) 0
  have hsg : Rn.sgOf s = l := by unfold Rn.sgOf; rw [hs]; exact hl
  unfold openR
  rw [if_neg (by omega), if_neg (by simpa using hb), hsg, hs]
  rfl
theorem rdT_lack (c : C) (hf : formC c = true) (hd : c.depth ≤ 12) (hz : c.isZero = false) (rs : List Int) (hrs : rnC c = rs ++ [41]) (s : ByteArray) (hs : runesOf s = rs) (hsz : s.size ≤ 1000) : (rdT s).2.1 = (rs.length : Int) + 1 ∧ (rdT s).2.2 = 2 := by
  obtain ⟨q, hq⟩ := sgL_snoc 0 c hf hz
  have hcut : Rn.cutGo [] [] 0 rs = sgL 0 c := by
    have h1 := cut_behind 41 j41 m41 rs [] [] 0
    rw [← hrs, cutC_all c hf, hq] at h1
    exact (List.append_inj' h1 rfl).1.symm
  have hok : rs.all Rn.okR = true := by
    have := rnC_all c hf
    rw [hrs, List.all_append, Bool.and_eq_true] at this
    exact this.1
  have ho := open_of s rs _ hs hsz hok hcut
  have ht := term_lack c hf hz 14 1 ⟨[], (rs.length : Int) + 1, 0, 0⟩ 0 rfl (by omega) rfl
  obtain ⟨m1, m2⟩ := mark_none ⟨[], (rs.length : Int) + 1, 0, 0⟩ rfl
  have hne : (markR ((⟨[], (rs.length : Int) + 1, 0, 0⟩ : RS).put []) rpB).e ≠ 0 := by rw [m1]; decide
  unfold rdT
  rw [ho, ht, dead_end _ hne, if_neg hne]
  exact ⟨m2, m1⟩
theorem end_more (r : RS) (t : ByteArray) (q : Int) (h : r.e = 0) (ht : t ≠ ⟨#[]⟩) : (endRd (r.put [(t, q)])).e = 2 ∧ (endRd (r.put [(t, q)])).pl = q := by
  obtain ⟨h1, h2⟩ := take_cons (r := r.put [(t, q)]) (a := (t, q)) (l := []) h rfl
  unfold endRd
  rw [h1, h2]
  unfold fitR refuseR
  rw [if_neg (by simpa using ht), if_pos (by exact h)]
  exact ⟨rfl, rfl⟩
theorem rdT_rest (c : C) (hf : formC c = true) (hd : c.depth ≤ 12) (s : ByteArray) (past : Int) (t : ByteArray) (q : Int) (ht : t ≠ ⟨#[]⟩) (ho : openR s = (⟨[], past, 0, 0⟩ : RS).put (sgC 0 c ++ [(t, q)])) : (rdT s).2.1 = q ∧ (rdT s).2.2 = 2 := by
  have hb := term_back c hf 14 1 ⟨[], past, 0, 0⟩ 0 [(t, q)] rfl (by omega) rfl
  obtain ⟨m1, m2⟩ := end_more ⟨[], past, 0, 0⟩ t q rfl ht
  have hne : (endRd ((⟨[], past, 0, 0⟩ : RS).put [(t, q)])).e ≠ 0 := by rw [m1]; decide
  unfold rdT
  rw [ho, hb]
  simp only
  rw [if_neg hne]
  exact ⟨m2, m1⟩
theorem cut_blank (ws : List Int) : ∀ (l : List Rn.Sg) (run : List Int) (p : Nat) (rs : List Int), Rn.cutGo l run p (ws ++ 32 :: rs) = Rn.cutGo (Rn.cutGo l run p ws) [] (p + ws.length + 1) rs := by
  induction ws with
  | nil => intro l run p rs; rw [List.nil_append, Rn.cutGo_skip l run p 32 rs (by decide) (by decide)]; rfl
  | cons x ws ih =>
    intro l run p rs
    have e : p + 1 + ws.length + 1 = p + (x :: ws).length + 1 := by simp only [List.length_cons]; omega
    rw [List.cons_append]
    cases h1 : Rn.joinB x with
    | true => rw [Rn.cutGo_join l run p x _ h1, Rn.cutGo_join l run p x _ h1, ih, e]
    | false =>
      cases h2 : Rn.markB x with
      | true => rw [Rn.cutGo_mark l run p x _ h1 h2, Rn.cutGo_mark l run p x _ h1 h2, ih, e]
      | false => rw [Rn.cutGo_skip l run p x _ h1 h2, Rn.cutGo_skip l run p x _ h1 h2, ih, e]
theorem rdT_more (c : C) (hf : formC c = true) (hd : c.depth ≤ 12) (s : ByteArray) (hs : runesOf s = rnC c ++ [41]) (hsz : s.size ≤ 1000) : (rdT s).2.1 = ((rnC c).length : Int) + 1 ∧ (rdT s).2.2 = 2 := by
  have hcut : Rn.cutGo [] [] 0 (rnC c ++ [41]) = sgC 0 c ++ [(rpB, ((0 + (rnC c).length + 1 : Nat) : Int))] := by rw [cut_behind 41 j41 m41, cutC_all c hf, enc_rp]
  have ho := open_of s _ _ hs hsz (all_app (rnC_all c hf) (by decide)) hcut
  have h := rdT_rest c hf hd s _ rpB _ (by decide) ho
  exact ⟨by rw [h.1]; omega, h.2⟩
theorem rdT_blank (c : C) (hf : formC c = true) (hd : c.depth ≤ 12) (s : ByteArray) (hs : runesOf s = rnC c ++ [32, 44]) (hsz : s.size ≤ 1000) : (rdT s).2.1 = ((rnC c).length : Int) + 2 ∧ (rdT s).2.2 = 2 := by
  have hcut : Rn.cutGo [] [] 0 (rnC c ++ [32, 44]) = sgC 0 c ++ [(cmB, ((0 + (rnC c).length + 1 + 1 : Nat) : Int))] := by rw [cut_blank, cutC_all c hf, cut_mark _ _ 44 [] j44 m44, enc_cm]; rfl
  have ho := open_of s _ _ hs hsz (all_app (rnC_all c hf) (by decide)) hcut
  have h := rdT_rest c hf hd s _ cmB _ (by decide) ho
  exact ⟨by rw [h.1]; omega, h.2⟩
theorem rnC_last (x : C) (hf : formC x = true) (hz : x.isZero = false) : ∃ rs, rnC x = rs ++ [41] := by
  cases x with
  | odd v => cases hf
  | zero => cases hz
  | one s => exact ⟨[111, 110, 101, 40] ++ (runesOf s), by simp [rnC]⟩
  | give c => exact ⟨[103, 105, 118, 101, 40] ++ (rnC c), by simp [rnC]⟩
  | and a b => exact ⟨[97, 110, 100, 40] ++ ((rnC a) ++ 44 :: (rnC b)), by simp [rnC]⟩
  | or s a b => exact ⟨[111, 114, 40] ++ ((runesOf s) ++ 44 :: ((rnC a) ++ 44 :: (rnC b))), by simp [rnC]⟩
  | scale o c => exact ⟨[115, 99, 97, 108, 101, 40] ++ ((rnO o) ++ 44 :: (rnC c)), by simp [rnC]⟩
  | when n c => exact ⟨[119, 104, 101, 110, 40] ++ ((rnN n) ++ 44 :: (rnC c)), by simp [rnC]⟩
  | iff o a b => exact ⟨[105, 102, 40] ++ ((rnO o) ++ 44 :: ((rnC a) ++ 44 :: (rnC b))), by simp [rnC]⟩

end Go.Proofs.YtbppkklfjmpgiaaDoor
namespace Go.Proofs.YtbppkklfjmpgiaaDoor
open Go.RowKit
set_option linter.unusedVariables false

theorem rb_app (a b : List Int) : (runesBytes (a ++ b)).data.toList = (runesBytes a).data.toList ++ (runesBytes b).data.toList := by rw [Rn.runesBytes_append]; simp
theorem rb_cons (x : Int) (b : List Int) : (runesBytes (x :: b)).data.toList = (Utf8.encode x).data.toList ++ (runesBytes b).data.toList := by rw [Rn.runesBytes_cons]; simp
theorem rb_nil : (runesBytes []).data.toList = [] := by simp [runesBytes]
theorem rb_44 (b : List Int) : (runesBytes (44 :: b)).data.toList = 44 :: (runesBytes b).data.toList := by rw [rb_cons, enc_cm]; rfl
theorem rb_41 : (runesBytes [41]).data.toList = [41] := by decide +kernel
theorem rb_num (n : Int) : (runesBytes (rnN n)).data.toList = (numT n).data.toList := by rw [(itoa_join n).2.2]; rfl
theorem rb_name (s : ByteArray) (h : nameGo 0 (runesOf s) = true) : (runesBytes (runesOf s)).data.toList = s.data.toList := by rw [(name_join s h).2.2]
theorem rbO (x : O) (hf : formB x = true) : (runesBytes (rnO x)).data.toList = (textO x).data.toList := by
  induction x with
  | odd v => cases hf
  | const n => exact rb_num n
  | fix s =>
    simp only [rnO, textO]
    rw [joinL_1, rb_app, rb_app, rb_41, rb_name s hf, show (runesBytes [102, 105, 120, 40]).data.toList = [102, 105, 120, 40] from by decide +kernel]; simp
  | neg o ih =>
    simp only [rnO, textO]
    rw [joinL_1, rb_app, rb_app, rb_41, ih hf, show (runesBytes [110, 101, 103, 40]).data.toList = [110, 101, 103, 40] from by decide +kernel]; simp
  | add a b iha ihb =>
    simp only [formB, Bool.and_eq_true] at hf
    simp only [rnO, textO]
    rw [joinL_2, rb_app, rb_app, rb_44, rb_app, rb_41, iha hf.1, ihb hf.2, show (runesBytes [97, 100, 100, 40]).data.toList = [97, 100, 100, 40] from by decide +kernel]; simp
  | mul a b iha ihb =>
    simp only [formB, Bool.and_eq_true] at hf
    simp only [rnO, textO]
    rw [joinL_2, rb_app, rb_app, rb_44, rb_app, rb_41, iha hf.1, ihb hf.2, show (runesBytes [109, 117, 108, 40]).data.toList = [109, 117, 108, 40] from by decide +kernel]; simp
  | max a b iha ihb =>
    simp only [formB, Bool.and_eq_true] at hf
    simp only [rnO, textO]
    rw [joinL_2, rb_app, rb_app, rb_44, rb_app, rb_41, iha hf.1, ihb hf.2, show (runesBytes [109, 97, 120, 40]).data.toList = [109, 97, 120, 40] from by decide +kernel]; simp
theorem rbC (x : C) (hf : formC x = true) : (runesBytes (rnC x)).data.toList = (textC x).data.toList := by
  induction x with
  | odd v => cases hf
  | zero => decide +kernel
  | one s =>
    simp only [rnC, textC]
    rw [joinL_1, rb_app, rb_app, rb_41, rb_name s hf, show (runesBytes [111, 110, 101, 40]).data.toList = [111, 110, 101, 40] from by decide +kernel]; simp
  | give c ih =>
    simp only [rnC, textC]
    rw [joinL_1, rb_app, rb_app, rb_41, ih hf, show (runesBytes [103, 105, 118, 101, 40]).data.toList = [103, 105, 118, 101, 40] from by decide +kernel]; simp
  | and a b iha ihb =>
    simp only [formC, Bool.and_eq_true] at hf
    simp only [rnC, textC]
    rw [joinL_2, rb_app, rb_app, rb_44, rb_app, rb_41, iha hf.1, ihb hf.2, show (runesBytes [97, 110, 100, 40]).data.toList = [97, 110, 100, 40] from by decide +kernel]; simp
  | or s a b iha ihb =>
    simp only [formC, Bool.and_eq_true] at hf
    simp only [rnC, textC]
    rw [joinL_3, rb_app, rb_app, rb_44, rb_app, rb_44, rb_app, rb_41, rb_name s hf.1.1, iha hf.1.2, ihb hf.2, show (runesBytes [111, 114, 40]).data.toList = [111, 114, 40] from by decide +kernel]; simp
  | scale o c ih =>
    simp only [formC, Bool.and_eq_true] at hf
    simp only [rnC, textC]
    rw [joinL_2, rb_app, rb_app, rb_44, rb_app, rb_41, rbO o hf.1, ih hf.2, show (runesBytes [115, 99, 97, 108, 101, 40]).data.toList = [115, 99, 97, 108, 101, 40] from by decide +kernel]; simp
  | when n c ih =>
    simp only [formC, Bool.and_eq_true] at hf
    simp only [rnC, textC]
    rw [joinL_2, rb_app, rb_app, rb_44, rb_app, rb_41, rb_num n, ih hf.2, show (runesBytes [119, 104, 101, 110, 40]).data.toList = [119, 104, 101, 110, 40] from by decide +kernel]; simp
  | iff o a b iha ihb =>
    simp only [formC, Bool.and_eq_true] at hf
    simp only [rnC, textC]
    rw [joinL_3, rb_app, rb_app, rb_44, rb_app, rb_44, rb_app, rb_41, rbO o hf.1.1, iha hf.1.2, ihb hf.2, show (runesBytes [105, 102, 40]).data.toList = [105, 102, 40] from by decide +kernel]; simp
theorem vapp {a b : List Int} (ha : a.all (Utf8.valid ·) = true) (hb : b.all (Utf8.valid ·) = true) : (a ++ b).all (Utf8.valid ·) = true := by rw [List.all_append, ha, hb]; rfl
theorem vcm {b : List Int} (hb : b.all (Utf8.valid ·) = true) : (44 :: b).all (Utf8.valid ·) = true := by rw [List.all_cons, hb]; decide
theorem vrest (s : ByteArray) : ∀ d pos, s.size ≤ pos + d → (rest s pos).all (Utf8.valid ·) = true := by
  intro d
  induction d with
  | zero => intro pos h; rw [rest_end s pos (by omega)]; rfl
  | succ d ih =>
    intro pos h
    by_cases hp : pos < s.size
    · rw [rest_step s pos hp, List.all_cons, Rn.decode_valid s pos]
      have := width_pos s pos hp
      rw [ih _ (by omega)]; rfl
    · rw [rest_end s pos hp]; rfl
theorem vname (s : ByteArray) : (runesOf s).all (Utf8.valid ·) = true := vrest s s.size 0 (by omega)
theorem vnum (n : Int) : (rnN n).all (Utf8.valid ·) = true := by
  rw [List.all_eq_true]
  intro x hx
  obtain ⟨b, hb, rfl⟩ := List.mem_map.1 hx
  have := b.toNat_lt
  simp [Utf8.valid]; omega
theorem vO (x : O) : (rnO x).all (Utf8.valid ·) = true := by
  induction x with
  | odd v => rfl
  | const n => exact vnum n
  | fix s => exact vapp (by decide) (vapp (vname s) (by decide))
  | neg o ih => exact vapp (by decide) (vapp ih (by decide))
  | add a b iha ihb => exact vapp (by decide) (vapp iha (vcm (vapp ihb (by decide))))
  | mul a b iha ihb => exact vapp (by decide) (vapp iha (vcm (vapp ihb (by decide))))
  | max a b iha ihb => exact vapp (by decide) (vapp iha (vcm (vapp ihb (by decide))))
theorem vC (x : C) : (rnC x).all (Utf8.valid ·) = true := by
  induction x with
  | odd v => rfl
  | zero => decide
  | one s => exact vapp (by decide) (vapp (vname s) (by decide))
  | give c ih => exact vapp (by decide) (vapp ih (by decide))
  | and a b iha ihb => exact vapp (by decide) (vapp iha (vcm (vapp ihb (by decide))))
  | or s a b iha ihb => exact vapp (by decide) (vapp (vname s) (vcm (vapp iha (vcm (vapp ihb (by decide))))))
  | scale o c ih => exact vapp (by decide) (vapp (vO o) (vcm (vapp ih (by decide))))
  | when n c ih => exact vapp (by decide) (vapp (vnum n) (vcm (vapp ih (by decide))))
  | iff o a b iha ihb => exact vapp (by decide) (vapp (vO o) (vcm (vapp iha (vcm (vapp ihb (by decide))))))
theorem runes_of (s : ByteArray) (rs : List Int) (hv : rs.all (Utf8.valid ·) = true) (h : s.data.toList = (runesBytes rs).data.toList) : runesOf s = rs := by
  rw [ba_x h]
  exact Rn.runesOf_all rs (fun r hr => List.all_eq_true.1 hv r hr)
/-- T6: a contract's text is read as that contract. -/
theorem read_write (c : C) (hc : chkC c = 0) (hz : (textC c).size ≤ 1000) : rdT (textC c) = (c, 0, 0) := by
  have h := chkC_zero hc
  exact rdT_back c hc h.1 h.2.2.1 _ (runes_of _ _ (vC c) (rbC c h.1).symm) hz
theorem read_writeO (x : O) (hc : chk x = 0) (hz : (textO x).size ≤ 1000) : rdO (textO x) = (x, 0, 0) := by
  have h := chk_zero hc
  exact rdO_back x hc h.1 h.2.2 _ (runes_of _ _ (vO x) (rbO x h.1).symm) hz
theorem take_list (s : ByteArray) (k : Nat) (h : k ≤ s.size) : (s.extract 0 k).data.toList = s.data.toList.take k := by
  simp [ByteArray.data_extract]
/-- What read.Term answers of a contract's text without its last byte, with one more, with two more. -/
theorem ends_of (c : C) (hc : chkC c = 0) (hz : (textC c).size ≤ 998) (h0 : c.isZero = false) :
    ((rdT ((textC c).extract 0 ((textC c).size - 1))).2.1 = ((rnC c).length : Int) ∧ (rdT ((textC c).extract 0 ((textC c).size - 1))).2.2 = 2) ∧
    ((rdT (textC c ++ ⟨#[41]⟩)).2.1 = ((rnC c).length : Int) + 1 ∧ (rdT (textC c ++ ⟨#[41]⟩)).2.2 = 2) ∧
    ((rdT (textC c ++ ⟨#[32, 44]⟩)).2.1 = ((rnC c).length : Int) + 2 ∧ (rdT (textC c ++ ⟨#[32, 44]⟩)).2.2 = 2) := by
  have h := chkC_zero hc
  have hb := rbC c h.1
  obtain ⟨rs, hrs⟩ := rnC_last c h.1 h0
  have hv := vC c
  have hvr : rs.all (Utf8.valid ·) = true := by
    rw [hrs, List.all_append, Bool.and_eq_true] at hv
    exact hv.1
  have hl : (textC c).data.toList = (runesBytes rs).data.toList ++ [41] := by rw [← hb, hrs, rb_app, rb_41]
  have hsz : (textC c).size = (runesBytes rs).size + 1 := by
    have := congrArg List.length hl
    simpa using this
  refine ⟨?_, ?_, ?_⟩
  · have h1 := rdT_lack c h.1 h.2.2.1 h0 rs hrs ((textC c).extract 0 ((textC c).size - 1)) (runes_of _ _ hvr (by
      rw [take_list _ _ (by omega), hl, hsz, Nat.add_sub_cancel]
      have hlen : (runesBytes rs).size = (runesBytes rs).data.toList.length := by simp
      rw [hlen, List.take_left])) (by rw [ByteArray.size_extract]; omega)
    refine ⟨?_, h1.2⟩
    rw [h1.1, hrs]
    simp
  · exact rdT_more c h.1 h.2.2.1 _ (runes_of _ _ (vapp hv (by decide)) (by rw [rb_app, rb_41, hb]; simp)) (by rw [ByteArray.size_append]; have : (ByteArray.mk #[41]).size = 1 := rfl; omega)
  · exact rdT_blank c h.1 h.2.2.1 _ (runes_of _ _ (vapp hv (by decide)) (by rw [rb_app, hb, show (runesBytes [32, 44]).data.toList = [32, 44] from by decide +kernel]; simp)) (by rw [ByteArray.size_append]; have : (ByteArray.mk #[32, 44]).size = 2 := rfl; omega)

end Go.Proofs.YtbppkklfjmpgiaaDoor
namespace Go.Proofs.YtbppkklfjmpgiaaDoor
open Go.RowKit Go.Maps
set_option linter.unusedVariables false

def namStep (st : List ByteArray) (c : C) : List ByteArray := addAll st (allL c.nums)
/-- The names of a contract's Fixes, in the order of a walk. -/
def C.all : C → List ByteArray
  | .give c => c.all
  | .and l r => l.all ++ r.all
  | .or _ l r => l.all ++ r.all
  | .scale o c => o.all ++ c.all
  | .when _ c => c.all
  | .iff o l r => o.all ++ (l.all ++ r.all)
  | _ => []
theorem names_fold (c : C) : ∀ st, c.pre.foldl namStep st = addAll st c.all := by
  induction c <;> intro st <;> simp_all [C.pre, namStep, C.nums, C.all, allL, addAll]
def C.names (c : C) : List ByteArray := addAll [] c.all
theorem addAll_id (acc : List ByteArray) : ∀ l : List ByteArray, (∀ s ∈ l, s ∈ acc) → addAll acc l = acc := by
  intro l
  induction l with
  | nil => intro _; rfl
  | cons s l ih =>
    intro h
    have h1 : addN acc s = acc := by unfold addN; rw [if_pos ((inN_iff acc s).2 (h s (by simp)))]
    show addAll (addN acc s) l = acc
    rw [h1]
    exact ih (fun t ht => h t (by simp [ht]))
theorem mem_addN (acc : List ByteArray) (s t : ByteArray) : t ∈ addN acc s ↔ t ∈ acc ∨ t = s := by
  unfold addN
  split
  · rename_i h
    have := (inN_iff acc s).1 h
    constructor
    · exact .inl
    · rintro (h | rfl); exact h; exact this
  · simp
theorem addN_twice (acc : List ByteArray) (s : ByteArray) (h : s ∈ acc) : addN acc s = acc := by unfold addN; rw [if_pos ((inN_iff acc s).2 h)]
theorem mem_addAll : ∀ (l acc : List ByteArray) (t : ByteArray), t ∈ addAll acc l ↔ t ∈ acc ∨ t ∈ l := by
  intro l
  induction l with
  | nil => intro acc t; simp [addAll]
  | cons s l ih =>
    intro acc t
    show t ∈ addAll (addN acc s) l ↔ _
    rw [ih, mem_addN]
    simp only [List.mem_cons]
    constructor
    · rintro ((h | h) | h); exact .inl h; exact .inr (.inl h); exact .inr (.inr h)
    · rintro (h | h | h); exact .inl (.inl h); exact .inl (.inr h); exact .inr h
/-- Adding what is each once is adding all. -/
theorem addAll_once : ∀ (l acc pre : List ByteArray), (∀ s ∈ pre, s ∈ acc) → addAll acc (addAll pre l) = addAll acc l := by
  intro l
  induction l with
  | nil => intro acc pre h; exact addAll_id acc pre h
  | cons s l ih =>
    intro acc pre h
    show addAll acc (addAll (addN pre s) l) = addAll (addN acc s) l
    by_cases hs : s ∈ pre
    · rw [addN_twice pre s hs, ih acc pre h, addN_twice acc s (h s hs)]
    · have e : addN pre s = pre ++ [s] := by
        unfold addN
        rw [if_neg (fun e => hs ((inN_iff pre s).1 e))]
      have hc : ∀ (l pre : List ByteArray), ∃ m, addAll pre l = pre ++ m := by
        intro l
        induction l with
        | nil => intro pre; exact ⟨[], by simp [addAll]⟩
        | cons x l ihl =>
          intro pre
          obtain ⟨m, hm⟩ := ihl (addN pre x)
          show ∃ m, addAll (addN pre x) l = pre ++ m
          rw [hm]
          unfold addN
          split
          · exact ⟨m, rfl⟩
          · exact ⟨[x] ++ m, by simp⟩
      obtain ⟨m, hm⟩ := hc l (addN pre s)
      rw [hm, e, addAll_append, addAll_append, addAll_id acc pre h]
      have h2 : addAll acc [s] = addN acc s := rfl
      rw [h2]
      have h3 := ih (addN acc s) (addN pre s) (fun t ht => by
        rw [mem_addN] at ht ⊢
        rcases ht with ht | ht
        · exact .inl (h t ht)
        · exact .inr ht)
      rw [hm, e, addAll_append, addAll_append] at h3
      rw [addAll_id (addN acc s) pre (fun t ht => (mem_addN acc s t).2 (.inl (h t ht)))] at h3
      have h4 : addAll (addN acc s) [s] = addN acc s := addN_twice _ _ ((mem_addN acc s s).2 (.inr rfl))
      rw [h4] at h3
      exact h3

/-- What is kept while names are gathered. -/
def NamInv (V : Nat) (own : Nat → Prop) (st : List ByteArray) (w : World) : Prop :=
  ∃ v, own = (fun k => k = V ∨ k = V + 1 ∨ v.ownBlock = some k) ∧ w.heap[V]? = some (.cells #[v] 23 (0, 0)) ∧ w.heap[V + 2]? = some (.cells #[.map (some (V + 1))] 118 (0, 0)) ∧ NIn w (V + 1) v st ∧ v.ownBlock ≠ some (V + 2)

theorem names_ok (o : O) (h : o.Ok) : ∀ s ∈ o.all, s.size ≤ 2147483648 := by
  induction o with
  | fix s => intro t ht; simp [O.all] at ht; subst ht; exact h
  | neg o ih => exact ih h
  | add l r h1 h2 => intro s hs; simp only [O.all, List.mem_append] at hs; rcases hs with hs | hs; exact h1 h.1 s hs; exact h2 h.2 s hs
  | mul l r h1 h2 => intro s hs; simp only [O.all, List.mem_append] at hs; rcases hs with hs | hs; exact h1 h.1 s hs; exact h2 h.2 s hs
  | max l r h1 h2 => intro s hs; simp only [O.all, List.mem_append] at hs; rcases hs with hs | hs; exact h1 h.1 s hs; exact h2 h.2 s hs
  | _ => intro s hs; simp [O.all] at hs
theorem onames_ok (o : O) (h : o.Ok) : ∀ s ∈ o.names, s.size ≤ 2147483648 := by
  intro s hs
  unfold O.names at hs
  rw [mem_addAll] at hs
  rcases hs with hs | hs
  · simp at hs
  · exact names_ok o h s hs

theorem nam_fin {V : Nat} {v v2 : Value} {acc : List ByteArray} {w W wA wB : World} (hBW : Below w.heap.size w W) (hXA : Below W.heap.size W wA) (hG : Grew (V + 1) v.ownBlock wA wB) (hin : NIn wB (V + 1) v2 acc) (hloc : v2.ownBlock = v.ownBlock ∨ ∀ k, v2.ownBlock = some k → wA.heap.size ≤ k) (hVB : wB.heap[V]? = some (.cells #[v] 23 (0, 0))) (h3 : w.heap[V + 2]? = some (.cells #[.map (some (V + 1))] 118 (0, 0))) (h5 : v.ownBlock ≠ some (V + 2)) :
    ∃ own', NamInv V own' acc (wB.setCell ⟨V, 0, none⟩ v2) ∧ Dyn (fun k => k = V ∨ k = V + 1 ∨ v.ownBlock = some k) w own' (wB.setCell ⟨V, 0, none⟩ v2) := by
  have hlt := (Array.getElem?_eq_some_iff.1 h3).1
  have s1 := hBW.size
  have s2 := hXA.size
  have s3 := hG.size
  refine ⟨fun k => k = V ∨ k = V + 1 ∨ v2.ownBlock = some k, ⟨v2, rfl, heap_setCell_same wB V 0 _ _ _ hVB, ?_, ⟨ownsRow_setCell_below hin.1 (a := ⟨V, 0, none⟩) (by show V < V + 1 + 1; omega) v2, hin.2.1.setCell (by show V + 1 ≠ V; omega) _, by rw [World.size_setCell]; exact hin.2.2⟩, ?_⟩, hG.os.trans (hXA.os.trans hBW.os), hG.tape.trans (hXA.tape.trans hBW.tape), hG.output.trans (hXA.output.trans hBW.output), by rw [World.size_setCell]; omega, fun k hk hno => ?_, fun k hk => ?_⟩
  · rw [heap_setCell_other wB ⟨V, 0, none⟩ (V + 2) _ (by show V + 2 ≠ V; omega)]
    exact (hG.block (V + 2) (by omega) (by omega) h5).trans ((hXA.block (V + 2) (by omega)).trans ((hBW.block (V + 2) hlt).trans h3))
  · rcases hloc with h | h
    · rw [h]; exact h5
    · intro e; have := h _ e; omega
  · have k1 : k ≠ V := fun e => hno (.inl e)
    have k2 : k ≠ V + 1 := fun e => hno (.inr (.inl e))
    have k3 : v.ownBlock ≠ some k := fun e => hno (.inr (.inr e))
    rw [heap_setCell_other wB ⟨V, 0, none⟩ k _ k1]
    exact (hG.block k (by omega) k2 k3).trans ((hXA.block k (by omega)).trans (hBW.block k hk))
  · rcases hk with hk | hk | hk
    · exact .inl (.inl hk)
    · exact .inl (.inr (.inl hk))
    · rcases hloc with h | h
      · rw [h] at hk; exact .inl (.inr (.inr hk))
      · have := h k hk; exact .inr (by omega)

end Go.Proofs.YtbppkklfjmpgiaaDoor
namespace Go.Proofs.YtbppkklfjmpgiaaDoor
open Go.RowKit
set_option linter.unusedVariables false

theorem ownsRow_below {w w' : World} {B e size n : Nat} {v : Value} {xs : List Value} (h : w.ownsRow B e size v n xs) (hb : Below w.heap.size w w') : w'.ownsRow B e size v n xs :=
  h.kept (grown_of_below hb none) (by cases hv : v.ownBlock <;> simp)
theorem grownBy_refl (w : World) (r : Option Nat) : w.grownBy w r := grown_of_below (Below.refl _ _) r
theorem wpList_append_rows {ops : Array Oper} {rest : List Oper} {o : Oper} {a : Act} {Q : Exit → Act → World → Prop} (w : World) (hgd : o.guard = none) (s x : Operand)
    (ho : o.op = .call { callee := .builtin .append, args := #[s, x], argTypes := #[23, 23] })
    (base : Nat) (v : Value) (l : List ByteArray) (hs : a.eval s = v) (hown : w.ownsRow base 9 1 v l.length (strCells l))
    (B : Nat) (xv : Value) (m : List ByteArray) (hx : a.eval x = xv) (hox : w.ownsRow B 9 1 xv m.length (strCells m)) (hlen : l.length + m.length ≤ 1000000) (hbase : base ≤ w.heap.size)
    (h : ∀ v' w', w'.ownsRow base 9 1 v' (l ++ m).length (strCells (l ++ m)) → w.grownBy w' v.ownBlock → (v'.ownBlock = v.ownBlock ∨ v'.ownBlock = some w.heap.size) → wpList Tryd.prog ops Q rest (a.put o.dst v') w') : wpList Tryd.prog ops Q (o :: rest) a w := by
  obtain ⟨i0, gi, gz0, gz1, gz2⟩ := info_parts infoStr
  have hox2 := hox
  rcases hox2.2 with ⟨rfl, h0⟩ | ⟨g, cap, cur, rfl, hb, hg, hnc, hcm, _⟩
  · have hm : m = [] := List.length_eq_zero_iff.1 h0
    subst hm
    refine wpList_append_own_none hgd s x 23 ho base 9 i0 1 Tryd.underlying23 gi v l.length (strCells l) hs hown hx ?_
    exact h v w (by simpa using hown) (grownBy_refl w _) (.inl rfl)
  · refine wpList_append_own_at w hgd s x 23 ho base 9 i0 (.string ByteArray.empty) 1 16 Tryd.underlying23 gi gz0 gz1 gz2 rfl (by decide) v l.length (strCells l) hs hown ⟨g, 0, none⟩ m.length cap (strCells m) hx (by simp [strCells]) ?_ ?_ (by unfold maxLen; omega) (by omega) hbase ?_
    · intro j u hj
      rw [Addr.add_lit, Nat.zero_add]
      have hjl : j < m.length := by
        have := (List.getElem?_eq_some_iff.1 hj).1
        simpa [strCells] using this
      rw [hox.cellAt j (by omega)]
      exact hj
    · intro u hu
      obtain ⟨t, _, rfl⟩ := List.mem_map.1 hu
      rfl
    · intro v' w' h1 h2 _ h3
      refine h v' w' ?_ h2 h3
      simpa [strCells] using h1
/-- The labels of contracts, one behind the other. -/
def labL : List C → List ByteArray
  | [] => []
  | k :: l => k.labels ++ labL l
theorem labL_snoc (l : List C) (k : C) : labL (l ++ [k]) = labL l ++ k.labels := by
  induction l with
  | nil => simp [labL]
  | cons a l ih => simp [labL, ih]
theorem labels_kids (c : C) : c.labels = (if c.kind = 5 then [c.text] else []) ++ labL c.kids := by
  cases c <;> simp [C.labels, C.kind, C.text, C.kids, labL]
theorem labL_weight (l : List C) : (labL l).length ≤ weightL l := by
  induction l with
  | nil => simp [labL]
  | cons a l ih => have := labels_weight a; simp [labL, weightL]; omega
/-- What an assertion to one of api's types with two or three fields tells of a contract. -/
theorem or_part (c : C) (h : c.Ok) : ∃ (s : ByteArray) (l r : Value) (b : Bool), (∀ xT w, (Instr.typeAssert c.val xT 51 true).run Tryd.prog w = .ok (.tuple #[.agg #[.string s, l, r], .bool b]) w) ∧ One' l ∧ One' r ∧ ((b = true ∧ c.kind = 5 ∧ s = c.text) ∨ (b = false ∧ c.kind ≠ 5)) := by
  have hn : One' Value.nilIface := ⟨rfl, rfl⟩
  cases c with
  | or s l r => exact ⟨s, l.val, r.val, true, fun xT w => isOr _ xT w, l.one' h.2.1, r.one' h.2.2, .inl ⟨rfl, rfl, rfl⟩⟩
  | odd v =>
    rcases h with rfl | ⟨t, x, rfl, _, _, _, _, h5, _⟩
    · exact ⟨_, _, _, false, fun xT w => nilOr xT w, hn, hn, .inr ⟨rfl, by simp [C.kind]⟩⟩
    · exact ⟨_, _, _, false, fun xT w => notOr t x xT w h5, hn, hn, .inr ⟨rfl, by simp [C.kind]⟩⟩
  | _ => exact ⟨_, _, _, false, fun xT w => notOr _ _ xT w (by decide), hn, hn, .inr ⟨rfl, by simp [C.kind]⟩⟩
theorem scale_part (c : C) (h : c.Ok) : ∃ (l r : Value) (b : Bool), (∀ xT w, (Instr.typeAssert c.val xT 55 true).run Tryd.prog w = .ok (.tuple #[.agg #[l, r], .bool b]) w) ∧ One' l ∧ One' r ∧ ((b = true ∧ c.kind = 6) ∨ (b = false ∧ c.kind ≠ 6)) := by
  have hn : One' Value.nilIface := ⟨rfl, rfl⟩
  cases c with
  | scale o c => exact ⟨o.val, c.val, true, fun xT w => isScale _ xT w, o.one' h.1, c.one' h.2, .inl ⟨rfl, rfl⟩⟩
  | odd v =>
    rcases h with rfl | ⟨t, x, rfl, _, _, _, _, _, h6, _⟩
    · exact ⟨_, _, false, fun xT w => nilScale xT w, hn, hn, .inr ⟨rfl, by simp [C.kind]⟩⟩
    · exact ⟨_, _, false, fun xT w => notScale t x xT w h6, hn, hn, .inr ⟨rfl, by simp [C.kind]⟩⟩
  | _ => exact ⟨_, _, false, fun xT w => notScale _ _ xT w (by decide), hn, hn, .inr ⟨rfl, by simp [C.kind]⟩⟩
theorem if_part (c : C) (h : c.Ok) : ∃ (o l r : Value) (b : Bool), (∀ xT w, (Instr.typeAssert c.val xT 59 true).run Tryd.prog w = .ok (.tuple #[.agg #[o, l, r], .bool b]) w) ∧ One' o ∧ One' l ∧ One' r ∧ ((b = true ∧ c.kind = 8) ∨ (b = false ∧ c.kind ≠ 8)) := by
  have hn : One' Value.nilIface := ⟨rfl, rfl⟩
  cases c with
  | iff o l r => exact ⟨o.val, l.val, r.val, true, fun xT w => isIf _ xT w, o.one' h.1, l.one' h.2.1, r.one' h.2.2, .inl ⟨rfl, rfl⟩⟩
  | odd v =>
    rcases h with rfl | ⟨t, x, rfl, _, _, _, _, _, _, _, h8⟩
    · exact ⟨_, _, _, false, fun xT w => nilIf xT w, hn, hn, hn, .inr ⟨rfl, by simp [C.kind]⟩⟩
    · exact ⟨_, _, _, false, fun xT w => notIf t x xT w h8, hn, hn, hn, .inr ⟨rfl, by simp [C.kind]⟩⟩
  | _ => exact ⟨_, _, _, false, fun xT w => notIf _ _ xT w (by decide), hn, hn, hn, .inr ⟨rfl, by simp [C.kind]⟩⟩
theorem plain_parts (c : C) (h6 : c.kind ≠ 6) (h8 : c.kind ≠ 8) : c.nums = [] := by
  cases c <;> simp [C.nums, C.kind] at h6 h8 ⊢

end Go.Proofs.YtbppkklfjmpgiaaDoor
namespace Go.Proofs.YtbppkklfjmpgiaaDoor
open Go.RowKit
set_option linter.unusedVariables false

mutual
/-- The labels of a tree's Ors, in order. -/
def T.labs : T → List ByteArray
  | .mk kind s _ k => (if kind = 5 then [s] else []) ++ labsL k
def labsL : List T → List ByteArray
  | [] => []
  | t :: l => t.labs ++ labsL l
end
mutual
/-- How many trees there are in a tree. -/
def T.cnt : T → Nat
  | .mk _ _ _ k => cntL k + 1
def cntL : List T → Nat
  | [] => 0
  | t :: l => t.cnt + cntL l
end
theorem labsL_snoc (l : List T) (k : T) : labsL (l ++ [k]) = labsL l ++ k.labs := by
  induction l with
  | nil => simp [labsL]
  | cons a l ih => simp [labsL, ih]
theorem cntL_snoc (l : List T) (k : T) : cntL (l ++ [k]) = cntL l + k.cnt := by
  induction l with
  | nil => simp [cntL]
  | cons a l ih => simp [cntL, ih]; omega
theorem cntL_take (l : List T) (i : Nat) : cntL (l.take i) ≤ cntL l := by
  induction l generalizing i with
  | nil => simp [cntL]
  | cons a l ih => cases i with
    | zero => simp [cntL]
    | succ i => simp [cntL]; exact ih i
theorem cntL_mem (l : List T) (t : T) (h : t ∈ l) : t.cnt ≤ cntL l := by
  induction l with
  | nil => simp at h
  | cons a l ih =>
    simp only [List.mem_cons] at h
    simp only [cntL]
    rcases h with rfl | h
    · omega
    · have := ih h; omega
theorem labs_cnt : ∀ t : T, t.labs.length ≤ t.cnt := by
  intro t
  induction t using T.ind with
  | _ kind s n k ih =>
    have h : (labsL k).length ≤ cntL k := by
      induction k with
      | nil => simp [labsL]
      | cons a l ihl =>
        have h1 := ih a (by simp)
        have h2 := ihl (fun t ht => ih t (by simp [ht]))
        simp only [labsL, cntL, List.length_append]
        omega
    unfold T.labs T.cnt
    rw [List.length_append]
    split <;> simp <;> omega
theorem labsL_cnt (l : List T) : (labsL l).length ≤ cntL l := by
  induction l with
  | nil => simp [labsL]
  | cons a l ih => have := labs_cnt a; simp only [labsL, cntL, List.length_append]; omega

set_option maxHeartbeats 4000000 in
set_option maxRecDepth 100000 in
theorem refLabels_any (t : T) : t.cnt ≤ 999990 → ∀ (w : World) (v : Value), TIn w 0 t v → Calls Tryd.prog 28 #[v] w fun e w' => ∃ v', e = .returned v' ∧ w'.ownsRow w.heap.size 9 1 v' t.labs.length (strCells t.labs) ∧ Below w.heap.size w w' := by
  induction t using T.ind with
  | _ kind s n k ih =>
  intro hcnt w v hv
  have hkl := len_cap hv
  obtain ⟨a, cap, rfl, hc1, hc2, hK⟩ := hv
  simp only [T.kind, T.s, T.n, T.k] at hc1 hK hkl ⊢
  obtain ⟨i0, gi, gz0, gz1, gz2⟩ := info_parts infoStr
  have hct : (T.mk kind s n k).cnt = cntL k + 1 := by rw [T.cnt]
  rw [hct] at hcnt
  have HIH : Hid (∀ t ∈ k, ∀ (w : World) (v : Value), TIn w 0 t v → Calls Tryd.prog 28 #[v] w fun e w' => ∃ v', e = .returned v' ∧ w'.ownsRow w.heap.size 9 1 v' t.labs.length (strCells t.labs) ∧ Below w.heap.size w w') := fun t ht => ih t ht (by have := cntL_mem k t ht; omega)
  have HLT0 : Hid ((T.mk kind s n k).labs = (if kind = 5 then [s] else []) ++ labsL k) := by unfold Hid; rw [T.labs]
  have HK := hidIn hK
  have HCN := hidIn hcnt
  clear ih hK hct
  go_enter Tryd.func28, Tryd.ntmps28
  go_upto_if 7 with fail
  obtain ⟨W, hW⟩ : ∃ W, W = w.alloc (.cells #[.int .i64 kind, .string s, .int .i64 n, .slice a k.length cap] 33) := ⟨_, rfl⟩
  have HB : Hid (Below w.heap.size w W) := by rw [hW]; exact below_alloc (Below.refl _ _) _
  have HBK : Hid (W.heap[w.heap.size]? = some (.cells #[.int .i64 kind, .string s, .int .i64 n, .slice a k.length cap] 33 (0, 0))) := by rw [hW]; exact heap_alloc_new _ _
  rw [← hW]
  clear hW
  go_cut [3] (fun s3 wx => wx.ownsRow W.heap.size 9 1 s3 (if kind = 5 then [s] else []).length (strCells (if kind = 5 then [s] else [])) ∧ Below W.heap.size W wx)
  case first =>
    by_cases h5 : kind = 5
    · have h5' : (kind == 5) = true := by simp [h5]
      have hcl := (cell_of_row _ _ 1 _ _ _ HBK.out)
      rw [show (#[.int .i64 kind, .string s, .int .i64 n, .slice a k.length cap] : Array Value)[1]? = some (.string s) from rfl] at hcl
      have HIF : Hid ((if kind = 5 then [s] else []) = [s]) := by unfold Hid; rw [if_pos h5]
      clear h5
      go_wp2_with (first
        | (at_builtin; refine wpList_append_own _ rfl _ _ 23 rfl W.heap.size 9 i0 (.string ByteArray.empty) 1 16 Tryd.underlying23 gi gz0 gz1 gz2 rfl (by decide) _ _ _ rfl (World.ownsRow_nil _ _ _ _) ⟨W.heap.size, 0, none⟩ 1 1 [.string s] rfl rfl (cell_one_in rfl _ _) (by intro u hu; simp at hu; subst hu; rfl) (by unfold maxLen; omega) (by omega) (by simp) ?_; intro v2 w2 hown2 hgrow2 _)
        | go_in)
      go_meet
      case rel =>
        have h1 : Below W.heap.size W (W.alloc (.cells #[.string s] 9)) := below_alloc (Below.refl _ _) _
        exact ⟨by rw [HIF.out]; simpa [strCells] using hown2, h1.grown hgrow2 (by simp) (fun j hj => by cases hj)⟩
    · have h5' : (kind == 5) = false := by simp [h5]
      have HIF : Hid ((if kind = 5 then [s] else []) = ([] : List ByteArray)) := by unfold Hid; rw [if_neg h5]
      clear h5
      go_wp2_with fail
      go_meet
      case rel => exact ⟨by rw [HIF.out]; exact World.ownsRow_nil _ _ _ _, Below.refl _ _⟩
  case rest =>
    obtain ⟨hrow, hbx⟩ := hcut
    generalize hl0 : (if kind = 5 then [s] else []) = l0 at *
    have hl1 : l0.length ≤ 1 := by rw [← hl0]; split <;> simp
    clear hl0
    have HROW0 := hidIn hrow
    have HBX := hidIn hbx
    have HG : Hid (∀ X, Below W.heap.size W X → X.cell? ⟨w.heap.size, 3, none⟩ = some (.slice a k.length cap)) := fun X hX => (cell_of_row _ _ _ _ _ _ ((hX.block _ (Array.getElem?_eq_some_iff.1 HBK.out).1).trans HBK.out)).trans rfl
    have HKW : Hid (KAt W 0 k a 0) := HK.out.below HB.out
    have g3 := HG.out wc hbx
    clear hrow hbx HBK HK
    go_wp2_with fail
    clear g3
    go_loopw [16, 3] (fun s16 s3 wr => ∃ i : Nat, i ≤ k.length ∧ s16 = .int .i64 i ∧ wr.ownsRow W.heap.size 9 1 s3 (l0 ++ labsL (k.take i)).length (strCells (l0 ++ labsL (k.take i))) ∧ Below W.heap.size W wr) (fun s16 _ _ => k.length - (intOf s16).toNat)
    case atStart => exact ⟨0, by omega, rfl, by simpa [labsL] using HROW0.out, HBX.out⟩
    case round =>
      clear HROW0 HBX
      obtain ⟨i, hi, rfl, hrow, hbr⟩ := hrel
      have HROW := hidIn hrow
      have HBR := hidIn hbr
      by_cases hlt : i < k.length
      · have hlt' : (i : Int) < (k.length : Int) := by omega
        obtain ⟨t, hti⟩ : ∃ t, k[i]? = some t := ⟨_, List.getElem?_eq_getElem hlt⟩
        obtain ⟨b, o, ka, ca, rfl, c0, c1, c2, c3, ht⟩ := (HKW.out.below hbr).cells hti
        have g3 := HG.out wr hbr
        have HM : Hid (t ∈ k) := List.mem_of_getElem? hti
        have HTI := hidIn ht
        have htk := take_more _ _ _ hti
        have HT3 : Hid (l0 ++ labsL (k.take (i + 1)) = (l0 ++ labsL (k.take i)) ++ t.labs) := by unfold Hid; rw [htk, labsL_snoc, List.append_assoc]
        have HLEN : Hid ((l0 ++ labsL (k.take i)).length + t.labs.length ≤ 1000000) := by
          have h1 := labs_cnt t
          have h2 := labsL_cnt (k.take i)
          have h3 := cntL_take k (i + 1)
          rw [htk, cntL_snoc] at h3
          have := HCN.out
          rw [List.length_append]
          show _ ≤ _
          omega
        clear hti htk ht hrow hbr
        generalize l0 ++ labsL (k.take i) = L at *
        go_wp2_with fail
        refine (HIH.out t HM.out wr _ HTI.out).mono ?_
        rintro e w4 ⟨v4, rfl, hrow4, hb4⟩
        have HB4 := hidIn (HBR.out.trans (hb4.mono HBR.out.size))
        have HROW4 := hidIn (ownsRow_below HROW.out hb4)
        have HNEW := hidIn hrow4
        clear hb4 hrow4 c0 c1 c2 c3 g3 HTI
        go_wp2_with (first
          | (at_builtin; refine wpList_append_rows _ rfl _ _ rfl W.heap.size _ L rfl HROW4.out wr.heap.size _ t.labs rfl HNEW.out HLEN.out HB4.out.size ?_; intro v5 w5 hown5 hgrow5 hloc5)
          | go_in)
        have HB5 : Hid (Below W.heap.size W w5) := HB4.out.grown hgrow5 HB4.out.size (fun j hj => (HROW4.out.lt j hj).1)
        have HOWN5 := hidIn hown5
        clear hown5 hgrow5 hloc5
        go_wp2_with fail
        go_roundw
        case rel => exact ⟨i + 1, by omega, by go_num, by rw [HT3.out]; exact HOWN5.out, HB5.out⟩
        case measure => simp [intOf]; omega
      · have hle : i = k.length := by omega
        subst hle
        have HE : Hid (wr.ownsRow W.heap.size 9 1 u3 (l0 ++ labsL k).length (strCells (l0 ++ labsL k))) := by have h := HROW.out; rw [List.take_length] at h; exact h
        clear hrow HROW hbr
        go_wp2_with fail
        go_ret
        refine ⟨_, rfl, ?_, HB.out.trans (HBR.out.mono HB.out.size)⟩
        rw [HLT0.out]
        exact ownsRow_base HE.out HB.out.size

end Go.Proofs.YtbppkklfjmpgiaaDoor
namespace Go.Proofs.YtbppkklfjmpgiaaDoor
open Go.RowKit
set_option linter.unusedVariables false

theorem addAll_len : ∀ (l acc : List ByteArray), (addAll acc l).length < acc.length + l.length ↔ ¬ (l.Nodup ∧ ∀ s ∈ l, s ∉ acc) := by
  intro l
  induction l with
  | nil => intro acc; simp [addAll]
  | cons s l ih =>
    intro acc
    show (addAll (addN acc s) l).length < _ ↔ _
    by_cases hs : s ∈ acc
    · rw [addN_twice acc s hs]
      have h := addAll_length l acc
      constructor
      · intro _ hn
        exact hn.2 s (by simp) hs
      · intro _
        simp only [List.length_cons]
        omega
    · have e : addN acc s = acc ++ [s] := by
        unfold addN
        rw [if_neg (fun e => hs ((inN_iff acc s).1 e))]
      have h := ih (acc ++ [s])
      rw [e]
      have hl : (acc ++ [s]).length + l.length = acc.length + (s :: l).length := by simp; omega
      rw [hl] at h
      rw [h]
      constructor
      · intro hn hc
        apply hn
        refine ⟨(List.nodup_cons.1 hc.1).2, fun x hx => ?_⟩
        simp only [List.mem_append, List.mem_singleton, not_or]
        exact ⟨hc.2 x (by simp [hx]), fun ex => (List.nodup_cons.1 hc.1).1 (ex ▸ hx)⟩
      · intro hn hc
        apply hn
        refine ⟨List.nodup_cons.2 ⟨fun hx => ?_, hc.1⟩, fun x hx => ?_⟩
        · have := hc.2 s hx
          simp at this
        · simp only [List.mem_cons] at hx
          rcases hx with rfl | hx
          · exact hs
          · have := hc.2 x hx
            simp only [List.mem_append, List.mem_singleton, not_or] at this
            exact this.1
theorem twice_iff (l : List ByteArray) : twice l = true ↔ ¬ l.Nodup := by
  have h := addAll_len l []
  simp only [List.length_nil, Nat.zero_add, List.not_mem_nil, not_false_eq_true, implies_true, and_true] at h
  unfold twice
  rw [decide_eq_true_iff]
  exact h
/-- What the document's Check answers. -/
def chkT (t : T) (nb : Bool) : Int := if formT t nb = true then (if 60 < t.nodes ∨ 12 < t.depth then 5 else if twice t.labs = true then 4 else 0) else 2
theorem nodup_take {l : List ByteArray} {i : Nat} {s : ByteArray} (h : (l.take i).Nodup) (hs : l[i]? = some s) (hn : ∀ b, b < i → l[b]? ≠ some s) : (l.take (i + 1)).Nodup := by
  rw [take_more _ _ _ hs, List.nodup_append]
  refine ⟨h, by simp, fun x hx y hy => ?_⟩
  simp at hy
  subst hy
  intro e
  subst e
  obtain ⟨b, hb, he⟩ := List.mem_iff_getElem.1 hx
  rw [List.length_take] at hb
  refine hn b (by omega) ?_
  rw [← he, List.getElem_take]
  exact List.getElem?_eq_getElem (by omega)
theorem nodup_get {l : List ByteArray} (h : l.Nodup) {i j : Nat} {s : ByteArray} (hi : l[i]? = some s) (hj : l[j]? = some s) : i = j := by
  obtain ⟨h1, e1⟩ := List.getElem?_eq_some_iff.1 hi
  obtain ⟨h2, e2⟩ := List.getElem?_eq_some_iff.1 hj
  exact (List.getElem_inj h).1 (e1.trans e2.symm)

set_option maxHeartbeats 4000000 in
set_option maxRecDepth 100000 in
theorem refCheck_any (t : T) (hsz : t.Sized) (hcnt : t.cnt ≤ 999990) (hnd : t.nodes ≤ 1000000) (nb : Bool) (w : World) (v : Value) (hv : TIn w 0 t v) : Calls Tryd.prog 14 #[v, .bool nb] w fun e w' => e = .returned (.int .i64 (chkT t nb)) ∧ Below w.heap.size w w' := by
  have HV := hidIn hv
  have hdn := T_depth_nodes t
  obtain ⟨a, cap, rfl, hc1, hc2, hK⟩ := hv
  have HSZ := hidIn hsz
  have HLN := hidIn (labs_cnt t)
  have HCN := hidIn hcnt
  obtain ⟨W, hW⟩ : ∃ W, W = w.alloc (.cells #[.int .i64 t.kind, .string t.s, .int .i64 t.n, .slice a t.k.length cap] 33) := ⟨_, rfl⟩
  have HB : Hid (Below w.heap.size w W) := by rw [hW]; exact below_alloc (Below.refl _ _) _
  have HBK : Hid (W.heap[w.heap.size]? = some (.cells #[.int .i64 t.kind, .string t.s, .int .i64 t.n, .slice a t.k.length cap] 33 (0, 0))) := by rw [hW]; exact heap_alloc_new _ _
  have HF : Hid (∀ X, Below W.heap.size W X → (X.cell? ⟨w.heap.size, 0, none⟩ = some (.int .i64 t.kind) ∧ X.cell? ⟨w.heap.size, 1, none⟩ = some (.string t.s) ∧ X.cell? ⟨w.heap.size, 2, none⟩ = some (.int .i64 t.n) ∧ X.cell? ⟨w.heap.size, 3, none⟩ = some (.slice a t.k.length cap)) ∧ TIn X 0 t (.agg #[.int .i64 t.kind, .string t.s, .int .i64 t.n, .slice a t.k.length cap])) := fun X hX => by
    have h := (hX.block _ (Array.getElem?_eq_some_iff.1 HBK.out).1).trans HBK.out
    exact ⟨⟨(cell_of_row _ _ _ _ _ _ h).trans rfl, (cell_of_row _ _ _ _ _ _ h).trans rfl, (cell_of_row _ _ _ _ _ _ h).trans rfl, (cell_of_row _ _ _ _ _ _ h).trans rfl⟩, (HV.out.below HB.out).below hX⟩
  clear hK hsz hcnt
  go_enter Tryd.func14, Tryd.ntmps14
  go_wp2_with fail
  rw [← hW]
  clear hW HBK HV
  refine (form_any t HSZ.out nb W _ (HF.out W (Below.refl _ _)).2).mono ?_
  rintro e w1 ⟨rfl, hb1⟩
  obtain ⟨⟨c0, c1, c2, c3⟩, t1⟩ := HF.out w1 hb1
  have HT1 := hidIn t1
  have HB1 := hidIn hb1
  clear t1 hb1
  cases hf : formT t nb
  · go_wp2_with fail
    go_ret
    exact ⟨by unfold chkT; rw [if_neg (by rw [hf]; simp)]; rfl, HB.out.trans (HB1.out.mono HB.out.size)⟩
  · have HC : Hid (chkT t nb = if 60 < t.nodes ∨ 12 < t.depth then 5 else if twice t.labs = true then 4 else 0) := by unfold Hid chkT; rw [if_pos hf]
    go_wp2_with fail
    refine (refSize_any t w1 _ HT1.out hnd).mono ?_
    rintro e w2 ⟨rfl, hb2⟩
    have hx2 := HB1.out.trans (hb2.mono HB1.out.size)
    have HX2 := hidIn hx2
    obtain ⟨⟨d0, d1, d2, d3⟩, t2⟩ := HF.out w2 hx2
    have HT2 := hidIn t2
    have HB2 := hidIn (HB.out.trans (hx2.mono HB.out.size))
    clear t2 hb2 hx2 c0 c1 c2 c3
    by_cases h1 : 60 < t.nodes
    · have h1' : (60 : Int) < (t.nodes : Int) := by omega
      go_wp2_with fail
      go_ret
      exact ⟨by rw [HC.out, if_pos (.inl h1)]; rfl, HB2.out⟩
    · have h1' : ¬ (60 : Int) < (t.nodes : Int) := by omega
      have h1d : decide ((60 : Int) < (t.nodes : Int)) = false := by simpa using h1'
      by_cases h2 : 12 < t.depth
      · have h2' : (12 : Int) < (t.depth : Int) := by omega
        go_wp2_with fail
        go_ret
        exact ⟨by rw [HC.out, if_pos (.inr h2)]; rfl, HB2.out⟩
      · have h2' : ¬ (12 : Int) < (t.depth : Int) := by omega
        have HC2 : Hid (chkT t nb = if twice t.labs = true then 4 else 0) := by unfold Hid; rw [HC.out, if_neg (by omega)]
        go_wp2_with fail
        refine (refLabels_any t HCN.out w2 _ HT2.out).mono ?_
        rintro e w3 ⟨v3, rfl, hrow3, hb3⟩
        have HB3 := hidIn (HB2.out.trans (hb3.mono HB2.out.size))
        obtain ⟨ao, lc, rfl, htx, hll, _⟩ := own_txt hrow3
        have HTX := hidIn htx
        have hlen : t.labs.length ≤ 1000000 := by have := HLN.out; have := HCN.out; omega
        clear hrow3 hb3 htx d0 d1 d2 d3 HC HT1 HT2 HX2 HB2
        generalize t.labs = l at *
        go_wp2_with fail
        go_loopw [29] (fun s29 wr => ∃ i : Nat, i ≤ l.length ∧ s29 = .int .i64 i ∧ Hid ((l.take i).Nodup) ∧ Below w3.heap.size w3 wr) (fun s29 _ => l.length - (intOf s29).toNat)
        case atStart => exact ⟨0, by omega, rfl, by unfold Hid; simp, Below.refl _ _⟩
        case round =>
          obtain ⟨i, hi, rfl, HN, hbr⟩ := hrel
          obtain ⟨wA, hwA⟩ : ∃ y, y = wr := ⟨_, rfl⟩
          subst hwA
          have HBA := hidIn hbr
          clear hbr
          by_cases hlt : i < l.length
          · have hlt' : (i : Int) < (l.length : Int) := by omega
            obtain ⟨s, hs⟩ : ∃ s, l[i]? = some s := ⟨_, List.getElem?_eq_getElem hlt⟩
            have HS := hidIn hs
            clear hs
            go_wp2_with fail
            go_loopw [9] (fun s9 wr => ∃ j : Nat, j ≤ i ∧ s9 = .int .i64 j ∧ Hid (∀ b, b < j → l[b]? ≠ some s) ∧ Below w3.heap.size w3 wr) (fun s9 _ => i - (intOf s9).toNat)
            case atStart => exact ⟨0, by omega, rfl, by intro b hb; omega, HBA.out⟩
            case round =>
              obtain ⟨j, hj, rfl, HJ, hbr⟩ := hrel
              by_cases hjl : j < i
              · have hjl' : (j : Int) < (i : Int) := by omega
                have hjl2 : (j : Int) < (l.length : Int) := by omega
                obtain ⟨y, hy⟩ : ∃ y, l[j]? = some y := ⟨_, List.getElem?_eq_getElem (by omega)⟩
                obtain ⟨g, rfl, k0⟩ := (HTX.out.below hbr) i s HS.out
                obtain ⟨g', eg, k1⟩ := (HTX.out.below hbr) j y hy
                have hgg : g' = g := by injection eg with eg; injection eg with eg; exact eg.symm
                subst hgg
                have HY := hidIn hy
                clear hy eg
                by_cases he : s = y
                · subst he
                  have HTW : Hid (twice l = true) := (twice_iff l).2 (fun hn => by have := nodup_get hn HS.out HY.out; omega)
                  go_wp2_with fail
                  go_quiet (fail)
                  go_wp2_with fail
                  go_ret
                  exact ⟨by rw [HC2.out, HTW.out]; rfl, HB3.out.trans ((below_drewN hbr _).mono HB3.out.size)⟩
                · have he' : ¬ s.toList = y.toList := fun e => he (toList_inj e)
                  have heb : (s.toList == y.toList) = false := by rw [beq_eq_false_iff_ne]; exact he'
                  go_wp2_with fail
                  go_quiet (fail)
                  go_wp2_with fail
                  go_roundw
                  case rel =>
                    refine ⟨j + 1, by omega, by go_num, fun b hb => ?_, below_drewN hbr _⟩
                    by_cases hbj : b = j
                    · subst hbj
                      rw [HY.out]
                      intro e
                      injection e with e
                      exact he e.symm
                    · exact HJ.out b (by omega)
                  case measure => simp [intOf]; omega
              · have hji : j = i := by omega
                subst hji
                have HN2 : Hid ((l.take (j + 1)).Nodup) := nodup_take HN.out HS.out HJ.out
                clear HJ HN hjl
                go_wp2_with fail
                go_roundw
                case rel => exact ⟨j + 1, by omega, by go_num, HN2, hbr⟩
                case measure => simp [intOf]; omega
          · have hle : i = l.length := by omega
            subst hle
            have HTW : Hid (twice l = false) := by
              have h := HN.out
              rw [List.take_length] at h
              show twice l = false
              cases ht : twice l
              · rfl
              · exact absurd h ((twice_iff l).1 ht)
            clear HN hlt
            go_wp2_with fail
            go_ret
            exact ⟨by rw [HC2.out, HTW.out]; rfl, HB3.out.trans (HBA.out.mono HB3.out.size)⟩

end Go.Proofs.YtbppkklfjmpgiaaDoor
namespace Go.Proofs.YtbppkklfjmpgiaaDoor
open Go.RowKit
set_option linter.unusedVariables false

theorem plain_labs (o : O) : (plain o).labs = [] := by
  induction o <;> simp_all [plain, T.labs, labsL]
theorem plain_cnt (o : O) : (plain o).cnt ≤ 2 * o.nodes + 1 := by
  induction o <;> simp only [plain, T.cnt, cntL, O.nodes] at * <;> omega
theorem plain_sized (o : O) (h : o.Ok) : (plain o).Sized := by
  have he : (⟨#[]⟩ : ByteArray).size ≤ 2147483648 := by decide
  induction o with
  | const n => simp only [plain, T.Sized, SizedL]; exact ⟨he, trivial⟩
  | fix s => simp only [plain, T.Sized, SizedL]; exact ⟨h, trivial⟩
  | odd v => simp only [plain, T.Sized, SizedL]; exact ⟨he, trivial⟩
  | neg o h1 => simp only [plain, T.Sized, SizedL]; exact ⟨he, h1 h, trivial⟩
  | add l r h1 h2 => simp only [plain, T.Sized, SizedL]; exact ⟨he, h1 h.1, h2 h.2, trivial⟩
  | mul l r h1 h2 => simp only [plain, T.Sized, SizedL]; exact ⟨he, h1 h.1, h2 h.2, trivial⟩
  | max l r h1 h2 => simp only [plain, T.Sized, SizedL]; exact ⟨he, h1 h.1, h2 h.2, trivial⟩
theorem plain_form (o : O) : formT (plain o) true = formB o := by
  induction o <;> simp_all [plain, formT, formTL, headOk, partB, formB]

end Go.Proofs.YtbppkklfjmpgiaaDoor
namespace Go.Proofs.YtbppkklfjmpgiaaDoor
open Go.RowKit
set_option linter.unusedVariables false

/-- How far a contract goes. -/
def rC : Nat → Nat
  | 0 => 40
  | d + 1 => 4 * rC d + 40
theorem rC_pos : ∀ d, 40 ≤ rC d
  | 0 => Nat.le_refl _
  | d + 1 => by have := rC_pos d; simp only [rC]; omega
theorem rC_le (d : Nat) (h : d ≤ 5) : rC d ≤ 60000 := by
  have : d = 0 ∨ d = 1 ∨ d = 2 ∨ d = 3 ∨ d = 4 ∨ d = 5 := by omega
  rcases this with rfl | rfl | rfl | rfl | rfl | rfl <;> decide
theorem reach_min (d : Nat) : reach (min d 2) ≤ 11 := by
  have : min d 2 = 0 ∨ min d 2 = 1 ∨ min d 2 = 2 := by omega
  rcases this with h | h | h <;> rw [h] <;> decide
theorem conO_reach (p : Pl) : ∀ d i left label, (conO p d i left label).2.1 ≤ i + rC d ∧ left - rC d ≤ (conO p d i left label).2.2.1 ∧ (conO p d i left label).2.2.1 ≤ left ∧ (conO p d i left label).2.2.2 ≤ label + rC d := by
  intro d
  induction d with
  | zero =>
    intro i left label
    unfold conO
    simp only [rC]
    split <;> simp only <;> omega
  | succ d ih =>
    intro i left label
    have hr := rC_pos d
    have h1 := ih (i + 1) (left - 1) label
    have h2 := ih (conO p d (i + 1) (left - 1) label).2.1 (conO p d (i + 1) (left - 1) label).2.2.1 (conO p d (i + 1) (left - 1) label).2.2.2
    have h3 := ih (i + 2) (left - 1) (label + 1)
    have h4 := ih (conO p d (i + 2) (left - 1) (label + 1)).2.1 (conO p d (i + 2) (left - 1) (label + 1)).2.2.1 (conO p d (i + 2) (left - 1) (label + 1)).2.2.2
    have h5 := ih (i + 2) (left - 1) label
    have ho := numO_reach p (min d 2) (i + 1) (left - 1)
    have hm := reach_min d
    have h6 := ih (numO p (min d 2) (i + 1) (left - 1)).2.1 (numO p (min d 2) (i + 1) (left - 1)).2.2 label
    have h7 := ih (conO p d (numO p (min d 2) (i + 1) (left - 1)).2.1 (numO p (min d 2) (i + 1) (left - 1)).2.2 label).2.1 (conO p d (numO p (min d 2) (i + 1) (left - 1)).2.1 (numO p (min d 2) (i + 1) (left - 1)).2.2 label).2.2.1 (conO p d (numO p (min d 2) (i + 1) (left - 1)).2.1 (numO p (min d 2) (i + 1) (left - 1)).2.2 label).2.2.2
    unfold conO
    simp only [rC]
    split
    · simp only; omega
    · split
      · simp only; omega
      · split
        · simp only; omega
        · split
          · simp only; omega
          · split
            · simp only; omega
            · split
              · simp only; omega
              · split
                · simp only; omega
                · simp only; omega

theorem mterm_any (w0 : World) (M : Nat) (p : Pl) : ∀ d, d ≤ 5 → LessC w0 M p d (rC d) := by
  intro d
  induction d with
  | zero =>
    intro _ w i left label h hi hl1 hl2 hlb
    have hk := kT_zero p i left
    simp only [rC] at hi hl1 hlb
    exact mterm_leaf w0 w M p 0 i left label h (by omega) (by omega) hl2 (by omega) hk _ rfl
  | succ d ih =>
    intro hd w i left label h hi hl1 hl2 hlb
    have hr := rC_pos d
    have hr2 := rC_le d (by omega)
    have ih' := ih (by omega)
    have hb1 := conO_reach p d
    simp only [rC] at hi hl1 hlb
    have hk := kT_lt p (d + 1) i left
    by_cases h2 : kT p (d + 1) i left ≤ 2
    · have := mterm_leaf w0 w M p (d + 1) i left label h (by omega) (by omega) hl2 (by omega) h2 _ rfl
      have e : conO p (d + 1) i left label = if kT p (d + 1) i left ≤ 1 then (.one (curOf p (i + 1)), i + 2, left - 1, label) else (.zero, i + 1, left - 1, label) := by
        rw [conO]
        split
        · rfl
        · rw [if_pos (by omega)]
      rw [e]
      exact this
    · by_cases h4 : kT p (d + 1) i left ≤ 4
      · exact mterm_give w0 w M p d i left label (rC d) ih' h (by omega) (by omega) (by omega) hl2 (by omega) (by omega) hb1 (by omega) _ rfl
      by_cases h6 : kT p (d + 1) i left ≤ 6
      · exact mterm_and w0 w M p d i left label (rC d) ih' h (by omega) (by omega) (by omega) hl2 (by omega) (by omega) hb1 (by omega) _ rfl
      by_cases h8 : kT p (d + 1) i left ≤ 8
      · exact mterm_or w0 w M p d i left label (rC d) ih' h (by omega) (by omega) (by omega) hl2 (by omega) (by omega) hb1 (by omega) _ rfl
      by_cases h10 : kT p (d + 1) i left ≤ 10
      · exact mterm_scale w0 w M p d i left label (rC d) ih' h (by omega) (by omega) (by omega) hl2 (by omega) (by omega) hb1 (by omega) _ rfl
      by_cases h11 : kT p (d + 1) i left = 11
      · exact mterm_when w0 w M p d i left label (rC d) ih' h (by omega) (by omega) (by omega) hl2 (by omega) (by omega) hb1 h11 _ rfl
      · exact mterm_iff w0 w M p d i left label (rC d) ih' h (by omega) (by omega) (by omega) hl2 (by omega) (by omega) hb1 (by omega) _ rfl

/-- A contract in which nothing is none. -/
def C.whole : C → Prop
  | .zero => True
  | .one s => s.size ≤ 2147483648
  | .give c => c.whole
  | .and l r => l.whole ∧ r.whole
  | .or s l r => s.size ≤ 2147483648 ∧ l.whole ∧ r.whole
  | .scale o c => o.whole ∧ c.whole
  | .when d c => (-9223372036854775808 ≤ d ∧ d ≤ 9223372036854775807) ∧ c.whole
  | .iff o l r => o.whole ∧ l.whole ∧ r.whole
  | .odd _ => False
theorem cwhole_ok (c : C) (h : c.whole) : c.Ok := by
  induction c with
  | zero => trivial
  | one s => exact h
  | give c h1 => exact h1 h
  | and l r h1 h2 => exact ⟨h1 h.1, h2 h.2⟩
  | or s l r h1 h2 => exact ⟨h.1, h1 h.2.1, h2 h.2.2⟩
  | scale o c h1 => exact ⟨whole_ok o h.1, h1 h.2⟩
  | when d c h1 => exact ⟨h.1, h1 h.2⟩
  | iff o l r h1 h2 => exact ⟨whole_ok o h.1, h1 h.2.1, h2 h.2.2⟩
  | odd v => exact absurd h id
theorem conO_whole (p : Pl) : ∀ d i left label, (conO p d i left label).1.whole ∧ (conO p d i left label).1.weight + 10 ≤ 20 * 2 ^ d := by
  have hn : ∀ d i left, (numO p (min d 2) i left).1.whole ∧ (numO p (min d 2) i left).1.nodes ≤ 7 := fun d i left => by
    have h := numO_whole p (min d 2) i left
    refine ⟨h.1, ?_⟩
    have h2 : 2 ^ (min d 2 + 1) ≤ 8 := by
      have : min d 2 = 0 ∨ min d 2 = 1 ∨ min d 2 = 2 := by omega
      rcases this with e | e | e <;> rw [e] <;> decide
    have := h.2.1
    omega
  intro d
  induction d with
  | zero =>
    intro i left label
    unfold conO
    split
    · exact ⟨by show (curOf p (i + 1)).size ≤ _; have := curOf_size p (i + 1); omega, by simp [C.weight]⟩
    · exact ⟨trivial, by simp [C.weight]⟩
  | succ d ih =>
    intro i left label
    have hp : 1 ≤ 2 ^ d := Nat.one_le_two_pow
    have hp2 : 2 ^ (d + 1) = 2 * 2 ^ d := by rw [Nat.pow_succ]; omega
    have h1 := ih (i + 1) (left - 1) label
    have h2 := ih (conO p d (i + 1) (left - 1) label).2.1 (conO p d (i + 1) (left - 1) label).2.2.1 (conO p d (i + 1) (left - 1) label).2.2.2
    have h3 := ih (i + 2) (left - 1) (label + 1)
    have h4 := ih (conO p d (i + 2) (left - 1) (label + 1)).2.1 (conO p d (i + 2) (left - 1) (label + 1)).2.2.1 (conO p d (i + 2) (left - 1) (label + 1)).2.2.2
    have h5 := ih (i + 2) (left - 1) label
    have ho := hn d (i + 1) (left - 1)
    have h6 := ih (numO p (min d 2) (i + 1) (left - 1)).2.1 (numO p (min d 2) (i + 1) (left - 1)).2.2 label
    have h7 := ih (conO p d (numO p (min d 2) (i + 1) (left - 1)).2.1 (numO p (min d 2) (i + 1) (left - 1)).2.2 label).2.1 (conO p d (numO p (min d 2) (i + 1) (left - 1)).2.1 (numO p (min d 2) (i + 1) (left - 1)).2.2 label).2.2.1 (conO p d (numO p (min d 2) (i + 1) (left - 1)).2.1 (numO p (min d 2) (i + 1) (left - 1)).2.2 label).2.2.2
    unfold conO
    rw [hp2]
    split
    · exact ⟨by show (curOf p (i + 1)).size ≤ _; have := curOf_size p (i + 1); omega, by simp only [C.weight]; omega⟩
    · split
      · exact ⟨trivial, by simp only [C.weight]; omega⟩
      · split
        · exact ⟨h1.1, by simp only [C.weight]; omega⟩
        · split
          · exact ⟨⟨h1.1, h2.1⟩, by simp only [C.weight]; omega⟩
          · split
            · refine ⟨⟨?_, h3.1, h4.1⟩, by simp only [C.weight]; omega⟩
              split
              · decide
              · have := chT_size (label + 1); omega
            · split
              · exact ⟨⟨ho.1, h6.1⟩, by simp only [C.weight]; omega⟩
              · split
                · exact ⟨⟨⟨by omega, by omega⟩, h5.1⟩, by simp only [C.weight]; omega⟩
                · exact ⟨⟨ho.1, h6.1, h7.1⟩, by simp only [C.weight]; omega⟩
/-- The contract of a plan. -/
def conP (p : Pl) : C := (conO p 5 0 24 0).1
theorem conP_whole (p : Pl) : (conP p).whole := (conO_whole p 5 0 24 0).1
theorem conP_weight (p : Pl) : (conP p).weight ≤ 630 := by have := (conO_whole p 5 0 24 0).2; simp at this; unfold conP; omega

set_option maxHeartbeats 1000000 in
set_option maxRecDepth 100000 in
theorem contract_any (p : Pl) (w : World) (h : PlanIn w p) : Calls Tryd.prog 13 #[planV p] w fun e w' => ∃ v, e = .returned v ∧ TIn w' w.heap.size (plainC (conP p)) v ∧ Below w.heap.size w w' := by
  unfold planV
  have HP : Hid (PlanIn w p) := h
  clear h
  go_enter Tryd.func13, Tryd.ntmps13
  go_wp2_with fail
  obtain ⟨W, hW⟩ : ∃ W, W = ((w.alloc (.cells #[.slice p.na p.nl p.nc, .slice p.wa p.wl p.wc] 25)).alloc (.cells #[.int .i64 0, .string ⟨#[]⟩, .int .i64 0, .slice none 0 0] 33)).alloc (.cells #[.slice p.na p.nl p.nc, .slice p.wa p.wl p.wc, .int .i64 0, .int .i64 24, .int .i64 0] 88) := ⟨_, rfl⟩
  have hWs : W.heap.size = w.heap.size + 3 := by rw [hW]; simp
  have HB : Hid (Below w.heap.size w W) := by rw [hW]; exact below_alloc (below_alloc (below_alloc (Below.refl _ _) _) _) _
  have HMI : Hid (MIn w W (w.heap.size + 1 + 1) p 0 24 (0 : Nat)) := by
    refine ⟨HP.out, by omega, HB.out, ?_⟩
    rw [hW]
    exact blk_new (by simp)
  have HZ : Hid (Blk W (w.heap.size + 1) 33 zeroT) := by
    rw [hW]
    exact (Below.heap_alloc _ _ _ (by simp)).trans (blk_new (by simp))
  rw [← hW]
  clear hW
  have hr5 := rC_le 5 (by omega)
  have HC := mterm_any w (w.heap.size + 1 + 1) p 5 (by omega) W 0 24 0 HMI.out (by omega) (by omega) (by omega) (by omega)
  refine HC.mono ?_
  rintro e w5 ⟨v, rfl, ht5, hm5, hg5⟩
  clear HC
  have ht5' := ht5
  obtain ⟨la, lc, rfl, _, _, _⟩ := ht5'
  have HZ5 : Hid (Blk w5 (w.heap.size + 1) 33 zeroT) := HZ.out.grew hg5 (by omega)
  obtain ⟨⟨z0, z1, z2, z3⟩, f0, f1, f2, f3⟩ := blk_zero HZ5.out
  have HB5 : Hid (Below w.heap.size w w5) := HB.out.trans (hg5.below (by omega) (by omega) (fun k hk => by cases hk))
  have HT5 : Hid (TIn w5 W.heap.size (plainC (conP p)) (.agg #[.int .i64 (plainC (conP p)).kind, .string (plainC (conP p)).s, .int .i64 (plainC (conP p)).n, .slice la (plainC (conP p)).k.length lc])) := ht5
  have HWS : Hid (W.heap.size = w.heap.size + 3) := hWs
  clear ht5 hm5 hg5 HZ HMI hWs HB
  rw [show (conO p 5 0 24 0).1 = conP p from rfl]
  go_wp2_with fail
  refine bodyPost_ret (results_cell_row rfl _ _ (w.heap.size + 1) 33 #[.int .i64 (plainC (conP p)).kind, .string (plainC (conP p)).s, .int .i64 (plainC (conP p)).n, .slice la (plainC (conP p)).k.length lc] (0, 0) _ rfl (set4_blk HZ5.out _ _ _ _) Tryd.underlying33 rfl infoT) rfl ?_
  have hs := HWS.out
  refine ⟨_, rfl, (HT5.out.set4 (R := w.heap.size + 1) (by omega) _ _ _ _).low (by omega), ?_⟩
  exact (((HB5.out.setCell (Nat.le_succ _) _).setCell (Nat.le_succ _) _).setCell (Nat.le_succ _) _).setCell (Nat.le_succ _) _

end Go.Proofs.YtbppkklfjmpgiaaDoor
namespace Go.Proofs.YtbppkklfjmpgiaaDoor
open Go.RowKit
set_option linter.unusedVariables false

theorem sc_plain (c : C) (h : c.Ok) : SC (plainC c) := by
  induction c with
  | zero => exact .leaf _ _ _ _ (by omega) (by decide)
  | one s => exact .leaf _ _ _ _ (by omega) h
  | give c h1 => exact .give _ _ _ (h1 h)
  | and l r h1 h2 => exact .and _ _ _ _ (h1 h.1) (h2 h.2)
  | or s l r h1 h2 => exact .or _ _ _ _ h.1 (h1 h.2.1) (h2 h.2.2)
  | scale o c h1 => exact .scale _ _ _ _ (shaped_plain o h.1) (h1 h.2)
  | when d c h1 => exact .when _ _ _ h.1 (h1 h.2)
  | iff o l r h1 h2 => exact .iff _ _ _ _ _ (shaped_plain o h.1) (h1 h.2.1) (h2 h.2.2)
  | odd v => exact .leaf _ _ _ _ (by omega) (by decide)
theorem termOf_whole (c : C) (h : c.whole) : termOf (plainC c) = c := by
  induction c with
  | zero => rfl
  | one s => rfl
  | give c h1 => show C.give (termOf (plainC c)) = _; rw [h1 h]
  | and l r h1 h2 => show C.and (termOf (plainC l)) (termOf (plainC r)) = _; rw [h1 h.1, h2 h.2]
  | or s l r h1 h2 => show C.or s (termOf (plainC l)) (termOf (plainC r)) = _; rw [h1 h.2.1, h2 h.2.2]
  | scale o c h1 => show C.scale (obsOf (plain o)) (termOf (plainC c)) = _; rw [obsOf_whole o h.1, h1 h.2]
  | when d c h1 => show C.when d (termOf (plainC c)) = _; rw [h1 h.2]
  | iff o l r h1 h2 => show C.iff (obsOf (plain o)) (termOf (plainC l)) (termOf (plainC r)) = _; rw [obsOf_whole o h.1, h1 h.2.1, h2 h.2.2]
  | odd v => exact absurd h id
theorem termP_any (c : C) (h : c.whole) (w : World) (v : Value) (B : Nat) (ht : TIn w B (plainC c) v) : Calls Tryd.prog 5 #[v] w fun e w' => e = .returned c.val ∧ Below w.heap.size w w' := by
  have := termT_any (sc_plain c (cwhole_ok c h)) w v (ht.low (Nat.zero_le _))
  rw [termOf_whole c h] at this
  exact this
theorem whole_sameC (c : C) (h : c.whole) : sameC c c = true := by
  induction c with
  | zero => rfl
  | one s => simp [sameC]
  | give c h1 => simp [sameC, h1 h]
  | and l r h1 h2 => simp [sameC, h1 h.1, h2 h.2]
  | or s l r h1 h2 => simp [sameC, h1 h.2.1, h2 h.2.2]
  | scale o c h1 => simp [sameC, whole_same o h.1, h1 h.2]
  | when d c h1 => simp [sameC, h1 h.2]
  | iff o l r h1 h2 => simp [sameC, whole_same o h.1, h1 h.2.1, h2 h.2.2]
  | odd v => exact absurd h id
theorem same_give (c : C) : sameC (.give c) c = false := by
  induction c with
  | give c ih => simp only [sameC]; exact ih
  | _ => rfl
theorem same_give' (c : C) : sameC c (.give c) = false := by
  induction c with
  | give c ih => simp only [sameC]; exact ih
  | _ => rfl
/-- A plan's contract, made by two calls in one statement: whatever the order. -/
theorem con_made {p : Pl} {W X : World} (hP : PlanIn W p) (hX : Below W.heap.size W X) : Calls Tryd.prog 13 #[.agg #[.slice p.na p.nl p.nc, .slice p.wa p.wl p.wc]] X (fun e w' => ∃ v, e = .returned v ∧ Below W.heap.size W w' ∧ TIn w' 0 (plainC (conP p)) v) :=
  (contract_any p X (hP.below hX)).mono (fun e w' ⟨v, he, ht, hb⟩ => ⟨v, he, hX.trans (hb.mono hX.size), ht.low (Nat.zero_le _)⟩)
theorem con_term {p : Pl} {W X : World} {v : Value} (hX : Below W.heap.size W X) (ht : TIn X 0 (plainC (conP p)) v) : Calls Tryd.prog 5 #[v] X (fun e w' => e = .returned (conP p).val ∧ Below W.heap.size W w') :=
  (termP_any (conP p) (conP_whole p) X v 0 ht).mono (fun e w' ⟨he, hb⟩ => ⟨he, hX.trans (hb.mono hX.size)⟩)

end Go.Proofs.YtbppkklfjmpgiaaDoor
namespace Go.Proofs.YtbppkklfjmpgiaaDoor
open Go.RowKit
set_option linter.unusedVariables false

theorem plainC_nodes (c : C) : (plainC c).nodes = c.nodes := by
  induction c with
  | scale o c ih => have := plain_nodes o; simp only [plainC, T.nodes, nodesL, C.nodes] at *; simp; omega
  | iff o l r h1 h2 => have := plain_nodes o; simp only [plainC, T.nodes, nodesL, C.nodes] at *; simp; omega
  | _ => simp_all [plainC, T.nodes, nodesL, C.nodes] <;> omega
theorem plainC_depth (c : C) : (plainC c).depth = c.depth := by
  induction c with
  | scale o c ih => have := plain_depth o; simp only [plainC, T.depth, depthL, C.depth] at *; simp; omega
  | iff o l r h1 h2 => have := plain_depth o; simp only [plainC, T.depth, depthL, C.depth] at *; simp; omega
  | _ => simp_all [plainC, T.depth, depthL, C.depth] <;> omega
theorem plainC_labs (c : C) : (plainC c).labs = c.labels := by
  induction c <;> simp_all [plainC, T.labs, labsL, C.labels, plain_labs]
theorem plainC_cnt (c : C) : (plainC c).cnt ≤ 3 * c.weight := by
  induction c with
  | scale o c ih => have := plain_cnt o; simp only [plainC, T.cnt, cntL, C.weight] at *; omega
  | iff o l r h1 h2 => have := plain_cnt o; simp only [plainC, T.cnt, cntL, C.weight] at *; omega
  | _ => simp only [plainC, T.cnt, cntL, C.weight] at * <;> omega
theorem plainC_sized (c : C) (h : c.Ok) : (plainC c).Sized := by
  have he : (⟨#[]⟩ : ByteArray).size ≤ 2147483648 := by decide
  induction c with
  | zero => simp only [plainC, T.Sized, SizedL]; exact ⟨he, trivial⟩
  | one s => simp only [plainC, T.Sized, SizedL]; exact ⟨h, trivial⟩
  | odd v => simp only [plainC, T.Sized, SizedL]; exact ⟨he, trivial⟩
  | give c h1 => simp only [plainC, T.Sized, SizedL]; exact ⟨he, h1 h, trivial⟩
  | and l r h1 h2 => simp only [plainC, T.Sized, SizedL]; exact ⟨he, h1 h.1, h2 h.2, trivial⟩
  | or s l r h1 h2 => simp only [plainC, T.Sized, SizedL]; exact ⟨h.1, h1 h.2.1, h2 h.2.2, trivial⟩
  | scale o c h1 => simp only [plainC, T.Sized, SizedL]; exact ⟨he, plain_sized o h.1, h1 h.2, trivial⟩
  | when d c h1 => simp only [plainC, T.Sized, SizedL]; exact ⟨he, h1 h.2, trivial⟩
  | iff o l r h1 h2 => simp only [plainC, T.Sized, SizedL]; exact ⟨he, plain_sized o h.1, h1 h.2.1, h2 h.2.2, trivial⟩
theorem plainC_form (c : C) : formT (plainC c) false = formC c := by
  induction c <;> simp_all [plainC, formT, formTL, headOk, partB, formC, plain_form, Bool.and_assoc]
theorem plainC_chk (c : C) : chkT (plainC c) false = chkC c := by
  unfold chkT chkC
  rw [plainC_form, plainC_nodes, plainC_depth, plainC_labs]
theorem refCheckC_any (c : C) (hok : c.Ok) (hw : c.weight ≤ 300000) (w : World) (v : Value) (B : Nat) (ht : TIn w B (plainC c) v) : Calls Tryd.prog 14 #[v, .bool false] w fun e w' => e = .returned (.int .i64 (chkC c)) ∧ Below w.heap.size w w' := by
  have h := refCheck_any (plainC c) (plainC_sized c hok) (by have := plainC_cnt c; omega) (by rw [plainC_nodes]; have := weight_nodes c; omega) false w v (ht.low (Nat.zero_le _))
  rw [plainC_chk] at h
  exact h
/-- The right contract of a plan. -/
def rightP (p : Pl) : C := if chkC (conP p) = 0 then conP p else .one ⟨#[117, 115, 100]⟩
theorem rightP_whole (p : Pl) : (rightP p).whole := by
  unfold rightP
  split
  · exact conP_whole p
  · show (⟨#[117, 115, 100]⟩ : ByteArray).size ≤ _
    decide
theorem rightP_weight (p : Pl) : (rightP p).weight ≤ 630 := by
  unfold rightP
  split
  · exact conP_weight p
  · simp [C.weight]

set_option maxHeartbeats 1000000 in
set_option maxRecDepth 100000 in
theorem right_any (p : Pl) (w : World) (h : PlanIn w p) : Calls Tryd.prog 6 #[planV p] w fun e w' => ∃ v, e = .returned v ∧ TIn w' w.heap.size (plainC (rightP p)) v ∧ Below w.heap.size w w' := by
  unfold planV
  have HP := hidIn h
  have HOK := hidIn (cwhole_ok _ (conP_whole p))
  have HWT := hidIn (conP_weight p)
  have HRP : Hid (rightP p = if chkC (conP p) = 0 then conP p else .one ⟨#[117, 115, 100]⟩) := rfl
  clear h
  go_enter Tryd.func6, Tryd.ntmps6
  go_wp2_with fail
  obtain ⟨W, hW⟩ : ∃ W, W = (w.alloc (.cells #[.slice p.na p.nl p.nc, .slice p.wa p.wl p.wc] 25)).alloc (.cells #[.int .i64 0, .string ⟨#[]⟩, .int .i64 0, .slice none 0 0] 33) := ⟨_, rfl⟩
  have hWs : W.heap.size = w.heap.size + 2 := by rw [hW]; simp
  have HB : Hid (Below w.heap.size w W) := by rw [hW]; exact below_alloc (below_alloc (Below.refl _ _) _) _
  have HZ : Hid (Blk W (w.heap.size + 1) 33 zeroT) := by rw [hW]; exact blk_new (by simp)
  have HPW := hidIn (HP.out.below HB.out)
  have HWS := hidIn hWs
  rw [← hW]
  clear hW hWs
  refine (contract_any p W HPW.out).mono ?_
  rintro e w1 ⟨v, rfl, ht1, hb1⟩
  have ht1' := ht1
  obtain ⟨ka, kc, rfl, _, _, _⟩ := ht1'
  have HT1 := hidIn ht1
  have HB1 := hidIn hb1
  clear ht1 hb1
  generalize hC : conP p = c at *
  clear hC
  go_wp2_with fail
  obtain ⟨w2, hw2⟩ : ∃ w2, w2 = w1.alloc (.cells (four (plainC c) ka kc) 33) := ⟨_, rfl⟩
  have HB2 : Hid (Below W.heap.size W w2) := by rw [hw2]; exact below_alloc HB1.out _
  have HT2 : Hid (TIn w2 W.heap.size (plainC c) (.agg (four (plainC c) ka kc))) := by rw [hw2]; exact HT1.out.below (below_alloc (Below.refl _ _) _)
  have HK2 : Hid (Blk w2 w1.heap.size 33 (four (plainC c) ka kc)) := by rw [hw2]; exact blk_new rfl
  unfold four at hw2
  rw [← hw2]
  clear hw2 HT1
  refine (refCheckC_any c HOK.out (by have := HWT.out; omega) w2 _ _ HT2.out).mono ?_
  rintro e w3 ⟨rfl, hb3⟩
  have HB3 := hidIn (HB2.out.trans (hb3.mono HB2.out.size))
  have HT3 := hidIn (HT2.out.below hb3)
  have hk3 : Blk w3 w1.heap.size 33 (four (plainC c) ka kc) := HK2.out.below hb3 HK2.out.lt
  obtain ⟨q0, q1, q2, q3⟩ := four_cells hk3
  have HZ3 : Hid (Blk w3 (w.heap.size + 1) 33 zeroT) := HZ.out.below HB3.out HZ.out.lt
  obtain ⟨⟨z0, z1, z2, z3⟩, f0, f1, f2, f3⟩ := blk_zero HZ3.out
  have hne : ¬ w.heap.size + 1 = w1.heap.size := by have := HWS.out; have := HB1.out.size; omega
  have HBE : Hid (Below w.heap.size w w3) := HB.out.trans (HB3.out.mono HB.out.size)
  clear hb3 hk3 HK2 HT2
  by_cases h0 : chkC c = 0
  · have h0' : (chkC c == 0) = true := by simp [h0]
    have HR : Hid (rightP p = c) := by unfold Hid; rw [HRP.out, if_pos h0]
    rw [h0]
    clear h0
    go_wp2_with fail
    refine bodyPost_ret (results_cell_row rfl _ _ (w.heap.size + 1) 33 #[.int .i64 (plainC c).kind, .string (plainC c).s, .int .i64 (plainC c).n, .slice ka (plainC c).k.length kc] (0, 0) _ rfl (set4_blk HZ3.out _ _ _ _) Tryd.underlying33 rfl infoT) rfl ?_
    refine ⟨_, rfl, ?_, (((HBE.out.setCell (Nat.le_succ _) _).setCell (Nat.le_succ _) _).setCell (Nat.le_succ _) _).setCell (Nat.le_succ _) _⟩
    rw [HR.out]
    exact (HT3.out.set4 (R := w.heap.size + 1) (by have := HWS.out; omega) _ _ _ _).low (by have := HWS.out; omega)
  · have h0' : (chkC c == 0) = false := by rw [beq_eq_false_iff_ne]; exact h0
    have HR : Hid (rightP p = .one ⟨#[117, 115, 100]⟩) := by unfold Hid; rw [HRP.out, if_neg h0]
    go_wp2_with fail
    refine bodyPost_ret (results_cell_row rfl _ _ (w.heap.size + 1) 33 #[.int .i64 2, .string ⟨#[117, 115, 100]⟩, .int .i64 0, .slice none 0 0] (0, 0) _ rfl (set4_blk HZ3.out _ _ _ _) Tryd.underlying33 rfl infoT) rfl ?_
    refine ⟨_, rfl, ?_, (((HBE.out.setCell (Nat.le_succ _) _).setCell (Nat.le_succ _) _).setCell (Nat.le_succ _) _).setCell (Nat.le_succ _) _⟩
    rw [HR.out]
    exact tin_leaf _ _ _ _ _

end Go.Proofs.YtbppkklfjmpgiaaDoor
namespace Go.Proofs.YtbppkklfjmpgiaaDoor
open Go.RowKit
set_option linter.unusedVariables false

/-- Numbers and names as a plan makes them: short. -/
def O.tidy : O → Prop
  | .const n => (numT n).size ≤ 14
  | .fix s => s.size ≤ 14
  | .add l r => l.tidy ∧ r.tidy
  | .neg o => o.tidy
  | .mul l r => l.tidy ∧ r.tidy
  | .max l r => l.tidy ∧ r.tidy
  | .odd _ => False
def C.tidy : C → Prop
  | .zero => True
  | .one s => s.size ≤ 14
  | .give c => c.tidy
  | .and l r => l.tidy ∧ r.tidy
  | .or s l r => s.size ≤ 4 ∧ l.tidy ∧ r.tidy
  | .scale o c => o.tidy ∧ c.tidy
  | .when d c => (numT d).size ≤ 1 ∧ c.tidy
  | .iff o l r => o.tidy ∧ l.tidy ∧ r.tidy
  | .odd _ => False
theorem tidyO_size (o : O) (h : o.tidy) : 3 * (textO o).size ≤ 44 * o.nodes + 13 := by
  induction o with
  | const n => have h' : (numT n).size ≤ 14 := h; simp only [textO, O.nodes]; omega
  | fix s => have h' : s.size ≤ 14 := h; simp only [textO, O.nodes]; rw [joinT_size, joinL1]; have e : (ByteArray.mk #[102, 105, 120]).size = 3 := rfl; omega
  | add l r h1 h2 => have a := h1 h.1; have b := h2 h.2; simp only [textO, O.nodes]; rw [joinT_size, joinL2]; have e : (ByteArray.mk #[97, 100, 100]).size = 3 := rfl; omega
  | neg o h1 => have a := h1 h; simp only [textO, O.nodes]; rw [joinT_size, joinL1]; have e : (ByteArray.mk #[110, 101, 103]).size = 3 := rfl; omega
  | mul l r h1 h2 => have a := h1 h.1; have b := h2 h.2; simp only [textO, O.nodes]; rw [joinT_size, joinL2]; have e : (ByteArray.mk #[109, 117, 108]).size = 3 := rfl; omega
  | max l r h1 h2 => have a := h1 h.1; have b := h2 h.2; simp only [textO, O.nodes]; rw [joinT_size, joinL2]; have e : (ByteArray.mk #[109, 97, 120]).size = 3 := rfl; omega
  | odd v => exact absurd h id
theorem tidyC_size (c : C) (h : c.tidy) : 3 * (textC c).size ≤ 44 * c.nodes + 13 := by
  induction c with
  | zero => simp only [textC, C.nodes]; have e : (ByteArray.mk #[122, 101, 114, 111]).size = 4 := rfl; omega
  | one s => have h' : s.size ≤ 14 := h; simp only [textC, C.nodes]; rw [joinT_size, joinL1]; have e : (ByteArray.mk #[111, 110, 101]).size = 3 := rfl; omega
  | give c h1 => have a := h1 h; simp only [textC, C.nodes]; rw [joinT_size, joinL1]; have e : (ByteArray.mk #[103, 105, 118, 101]).size = 4 := rfl; omega
  | and l r h1 h2 => have a := h1 h.1; have b := h2 h.2; simp only [textC, C.nodes]; rw [joinT_size, joinL2]; have e : (ByteArray.mk #[97, 110, 100]).size = 3 := rfl; omega
  | or s l r h1 h2 => have h' : s.size ≤ 4 := h.1; have a := h1 h.2.1; have b := h2 h.2.2; simp only [textC, C.nodes]; rw [joinT_size, joinL3]; have e : (ByteArray.mk #[111, 114]).size = 2 := rfl; omega
  | scale o c h1 => have a := tidyO_size o h.1; have b := h1 h.2; simp only [textC, C.nodes]; rw [joinT_size, joinL2]; have e : (ByteArray.mk #[115, 99, 97, 108, 101]).size = 5 := rfl; omega
  | when d c h1 => have h' : (numT d).size ≤ 1 := h.1; have b := h1 h.2; simp only [textC, C.nodes]; rw [joinT_size, joinL2]; have e : (ByteArray.mk #[119, 104, 101, 110]).size = 4 := rfl; omega
  | iff o l r h1 h2 => have a := tidyO_size o h.1; have b := h1 h.2.1; have c := h2 h.2.2; simp only [textC, C.nodes]; rw [joinT_size, joinL3]; have e : (ByteArray.mk #[105, 102]).size = 2 := rfl; omega
  | odd v => exact absurd h id
theorem tab_tidy0 : ∀ k, k < 10 → (numT (tabN k)).size ≤ 14 := by decide +kernel
theorem tab_tidy (k : Nat) : (numT (tabN k)).size ≤ 14 := by
  by_cases h : k < 10
  · exact tab_tidy0 k h
  · have e : tabN k = 0 := by
      unfold tabN tabL
      rw [List.getD, List.getElem?_eq_none (by simp; omega)]
      rfl
    rw [e]
    decide +kernel
theorem day_tidy0 : ∀ k : Nat, k < 8 → (numT (k : Int)).size ≤ 1 := by decide +kernel
theorem day_tidy (n : Int) : (numT (n % 8)).size ≤ 1 := by
  have h := day_tidy0 (n % 8).toNat (by omega)
  rw [Int.toNat_of_nonneg (by omega)] at h
  exact h
theorem ch_tidy0 : ∀ k, k < 100 → (chT k).size ≤ 4 := by decide +kernel
theorem numO_tidy (p : Pl) : ∀ d i left, (numO p d i left).1.tidy := by
  intro d
  induction d with
  | zero =>
    intro i left
    unfold numO
    split
    · exact tab_tidy _
    · exact wordOf_size p (i + 1)
  | succ d ih =>
    intro i left
    have h1 := ih (i + 1) (left - 1)
    have h2 := ih (numO p d (i + 1) (left - 1)).2.1 (numO p d (i + 1) (left - 1)).2.2
    unfold numO
    split
    · exact tab_tidy _
    · split
      · exact wordOf_size p (i + 1)
      · split
        · exact h1
        · simp only
          split
          · exact ⟨h1, h2⟩
          · split
            · exact ⟨h1, h2⟩
            · exact ⟨h1, h2⟩
theorem conO_tidy (p : Pl) : ∀ d i left label, label + 2 ^ d ≤ 100 → (conO p d i left label).1.tidy ∧ (conO p d i left label).2.2.2 + 1 ≤ label + 2 ^ d := by
  intro d
  induction d with
  | zero =>
    intro i left label hl
    unfold conO
    split
    · exact ⟨curOf_size p (i + 1), by simp⟩
    · exact ⟨trivial, by simp⟩
  | succ d ih =>
    intro i left label hl
    have hp : 1 ≤ 2 ^ d := Nat.one_le_two_pow
    have hp2 : 2 ^ (d + 1) = 2 * 2 ^ d := by rw [Nat.pow_succ]; omega
    rw [hp2] at hl
    have h1 := ih (i + 1) (left - 1) label (by omega)
    have h2 := ih (conO p d (i + 1) (left - 1) label).2.1 (conO p d (i + 1) (left - 1) label).2.2.1 (conO p d (i + 1) (left - 1) label).2.2.2 (by omega)
    have h3 := ih (i + 2) (left - 1) (label + 1) (by omega)
    have h4 := ih (conO p d (i + 2) (left - 1) (label + 1)).2.1 (conO p d (i + 2) (left - 1) (label + 1)).2.2.1 (conO p d (i + 2) (left - 1) (label + 1)).2.2.2 (by omega)
    have h5 := ih (i + 2) (left - 1) label (by omega)
    have ho := numO_tidy p (min d 2) (i + 1) (left - 1)
    have h6 := ih (numO p (min d 2) (i + 1) (left - 1)).2.1 (numO p (min d 2) (i + 1) (left - 1)).2.2 label (by omega)
    have h7 := ih (conO p d (numO p (min d 2) (i + 1) (left - 1)).2.1 (numO p (min d 2) (i + 1) (left - 1)).2.2 label).2.1 (conO p d (numO p (min d 2) (i + 1) (left - 1)).2.1 (numO p (min d 2) (i + 1) (left - 1)).2.2 label).2.2.1 (conO p d (numO p (min d 2) (i + 1) (left - 1)).2.1 (numO p (min d 2) (i + 1) (left - 1)).2.2 label).2.2.2 (by omega)
    unfold conO
    rw [hp2]
    split
    · exact ⟨curOf_size p (i + 1), by simp only; omega⟩
    · split
      · exact ⟨trivial, by simp only; omega⟩
      · split
        · exact ⟨h1.1, by simp only; omega⟩
        · split
          · exact ⟨⟨h1.1, h2.1⟩, by simp only; omega⟩
          · split
            · refine ⟨⟨?_, h3.1, h4.1⟩, by simp only; omega⟩
              split
              · decide
              · exact ch_tidy0 (label + 1) (by omega)
            · split
              · exact ⟨⟨ho, h6.1⟩, by simp only; omega⟩
              · split
                · exact ⟨⟨day_tidy _, h5.1⟩, by simp only; omega⟩
                · exact ⟨⟨ho, h6.1, h7.1⟩, by simp only; omega⟩
theorem rightP_fine (p : Pl) : chkC (rightP p) = 0 ∧ (textC (rightP p)).size ≤ 884 := by
  unfold rightP
  split
  · rename_i h
    refine ⟨h, ?_⟩
    have h1 := tidyC_size _ (conO_tidy p 5 0 24 0 (by decide)).1
    have h2 := (chkC_zero h).2.1
    unfold conP at h2 ⊢
    omega
  · exact ⟨by decide +kernel, by decide +kernel⟩

end Go.Proofs.YtbppkklfjmpgiaaDoor
namespace Go.Proofs.YtbppkklfjmpgiaaDoor
open Go.RowKit
set_option linter.unusedVariables false

theorem wake7 : rdT ⟨#[103, 105, 118, 101, 40, 32, 122, 101, 114, 111, 32, 41]⟩ = (.give .zero, 0, 0) := by kernel_rfl
set_option maxHeartbeats 1000000 in
set_option maxRecDepth 100000 in
theorem wakes7_any (w : World) : Calls Tryd.prog 7 #[] w fun e w' => e = .returned (.bool true) ∧ Below w.heap.size w w' := by
  have HK := hidIn (readT_any ⟨#[103, 105, 118, 101, 40, 32, 122, 101, 114, 111, 32, 41]⟩ w (by decide))
  rw [wake7] at HK
  go_enter Tryd.func7, Tryd.ntmps7
  go_wp2_with fail
  refine HK.out.mono ?_
  rintro e w1 ⟨rfl, _, hb1⟩
  have HB1 := hidIn hb1
  clear hb1
  have hv : (C.give .zero).val = .iface 47 (.agg #[.iface 43 (.agg #[])]) := rfl
  simp only [hv]
  have hy : ∀ xT w, (Instr.typeAssert (.iface 47 (.agg #[.iface 43 (.agg #[])])) xT 47 true).run Tryd.prog w = _ := fun xT w => assert_yes Tryd.underlying47 (by intro m h; cases h) _ xT w
  go_wp2_with fail
  go_ret
  exact ⟨rfl, below_alloc HB1.out _⟩

end Go.Proofs.YtbppkklfjmpgiaaDoor
