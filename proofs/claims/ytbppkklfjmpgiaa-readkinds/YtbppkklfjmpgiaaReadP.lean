/- What a reader reads as a number, as a contract. -/
import Derived.Test.YtbppkklfjmpgiaaReadM
namespace Go.Proofs.Ytbppkklfjmpgiaa
open Go.RowKit
set_option linter.unusedVariables false

def lpB : ByteArray := ⟨#[40]⟩
def rpB : ByteArray := ⟨#[41]⟩
def cmB : ByteArray := ⟨#[44]⟩
def wFix : ByteArray := ⟨#[102, 105, 120]⟩
def wAdd : ByteArray := ⟨#[97, 100, 100]⟩
def wNeg : ByteArray := ⟨#[110, 101, 103]⟩
def wMul : ByteArray := ⟨#[109, 117, 108]⟩
def wMax : ByteArray := ⟨#[109, 97, 120]⟩
def wZero : ByteArray := ⟨#[122, 101, 114, 111]⟩
def wOne : ByteArray := ⟨#[111, 110, 101]⟩
def wGive : ByteArray := ⟨#[103, 105, 118, 101]⟩
def wAnd : ByteArray := ⟨#[97, 110, 100]⟩
def wOr : ByteArray := ⟨#[111, 114]⟩
def wScale : ByteArray := ⟨#[115, 99, 97, 108, 101]⟩
def wWhen : ByteArray := ⟨#[119, 104, 101, 110]⟩
def wIf : ByteArray := ⟨#[105, 102]⟩
/-- Two numbers between brackets. -/
def twoF (rec : RS → O × RS) (r : RS) : O × O × RS :=
  ((rec (markR r lpB)).1, (rec (markR (rec (markR r lpB)).2 cmB)).1, markR (rec (markR (rec (markR r lpB)).2 cmB)).2 rpB)
/-- What is read as a number, and the reader behind it. -/
def obsR : Nat → RS → Nat → O × RS
  | 0, r, _ => (.const 0, r)
  | f + 1, r, d =>
    if (takeS r).1 = wFix then (.fix (takeS (markR (firstR r d) lpB)).1, markR (nameR (markR (firstR r d) lpB)) rpB)
    else if (takeS r).1 = wAdd then (.add (twoF (fun q => obsR f q (d + 1)) (firstR r d)).1 (twoF (fun q => obsR f q (d + 1)) (firstR r d)).2.1, (twoF (fun q => obsR f q (d + 1)) (firstR r d)).2.2)
    else if (takeS r).1 = wNeg then (.neg (obsR f (markR (firstR r d) lpB) (d + 1)).1, markR (obsR f (markR (firstR r d) lpB) (d + 1)).2 rpB)
    else if (takeS r).1 = wMul then (.mul (twoF (fun q => obsR f q (d + 1)) (firstR r d)).1 (twoF (fun q => obsR f q (d + 1)) (firstR r d)).2.1, (twoF (fun q => obsR f q (d + 1)) (firstR r d)).2.2)
    else if (takeS r).1 = wMax then (.max (twoF (fun q => obsR f q (d + 1)) (firstR r d)).1 (twoF (fun q => obsR f q (d + 1)) (firstR r d)).2.1, (twoF (fun q => obsR f q (d + 1)) (firstR r d)).2.2)
    else (.const (Rn.numOf (takeS r).1.data.toList).1, fitR (firstR r d) (takeS r) (Rn.numOf (takeS r).1.data.toList).2)
def lastF (rec : RS → C × RS) (r : RS) : C × RS := ((rec r).1, markR (rec r).2 rpB)
def lastsF (rec : RS → C × RS) (r : RS) : C × C × RS := ((rec r).1, (lastF rec (markR (rec r).2 cmB)).1, (lastF rec (markR (rec r).2 cmB)).2)
/-- What is read as a contract, and the reader behind it. -/
def termR : Nat → RS → Nat → C × RS
  | 0, r, _ => (.odd .nilIface, r)
  | f + 1, r, d =>
    if (takeS r).1 = wZero then (.zero, firstR r d)
    else if (takeS r).1 = wOne then (.one (takeS (markR (firstR r d) lpB)).1, markR (nameR (markR (firstR r d) lpB)) rpB)
    else if (takeS r).1 = wGive then (.give (lastF (fun q => termR f q (d + 1)) (markR (firstR r d) lpB)).1, (lastF (fun q => termR f q (d + 1)) (markR (firstR r d) lpB)).2)
    else if (takeS r).1 = wAnd then (.and (lastsF (fun q => termR f q (d + 1)) (markR (firstR r d) lpB)).1 (lastsF (fun q => termR f q (d + 1)) (markR (firstR r d) lpB)).2.1, (lastsF (fun q => termR f q (d + 1)) (markR (firstR r d) lpB)).2.2)
    else if (takeS r).1 = wOr then (.or (takeS (markR (firstR r d) lpB)).1 (lastsF (fun q => termR f q (d + 1)) (markR (nameR (markR (firstR r d) lpB)) cmB)).1 (lastsF (fun q => termR f q (d + 1)) (markR (nameR (markR (firstR r d) lpB)) cmB)).2.1, (lastsF (fun q => termR f q (d + 1)) (markR (nameR (markR (firstR r d) lpB)) cmB)).2.2)
    else if (takeS r).1 = wScale then (.scale (obsR f (markR (firstR r d) lpB) (d + 1)).1 (lastF (fun q => termR f q (d + 1)) (markR (obsR f (markR (firstR r d) lpB) (d + 1)).2 cmB)).1, (lastF (fun q => termR f q (d + 1)) (markR (obsR f (markR (firstR r d) lpB) (d + 1)).2 cmB)).2)
    else if (takeS r).1 = wWhen then (.when (dayV (markR (firstR r d) lpB)) (lastF (fun q => termR f q (d + 1)) (markR (dayR (markR (firstR r d) lpB)) cmB)).1, (lastF (fun q => termR f q (d + 1)) (markR (dayR (markR (firstR r d) lpB)) cmB)).2)
    else if (takeS r).1 = wIf then (.iff (obsR f (markR (firstR r d) lpB) (d + 1)).1 (lastsF (fun q => termR f q (d + 1)) (markR (obsR f (markR (firstR r d) lpB) (d + 1)).2 cmB)).1 (lastsF (fun q => termR f q (d + 1)) (markR (obsR f (markR (firstR r d) lpB) (d + 1)).2 cmB)).2.1, (lastsF (fun q => termR f q (d + 1)) (markR (obsR f (markR (firstR r d) lpB) (d + 1)).2 cmB)).2.2)
    else (.odd .nilIface, fitR (firstR r d) (takeS r) false)
theorem takeR_e (r : RS) : (takeR r).e = r.e := by unfold takeR; split <;> rfl
theorem refuseR_e (r : RS) (p e : Int) (h : r.e ≠ 0) : (refuseR r p e).e ≠ 0 := by unfold refuseR; rw [if_neg h]; exact h
theorem fitR_e (r : RS) (s : Rn.Sg) (ok : Bool) (h : r.e ≠ 0) : (fitR r s ok).e ≠ 0 := by
  unfold fitR; split
  · exact h
  · exact refuseR_e r _ _ h
theorem markR_e (r : RS) (t : ByteArray) (h : r.e ≠ 0) : (markR r t).e ≠ 0 := fitR_e _ _ _ (by rw [takeR_e]; exact h)
theorem nameR_e (r : RS) (h : r.e ≠ 0) : (nameR r).e ≠ 0 := fitR_e _ _ _ (by rw [takeR_e]; exact h)
theorem dayR_e (r : RS) (h : r.e ≠ 0) : (dayR r).e ≠ 0 := fitR_e _ _ _ (by rw [takeR_e]; exact h)
theorem firstR_e (r : RS) (d : Nat) (h : r.e ≠ 0) : (firstR r d).e ≠ 0 := by
  unfold firstR; split
  · exact refuseR_e _ _ _ (by rw [takeR_e]; exact h)
  · rw [takeR_e]; exact h
theorem firstR_deep (r : RS) (d : Nat) (h : 12 < d) : (firstR r d).e ≠ 0 := by
  unfold firstR
  rw [if_pos h]
  unfold refuseR
  split
  · show (5 : Int) ≠ 0; decide
  · assumption
theorem twoF_e (rec : RS → O × RS) (hr : ∀ q, q.e ≠ 0 → (rec q).2.e ≠ 0) (r : RS) (h : r.e ≠ 0) : (twoF rec r).2.2.e ≠ 0 :=
  markR_e _ _ (hr _ (markR_e _ _ (hr _ (markR_e _ _ h))))
theorem lastF_e (rec : RS → C × RS) (hr : ∀ q, q.e ≠ 0 → (rec q).2.e ≠ 0) (r : RS) (h : r.e ≠ 0) : (lastF rec r).2.e ≠ 0 := markR_e _ _ (hr _ h)
theorem lastsF_e (rec : RS → C × RS) (hr : ∀ q, q.e ≠ 0 → (rec q).2.e ≠ 0) (r : RS) (h : r.e ≠ 0) : (lastsF rec r).2.2.e ≠ 0 := lastF_e rec hr _ (markR_e _ _ (hr _ h))
theorem obsR_e (f : Nat) : ∀ r d, r.e ≠ 0 → (obsR f r d).2.e ≠ 0 := by
  induction f with
  | zero => intro r d h; exact h
  | succ f ih =>
    intro r d h
    have h1 := firstR_e r d h
    have ih' : ∀ q, q.e ≠ 0 → ((fun q => obsR f q (d + 1)) q).2.e ≠ 0 := fun q hq => ih q (d + 1) hq
    unfold obsR
    repeat' split
    · exact markR_e _ _ (nameR_e _ (markR_e _ _ h1))
    · exact twoF_e _ ih' _ h1
    · exact markR_e _ _ (ih _ _ (markR_e _ _ h1))
    · exact twoF_e _ ih' _ h1
    · exact twoF_e _ ih' _ h1
    · exact fitR_e _ _ _ h1
theorem takeS_none (r : RS) (h : r.e ≠ 0) : takeS r = (⟨#[]⟩, r.past) := by unfold takeS noS; rw [if_neg h]

/-- What is known of the call that reads a number so deep. -/
def ObsC (f d : Nat) : Prop := ∀ (r : RS) (w : World) (R : Nat), (14 ≤ d → r.e ≠ 0) → RIn w R r →
  Calls Try.prog 30 #[.pointer (some ⟨R, 0, none⟩), .int .i64 (d : Int)] w fun e w' => e = .returned (obsR f r d).1.val ∧ (obsR f r d).1.Ok ∧ RIn w' R (obsR f r d).2 ∧ Grew R none w w'
def TermC (f d : Nat) : Prop := ∀ (r : RS) (w : World) (R : Nat), (14 ≤ d → r.e ≠ 0) → RIn w R r →
  Calls Try.prog 22 #[.pointer (some ⟨R, 0, none⟩), .int .i64 (d : Int)] w fun e w' => e = .returned (termR f r d).1.val ∧ (termR f r d).1.Ok ∧ RIn w' R (termR f r d).2 ∧ Grew R none w w'

set_option maxHeartbeats 1000000 in
set_option maxRecDepth 100000 in
theorem two_any (f d : Nat) (hd : d ≤ 100) (hI : ObsC f (d + 1)) (r : RS) (w : World) (R : Nat) (he : 13 ≤ d → r.e ≠ 0) (h : RIn w R r) :
    Calls Try.prog 62 #[.pointer (some ⟨R, 0, none⟩), .int .i64 (d : Int)] w fun e w' => e = .returned (.tuple #[(twoF (fun q => obsR f q (d + 1)) r).1.val, (twoF (fun q => obsR f q (d + 1)) r).2.1.val]) ∧ (twoF (fun q => obsR f q (d + 1)) r).1.Ok ∧ (twoF (fun q => obsR f q (d + 1)) r).2.1.Ok ∧ RIn w' R (twoF (fun q => obsR f q (d + 1)) r).2.2 ∧ Grew R none w w' := by
  have HI : Hid (∀ (r : RS) (w : World) (R : Nat), (13 ≤ d → r.e ≠ 0) → RIn w R r → Calls Try.prog 30 #[.pointer (some ⟨R, 0, none⟩), .int .i64 ((d : Int) + 1)] w fun e w' => e = .returned (obsR f r (d + 1)).1.val ∧ (obsR f r (d + 1)).1.Ok ∧ RIn w' R (obsR f r (d + 1)).2 ∧ Grew R none w w') := fun r w R hr hR => hI r w R (fun hd => hr (by omega)) hR
  have HH := hidIn h
  have HE0 := hidIn he
  clear h hI he
  unfold twoF
  go_enter Try.func62, Try.ntmps62
  go_wp2_with fail
  refine (mark_any w R r lpB HH.out).mono ?_
  rintro e w1 ⟨rfl, h1, hg1⟩
  have HR1 := hidIn h1
  have HG1 := hidIn hg1
  have HE1 : Hid (13 ≤ d → (markR r lpB).e ≠ 0) := fun hd => markR_e _ _ (HE0.out hd)
  clear h1 hg1
  go_wp2_with fail
  refine (HI.out _ w1 R HE1.out HR1.out).mono ?_
  rintro e w2 ⟨rfl, hok2, h2, hg2⟩
  have HR2 := hidIn h2
  have HO2 := hidIn hok2
  have HG2 := hidIn (HG1.out.tr hg2)
  have HE2 : Hid (13 ≤ d → (obsR f (markR r lpB) (d + 1)).2.e ≠ 0) := fun hd => obsR_e _ _ _ (HE1.out hd)
  clear h2 hg2 hok2
  go_wp2_with fail
  refine (mark_any w2 R _ cmB HR2.out).mono ?_
  rintro e w3 ⟨rfl, h3, hg3⟩
  have HR3 := hidIn h3
  have HG3 := hidIn (HG2.out.tr hg3)
  have HE3 : Hid (13 ≤ d → (markR (obsR f (markR r lpB) (d + 1)).2 cmB).e ≠ 0) := fun hd => markR_e _ _ (HE2.out hd)
  clear h3 hg3
  go_wp2_with fail
  refine (HI.out _ w3 R HE3.out HR3.out).mono ?_
  rintro e w4 ⟨rfl, hok4, h4, hg4⟩
  have HR4 := hidIn h4
  have HO4 := hidIn hok4
  have HG4 := hidIn (HG3.out.tr hg4)
  clear h4 hg4 hok4
  go_wp2_with fail
  refine (mark_any w4 R _ rpB HR4.out).mono ?_
  rintro e w5 ⟨rfl, h5, hg5⟩
  have HR5 := hidIn h5
  have HG5 := hidIn (HG4.out.tr hg5)
  clear h5 hg5
  go_wp2_with fail
  go_ret2
  exact ⟨rfl, HO2.out, HO4.out, HR5.out, HG5.out⟩
theorem tl_eq {a b : ByteArray} {l : List UInt8} (hb : b.toList = l) : (a.toList == l) = decide (a = b) := by
  subst hb
  by_cases h : a = b
  · subst h; simp
  · rw [decide_eq_false h]; exact beq_eq_false_iff_ne.2 (fun e => h (toList_inj e))
theorem tlFix : wFix.toList = [102, 105, 120] := by decide +kernel
theorem tlAdd : wAdd.toList = [97, 100, 100] := by decide +kernel
theorem tlNeg : wNeg.toList = [110, 101, 103] := by decide +kernel
theorem tlMul : wMul.toList = [109, 117, 108] := by decide +kernel
theorem tlMax : wMax.toList = [109, 97, 120] := by decide +kernel
theorem tlZero : wZero.toList = [122, 101, 114, 111] := by decide +kernel
theorem tlOne : wOne.toList = [111, 110, 101] := by decide +kernel
theorem tlGive : wGive.toList = [103, 105, 118, 101] := by decide +kernel
theorem tlAnd : wAnd.toList = [97, 110, 100] := by decide +kernel
theorem tlOr : wOr.toList = [111, 114] := by decide +kernel
theorem tlScale : wScale.toList = [115, 99, 97, 108, 101] := by decide +kernel
theorem tlWhen : wWhen.toList = [119, 104, 101, 110] := by decide +kernel
theorem tlIf : wIf.toList = [105, 102] := by decide +kernel
theorem numOf_bd (l : List UInt8) : -9223372036854775808 ≤ (Rn.numOf l).1 ∧ (Rn.numOf l).1 ≤ 9223372036854775807 := by
  cases l with
  | nil => rw [Rn.numOf_nil]; decide
  | cons a t =>
    by_cases h : a = 45
    · subst h
      rw [Rn.numOf_neg]
      have := Rn.natOf_bd t
      split
      · constructor <;> simp only <;> omega
      · constructor <;> simp only <;> omega
    · rw [Rn.numOf_pos _ (by simpa using h)]
      have := Rn.natOf_bd (a :: t)
      omega
theorem ba_ne {a b : ByteArray} (h : ¬ a = b) : ¬ a.toList = b.toList := fun e => h (toList_inj e)
theorem ba_nb {a b : ByteArray} (h : ¬ a = b) : (a.toList == b.toList) = false := beq_eq_false_iff_ne.2 (ba_ne h)

set_option maxHeartbeats 4000000 in
set_option maxRecDepth 100000 in
theorem obs_step (f d : Nat) (hdf : d + (f + 1) = 15) (hI : ObsC f (d + 1)) (r : RS) (w : World) (R : Nat) (he : 14 ≤ d → r.e ≠ 0) (h : RIn w R r) :
    Calls Try.prog 30 #[.pointer (some ⟨R, 0, none⟩), .int .i64 (d : Int)] w fun e w' => e = .returned (obsR (f + 1) r d).1.val ∧ (obsR (f + 1) r d).1.Ok ∧ RIn w' R (obsR (f + 1) r d).2 ∧ Grew R none w w' := by
  have HI : Hid (∀ (r : RS) (w : World) (R : Nat), (13 ≤ d → r.e ≠ 0) → RIn w R r → Calls Try.prog 30 #[.pointer (some ⟨R, 0, none⟩), .int .i64 ((d : Int) + 1)] w fun e w' => e = .returned (obsR f r (d + 1)).1.val ∧ (obsR f r (d + 1)).1.Ok ∧ RIn w' R (obsR f r (d + 1)).2 ∧ Grew R none w w') := fun r w R hr hR => hI r w R (fun hd => hr (by omega)) hR
  have H2 := hidIn (two_any f d (by omega) hI)
  clear hI
  have HH := hidIn h
  have HLT0 := hidIn h.lt
  have HSZ := hidIn (takeS_size h)
  have HDD : Hid (d + (f + 1) = 15) := hdf
  have HER := hidIn he
  clear h he
  go_enter Try.func30, Try.ntmps30
  go_wp2_with fail
  refine (first_any w R r d (by omega) HH.out).mono ?_
  rintro e w1 ⟨rfl, h1, hg1⟩
  have HR1 := hidIn h1
  have HG1 := hidIn hg1
  have HE1 : Hid (13 ≤ d → (firstR r d).e ≠ 0) := fun hd => firstR_deep r d (by omega)
  clear h1 hg1
  obtain ⟨s, hse⟩ : ∃ s, takeS r = s := ⟨_, rfl⟩
  have HSE := hidIn hse
  rw [hse] at HSZ
  rw [hse]
  clear hse
  unfold sgV
  go_upto_region 3 with fail
  obtain ⟨W, hW⟩ : ∃ W, W = w1.alloc (.cells #[.string s.1, .int .i64 s.2] 119) := ⟨_, rfl⟩
  have HBL : Hid (Below w1.heap.size w1 W) := by rw [hW]; exact below_alloc (Below.refl _ _) _
  have HBK : Hid (Blk W w1.heap.size 119 #[.string s.1, .int .i64 s.2]) := by rw [hW]; exact blk_new rfl
  have HR0 := hidIn (HR1.out.below HBL.out)
  have HG0 : Hid (Grew R none w W) := HG1.out.tr (Grew.of_below HBL.out)
  have c0 : W.cell? ⟨w1.heap.size, 0, none⟩ = some (.string s.1) := HBK.out.cell 0
  have c1 : W.cell? ⟨w1.heap.size, 1, none⟩ = some (.int .i64 s.2) := HBK.out.cell 1
  rw [← hW]
  clear hW HR1 HG1
  obtain ⟨r1, hr1⟩ : ∃ r1, firstR r d = r1 := ⟨_, rfl⟩
  rw [hr1] at HR0 HE1
  have HRR := hidIn hr1
  clear hr1

  by_cases k0 : s.1 = wFix
  · have HT : Hid (obsR (f + 1) r d = (.fix (takeS (markR r1 lpB)).1, markR (nameR (markR r1 lpB)) rpB)) := by show _ = _; rw [obsR, HSE.out, HRR.out, if_pos k0]
    have y : (s.1.toList == [102, 105, 120]) = true := by rw [tl_eq tlFix]; exact decide_eq_true k0
    clear k0
    go_wp2_with fail
    refine (mark_any W R r1 lpB HR0.out).mono ?_
    rintro e v1 ⟨rfl, h, hg⟩
    have HR1 := hidIn h
    have HG1 := hidIn (HG0.out.tr hg)
    clear h hg
    have HNS := hidIn (takeS_size HR1.out)
    go_wp2_with fail
    refine (rname_any _ R _ HR1.out).mono ?_
    rintro e v2 ⟨rfl, h, hg⟩
    have HR2 := hidIn h
    have HG2 := hidIn (HG1.out.tr hg)
    clear h hg
    go_wp2_with fail
    refine (mark_any _ R _ rpB HR2.out).mono ?_
    rintro e v3 ⟨rfl, h, hg⟩
    have HR3 := hidIn h
    have HG3 := hidIn (HG2.out.tr hg)
    clear h hg
    go_wp2_with fail
    go_ret
    rw [HT.out]
    exact ⟨rfl, HNS.out, HR3.out, HG3.out⟩
  by_cases k1 : s.1 = wAdd
  · have HT : Hid (obsR (f + 1) r d = (.add (twoF (fun q => obsR f q (d + 1)) r1).1 (twoF (fun q => obsR f q (d + 1)) r1).2.1, (twoF (fun q => obsR f q (d + 1)) r1).2.2)) := by show _ = _; rw [obsR, HSE.out, HRR.out, if_neg k0, if_pos k1]
    have n0 : (s.1.toList == [102, 105, 120]) = false := by rw [tl_eq tlFix]; exact decide_eq_false k0
    have y : (s.1.toList == [97, 100, 100]) = true := by rw [tl_eq tlAdd]; exact decide_eq_true k1
    clear k0 k1
    go_wp2_with fail
    refine (H2.out r1 W R HE1.out HR0.out).mono ?_
    rintro e v1 ⟨rfl, ho, ho2, h, hg⟩
    have HO1 := hidIn ho
    have HP1 := hidIn ho2
    clear ho ho2
    have HR1 := hidIn h
    have HG1 := hidIn (HG0.out.tr hg)
    clear h hg
    obtain ⟨xa, hxa⟩ : ∃ v, (twoF (fun q => obsR f q (d + 1)) r1).1.val = v := ⟨_, rfl⟩
    have HXa := hidIn hxa
    have qa := (twoF (fun q => obsR f q (d + 1)) r1).1.one' HO1.out
    rw [hxa] at qa
    rw [hxa]
    clear hxa
    have sva := qa.store
    have cva := qa.cells
    have mva := qa.cells
    unfold Value.cells at mva
    clear qa
    obtain ⟨xb, hxb⟩ : ∃ v, (twoF (fun q => obsR f q (d + 1)) r1).2.1.val = v := ⟨_, rfl⟩
    have HXb := hidIn hxb
    have qb := (twoF (fun q => obsR f q (d + 1)) r1).2.1.one' HP1.out
    rw [hxb] at qb
    rw [hxb]
    clear hxb
    have svb := qb.store
    have cvb := qb.cells
    have mvb := qb.cells
    unfold Value.cells at mvb
    clear qb
    go_wp2_with fail
    go_ret
    rw [HT.out]
    exact ⟨by show _ = Ending.returned (.iface _ (.agg #[O.val _, O.val _])); rw [HXa.out, HXb.out]; rfl, ⟨HO1.out, HP1.out⟩, HR1.out, HG1.out⟩
  by_cases k2 : s.1 = wNeg
  · have HT : Hid (obsR (f + 1) r d = (.neg (obsR f (markR r1 lpB) (d + 1)).1, markR (obsR f (markR r1 lpB) (d + 1)).2 rpB)) := by show _ = _; rw [obsR, HSE.out, HRR.out, if_neg k0, if_neg k1, if_pos k2]
    have n0 : (s.1.toList == [102, 105, 120]) = false := by rw [tl_eq tlFix]; exact decide_eq_false k0
    have n1 : (s.1.toList == [97, 100, 100]) = false := by rw [tl_eq tlAdd]; exact decide_eq_false k1
    have y : (s.1.toList == [110, 101, 103]) = true := by rw [tl_eq tlNeg]; exact decide_eq_true k2
    clear k0 k1 k2
    go_wp2_with fail
    refine (mark_any W R r1 lpB HR0.out).mono ?_
    rintro e v1 ⟨rfl, h, hg⟩
    have HR1 := hidIn h
    have HG1 := hidIn (HG0.out.tr hg)
    clear h hg
    go_wp2_with fail
    refine (HI.out _ _ R (fun hd => markR_e _ _ (HE1.out hd)) HR1.out).mono ?_
    rintro e v2 ⟨rfl, ho, h, hg⟩
    have HO2 := hidIn ho
    clear ho
    have HR2 := hidIn h
    have HG2 := hidIn (HG1.out.tr hg)
    clear h hg
    obtain ⟨xa, hxa⟩ : ∃ v, (obsR f (markR r1 lpB) (d + 1)).1.val = v := ⟨_, rfl⟩
    have HXa := hidIn hxa
    have qa := (obsR f (markR r1 lpB) (d + 1)).1.one' HO2.out
    rw [hxa] at qa
    rw [hxa]
    clear hxa
    have sva := qa.store
    have cva := qa.cells
    have mva := qa.cells
    unfold Value.cells at mva
    clear qa
    go_wp2_with fail
    refine (mark_any _ R _ rpB HR2.out).mono ?_
    rintro e v3 ⟨rfl, h, hg⟩
    have HR3 := hidIn h
    have HG3 := hidIn (HG2.out.tr hg)
    clear h hg
    go_wp2_with fail
    go_ret
    rw [HT.out]
    exact ⟨by show _ = Ending.returned (.iface _ (.agg #[O.val _])); rw [HXa.out]; rfl, HO2.out, HR3.out, HG3.out⟩
  by_cases k3 : s.1 = wMul
  · have HT : Hid (obsR (f + 1) r d = (.mul (twoF (fun q => obsR f q (d + 1)) r1).1 (twoF (fun q => obsR f q (d + 1)) r1).2.1, (twoF (fun q => obsR f q (d + 1)) r1).2.2)) := by show _ = _; rw [obsR, HSE.out, HRR.out, if_neg k0, if_neg k1, if_neg k2, if_pos k3]
    have n0 : (s.1.toList == [102, 105, 120]) = false := by rw [tl_eq tlFix]; exact decide_eq_false k0
    have n1 : (s.1.toList == [97, 100, 100]) = false := by rw [tl_eq tlAdd]; exact decide_eq_false k1
    have n2 : (s.1.toList == [110, 101, 103]) = false := by rw [tl_eq tlNeg]; exact decide_eq_false k2
    have y : (s.1.toList == [109, 117, 108]) = true := by rw [tl_eq tlMul]; exact decide_eq_true k3
    clear k0 k1 k2 k3
    go_wp2_with fail
    refine (H2.out r1 W R HE1.out HR0.out).mono ?_
    rintro e v1 ⟨rfl, ho, ho2, h, hg⟩
    have HO1 := hidIn ho
    have HP1 := hidIn ho2
    clear ho ho2
    have HR1 := hidIn h
    have HG1 := hidIn (HG0.out.tr hg)
    clear h hg
    obtain ⟨xa, hxa⟩ : ∃ v, (twoF (fun q => obsR f q (d + 1)) r1).1.val = v := ⟨_, rfl⟩
    have HXa := hidIn hxa
    have qa := (twoF (fun q => obsR f q (d + 1)) r1).1.one' HO1.out
    rw [hxa] at qa
    rw [hxa]
    clear hxa
    have sva := qa.store
    have cva := qa.cells
    have mva := qa.cells
    unfold Value.cells at mva
    clear qa
    obtain ⟨xb, hxb⟩ : ∃ v, (twoF (fun q => obsR f q (d + 1)) r1).2.1.val = v := ⟨_, rfl⟩
    have HXb := hidIn hxb
    have qb := (twoF (fun q => obsR f q (d + 1)) r1).2.1.one' HP1.out
    rw [hxb] at qb
    rw [hxb]
    clear hxb
    have svb := qb.store
    have cvb := qb.cells
    have mvb := qb.cells
    unfold Value.cells at mvb
    clear qb
    go_wp2_with fail
    go_ret
    rw [HT.out]
    exact ⟨by show _ = Ending.returned (.iface _ (.agg #[O.val _, O.val _])); rw [HXa.out, HXb.out]; rfl, ⟨HO1.out, HP1.out⟩, HR1.out, HG1.out⟩
  by_cases k4 : s.1 = wMax
  · have HT : Hid (obsR (f + 1) r d = (.max (twoF (fun q => obsR f q (d + 1)) r1).1 (twoF (fun q => obsR f q (d + 1)) r1).2.1, (twoF (fun q => obsR f q (d + 1)) r1).2.2)) := by show _ = _; rw [obsR, HSE.out, HRR.out, if_neg k0, if_neg k1, if_neg k2, if_neg k3, if_pos k4]
    have n0 : (s.1.toList == [102, 105, 120]) = false := by rw [tl_eq tlFix]; exact decide_eq_false k0
    have n1 : (s.1.toList == [97, 100, 100]) = false := by rw [tl_eq tlAdd]; exact decide_eq_false k1
    have n2 : (s.1.toList == [110, 101, 103]) = false := by rw [tl_eq tlNeg]; exact decide_eq_false k2
    have n3 : (s.1.toList == [109, 117, 108]) = false := by rw [tl_eq tlMul]; exact decide_eq_false k3
    have y : (s.1.toList == [109, 97, 120]) = true := by rw [tl_eq tlMax]; exact decide_eq_true k4
    clear k0 k1 k2 k3 k4
    go_wp2_with fail
    refine (H2.out r1 W R HE1.out HR0.out).mono ?_
    rintro e v1 ⟨rfl, ho, ho2, h, hg⟩
    have HO1 := hidIn ho
    have HP1 := hidIn ho2
    clear ho ho2
    have HR1 := hidIn h
    have HG1 := hidIn (HG0.out.tr hg)
    clear h hg
    obtain ⟨xa, hxa⟩ : ∃ v, (twoF (fun q => obsR f q (d + 1)) r1).1.val = v := ⟨_, rfl⟩
    have HXa := hidIn hxa
    have qa := (twoF (fun q => obsR f q (d + 1)) r1).1.one' HO1.out
    rw [hxa] at qa
    rw [hxa]
    clear hxa
    have sva := qa.store
    have cva := qa.cells
    have mva := qa.cells
    unfold Value.cells at mva
    clear qa
    obtain ⟨xb, hxb⟩ : ∃ v, (twoF (fun q => obsR f q (d + 1)) r1).2.1.val = v := ⟨_, rfl⟩
    have HXb := hidIn hxb
    have qb := (twoF (fun q => obsR f q (d + 1)) r1).2.1.one' HP1.out
    rw [hxb] at qb
    rw [hxb]
    clear hxb
    have svb := qb.store
    have cvb := qb.cells
    have mvb := qb.cells
    unfold Value.cells at mvb
    clear qb
    go_wp2_with fail
    go_ret
    rw [HT.out]
    exact ⟨by show _ = Ending.returned (.iface _ (.agg #[O.val _, O.val _])); rw [HXa.out, HXb.out]; rfl, ⟨HO1.out, HP1.out⟩, HR1.out, HG1.out⟩
  have HT : Hid (obsR (f + 1) r d = (.const (Rn.numOf s.1.data.toList).1, fitR r1 s (Rn.numOf s.1.data.toList).2)) := by show _ = _; rw [obsR, HSE.out, HRR.out, if_neg k0, if_neg k1, if_neg k2, if_neg k3, if_neg k4]
  have n0 : (s.1.toList == [102, 105, 120]) = false := by rw [tl_eq tlFix]; exact decide_eq_false k0
  have n1 : (s.1.toList == [97, 100, 100]) = false := by rw [tl_eq tlAdd]; exact decide_eq_false k1
  have n2 : (s.1.toList == [110, 101, 103]) = false := by rw [tl_eq tlNeg]; exact decide_eq_false k2
  have n3 : (s.1.toList == [109, 117, 108]) = false := by rw [tl_eq tlMul]; exact decide_eq_false k3
  have n4 : (s.1.toList == [109, 97, 120]) = false := by rw [tl_eq tlMax]; exact decide_eq_false k4
  clear k0 k1 k2 k3 k4
  go_wp2_with fail
  refine (Rn.number_any s.1 W (by have := HSZ.out; unfold maxLen; omega)).mono ?_
  rintro e w2 ⟨rfl, hb2⟩
  have hk := HBK.out.below hb2 HBK.out.lt
  have d0 : w2.cell? ⟨w1.heap.size, 0, none⟩ = some (.string s.1) := hk.cell 0
  have d1 : w2.cell? ⟨w1.heap.size, 1, none⟩ = some (.int .i64 s.2) := hk.cell 1
  have HR1 := hidIn (HR0.out.below hb2)
  have HG1 := hidIn (HG0.out.tr (Grew.of_below hb2))
  have HNB := hidIn (numOf_bd s.1.data.toList)
  clear hb2 hk c0 c1
  go_wp2_with fail
  refine (fit_any _ R r1 s _ HR1.out).mono ?_
  rintro e v2 ⟨rfl, h, hg⟩
  have HR2 := hidIn h
  have HG2 := hidIn (HG1.out.tr hg)
  clear h hg
  go_wp2_with fail
  go_ret
  rw [HT.out]
  exact ⟨rfl, HNB.out, HR2.out, HG2.out⟩
theorem dead_first (r : RS) (d : Nat) (h : r.e ≠ 0) : firstR r d = r := by
  have h1 : takeR r = r := by unfold takeR; rw [if_neg h]
  unfold firstR
  rw [h1]
  split
  · unfold refuseR; rw [if_neg h]
  · rfl
theorem dead_fit (r : RS) (s : Rn.Sg) (h : r.e ≠ 0) : fitR r s false = r := by
  unfold fitR refuseR
  rw [if_neg (by decide), if_neg h]
set_option maxHeartbeats 4000000 in
set_option maxRecDepth 100000 in
theorem obs_dead (d : Nat) (hd : d ≤ 15) (r : RS) (w : World) (R : Nat) (he : r.e ≠ 0) (h : RIn w R r) :
    Calls Try.prog 30 #[.pointer (some ⟨R, 0, none⟩), .int .i64 (d : Int)] w fun e w' => e = .returned (O.const 0).val ∧ RIn w' R r ∧ Grew R none w w' := by
  have hdf : d + (0 + 1) ≤ 16 := by omega
  have HDE : Hid (takeS r = (⟨#[]⟩, r.past) ∧ firstR r d = r ∧ ∀ s, fitR r s false = r) := ⟨takeS_none r he, dead_first r d he, fun s => dead_fit r s he⟩
  clear he
  have HH := hidIn h
  have HLT0 := hidIn h.lt
  have HSZ := hidIn (takeS_size h)
  clear h
  go_enter Try.func30, Try.ntmps30
  go_wp2_with fail
  refine (first_any w R r d (by omega) HH.out).mono ?_
  rintro e w1 ⟨rfl, h1, hg1⟩
  have HR1 := hidIn h1
  have HG1 := hidIn hg1
  clear h1 hg1
  obtain ⟨s, hse⟩ : ∃ s, takeS r = s := ⟨_, rfl⟩
  have HSE := hidIn hse
  rw [hse] at HSZ
  rw [hse]
  clear hse
  unfold sgV
  go_upto_region 3 with fail
  obtain ⟨W, hW⟩ : ∃ W, W = w1.alloc (.cells #[.string s.1, .int .i64 s.2] 119) := ⟨_, rfl⟩
  have HBL : Hid (Below w1.heap.size w1 W) := by rw [hW]; exact below_alloc (Below.refl _ _) _
  have HBK : Hid (Blk W w1.heap.size 119 #[.string s.1, .int .i64 s.2]) := by rw [hW]; exact blk_new rfl
  have HR0 := hidIn (HR1.out.below HBL.out)
  have HG0 : Hid (Grew R none w W) := HG1.out.tr (Grew.of_below HBL.out)
  have c0 : W.cell? ⟨w1.heap.size, 0, none⟩ = some (.string s.1) := HBK.out.cell 0
  have c1 : W.cell? ⟨w1.heap.size, 1, none⟩ = some (.int .i64 s.2) := HBK.out.cell 1
  rw [← hW]
  clear hW HR1 HG1
  obtain ⟨r1, hr1⟩ : ∃ r1, firstR r d = r1 := ⟨_, rfl⟩
  rw [hr1] at HR0
  have HRR := hidIn hr1
  clear hr1
  have hs0 : s = (⟨#[]⟩, r.past) := HSE.out.symm.trans HDE.out.1
  have hrr : r1 = r := HRR.out.symm.trans HDE.out.2.1
  have n0 : (s.1.toList == [102, 105, 120]) = false := by rw [tl_eq tlFix, hs0]; show decide ((⟨#[]⟩ : ByteArray) = wFix) = false; decide
  have n1 : (s.1.toList == [97, 100, 100]) = false := by rw [tl_eq tlAdd, hs0]; show decide ((⟨#[]⟩ : ByteArray) = wAdd) = false; decide
  have n2 : (s.1.toList == [110, 101, 103]) = false := by rw [tl_eq tlNeg, hs0]; show decide ((⟨#[]⟩ : ByteArray) = wNeg) = false; decide
  have n3 : (s.1.toList == [109, 117, 108]) = false := by rw [tl_eq tlMul, hs0]; show decide ((⟨#[]⟩ : ByteArray) = wMul) = false; decide
  have n4 : (s.1.toList == [109, 97, 120]) = false := by rw [tl_eq tlMax, hs0]; show decide ((⟨#[]⟩ : ByteArray) = wMax) = false; decide
  have HS0 := hidIn hs0
  have HR9 := hidIn hrr
  clear hs0 hrr
  go_wp2_with fail
  refine (Rn.number_any s.1 W (by have := HSZ.out; unfold maxLen; omega)).mono ?_
  rintro e w2 ⟨rfl, hb2⟩
  have hk := HBK.out.below hb2 HBK.out.lt
  have d0 : w2.cell? ⟨w1.heap.size, 0, none⟩ = some (.string s.1) := hk.cell 0
  have d1 : w2.cell? ⟨w1.heap.size, 1, none⟩ = some (.int .i64 s.2) := hk.cell 1
  have HR1 := hidIn (HR0.out.below hb2)
  have HG1 := hidIn (HG0.out.tr (Grew.of_below hb2))
  clear hb2 hk c0 c1
  have hn0 : Rn.numOf s.1.data.toList = (0, false) := by rw [HS0.out]; rfl
  rw [hn0]
  clear hn0
  go_wp2_with fail
  refine (fit_any _ R r1 s _ HR1.out).mono ?_
  rintro e v2 ⟨rfl, h, hg⟩
  have HR2 := hidIn h
  have HG2 := hidIn (HG1.out.tr hg)
  clear h hg
  go_wp2_with fail
  go_ret
  have h2 := HR2.out
  rw [HR9.out, HDE.out.2.2] at h2
  exact ⟨rfl, h2, HG2.out⟩
theorem obs_all : ∀ f d, d + f = 15 → ObsC f d := by
  intro f
  induction f with
  | zero =>
    intro d hd r w R he h
    refine (obs_dead d (by omega) r w R (he (by omega)) h).mono ?_
    rintro e w' ⟨rfl, h1, h2⟩
    exact ⟨rfl, by show _ ∧ _; decide, h1, h2⟩
  | succ f ih =>
    intro d hd r w R he h
    exact obs_step f d hd (ih (d + 1) (by omega)) r w R he h

end Go.Proofs.Ytbppkklfjmpgiaa
