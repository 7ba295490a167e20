/- The document's own reader: the next sign, a sign that must be, a name, a number. -/
import Derived.Test.YthhjcpmnekibnaaRt1
import Derived.Test.YthhjcpmnekibnaaObs
import Derived.Lib.Join
import Derived.Lib.ItoaLen
import Derived.Test.YthhjcpmnekibnaaMakerC0
import Derived.Laws.AppendOwnNone
import Derived.Test.YthhjcpmnekibnaaRefT
import Derived.Test.YthhjcpmnekibnaaFormT
import Derived.Test.YthhjcpmnekibnaaObsT
import Derived.Test.YthhjcpmnekibnaaTermV
import Derived.Test.YthhjcpmnekibnaaSize
import Derived.Test.YthhjcpmnekibnaaTermSize
import Derived.Test.YthhjcpmnekibnaaBase
import Derived.Maps.Own
import Derived.Maps.OwnOps
import Derived.Maps.OwnSet
import Derived.DeepKeys4
import Derived.Maps.AppendAt
namespace Go.Proofs.Ythhjcpmnekibnaa
open Go.RowKit
set_option linter.unusedVariables false

theorem bel_n (w : World) (n : Nat) : Below w.heap.size w (w.drewN n) := by
  have h := Below.refl w.heap.size w
  exact ⟨h.os, h.tape, h.output, h.size, h.block⟩
theorem bel_nm (w : World) (n m : Nat) : Below w.heap.size w ((w.drewN n).drewN m) := by
  have h := Below.refl w.heap.size w
  exact ⟨h.os, h.tape, h.output, h.size, h.block⟩
theorem XS.next_out {x : XS} (h : ¬ x.no < x.all.length) : x.next = ⟨#[]⟩ := by
  unfold XS.next
  rw [List.getElem?_eq_none (by omega)]
  split <;> rfl
theorem XS.next_fault {x : XS} (h : ¬ x.e = 0) : x.next = ⟨#[]⟩ := by unfold XS.next; rw [if_neg h]
theorem XS.next_at {x : XS} (h : x.next ≠ ⟨#[]⟩) : x.e = 0 ∧ x.no < x.all.length := by
  refine ⟨Classical.byContradiction fun he => h (XS.next_fault he), Classical.byContradiction fun hn => h (XS.next_out hn)⟩
theorem XIn.next_size {w : World} {R : Nat} {x : XS} (h : XIn w R x) : x.next.size ≤ 2147483648 := by
  by_cases hn : x.next = ⟨#[]⟩
  · rw [hn]; decide
  · obtain ⟨h1, h2⟩ := XS.next_at hn
    obtain ⟨a, c, _, _, _, hs⟩ := h.has
    obtain ⟨_, _, _, _, _, _, _, hz⟩ := hs x.no _ (List.getElem?_eq_getElem h2)
    unfold XS.next
    rw [if_pos h1, List.getElem?_eq_getElem h2]
    exact hz

set_option maxHeartbeats 2000000 in
set_option maxRecDepth 100000 in
theorem xnext_any (w : World) (R : Nat) (x : XS) (h : XIn w R x) :
    Calls Try.prog 46 #[.pointer (some ⟨R, 0, none⟩)] w fun e w' => e = .returned (.string x.next) ∧ Below w.heap.size w w' := by
  obtain ⟨a, c, hb, hc1, hc2, hs⟩ := h.has
  have HS := hidIn hs
  have g0 : w.cell? ⟨R, 0, none⟩ = some (.slice a x.all.length c) := hb.cell 0
  have g1 : w.cell? ⟨R, 1, none⟩ = some (.int .i64 (x.no : Int)) := hb.cell 1
  have g4 : w.cell? ⟨R, 4, none⟩ = some (.int .i64 x.e) := hb.cell 4
  have h1 := h.no
  have h2 := h.len
  clear hb hs h
  by_cases hl : x.no < x.all.length
  · have d1 : decide ((x.all.length : Int) ≤ (x.no : Int)) = false := decide_eq_false (by omega)
    have hl' : (x.no : Int) < (x.all.length : Int) := by omega
    obtain ⟨s, hs1⟩ : ∃ s, x.all[x.no]? = some s := ⟨_, List.getElem?_eq_getElem hl⟩
    obtain ⟨b, o, rfl, _, _, q0, q1, _⟩ := HS.out x.no s hs1
    by_cases he : x.e = 0
    · have HN : Hid (x.next = s.1) := by show x.next = _; unfold XS.next; rw [if_pos he, hs1]; rfl
      rw [he] at g4
      generalize x.no = no at *
      generalize x.all.length = len at *
      go_enter Try.func46, Try.ntmps46
      go_wp2_with fail
      go_quiet (fail)
      go_wp2_with fail
      go_quiet (fail)
      go_wp2_with fail
      go_ret
      rw [HN.out]
      exact ⟨rfl, bel_nm _ _ _⟩
    · have HN : Hid (x.next = ⟨#[]⟩) := XS.next_fault he
      have he2 : (x.e != 0) = true := by rw [bne_iff_ne]; exact he
      generalize x.no = no at *
      generalize x.all.length = len at *
      generalize x.e = en at *
      go_enter Try.func46, Try.ntmps46
      go_wp2_with fail
      go_quiet (fail)
      go_wp2_with fail
      go_ret
      rw [HN.out]
      exact ⟨rfl, bel_n _ _⟩
  · have d1 : decide ((x.all.length : Int) ≤ (x.no : Int)) = true := decide_eq_true (by omega)
    have hl' : (x.all.length : Int) ≤ (x.no : Int) := by omega
    have HN : Hid (x.next = ⟨#[]⟩) := XS.next_out hl
    generalize x.no = no at *
    generalize x.all.length = len at *
    go_enter Try.func46, Try.ntmps46
    go_wp2_with fail
    go_quiet (fail)
    go_wp2_with fail
    go_ret
    rw [HN.out]
    exact ⟨rfl, bel_n _ _⟩

theorem XIn.cells {w : World} {R : Nat} {x : XS} (h : XIn w R x) : w.cell? ⟨R, 1, none⟩ = some (.int .i64 (x.no : Int)) ∧ w.frozen? ⟨R, 1, none⟩ = false ∧ (x.no : Int) ≤ 2147483648 := by
  obtain ⟨a, c, hb, _⟩ := h.has
  have h1 := h.no
  have h2 := h.len
  exact ⟨hb.cell 1, hb.frozen 1, by omega⟩
theorem XIn.below {w w' : World} {R : Nat} {x : XS} (h : XIn w R x) (hb : Below w.heap.size w w') : XIn w' R x := h.grew hb

set_option maxHeartbeats 2000000 in
set_option maxRecDepth 100000 in
theorem xsign_any (w : World) (R : Nat) (x : XS) (t : ByteArray) (ht : t ≠ ⟨#[]⟩) (h : XIn w R x) :
    Calls Try.prog 49 #[.pointer (some ⟨R, 0, none⟩), .string t] w fun e w' => e = .returned (.tuple #[]) ∧ XIn w' R (x.sign t) ∧ Grew R none w w' := by
  have HX : Hid (x.sign t = if x.next = t then x.step else x.fail 2) := rfl
  have HH := hidIn h
  go_enter Try.func49, Try.ntmps49
  go_wp2_with fail
  refine (xnext_any w R x HH.out).mono ?_
  rintro e w1 ⟨rfl, hb1⟩
  have HH1 := hidIn (HH.out.below hb1)
  have HG1 : Hid (Grew R none w w1) := Grew.of_below hb1
  clear hb1 h HH
  by_cases hn : x.next = t
  · rw [if_pos hn] at HX
    have hne : (x.next.toList == t.toList) = true := by rw [hn]; simp
    have hnn : (x.next.toList != t.toList) = false := by rw [hn]; simp
    obtain ⟨_, hno⟩ := XS.next_at (x := x) (by rw [hn]; exact ht)
    have HST := hidIn (HH1.out.steps hno)
    obtain ⟨g1, f1, gb⟩ := HH1.out.cells
    generalize x.next = nx at *
    generalize hxn : (x.no : Int) = no at *
    go_wp2_with fail
    go_end0
    rw [HX.out]
    exact ⟨rfl, HST.out.1, HG1.out.tr HST.out.2⟩
  · rw [if_neg hn] at HX
    have hne : (x.next.toList == t.toList) = false := by rw [beq_eq_false_iff_ne]; exact fun e => hn (toList_inj e)
    have hnn : (x.next.toList != t.toList) = true := by rw [bne_iff_ne]; exact fun e => hn (toList_inj e)
    generalize x.next = nx at *
    go_wp2_with fail
    refine (xfail_any w1 R x 2 HH1.out).mono ?_
    rintro e w2 ⟨rfl, h2, hg2⟩
    have HR2 := hidIn h2
    have HG2 := hidIn (HG1.out.tr hg2)
    clear h2 hg2
    go_wp2_with fail
    refine bodyPost_ret (results_none rfl _ _ _) rfl ?_
    rw [HX.out]
    exact ⟨rfl, HR2.out, HG2.out⟩

set_option maxHeartbeats 2000000 in
set_option maxRecDepth 100000 in
theorem xname_any (w : World) (R : Nat) (x : XS) (h : XIn w R x) :
    Calls Try.prog 50 #[.pointer (some ⟨R, 0, none⟩)] w fun e w' => e = .returned (.string x.name.1) ∧ XIn w' R x.name.2 ∧ Grew R none w w' := by
  have HX : Hid (x.name = if nameGo 0 (runesOf x.next) = true then (x.next, x.step) else (⟨#[]⟩, x.fail 2)) := rfl
  have HH := hidIn h
  have HZ := hidIn h.next_size
  clear h
  go_enter Try.func50, Try.ntmps50
  go_wp2_with fail
  refine (xnext_any w R x HH.out).mono ?_
  rintro e w1 ⟨rfl, hb1⟩
  have HH1 := hidIn (HH.out.below hb1)
  have HG1 : Hid (Grew R none w w1) := Grew.of_below hb1
  clear hb1 HH
  go_wp2_with fail
  refine (Rn.refName_any x.next w1 HZ.out).mono ?_
  rintro e w2 ⟨rfl, hb2⟩
  have HH2 := hidIn (HH1.out.below hb2)
  have HG2 := hidIn (HG1.out.tr (Grew.of_below hb2))
  clear hb2 HH1 HG1
  cases hn : nameGo 0 (runesOf x.next) with
  | true =>
    rw [hn, if_pos rfl] at HX
    obtain ⟨_, hno⟩ := XS.next_at (x := x) (by intro e; rw [e, name_emp] at hn; cases hn)
    have HST := hidIn (HH2.out.steps hno)
    obtain ⟨g1, f1, gb⟩ := HH2.out.cells
    generalize hxn : (x.no : Int) = no at *
    go_wp2_with fail
    go_ret
    rw [HX.out]
    exact ⟨rfl, HST.out.1, HG2.out.tr HST.out.2⟩
  | false =>
    rw [hn, if_neg (by decide)] at HX
    go_wp2_with fail
    refine (xfail_any w2 R x 2 HH2.out).mono ?_
    rintro e w3 ⟨rfl, h3, hg3⟩
    have HR3 := hidIn h3
    have HG3 := hidIn (HG2.out.tr hg3)
    clear h3 hg3
    go_wp2_with fail
    go_ret
    rw [HX.out]
    exact ⟨rfl, HR3.out, HG3.out⟩

set_option maxHeartbeats 4000000 in
set_option maxRecDepth 100000 in
theorem xnum_any (w : World) (R : Nat) (x : XS) (day : Bool) (h : XIn w R x) :
    Calls Try.prog 48 #[.pointer (some ⟨R, 0, none⟩), .bool day] w fun e w' => e = .returned (.int .i64 (x.num day).1) ∧ XIn w' R (x.num day).2 ∧ Grew R none w w' := by
  have HX : Hid (x.num day = if xnumOk x day = true then ((Rn.numOf x.next.data.toList).1, x.step) else (0, x.fail 2)) := rfl
  have HO : Hid (xnumOk x day = ((Rn.numOf x.next.data.toList).2 && (!day || (decide (0 ≤ (Rn.numOf x.next.data.toList).1) && decide ((Rn.numOf x.next.data.toList).1 ≤ 10000))))) := rfl
  have HE : Hid (x.next = ⟨#[]⟩ → (Rn.numOf x.next.data.toList).2 = false) := fun e => by rw [e]; exact num_emp
  have HH := hidIn h
  have HZ := hidIn h.next_size
  clear h
  go_enter Try.func48, Try.ntmps48
  go_wp2_with fail
  refine (xnext_any w R x HH.out).mono ?_
  rintro e w1 ⟨rfl, hb1⟩
  have HH1 := hidIn (HH.out.below hb1)
  have HG1 : Hid (Grew R none w w1) := Grew.of_below hb1
  clear hb1 HH
  go_wp2_with fail
  refine calls_same (Rn.refNumber_any x.next w1 (by have := HZ.out; unfold maxLen; omega)) ?_
  have HFAIL : Hid (xnumOk x day = false → ∀ w, XIn w R x → Calls Try.prog 23 #[.pointer (some ⟨R, 0, none⟩), .int .i64 2] w fun e w' => e = .returned (.tuple #[]) ∧ XIn w' R (x.num day).2 ∧ (x.num day).1 = 0 ∧ Grew R none w w') := fun hf w hw => by
    have hx := HX.out
    rw [hf, if_neg (by decide)] at hx
    refine (xfail_any w R x 2 hw).mono ?_
    rintro e w' ⟨h1, h2, h3⟩
    rw [hx]
    exact ⟨h1, h2, rfl, h3⟩
  have HSTEP : Hid (xnumOk x day = true → (x.num day).1 = (Rn.numOf x.next.data.toList).1 ∧ XIn (w1.setCell ⟨R, 1, none⟩ (.int .i64 ((x.no : Int) + 1))) R (x.num day).2 ∧ Grew R none w1 (w1.setCell ⟨R, 1, none⟩ (.int .i64 ((x.no : Int) + 1)))) := fun ht => by
    have hx := HX.out
    rw [ht, if_pos rfl] at hx
    rw [hx]
    obtain ⟨_, hno⟩ := XS.next_at (x := x) (fun e => by
      have h0 := HE.out e
      rw [HO.out, h0] at ht
      cases ht)
    exact ⟨rfl, HH1.out.steps hno⟩
  obtain ⟨g1, f1, gb⟩ := HH1.out.cells
  have HRES : Hid (∀ v w', v = (x.num day).1 → XIn w' R (x.num day).2 → Grew R none w w' → (Ending.returned (.int .i64 v) = .returned (.int .i64 (x.num day).1) ∧ XIn w' R (x.num day).2 ∧ Grew R none w w')) := fun v w' h1 h2 h3 => ⟨by rw [h1], h2, h3⟩
  clear HX HE
  generalize hnn : (Rn.numOf x.next.data.toList).1 = n at *
  generalize hbb : (Rn.numOf x.next.data.toList).2 = b at *
  clear hnn hbb
  generalize hno : (x.no : Int) = no at *
  cases b with
  | false =>
    have hf : xnumOk x day = false := by rw [HO.out]; rfl
    go_wp2_with fail
    refine (HFAIL.out hf w1 HH1.out).mono ?_
    rintro e w2 ⟨rfl, h2, h20, hg2⟩
    go_wp2_with fail
    go_ret
    exact HRES.out _ _ h20.symm h2 (HG1.out.tr hg2)
  | true =>
    cases day with
    | false =>
      have ht : xnumOk x false = true := by rw [HO.out]; rfl
      go_wp2_with fail
      go_ret
      obtain ⟨s1, s2, s3⟩ := HSTEP.out ht
      exact HRES.out _ _ s1.symm s2 (HG1.out.tr s3)
    | true =>
      by_cases h0 : n < 0
      · have hf : xnumOk x true = false := by rw [HO.out]; simp; omega
        go_wp2_with fail
        refine (HFAIL.out hf w1 HH1.out).mono ?_
        rintro e w2 ⟨rfl, h2, h20, hg2⟩
        go_wp2_with fail
        go_ret
        exact HRES.out _ _ h20.symm h2 (HG1.out.tr hg2)
      · by_cases h1 : 10000 < n
        · have hf : xnumOk x true = false := by rw [HO.out]; simp; omega
          go_wp2_with fail
          refine (HFAIL.out hf w1 HH1.out).mono ?_
          rintro e w2 ⟨rfl, h2, h20, hg2⟩
          go_wp2_with fail
          go_ret
          exact HRES.out _ _ h20.symm h2 (HG1.out.tr hg2)
        · have ht : xnumOk x true = true := by rw [HO.out]; simp; omega
          go_wp2_with fail
          go_ret
          obtain ⟨s1, s2, s3⟩ := HSTEP.out ht
          exact HRES.out _ _ s1.symm s2 (HG1.out.tr s3)

end Go.Proofs.Ythhjcpmnekibnaa
namespace Go.Proofs.Ythhjcpmnekibnaa
open Go.RowKit
set_option linter.unusedVariables false

theorem hidIn' {p : Prop} (h : p) : Hid p := h
/-- A word, and its parts. -/
def joinT (word : ByteArray) (xs : List ByteArray) : ByteArray := word ++ ⟨#[40]⟩ ++ ⟨(Lib.join (xs.map (·.data.toList)) [44]).toArray⟩ ++ ⟨#[41]⟩

end Go.Proofs.Ythhjcpmnekibnaa
namespace Go.Proofs.Ythhjcpmnekibnaa
open Go.RowKit
set_option linter.unusedVariables false

theorem below_growing (w : World) (k : Nat) (os : Array Obj) : Below w.heap.size w (Go.Sort.grow (w.drewN k) os) :=
  ⟨rfl, rfl, rfl, by show w.heap.size ≤ (w.heap ++ os).size; simp, fun i hi => by show (w.heap ++ os)[i]? = _; rw [Array.getElem?_append_left hi]⟩
/-- The text of a number that is none of the others. -/
def numT (n : Int) : ByteArray := ⟨(Lib.itoa n).toArray⟩
theorem numT_size (n : Int) (h0 : -9223372036854775808 ≤ n) (h1 : n ≤ 9223372036854775807) : (numT n).size ≤ 21 := by
  have := Lib.itoa_length_le n h0 h1
  show (Lib.itoa n).toArray.size ≤ 21
  simpa using this
def textO : O → ByteArray
  | .const n => numT n
  | .fix s => joinT ⟨#[102, 105, 120]⟩ [s]
  | .add l r => joinT ⟨#[97, 100, 100]⟩ [textO l, textO r]
  | .neg o => joinT ⟨#[110, 101, 103]⟩ [textO o]
  | .mul l r => joinT ⟨#[109, 117, 108]⟩ [textO l, textO r]
  | .max l r => joinT ⟨#[109, 97, 120]⟩ [textO l, textO r]
  | .odd _ => ⟨#[]⟩
/-- An assertion with one value. -/
theorem assert_one {P : Program} {t : TypeId} {u : TypeDesc} (hu : P.underlying t = some u) (hn : ∀ m, u ≠ .interface m) (v : Value) (xT : TypeId) (w : World) :
    (Instr.typeAssert (.iface t v) xT t false).run P w = .ok v w := by
  cases u <;> first | (exfalso; exact hn _ rfl) | simp [Instr.typeAssert, run_underlying hu]

end Go.Proofs.Ythhjcpmnekibnaa
namespace Go.Proofs.Ythhjcpmnekibnaa
open Go.RowKit
set_option linter.unusedVariables false

theorem digN_dec (f : Nat) : ∀ n, n < 10 ^ (f + 1) → digN f n = Lib.decDigits n := by
  induction f with
  | zero =>
    intro n hn
    have h : n < 10 := by simpa using hn
    rw [Lib.decDigits, dif_pos h]
    simp only [digN]
    rw [Nat.mod_eq_of_lt h]
  | succ f ih =>
    intro n hn
    rw [Lib.decDigits]
    by_cases h : n < 10
    · rw [dif_pos h]; simp only [digN, h, if_true]
    · rw [dif_neg h]
      simp only [digN, h, if_false]
      rw [ih (n / 10) (by rw [Nat.pow_succ] at hn; omega)]
theorem dec_len (n : Nat) (h : n ≤ 9223372036854775808) : (Lib.decDigits n).length ≤ 20 := by
  rw [Lib.decDigits_length]; exact Lib.nDigits_le20 n (by omega)

set_option maxHeartbeats 2000000 in
set_option maxRecDepth 100000 in
theorem digitsNeg_any (f : Nat) : ∀ (m : Nat) (w : World), 1 ≤ m → m < 10 ^ (f + 1) → m ≤ 9223372036854775808 →
    Calls Try.prog 59 #[.int .i64 (-(m : Int))] w fun e w' => e = .returned (.string ⟨(45 :: Lib.decDigits m).toArray⟩) ∧ Below w.heap.size w w' := by
  induction f with
  | zero =>
    intro m w h1 hm hb
    have hm' : m < 10 := by simpa using hm
    have em : Int.tmod (-(m : Int)) 10 = -(m : Int) := by rw [Int.neg_tmod, Int.tmod_eq_emod_of_nonneg (by omega)]; omega
    have HD : Hid (Lib.decDigits m = [UInt8.ofNat (48 + m)]) := by show _ = _; rw [Lib.decDigits, dif_pos hm']
    have HC := hidIn (fun w => digits_small m w (by omega))
    have hneg : (-(m : Int)) < 0 := by omega
    have hgt : (-10 : Int) < -(m : Int) := by omega
    clear hm
    go_enter Try.func59, Try.ntmps59
    go_wp2_with fail
    refine (HC.out _).mono ?_
    rintro e w1 ⟨rfl, hb1⟩
    have hsz : (⟨#[UInt8.ofNat (48 + m)]⟩ : ByteArray).size = 1 := rfl
    generalize UInt8.ofNat (48 + m) = c at *
    go_wp2_with fail
    go_ret
    exact ⟨by rw [HD.out]; rfl, hb1⟩
  | succ f ih =>
    intro m w h1 hm hb
    by_cases h10 : m < 10
    · have hm' : m < 10 := h10
      have em : Int.tmod (-(m : Int)) 10 = -(m : Int) := by rw [Int.neg_tmod, Int.tmod_eq_emod_of_nonneg (by omega)]; omega
      have HD : Hid (Lib.decDigits m = [UInt8.ofNat (48 + m)]) := by show _ = _; rw [Lib.decDigits, dif_pos hm']
      have HC := hidIn (fun w => digits_small m w (by omega))
      have hneg : (-(m : Int)) < 0 := by omega
      have hgt : (-10 : Int) < -(m : Int) := by omega
      clear hm ih
      go_enter Try.func59, Try.ntmps59
      go_wp2_with fail
      refine (HC.out _).mono ?_
      rintro e w1 ⟨rfl, hb1⟩
      generalize UInt8.ofNat (48 + m) = c at *
      go_wp2_with fail
      go_ret
      exact ⟨by rw [HD.out]; rfl, hb1⟩
    · have em : Int.tmod (-(m : Int)) 10 = -((m % 10 : Nat) : Int) := by rw [Int.neg_tmod, Int.tmod_eq_emod_of_nonneg (by omega)]; omega
      have ed : Int.tdiv (-(m : Int)) 10 = -((m / 10 : Nat) : Int) := by rw [Int.neg_tdiv, Int.tdiv_eq_ediv_of_nonneg (by omega)]; omega
      have HD : Hid (Lib.decDigits m = Lib.decDigits (m / 10) ++ [UInt8.ofNat (48 + m % 10)]) := by show _ = _; rw [Lib.decDigits, dif_neg h10]
      have HC := hidIn (fun w => digits_small (m % 10) w (by omega))
      have HI := hidIn (fun w => ih (m / 10) w (by omega) (by rw [Nat.pow_succ] at hm; omega) (by omega))
      have hlen := dec_len (m / 10) (by omega)
      have hneg : (-(m : Int)) < 0 := by omega
      have hgt : ¬ (-10 : Int) < -(m : Int) := by omega
      have hq : m / 10 ≤ 922337203685477580 := by omega
      have hr : m % 10 < 10 := by omega
      generalize hqe : m / 10 = q at *
      generalize hre : m % 10 = r at *
      clear hm ih
      go_enter Try.func59, Try.ntmps59
      go_wp2_with fail
      refine (HC.out _).mono ?_
      rintro e w1 ⟨rfl, hb1⟩
      generalize UInt8.ofNat (48 + r) = c at *
      generalize Lib.decDigits q = D at *
      have hD : (⟨(45 :: D).toArray⟩ : ByteArray).size ≤ 21 := by show (45 :: D).toArray.size ≤ 21; simp; omega
      have HB1 := hidIn hb1
      clear hb1
      go_wp2_with fail
      refine (HI.out _).mono ?_
      rintro e w2 ⟨rfl, hb2⟩
      have HB2 := hidIn hb2
      clear hb2
      have hc1 : (⟨#[c]⟩ : ByteArray).size = 1 := rfl
      go_wp2_with fail
      go_ret
      exact ⟨by rw [HD.out, ← List.cons_append, ← ByteArray.mk_append_mk]; rfl, HB1.out.trans (HB2.out.mono HB1.out.size)⟩
theorem digAny (n : Int) (h0 : -9223372036854775808 ≤ n) (h1 : n ≤ 9223372036854775807) (w : World) :
    Calls Try.prog 59 #[.int .i64 n] w fun e w' => e = .returned (.string (numT n)) ∧ Below w.heap.size w w' := by
  by_cases h : n < 0
  · obtain ⟨m, hm⟩ : ∃ m : Nat, n = -(m : Int) := ⟨n.natAbs, by omega⟩
    subst hm
    have hp : (10 : Nat) ^ (20 + 1) = 1000000000000000000000 := by decide
    refine (digitsNeg_any 20 m w (by omega) (by omega) (by omega)).mono ?_
    rintro e w' ⟨rfl, hb⟩
    exact ⟨by unfold numT Lib.itoa; rw [if_pos h, Int.natAbs_neg, Int.natAbs_natCast], hb⟩
  · obtain ⟨m, hm⟩ : ∃ m : Nat, n = (m : Int) := ⟨n.toNat, by omega⟩
    subst hm
    have hp : (10 : Nat) ^ (20 + 1) = 1000000000000000000000 := by decide
    refine (digits_any 20 m w (by omega) (by omega) (by omega)).mono ?_
    rintro e w' ⟨rfl, hb⟩
    exact ⟨by unfold numT Lib.itoa; rw [if_neg h, Int.toNat_natCast, digN_dec 20 m (by omega)], hb⟩

end Go.Proofs.Ythhjcpmnekibnaa
namespace Go.Proofs.Ythhjcpmnekibnaa
open Go.RowKit Go.Maps
set_option linter.unusedVariables false

def namStep (st : List ByteArray) (c : C) : List ByteArray := addAll st (allL c.nums)
/-- The names of a contract's Fixes, in the order of a walk. -/
def C.all : C → List ByteArray
  | .give c => c.all
  | .and l r => l.all ++ r.all
  | .or _ l r => l.all ++ r.all
  | .scale o c => o.all ++ c.all
  | .when _ c => c.all
  | .iff o l r => o.all ++ (l.all ++ r.all)
  | _ => []
theorem names_fold (c : C) : ∀ st, c.pre.foldl namStep st = addAll st c.all := by
  induction c <;> intro st <;> simp_all [C.pre, namStep, C.nums, C.all, allL, addAll]
def C.names (c : C) : List ByteArray := addAll [] c.all
theorem addAll_id (acc : List ByteArray) : ∀ l : List ByteArray, (∀ s ∈ l, s ∈ acc) → addAll acc l = acc := by
  intro l
  induction l with
  | nil => intro _; rfl
  | cons s l ih =>
    intro h
    have h1 : addN acc s = acc := by unfold addN; rw [if_pos ((inN_iff acc s).2 (h s (by simp)))]
    show addAll (addN acc s) l = acc
    rw [h1]
    exact ih (fun t ht => h t (by simp [ht]))
theorem mem_addN (acc : List ByteArray) (s t : ByteArray) : t ∈ addN acc s ↔ t ∈ acc ∨ t = s := by
  unfold addN
  split
  · rename_i h
    have := (inN_iff acc s).1 h
    constructor
    · exact .inl
    · rintro (h | rfl); exact h; exact this
  · simp
theorem addN_twice (acc : List ByteArray) (s : ByteArray) (h : s ∈ acc) : addN acc s = acc := by unfold addN; rw [if_pos ((inN_iff acc s).2 h)]
theorem mem_addAll : ∀ (l acc : List ByteArray) (t : ByteArray), t ∈ addAll acc l ↔ t ∈ acc ∨ t ∈ l := by
  intro l
  induction l with
  | nil => intro acc t; simp [addAll]
  | cons s l ih =>
    intro acc t
    show t ∈ addAll (addN acc s) l ↔ _
    rw [ih, mem_addN]
    simp only [List.mem_cons]
    constructor
    · rintro ((h | h) | h); exact .inl h; exact .inr (.inl h); exact .inr (.inr h)
    · rintro (h | h | h); exact .inl (.inl h); exact .inl (.inr h); exact .inr h
/-- Adding what is each once is adding all. -/
theorem addAll_once : ∀ (l acc pre : List ByteArray), (∀ s ∈ pre, s ∈ acc) → addAll acc (addAll pre l) = addAll acc l := by
  intro l
  induction l with
  | nil => intro acc pre h; exact addAll_id acc pre h
  | cons s l ih =>
    intro acc pre h
    show addAll acc (addAll (addN pre s) l) = addAll (addN acc s) l
    by_cases hs : s ∈ pre
    · rw [addN_twice pre s hs, ih acc pre h, addN_twice acc s (h s hs)]
    · have e : addN pre s = pre ++ [s] := by
        unfold addN
        rw [if_neg (fun e => hs ((inN_iff pre s).1 e))]
      have hc : ∀ (l pre : List ByteArray), ∃ m, addAll pre l = pre ++ m := by
        intro l
        induction l with
        | nil => intro pre; exact ⟨[], by simp [addAll]⟩
        | cons x l ihl =>
          intro pre
          obtain ⟨m, hm⟩ := ihl (addN pre x)
          show ∃ m, addAll (addN pre x) l = pre ++ m
          rw [hm]
          unfold addN
          split
          · exact ⟨m, rfl⟩
          · exact ⟨[x] ++ m, by simp⟩
      obtain ⟨m, hm⟩ := hc l (addN pre s)
      rw [hm, e, addAll_append, addAll_append, addAll_id acc pre h]
      have h2 : addAll acc [s] = addN acc s := rfl
      rw [h2]
      have h3 := ih (addN acc s) (addN pre s) (fun t ht => by
        rw [mem_addN] at ht ⊢
        rcases ht with ht | ht
        · exact .inl (h t ht)
        · exact .inr ht)
      rw [hm, e, addAll_append, addAll_append] at h3
      rw [addAll_id (addN acc s) pre (fun t ht => (mem_addN acc s t).2 (.inl (h t ht)))] at h3
      have h4 : addAll (addN acc s) [s] = addN acc s := addN_twice _ _ ((mem_addN acc s s).2 (.inr rfl))
      rw [h4] at h3
      exact h3

/-- What is kept while names are gathered. -/
def NamInv (V : Nat) (own : Nat → Prop) (st : List ByteArray) (w : World) : Prop :=
  ∃ v, own = (fun k => k = V ∨ k = V + 1 ∨ v.ownBlock = some k) ∧ w.heap[V]? = some (.cells #[v] 23 (0, 0)) ∧ w.heap[V + 2]? = some (.cells #[.map (some (V + 1))] 147 (0, 0)) ∧ NIn w (V + 1) v st ∧ v.ownBlock ≠ some (V + 2)

theorem names_ok (o : O) (h : o.Ok) : ∀ s ∈ o.all, s.size ≤ 2147483648 := by
  induction o with
  | fix s => intro t ht; simp [O.all] at ht; subst ht; exact h
  | neg o ih => exact ih h
  | add l r h1 h2 => intro s hs; simp only [O.all, List.mem_append] at hs; rcases hs with hs | hs; exact h1 h.1 s hs; exact h2 h.2 s hs
  | mul l r h1 h2 => intro s hs; simp only [O.all, List.mem_append] at hs; rcases hs with hs | hs; exact h1 h.1 s hs; exact h2 h.2 s hs
  | max l r h1 h2 => intro s hs; simp only [O.all, List.mem_append] at hs; rcases hs with hs | hs; exact h1 h.1 s hs; exact h2 h.2 s hs
  | _ => intro s hs; simp [O.all] at hs
theorem onames_ok (o : O) (h : o.Ok) : ∀ s ∈ o.names, s.size ≤ 2147483648 := by
  intro s hs
  unfold O.names at hs
  rw [mem_addAll] at hs
  rcases hs with hs | hs
  · simp at hs
  · exact names_ok o h s hs

theorem nam_fin {V : Nat} {v v2 : Value} {acc : List ByteArray} {w W wA wB : World} (hBW : Below w.heap.size w W) (hXA : Below W.heap.size W wA) (hG : Grew (V + 1) v.ownBlock wA wB) (hin : NIn wB (V + 1) v2 acc) (hloc : v2.ownBlock = v.ownBlock ∨ ∀ k, v2.ownBlock = some k → wA.heap.size ≤ k) (hVB : wB.heap[V]? = some (.cells #[v] 23 (0, 0))) (h3 : w.heap[V + 2]? = some (.cells #[.map (some (V + 1))] 147 (0, 0))) (h5 : v.ownBlock ≠ some (V + 2)) :
    ∃ own', NamInv V own' acc (wB.setCell ⟨V, 0, none⟩ v2) ∧ Dyn (fun k => k = V ∨ k = V + 1 ∨ v.ownBlock = some k) w own' (wB.setCell ⟨V, 0, none⟩ v2) := by
  have hlt := (Array.getElem?_eq_some_iff.1 h3).1
  have s1 := hBW.size
  have s2 := hXA.size
  have s3 := hG.size
  refine ⟨fun k => k = V ∨ k = V + 1 ∨ v2.ownBlock = some k, ⟨v2, rfl, heap_setCell_same wB V 0 _ _ _ hVB, ?_, ⟨ownsRow_setCell_below hin.1 (a := ⟨V, 0, none⟩) (by show V < V + 1 + 1; omega) v2, hin.2.1.setCell (by show V + 1 ≠ V; omega) _, by rw [World.size_setCell]; exact hin.2.2⟩, ?_⟩, hG.os.trans (hXA.os.trans hBW.os), hG.tape.trans (hXA.tape.trans hBW.tape), hG.output.trans (hXA.output.trans hBW.output), by rw [World.size_setCell]; omega, fun k hk hno => ?_, fun k hk => ?_⟩
  · rw [heap_setCell_other wB ⟨V, 0, none⟩ (V + 2) _ (by show V + 2 ≠ V; omega)]
    exact (hG.block (V + 2) (by omega) (by omega) h5).trans ((hXA.block (V + 2) (by omega)).trans ((hBW.block (V + 2) hlt).trans h3))
  · rcases hloc with h | h
    · rw [h]; exact h5
    · intro e; have := h _ e; omega
  · have k1 : k ≠ V := fun e => hno (.inl e)
    have k2 : k ≠ V + 1 := fun e => hno (.inr (.inl e))
    have k3 : v.ownBlock ≠ some k := fun e => hno (.inr (.inr e))
    rw [heap_setCell_other wB ⟨V, 0, none⟩ k _ k1]
    exact (hG.block k (by omega) k2 k3).trans ((hXA.block k (by omega)).trans (hBW.block k hk))
  · rcases hk with hk | hk | hk
    · exact .inl (.inl hk)
    · exact .inl (.inr (.inl hk))
    · rcases hloc with h | h
      · rw [h] at hk; exact .inl (.inr (.inr hk))
      · have := h k hk; exact .inr (by omega)

end Go.Proofs.Ythhjcpmnekibnaa
namespace Go.Proofs.Ythhjcpmnekibnaa
open Go.RowKit
set_option linter.unusedVariables false

theorem ownsRow_below {w w' : World} {B e size n : Nat} {v : Value} {xs : List Value} (h : w.ownsRow B e size v n xs) (hb : Below w.heap.size w w') : w'.ownsRow B e size v n xs :=
  h.kept (grown_of_below hb none) (by cases hv : v.ownBlock <;> simp)
theorem grownBy_refl (w : World) (r : Option Nat) : w.grownBy w r := grown_of_below (Below.refl _ _) r
theorem wpList_append_rows {ops : Array Oper} {rest : List Oper} {o : Oper} {a : Act} {Q : Exit → Act → World → Prop} (w : World) (hgd : o.guard = none) (s x : Operand)
    (ho : o.op = .call { callee := .builtin .append, args := #[s, x], argTypes := #[23, 23] })
    (base : Nat) (v : Value) (l : List ByteArray) (hs : a.eval s = v) (hown : w.ownsRow base 9 1 v l.length (strCells l))
    (B : Nat) (xv : Value) (m : List ByteArray) (hx : a.eval x = xv) (hox : w.ownsRow B 9 1 xv m.length (strCells m)) (hlen : l.length + m.length ≤ 1000000) (hbase : base ≤ w.heap.size)
    (h : ∀ v' w', w'.ownsRow base 9 1 v' (l ++ m).length (strCells (l ++ m)) → w.grownBy w' v.ownBlock → (v'.ownBlock = v.ownBlock ∨ v'.ownBlock = some w.heap.size) → wpList Try.prog ops Q rest (a.put o.dst v') w') : wpList Try.prog ops Q (o :: rest) a w := by
  obtain ⟨i0, gi, gz0, gz1, gz2⟩ := info_parts infoStr
  have hox2 := hox
  rcases hox2.2 with ⟨rfl, h0⟩ | ⟨g, cap, cur, rfl, hb, hg, hnc, hcm, _⟩
  · have hm : m = [] := List.length_eq_zero_iff.1 h0
    subst hm
    refine wpList_append_own_none hgd s x 23 ho base 9 i0 1 Try.underlying23 gi v l.length (strCells l) hs hown hx ?_
    exact h v w (by simpa using hown) (grownBy_refl w _) (.inl rfl)
  · refine wpList_append_own_at w hgd s x 23 ho base 9 i0 (.string ByteArray.empty) 1 16 Try.underlying23 gi gz0 gz1 gz2 rfl (by decide) v l.length (strCells l) hs hown ⟨g, 0, none⟩ m.length cap (strCells m) hx (by simp [strCells]) ?_ ?_ (by unfold maxLen; omega) (by omega) hbase ?_
    · intro j u hj
      rw [Addr.add_lit, Nat.zero_add]
      have hjl : j < m.length := by
        have := (List.getElem?_eq_some_iff.1 hj).1
        simpa [strCells] using this
      rw [hox.cellAt j (by omega)]
      exact hj
    · intro u hu
      obtain ⟨t, _, rfl⟩ := List.mem_map.1 hu
      rfl
    · intro v' w' h1 h2 _ h3
      refine h v' w' ?_ h2 h3
      simpa [strCells] using h1
/-- The labels of contracts, one behind the other. -/
def labL : List C → List ByteArray
  | [] => []
  | k :: l => k.labels ++ labL l
theorem labL_snoc (l : List C) (k : C) : labL (l ++ [k]) = labL l ++ k.labels := by
  induction l with
  | nil => simp [labL]
  | cons a l ih => simp [labL, ih]
theorem labels_kids (c : C) : c.labels = (if c.kind = 5 then [c.text] else []) ++ labL c.kids := by
  cases c <;> simp [C.labels, C.kind, C.text, C.kids, labL]
theorem labL_weight (l : List C) : (labL l).length ≤ weightL l := by
  induction l with
  | nil => simp [labL]
  | cons a l ih => have := labels_weight a; simp [labL, weightL]; omega
/-- What an assertion to one of api's types with two or three fields tells of a contract. -/
theorem or_part (c : C) (h : c.Ok) : ∃ (s : ByteArray) (l r : Value) (b : Bool), (∀ xT w, (Instr.typeAssert c.val xT 78 true).run Try.prog w = .ok (.tuple #[.agg #[.string s, l, r], .bool b]) w) ∧ One' l ∧ One' r ∧ ((b = true ∧ c.kind = 5 ∧ s = c.text) ∨ (b = false ∧ c.kind ≠ 5)) := by
  have hn : One' Value.nilIface := ⟨rfl, rfl⟩
  cases c with
  | or s l r => exact ⟨s, l.val, r.val, true, fun xT w => isOr _ xT w, l.one' h.2.1, r.one' h.2.2, .inl ⟨rfl, rfl, rfl⟩⟩
  | odd v =>
    rcases h with rfl | ⟨t, x, rfl, _, _, _, _, h5, _⟩
    · exact ⟨_, _, _, false, fun xT w => nilOr xT w, hn, hn, .inr ⟨rfl, by simp [C.kind]⟩⟩
    · exact ⟨_, _, _, false, fun xT w => notOr t x xT w h5, hn, hn, .inr ⟨rfl, by simp [C.kind]⟩⟩
  | _ => exact ⟨_, _, _, false, fun xT w => notOr _ _ xT w (by decide), hn, hn, .inr ⟨rfl, by simp [C.kind]⟩⟩
theorem scale_part (c : C) (h : c.Ok) : ∃ (l r : Value) (b : Bool), (∀ xT w, (Instr.typeAssert c.val xT 80 true).run Try.prog w = .ok (.tuple #[.agg #[l, r], .bool b]) w) ∧ One' l ∧ One' r ∧ ((b = true ∧ c.kind = 6) ∨ (b = false ∧ c.kind ≠ 6)) := by
  have hn : One' Value.nilIface := ⟨rfl, rfl⟩
  cases c with
  | scale o c => exact ⟨o.val, c.val, true, fun xT w => isScale _ xT w, o.one' h.1, c.one' h.2, .inl ⟨rfl, rfl⟩⟩
  | odd v =>
    rcases h with rfl | ⟨t, x, rfl, _, _, _, _, _, h6, _⟩
    · exact ⟨_, _, false, fun xT w => nilScale xT w, hn, hn, .inr ⟨rfl, by simp [C.kind]⟩⟩
    · exact ⟨_, _, false, fun xT w => notScale t x xT w h6, hn, hn, .inr ⟨rfl, by simp [C.kind]⟩⟩
  | _ => exact ⟨_, _, false, fun xT w => notScale _ _ xT w (by decide), hn, hn, .inr ⟨rfl, by simp [C.kind]⟩⟩
theorem if_part (c : C) (h : c.Ok) : ∃ (o l r : Value) (b : Bool), (∀ xT w, (Instr.typeAssert c.val xT 84 true).run Try.prog w = .ok (.tuple #[.agg #[o, l, r], .bool b]) w) ∧ One' o ∧ One' l ∧ One' r ∧ ((b = true ∧ c.kind = 8) ∨ (b = false ∧ c.kind ≠ 8)) := by
  have hn : One' Value.nilIface := ⟨rfl, rfl⟩
  cases c with
  | iff o l r => exact ⟨o.val, l.val, r.val, true, fun xT w => isIf _ xT w, o.one' h.1, l.one' h.2.1, r.one' h.2.2, .inl ⟨rfl, rfl⟩⟩
  | odd v =>
    rcases h with rfl | ⟨t, x, rfl, _, _, _, _, _, _, _, h8⟩
    · exact ⟨_, _, _, false, fun xT w => nilIf xT w, hn, hn, hn, .inr ⟨rfl, by simp [C.kind]⟩⟩
    · exact ⟨_, _, _, false, fun xT w => notIf t x xT w h8, hn, hn, hn, .inr ⟨rfl, by simp [C.kind]⟩⟩
  | _ => exact ⟨_, _, _, false, fun xT w => notIf _ _ xT w (by decide), hn, hn, hn, .inr ⟨rfl, by simp [C.kind]⟩⟩
theorem plain_parts (c : C) (h6 : c.kind ≠ 6) (h8 : c.kind ≠ 8) : c.nums = [] := by
  cases c <;> simp [C.nums, C.kind] at h6 h8 ⊢

end Go.Proofs.Ythhjcpmnekibnaa
namespace Go.Proofs.Ythhjcpmnekibnaa
open Go.RowKit
set_option linter.unusedVariables false

mutual
/-- The labels of a tree's Ors, in order. -/
def T.labs : T → List ByteArray
  | .mk kind s _ k => (if kind = 5 then [s] else []) ++ labsL k
def labsL : List T → List ByteArray
  | [] => []
  | t :: l => t.labs ++ labsL l
end
mutual
/-- How many trees there are in a tree. -/
def T.cnt : T → Nat
  | .mk _ _ _ k => cntL k + 1
def cntL : List T → Nat
  | [] => 0
  | t :: l => t.cnt + cntL l
end
theorem labsL_snoc (l : List T) (k : T) : labsL (l ++ [k]) = labsL l ++ k.labs := by
  induction l with
  | nil => simp [labsL]
  | cons a l ih => simp [labsL, ih]
theorem cntL_snoc (l : List T) (k : T) : cntL (l ++ [k]) = cntL l + k.cnt := by
  induction l with
  | nil => simp [cntL]
  | cons a l ih => simp [cntL, ih]; omega
theorem cntL_take (l : List T) (i : Nat) : cntL (l.take i) ≤ cntL l := by
  induction l generalizing i with
  | nil => simp [cntL]
  | cons a l ih => cases i with
    | zero => simp [cntL]
    | succ i => simp [cntL]; exact ih i
theorem cntL_mem (l : List T) (t : T) (h : t ∈ l) : t.cnt ≤ cntL l := by
  induction l with
  | nil => simp at h
  | cons a l ih =>
    simp only [List.mem_cons] at h
    simp only [cntL]
    rcases h with rfl | h
    · omega
    · have := ih h; omega
theorem labs_cnt : ∀ t : T, t.labs.length ≤ t.cnt := by
  intro t
  induction t using T.ind with
  | _ kind s n k ih =>
    have h : (labsL k).length ≤ cntL k := by
      induction k with
      | nil => simp [labsL]
      | cons a l ihl =>
        have h1 := ih a (by simp)
        have h2 := ihl (fun t ht => ih t (by simp [ht]))
        simp only [labsL, cntL, List.length_append]
        omega
    unfold T.labs T.cnt
    rw [List.length_append]
    split <;> simp <;> omega
theorem labsL_cnt (l : List T) : (labsL l).length ≤ cntL l := by
  induction l with
  | nil => simp [labsL]
  | cons a l ih => have := labs_cnt a; simp only [labsL, cntL, List.length_append]; omega

set_option maxHeartbeats 4000000 in
set_option maxRecDepth 100000 in
theorem refLabels_any (t : T) : t.cnt ≤ 999990 → ∀ (w : World) (v : Value), TIn w 0 t v → Calls Try.prog 54 #[v] w fun e w' => ∃ v', e = .returned v' ∧ w'.ownsRow w.heap.size 9 1 v' t.labs.length (strCells t.labs) ∧ Below w.heap.size w w' := by
  induction t using T.ind with
  | _ kind s n k ih =>
  intro hcnt w v hv
  have hkl := len_cap hv
  obtain ⟨a, cap, rfl, hc1, hc2, hK⟩ := hv
  simp only [T.kind, T.s, T.n, T.k] at hc1 hK hkl ⊢
  obtain ⟨i0, gi, gz0, gz1, gz2⟩ := info_parts infoStr
  have hct : (T.mk kind s n k).cnt = cntL k + 1 := by rw [T.cnt]
  rw [hct] at hcnt
  have HIH : Hid (∀ t ∈ k, ∀ (w : World) (v : Value), TIn w 0 t v → Calls Try.prog 54 #[v] w fun e w' => ∃ v', e = .returned v' ∧ w'.ownsRow w.heap.size 9 1 v' t.labs.length (strCells t.labs) ∧ Below w.heap.size w w') := fun t ht => ih t ht (by have := cntL_mem k t ht; omega)
  have HLT0 : Hid ((T.mk kind s n k).labs = (if kind = 5 then [s] else []) ++ labsL k) := by unfold Hid; rw [T.labs]
  have HK := hidIn hK
  have HCN := hidIn hcnt
  clear ih hK hct
  go_enter Try.func54, Try.ntmps54
  go_upto_if 7 with fail
  obtain ⟨W, hW⟩ : ∃ W, W = w.alloc (.cells #[.int .i64 kind, .string s, .int .i64 n, .slice a k.length cap] 33) := ⟨_, rfl⟩
  have HB : Hid (Below w.heap.size w W) := by rw [hW]; exact below_alloc (Below.refl _ _) _
  have HBK : Hid (W.heap[w.heap.size]? = some (.cells #[.int .i64 kind, .string s, .int .i64 n, .slice a k.length cap] 33 (0, 0))) := by rw [hW]; exact heap_alloc_new _ _
  rw [← hW]
  clear hW
  go_cut [3] (fun s3 wx => wx.ownsRow W.heap.size 9 1 s3 (if kind = 5 then [s] else []).length (strCells (if kind = 5 then [s] else [])) ∧ Below W.heap.size W wx)
  case first =>
    by_cases h5 : kind = 5
    · have h5' : (kind == 5) = true := by simp [h5]
      have hcl := (cell_of_row _ _ 1 _ _ _ HBK.out)
      rw [show (#[.int .i64 kind, .string s, .int .i64 n, .slice a k.length cap] : Array Value)[1]? = some (.string s) from rfl] at hcl
      have HIF : Hid ((if kind = 5 then [s] else []) = [s]) := by unfold Hid; rw [if_pos h5]
      clear h5
      go_wp2_with (first
        | (at_builtin; refine wpList_append_own _ rfl _ _ 23 rfl W.heap.size 9 i0 (.string ByteArray.empty) 1 16 Try.underlying23 gi gz0 gz1 gz2 rfl (by decide) _ _ _ rfl (World.ownsRow_nil _ _ _ _) ⟨W.heap.size, 0, none⟩ 1 1 [.string s] rfl rfl (cell_one_in rfl _ _) (by intro u hu; simp at hu; subst hu; rfl) (by unfold maxLen; omega) (by omega) (by simp) ?_; intro v2 w2 hown2 hgrow2 _)
        | go_in)
      go_meet
      case rel =>
        have h1 : Below W.heap.size W (W.alloc (.cells #[.string s] 9)) := below_alloc (Below.refl _ _) _
        exact ⟨by rw [HIF.out]; simpa [strCells] using hown2, h1.grown hgrow2 (by simp) (fun j hj => by cases hj)⟩
    · have h5' : (kind == 5) = false := by simp [h5]
      have HIF : Hid ((if kind = 5 then [s] else []) = ([] : List ByteArray)) := by unfold Hid; rw [if_neg h5]
      clear h5
      go_wp2_with fail
      go_meet
      case rel => exact ⟨by rw [HIF.out]; exact World.ownsRow_nil _ _ _ _, Below.refl _ _⟩
  case rest =>
    obtain ⟨hrow, hbx⟩ := hcut
    generalize hl0 : (if kind = 5 then [s] else []) = l0 at *
    have hl1 : l0.length ≤ 1 := by rw [← hl0]; split <;> simp
    clear hl0
    have HROW0 := hidIn hrow
    have HBX := hidIn hbx
    have HG : Hid (∀ X, Below W.heap.size W X → X.cell? ⟨w.heap.size, 3, none⟩ = some (.slice a k.length cap)) := fun X hX => (cell_of_row _ _ _ _ _ _ ((hX.block _ (Array.getElem?_eq_some_iff.1 HBK.out).1).trans HBK.out)).trans rfl
    have HKW : Hid (KAt W 0 k a 0) := HK.out.below HB.out
    have g3 := HG.out wc hbx
    clear hrow hbx HBK HK
    go_wp2_with fail
    clear g3
    go_loopw [16, 3] (fun s16 s3 wr => ∃ i : Nat, i ≤ k.length ∧ s16 = .int .i64 i ∧ wr.ownsRow W.heap.size 9 1 s3 (l0 ++ labsL (k.take i)).length (strCells (l0 ++ labsL (k.take i))) ∧ Below W.heap.size W wr) (fun s16 _ _ => k.length - (intOf s16).toNat)
    case atStart => exact ⟨0, by omega, rfl, by simpa [labsL] using HROW0.out, HBX.out⟩
    case round =>
      clear HROW0 HBX
      obtain ⟨i, hi, rfl, hrow, hbr⟩ := hrel
      have HROW := hidIn hrow
      have HBR := hidIn hbr
      by_cases hlt : i < k.length
      · have hlt' : (i : Int) < (k.length : Int) := by omega
        obtain ⟨t, hti⟩ : ∃ t, k[i]? = some t := ⟨_, List.getElem?_eq_getElem hlt⟩
        obtain ⟨b, o, ka, ca, rfl, c0, c1, c2, c3, ht⟩ := (HKW.out.below hbr).cells hti
        have g3 := HG.out wr hbr
        have HM : Hid (t ∈ k) := List.mem_of_getElem? hti
        have HTI := hidIn ht
        have htk := take_more _ _ _ hti
        have HT3 : Hid (l0 ++ labsL (k.take (i + 1)) = (l0 ++ labsL (k.take i)) ++ t.labs) := by unfold Hid; rw [htk, labsL_snoc, List.append_assoc]
        have HLEN : Hid ((l0 ++ labsL (k.take i)).length + t.labs.length ≤ 1000000) := by
          have h1 := labs_cnt t
          have h2 := labsL_cnt (k.take i)
          have h3 := cntL_take k (i + 1)
          rw [htk, cntL_snoc] at h3
          have := HCN.out
          rw [List.length_append]
          show _ ≤ _
          omega
        clear hti htk ht hrow hbr
        generalize l0 ++ labsL (k.take i) = L at *
        go_wp2_with fail
        refine (HIH.out t HM.out wr _ HTI.out).mono ?_
        rintro e w4 ⟨v4, rfl, hrow4, hb4⟩
        have HB4 := hidIn (HBR.out.trans (hb4.mono HBR.out.size))
        have HROW4 := hidIn (ownsRow_below HROW.out hb4)
        have HNEW := hidIn hrow4
        clear hb4 hrow4 c0 c1 c2 c3 g3 HTI
        go_wp2_with (first
          | (at_builtin; refine wpList_append_rows _ rfl _ _ rfl W.heap.size _ L rfl HROW4.out wr.heap.size _ t.labs rfl HNEW.out HLEN.out HB4.out.size ?_; intro v5 w5 hown5 hgrow5 hloc5)
          | go_in)
        have HB5 : Hid (Below W.heap.size W w5) := HB4.out.grown hgrow5 HB4.out.size (fun j hj => (HROW4.out.lt j hj).1)
        have HOWN5 := hidIn hown5
        clear hown5 hgrow5 hloc5
        go_wp2_with fail
        go_roundw
        case rel => exact ⟨i + 1, by omega, by go_num, by rw [HT3.out]; exact HOWN5.out, HB5.out⟩
        case measure => simp [intOf]; omega
      · have hle : i = k.length := by omega
        subst hle
        have HE : Hid (wr.ownsRow W.heap.size 9 1 u3 (l0 ++ labsL k).length (strCells (l0 ++ labsL k))) := by have h := HROW.out; rw [List.take_length] at h; exact h
        clear hrow HROW hbr
        go_wp2_with fail
        go_ret
        refine ⟨_, rfl, ?_, HB.out.trans (HBR.out.mono HB.out.size)⟩
        rw [HLT0.out]
        exact ownsRow_base HE.out HB.out.size

end Go.Proofs.Ythhjcpmnekibnaa
namespace Go.Proofs.Ythhjcpmnekibnaa
open Go.RowKit
set_option linter.unusedVariables false

theorem addAll_len : ∀ (l acc : List ByteArray), (addAll acc l).length < acc.length + l.length ↔ ¬ (l.Nodup ∧ ∀ s ∈ l, s ∉ acc) := by
  intro l
  induction l with
  | nil => intro acc; simp [addAll]
  | cons s l ih =>
    intro acc
    show (addAll (addN acc s) l).length < _ ↔ _
    by_cases hs : s ∈ acc
    · rw [addN_twice acc s hs]
      have h := addAll_length l acc
      constructor
      · intro _ hn
        exact hn.2 s (by simp) hs
      · intro _
        simp only [List.length_cons]
        omega
    · have e : addN acc s = acc ++ [s] := by
        unfold addN
        rw [if_neg (fun e => hs ((inN_iff acc s).1 e))]
      have h := ih (acc ++ [s])
      rw [e]
      have hl : (acc ++ [s]).length + l.length = acc.length + (s :: l).length := by simp; omega
      rw [hl] at h
      rw [h]
      constructor
      · intro hn hc
        apply hn
        refine ⟨(List.nodup_cons.1 hc.1).2, fun x hx => ?_⟩
        simp only [List.mem_append, List.mem_singleton, not_or]
        exact ⟨hc.2 x (by simp [hx]), fun ex => (List.nodup_cons.1 hc.1).1 (ex ▸ hx)⟩
      · intro hn hc
        apply hn
        refine ⟨List.nodup_cons.2 ⟨fun hx => ?_, hc.1⟩, fun x hx => ?_⟩
        · have := hc.2 s hx
          simp at this
        · simp only [List.mem_cons] at hx
          rcases hx with rfl | hx
          · exact hs
          · have := hc.2 x hx
            simp only [List.mem_append, List.mem_singleton, not_or] at this
            exact this.1
theorem twice_iff (l : List ByteArray) : twice l = true ↔ ¬ l.Nodup := by
  have h := addAll_len l []
  simp only [List.length_nil, Nat.zero_add, List.not_mem_nil, not_false_eq_true, implies_true, and_true] at h
  unfold twice
  rw [decide_eq_true_iff]
  exact h
/-- What the document's Check answers. -/
def chkT (t : T) (nb : Bool) : Int := if formT t nb = true then (if 60 < t.nodes ∨ 12 < t.depth then 5 else if twice t.labs = true then 4 else 0) else 2
theorem nodup_take {l : List ByteArray} {i : Nat} {s : ByteArray} (h : (l.take i).Nodup) (hs : l[i]? = some s) (hn : ∀ b, b < i → l[b]? ≠ some s) : (l.take (i + 1)).Nodup := by
  rw [take_more _ _ _ hs, List.nodup_append]
  refine ⟨h, by simp, fun x hx y hy => ?_⟩
  simp at hy
  subst hy
  intro e
  subst e
  obtain ⟨b, hb, he⟩ := List.mem_iff_getElem.1 hx
  rw [List.length_take] at hb
  refine hn b (by omega) ?_
  rw [← he, List.getElem_take]
  exact List.getElem?_eq_getElem (by omega)
theorem nodup_get {l : List ByteArray} (h : l.Nodup) {i j : Nat} {s : ByteArray} (hi : l[i]? = some s) (hj : l[j]? = some s) : i = j := by
  obtain ⟨h1, e1⟩ := List.getElem?_eq_some_iff.1 hi
  obtain ⟨h2, e2⟩ := List.getElem?_eq_some_iff.1 hj
  exact (List.getElem_inj h).1 (e1.trans e2.symm)

set_option maxHeartbeats 4000000 in
set_option maxRecDepth 100000 in
theorem refCheck_any (t : T) (hsz : t.Sized) (hcnt : t.cnt ≤ 999990) (hnd : t.nodes ≤ 1000000) (nb : Bool) (w : World) (v : Value) (hv : TIn w 0 t v) : Calls Try.prog 24 #[v, .bool nb] w fun e w' => e = .returned (.int .i64 (chkT t nb)) ∧ Below w.heap.size w w' := by
  have HV := hidIn hv
  have hdn := T_depth_nodes t
  obtain ⟨a, cap, rfl, hc1, hc2, hK⟩ := hv
  have HSZ := hidIn hsz
  have HLN := hidIn (labs_cnt t)
  have HCN := hidIn hcnt
  obtain ⟨W, hW⟩ : ∃ W, W = w.alloc (.cells #[.int .i64 t.kind, .string t.s, .int .i64 t.n, .slice a t.k.length cap] 33) := ⟨_, rfl⟩
  have HB : Hid (Below w.heap.size w W) := by rw [hW]; exact below_alloc (Below.refl _ _) _
  have HBK : Hid (W.heap[w.heap.size]? = some (.cells #[.int .i64 t.kind, .string t.s, .int .i64 t.n, .slice a t.k.length cap] 33 (0, 0))) := by rw [hW]; exact heap_alloc_new _ _
  have HF : Hid (∀ X, Below W.heap.size W X → (X.cell? ⟨w.heap.size, 0, none⟩ = some (.int .i64 t.kind) ∧ X.cell? ⟨w.heap.size, 1, none⟩ = some (.string t.s) ∧ X.cell? ⟨w.heap.size, 2, none⟩ = some (.int .i64 t.n) ∧ X.cell? ⟨w.heap.size, 3, none⟩ = some (.slice a t.k.length cap)) ∧ TIn X 0 t (.agg #[.int .i64 t.kind, .string t.s, .int .i64 t.n, .slice a t.k.length cap])) := fun X hX => by
    have h := (hX.block _ (Array.getElem?_eq_some_iff.1 HBK.out).1).trans HBK.out
    exact ⟨⟨(cell_of_row _ _ _ _ _ _ h).trans rfl, (cell_of_row _ _ _ _ _ _ h).trans rfl, (cell_of_row _ _ _ _ _ _ h).trans rfl, (cell_of_row _ _ _ _ _ _ h).trans rfl⟩, (HV.out.below HB.out).below hX⟩
  clear hK hsz hcnt
  go_enter Try.func24, Try.ntmps24
  go_wp2_with fail
  rw [← hW]
  clear hW HBK HV
  refine (form_any t HSZ.out nb W _ (HF.out W (Below.refl _ _)).2).mono ?_
  rintro e w1 ⟨rfl, hb1⟩
  obtain ⟨⟨c0, c1, c2, c3⟩, t1⟩ := HF.out w1 hb1
  have HT1 := hidIn t1
  have HB1 := hidIn hb1
  clear t1 hb1
  cases hf : formT t nb
  · go_wp2_with fail
    go_ret
    exact ⟨by unfold chkT; rw [if_neg (by rw [hf]; simp)]; rfl, HB.out.trans (HB1.out.mono HB.out.size)⟩
  · have HC : Hid (chkT t nb = if 60 < t.nodes ∨ 12 < t.depth then 5 else if twice t.labs = true then 4 else 0) := by unfold Hid chkT; rw [if_pos hf]
    go_wp2_with fail
    refine (refSize_any t w1 _ HT1.out hnd).mono ?_
    rintro e w2 ⟨rfl, hb2⟩
    have hx2 := HB1.out.trans (hb2.mono HB1.out.size)
    have HX2 := hidIn hx2
    obtain ⟨⟨d0, d1, d2, d3⟩, t2⟩ := HF.out w2 hx2
    have HT2 := hidIn t2
    have HB2 := hidIn (HB.out.trans (hx2.mono HB.out.size))
    clear t2 hb2 hx2 c0 c1 c2 c3
    by_cases h1 : 60 < t.nodes
    · have h1' : (60 : Int) < (t.nodes : Int) := by omega
      go_wp2_with fail
      go_ret
      exact ⟨by rw [HC.out, if_pos (.inl h1)]; rfl, HB2.out⟩
    · have h1' : ¬ (60 : Int) < (t.nodes : Int) := by omega
      have h1d : decide ((60 : Int) < (t.nodes : Int)) = false := by simpa using h1'
      by_cases h2 : 12 < t.depth
      · have h2' : (12 : Int) < (t.depth : Int) := by omega
        go_wp2_with fail
        go_ret
        exact ⟨by rw [HC.out, if_pos (.inr h2)]; rfl, HB2.out⟩
      · have h2' : ¬ (12 : Int) < (t.depth : Int) := by omega
        have HC2 : Hid (chkT t nb = if twice t.labs = true then 4 else 0) := by unfold Hid; rw [HC.out, if_neg (by omega)]
        go_wp2_with fail
        refine (refLabels_any t HCN.out w2 _ HT2.out).mono ?_
        rintro e w3 ⟨v3, rfl, hrow3, hb3⟩
        have HB3 := hidIn (HB2.out.trans (hb3.mono HB2.out.size))
        obtain ⟨ao, lc, rfl, htx, hll, _⟩ := own_txt hrow3
        have HTX := hidIn htx
        have hlen : t.labs.length ≤ 1000000 := by have := HLN.out; have := HCN.out; omega
        clear hrow3 hb3 htx d0 d1 d2 d3 HC HT1 HT2 HX2 HB2
        generalize t.labs = l at *
        go_wp2_with fail
        go_loopw [29] (fun s29 wr => ∃ i : Nat, i ≤ l.length ∧ s29 = .int .i64 i ∧ Hid ((l.take i).Nodup) ∧ Below w3.heap.size w3 wr) (fun s29 _ => l.length - (intOf s29).toNat)
        case atStart => exact ⟨0, by omega, rfl, by unfold Hid; simp, Below.refl _ _⟩
        case round =>
          obtain ⟨i, hi, rfl, HN, hbr⟩ := hrel
          obtain ⟨wA, hwA⟩ : ∃ y, y = wr := ⟨_, rfl⟩
          subst hwA
          have HBA := hidIn hbr
          clear hbr
          by_cases hlt : i < l.length
          · have hlt' : (i : Int) < (l.length : Int) := by omega
            obtain ⟨s, hs⟩ : ∃ s, l[i]? = some s := ⟨_, List.getElem?_eq_getElem hlt⟩
            have HS := hidIn hs
            clear hs
            go_wp2_with fail
            go_loopw [9] (fun s9 wr => ∃ j : Nat, j ≤ i ∧ s9 = .int .i64 j ∧ Hid (∀ b, b < j → l[b]? ≠ some s) ∧ Below w3.heap.size w3 wr) (fun s9 _ => i - (intOf s9).toNat)
            case atStart => exact ⟨0, by omega, rfl, by intro b hb; omega, HBA.out⟩
            case round =>
              obtain ⟨j, hj, rfl, HJ, hbr⟩ := hrel
              by_cases hjl : j < i
              · have hjl' : (j : Int) < (i : Int) := by omega
                have hjl2 : (j : Int) < (l.length : Int) := by omega
                obtain ⟨y, hy⟩ : ∃ y, l[j]? = some y := ⟨_, List.getElem?_eq_getElem (by omega)⟩
                obtain ⟨g, rfl, k0⟩ := (HTX.out.below hbr) i s HS.out
                obtain ⟨g', eg, k1⟩ := (HTX.out.below hbr) j y hy
                have hgg : g' = g := by injection eg with eg; injection eg with eg; exact eg.symm
                subst hgg
                have HY := hidIn hy
                clear hy eg
                by_cases he : s = y
                · subst he
                  have HTW : Hid (twice l = true) := (twice_iff l).2 (fun hn => by have := nodup_get hn HS.out HY.out; omega)
                  go_wp2_with fail
                  go_quiet (fail)
                  go_wp2_with fail
                  go_ret
                  exact ⟨by rw [HC2.out, HTW.out]; rfl, HB3.out.trans ((below_drewN hbr _).mono HB3.out.size)⟩
                · have he' : ¬ s.toList = y.toList := fun e => he (toList_inj e)
                  have heb : (s.toList == y.toList) = false := by rw [beq_eq_false_iff_ne]; exact he'
                  go_wp2_with fail
                  go_quiet (fail)
                  go_wp2_with fail
                  go_roundw
                  case rel =>
                    refine ⟨j + 1, by omega, by go_num, fun b hb => ?_, below_drewN hbr _⟩
                    by_cases hbj : b = j
                    · subst hbj
                      rw [HY.out]
                      intro e
                      injection e with e
                      exact he e.symm
                    · exact HJ.out b (by omega)
                  case measure => simp [intOf]; omega
              · have hji : j = i := by omega
                subst hji
                have HN2 : Hid ((l.take (j + 1)).Nodup) := nodup_take HN.out HS.out HJ.out
                clear HJ HN hjl
                go_wp2_with fail
                go_roundw
                case rel => exact ⟨j + 1, by omega, by go_num, HN2, hbr⟩
                case measure => simp [intOf]; omega
          · have hle : i = l.length := by omega
            subst hle
            have HTW : Hid (twice l = false) := by
              have h := HN.out
              rw [List.take_length] at h
              show twice l = false
              cases ht : twice l
              · rfl
              · exact absurd h ((twice_iff l).1 ht)
            clear HN hlt
            go_wp2_with fail
            go_ret
            exact ⟨by rw [HC2.out, HTW.out]; rfl, HB3.out.trans (HBA.out.mono HB3.out.size)⟩

end Go.Proofs.Ythhjcpmnekibnaa
namespace Go.Proofs.Ythhjcpmnekibnaa
open Go.RowKit
set_option linter.unusedVariables false

/-- What is known of an operation's value: which it may be, and what is known of it from then on. -/
structure Mode where
  ok : Value → Prop
  some' : ∃ u, ok u
  fact : Value → World → Prop
/-- What is known of the slots. -/
abbrev Kn := Nat → World → Prop
def kput (k : Kn) : Option Tmp → (World → Prop) → Kn
  | none, _ => k
  | some d, f => fun s => if s = d then f else k s
theorem kput_ne (k : Kn) (dst : Option Tmp) (f : World → Prop) (s : Nat) (h : dst ≠ some s) : kput k dst f s = k s := by
  cases dst with
  | none => rfl
  | some d => simp only [kput]; rw [if_neg (fun e => h (by rw [e]))]
theorem kput_comm (k : Kn) (d e : Option Tmp) (f g : World → Prop) (h : ∀ x, d = some x → e ≠ some x) : kput (kput k d f) e g = kput (kput k e g) d f := by
  cases d with
  | none => rfl
  | some d =>
    cases e with
    | none => rfl
    | some e =>
      have hne : e ≠ d := fun x => h d rfl (by rw [x])
      funext s
      simp only [kput]
      by_cases h1 : s = e
      · subst h1; rw [if_pos rfl, if_neg hne, if_pos rfl]
      · by_cases h2 : s = d
        · subst h2; rw [if_neg h1, if_pos rfl, if_pos rfl]
        · rw [if_neg h1, if_neg h2, if_neg h2, if_neg h1]

section
variable {P : Program} {ops : Array Oper} {md : Region.Mode} {C : World → Prop} {Le : World → World → Prop} {M : Nat → Mode}

def growUpon (P : Program) (Le : World → World → Prop) (m : Mode) (w : World) : Result Next → Prop
  | .ok (.value u) w' => Le w w' ∧ m.ok u ∧ m.fact u w'
  | .ok .skip w' => Le w w' ∧ m.ok undef ∧ m.fact undef w'
  | .ok (.enter f args) w' => w' = w ∧ Calls P f args w (fun e w'' => ∃ v, e = .returned v ∧ Le w w'' ∧ m.ok v ∧ m.fact v w'')
  | _ => False
def growAt (P : Program) (o : Oper) (a : Act) (Le : World → World → Prop) (m : Mode) (w : World) : Prop := growUpon P Le m w ((execOp a.eval o).run P w)
/-- What is asked of an operation that comes up. -/
def grow (P : Program) (ops : Array Oper) (C : World → Prop) (Le : World → World → Prop) (m : Mode) (o : Oper) (a : Act) (k : Kn) (K : Act → Kn → Prop) : Prop :=
  (∀ u w w', Le w w' → m.fact u w → m.fact u w') ∧ (∀ w, C w → (∀ s ∈ o.looksAt ops, k s w) → growAt P o a Le m w) ∧ ∀ u, m.ok u → K (a.put o.dst u) (kput k o.dst (m.fact u))
def wpGrow (P : Program) (ops : Array Oper) (C : World → Prop) (Le : World → World → Prop) (M : Nat → Mode) (Q : Act → Kn → Prop) : Nat → List Oper → Act → Kn → Prop
  | _, [], a, k => Q a k
  | i, o :: rest, a, k => if Region.wanted o (yielded ops a.tmps) then grow P ops C Le (M i) o a k (wpGrow P ops C Le M Q (i + 1) rest) else wpGrow P ops C Le M Q (i + 1) rest (a.put o.dst undef) (kput k o.dst (fun _ => True))
def gOp (P : Program) (ops : Array Oper) (C : World → Prop) (Le : World → World → Prop) (M : Nat → Mode) (i : Nat) (K : Act → Kn → Prop) (a : Act) (k : Kn) : Prop :=
  match ops[i]? with
  | none => K a k
  | some o => if Region.wanted o (yielded ops a.tmps) then grow P ops C Le (M i) o a k K else K (a.put o.dst undef) (kput k o.dst (fun _ => True))
theorem grow_mono {m : Mode} {o : Oper} {a : Act} {k : Kn} {K K' : Act → Kn → Prop} (h : ∀ a k, K a k → K' a k) (hh : grow P ops C Le m o a k K) : grow P ops C Le m o a k K' :=
  ⟨hh.1, hh.2.1, fun u hu => h _ _ (hh.2.2 u hu)⟩
theorem gOp_mono {i : Nat} {a : Act} {k : Kn} {K K' : Act → Kn → Prop} (h : ∀ a k, K a k → K' a k) (hh : gOp P ops C Le M i K a k) : gOp P ops C Le M i K' a k := by
  unfold gOp at *
  split
  · exact h _ _ (by simpa [*] using hh)
  · rename_i o ho
    simp only [ho] at hh
    split
    · rename_i hw; simp only [hw, if_true] at hh; exact grow_mono h hh
    · rename_i hw; simp only [hw] at hh; exact h _ _ hh
def wpAnyG (P : Program) (md : Region.Mode) (ops : Array Oper) (C : World → Prop) (Le : World → World → Prop) (M : Nat → Mode) (Q : Act → Kn → Prop) : Nat → Array Bool → Act → Kn → Prop
  | 0, listed, a, k => Region.ready md ops listed = [] ∧ Q a k
  | fuel + 1, listed, a, k => (Region.ready md ops listed = [] → Q a k) ∧ ∀ i ∈ Region.ready md ops listed, gOp P ops C Le M i (wpAnyG P md ops C Le M Q fuel (listed.setIfInBounds i true)) a k
/-- What is known stays known. -/
def Stays (Le : World → World → Prop) (k : Kn) : Prop := ∀ s w w', Le w w' → k s w → k s w'
theorem Stays.put {k : Kn} (h : Stays Le k) (dst : Option Tmp) {f : World → Prop} (hf : ∀ w w', Le w w' → f w → f w') : Stays Le (kput k dst f) := by
  cases dst with
  | none => exact h
  | some d =>
    intro s w w' hle hk
    simp only [kput] at hk ⊢
    split
    · rename_i e; rw [if_pos e] at hk; exact hf w w' hle hk
    · rename_i e; rw [if_neg e] at hk; exact h s w w' hle hk
theorem all_put {k : Kn} {w : World} (h : ∀ s, k s w) (dst : Option Tmp) {f : World → Prop} (hf : f w) : ∀ s, kput k dst f s w := by
  cases dst with
  | none => exact h
  | some d =>
    intro s
    simp only [kput]
    split
    · exact hf
    · exact h s
theorem wp_of_grow {o : Oper} {m : Mode} {a : Act} {k : Kn} {K : Act → Kn → Prop} {K' : Act → World → Prop} {Q' : Exit → Act → World → Prop} {w : World} (hCL : ∀ w w', C w → Le w w' → C w') (hs : Stays Le k) (hw : C w) (hk : ∀ s, k s w)
    (h : ∀ a k w', Stays Le k → C w' → (∀ s, k s w') → K a k → K' a w') (hh : grow P ops C Le m o a k K) : o.wp P a w K' Q' := by
  obtain ⟨h0, h1, h2⟩ := hh
  have h3 := h1 w hw (fun s _ => hk s)
  unfold growAt at h3
  unfold Oper.wp
  generalize (execOp a.eval o).run P w = r at *
  cases r with
  | ok n w' =>
    cases n <;> simp only [growUpon] at h3 <;> simp only [Oper.upon]
    case value u =>
      obtain ⟨e1, e2, e3⟩ := h3
      exact h _ _ _ (hs.put o.dst (h0 u)) (hCL w w' hw e1) (all_put (fun s => hs s w w' e1 (hk s)) o.dst e3) (h2 u e2)
    case skip =>
      obtain ⟨e1, e2, e3⟩ := h3
      exact h _ _ _ (hs.put o.dst (h0 undef)) (hCL w w' hw e1) (all_put (fun s => hs s w w' e1 (hk s)) o.dst e3) (h2 undef e2)
    case enter f args =>
      obtain ⟨e1, hc⟩ := h3
      rw [e1]
      refine hc.mono fun e w'' ⟨v, he, e1, e2, e3⟩ => ?_
      subst he
      exact h _ _ _ (hs.put o.dst (h0 v)) (hCL w w'' hw e1) (all_put (fun s => hs s w w'' e1 (hk s)) o.dst e3) (h2 v e2)
  | halt x w' => simp only [growUpon] at h3
theorem wpOp_of_gOp {i : Nat} {a : Act} {k : Kn} {K : Act → Kn → Prop} {K' : Act → World → Prop} {Q' : Exit → Act → World → Prop} {w : World} (hCL : ∀ w w', C w → Le w w' → C w') (hs : Stays Le k) (hw : C w) (hk : ∀ s, k s w)
    (h : ∀ a k w', Stays Le k → C w' → (∀ s, k s w') → K a k → K' a w') (hh : gOp P ops C Le M i K a k) : wpOp P ops Q' i K' a w := by
  unfold gOp at hh
  unfold wpOp
  split
  · rename_i ho; simp only [ho] at hh; exact h _ _ _ hs hw hk hh
  · rename_i o ho
    simp only [ho] at hh
    split
    · rename_i hwt; simp only [hwt, if_true] at hh; exact .inl (wp_of_grow hCL hs hw hk h hh)
    · rename_i hwt; simp only [hwt] at hh; exact h _ _ _ (hs.put o.dst (fun _ _ _ h => h)) hw (all_put hk o.dst trivial) hh
theorem wpAny_of_grow {Q : Act → Kn → Prop} {Q' : Exit → Act → World → Prop} (hCL : ∀ w w', C w → Le w w' → C w') (hQ : ∀ a k w, C w → (∀ s, k s w) → Q a k → Q' .normal a w) : ∀ (fuel : Nat) (listed : Array Bool) (a : Act) (k : Kn) (w : World), Stays Le k → C w → (∀ s, k s w) →
    wpAnyG P md ops C Le M Q fuel listed a k → wpAny P md ops Q' fuel listed a w
  | 0, _, _, _, _, hs, hw, hk, h => ⟨h.1, hQ _ _ _ hw hk h.2⟩
  | fuel + 1, _, _, _, _, hs, hw, hk, h => ⟨fun h0 => hQ _ _ _ hw hk (h.1 h0), fun i hi => wpOp_of_gOp hCL hs hw hk (fun a' k' w' hs' hw' hk' => wpAny_of_grow hCL hQ fuel _ a' k' w' hs' hw' hk') (h.2 i hi)⟩
/-- What an operation yields: the values that it may, and what is known of them. -/
def YieldsG (P : Program) (ops : Array Oper) (C : World → Prop) (Le : World → World → Prop) (m : Mode) (o : Oper) (ok : Value → Prop) (f : Value → World → Prop) (a : Act) (k : Kn) : Prop :=
  (Region.wanted o (yielded ops a.tmps) = true ∧ ok = m.ok ∧ f = m.fact ∧ (∀ u w w', Le w w' → m.fact u w → m.fact u w') ∧ ∀ w, C w → (∀ s ∈ o.looksAt ops, k s w) → growAt P o a Le m w) ∨
  (Region.wanted o (yielded ops a.tmps) = false ∧ ok = (fun u => u = undef) ∧ f = fun _ _ => True)
theorem YieldsG.gOp {i : Nat} {o : Oper} {ok : Value → Prop} {f : Value → World → Prop} {a : Act} {k : Kn} (hi : ops[i]? = some o) (hy : YieldsG P ops C Le (M i) o ok f a k) {K : Act → Kn → Prop} (h : ∀ u, ok u → K (a.put o.dst u) (kput k o.dst (f u))) : gOp P ops C Le M i K a k := by
  unfold Go.Proofs.Ythhjcpmnekibnaa.gOp
  simp only [hi]
  rcases hy with ⟨hw, rfl, rfl, h0, hv⟩ | ⟨hw, rfl, rfl⟩
  · simp only [hw, if_true]; exact ⟨h0, hv, h⟩
  · simp only [hw, Bool.false_eq_true, if_false]; exact h undef rfl
theorem looks_put {o : Oper} {k : Kn} {dst : Option Tmp} {f : World → Prop} {w : World} (h : ∀ d, dst = some d → d ∉ o.looksAt ops) : (∀ s ∈ o.looksAt ops, kput k dst f s w) ↔ ∀ s ∈ o.looksAt ops, k s w := by
  constructor
  · intro hk s hs
    have := hk s hs
    rwa [kput_ne k dst f s (fun e => h s e hs)] at this
  · intro hk s hs
    rw [kput_ne k dst f s (fun e => h s e hs)]
    exact hk s hs
theorem YieldsG.of_same {m : Mode} {o : Oper} {ok : Value → Prop} {f : Value → World → Prop} {a a' : Act} {k k' : Kn} (hy : YieldsG P ops C Le m o ok f a k) (he : execOp a'.eval o = execOp a.eval o)
    (hw : Region.wanted o (yielded ops a'.tmps) = Region.wanted o (yielded ops a.tmps)) (hk : ∀ w, (∀ s ∈ o.looksAt ops, k' s w) → ∀ s ∈ o.looksAt ops, k s w) : YieldsG P ops C Le m o ok f a' k' := by
  rcases hy with ⟨h1, h2, h3, h4, h5⟩ | ⟨h1, h2, h3⟩
  · refine .inl ⟨by rw [hw]; exact h1, h2, h3, h4, fun w hC hl => ?_⟩
    have := h5 w hC (hk w hl)
    unfold growAt at *
    rwa [he]
  · exact .inr ⟨by rw [hw]; exact h1, h2, h3⟩
theorem yields_some {m : Mode} {o : Oper} {ok : Value → Prop} {f : Value → World → Prop} {a : Act} {k : Kn} (hy : YieldsG P ops C Le m o ok f a k) : ∃ u, ok u := by
  rcases hy with ⟨_, rfl, _⟩ | ⟨_, rfl, _⟩
  · exact m.some'
  · exact ⟨_, rfl⟩
theorem gOp_put {j : Nat} {m : Mode} {oi oj : Oper} {ok : Value → Prop} {f : Value → World → Prop} (hj : ops[j]? = some oj) (hap : oi.apart ops oj = true)
    (hsi : ∀ cs b, oi.op ≠ .select cs b) (hsj : ∀ cs b, oj.op ≠ .select cs b) {K : Act → Kn → Prop} {a : Act} {k : Kn}
    (hy : YieldsG P ops C Le m oi ok f a k) (h : ∀ u, ok u → gOp P ops C Le M j K (a.put oi.dst u) (kput k oi.dst (f u))) :
    gOp P ops C Le M j (fun a' k' => YieldsG P ops C Le m oi ok f a' k' ∧ ∀ u, ok u → K (a'.put oi.dst u) (kput k' oi.dst (f u))) a k := by
  obtain ⟨h1, h2, h3⟩ := Oper.apart_spec hap
  have keep : ∀ u g, YieldsG P ops C Le m oi ok f (a.put oj.dst u) (kput k oj.dst g) := fun u g =>
    hy.of_same (execOp_put oi hsi a oj.dst u h3) (wanted_put oi a oj.dst u h3) (fun w hl => (looks_put h3).1 hl)
  obtain ⟨u0, hu0⟩ := yields_some hy
  unfold gOp at *
  simp only [hj] at *
  by_cases hw : Region.wanted oj (yielded ops a.tmps) = true
  · simp only [hw, if_true]
    have hw' : ∀ u, Region.wanted oj (yielded ops (a.put oi.dst u).tmps) = true := fun u => by rw [wanted_put oj a oi.dst u h1]; exact hw
    simp only [hw', if_true] at h
    refine ⟨(h u0 hu0).1, fun w hC hl => ?_, fun u' hu' => ⟨keep u' _, fun u hu => ?_⟩⟩
    · have := (h u0 hu0).2.1 w hC ((looks_put h1).2 hl)
      unfold growAt at *
      rwa [execOp_put oj hsj a oi.dst u0 h1] at this
    · have := (h u hu).2.2 u' hu'
      rw [← Act.put_comm a u u' h2, ← kput_comm k oi.dst oj.dst _ _ h2]
      exact this
  · have hwf : Region.wanted oj (yielded ops a.tmps) = false := by simpa using hw
    simp only [hwf, Bool.false_eq_true, if_false]
    have hw' : ∀ u, Region.wanted oj (yielded ops (a.put oi.dst u).tmps) = false := fun u => by rw [wanted_put oj a oi.dst u h1]; exact hwf
    simp only [hw', Bool.false_eq_true, if_false] at h
    refine ⟨keep _ _, fun u hu => ?_⟩
    have := h u hu
    rw [← Act.put_comm a u undef h2, ← kput_comm k oi.dst oj.dst _ _ h2]
    exact this
theorem wpAnyG_first {Q : Act → Kn → Prop} {i : Nat} {oi : Oper} {ok : Value → Prop} {f : Value → World → Prop} (hi : ops[i]? = some oi) (hsel : ∀ (j : Nat) (o : Oper) cs b, ops[j]? = some o → o.op ≠ .select cs b) :
    ∀ (fuel : Nat) (listed : Array Bool) (a : Act) (k : Kn),
      (∀ j oj, ops[j]? = some oj → j ≠ i → listed.getD j true = false → (∀ e ∈ oj.after, Region.binds md e = true → e.on ≠ i) → oi.apart ops oj = true) →
      i ∈ Region.ready md ops listed → YieldsG P ops C Le (M i) oi ok f a k →
      (∀ u, ok u → wpAnyG P md ops C Le M Q fuel (listed.setIfInBounds i true) (a.put oi.dst u) (kput k oi.dst (f u))) → wpAnyG P md ops C Le M Q (fuel + 1) listed a k := by
  intro fuel
  induction fuel with
  | zero =>
    intro listed a k _ hr hy H
    refine ⟨fun h => (by rw [h] at hr; cases hr), fun j hj => ?_⟩
    by_cases hji : j = i
    · subst hji; exact hy.gOp hi H
    · obtain ⟨u0, hu0⟩ := yields_some hy
      have := ready_mono hj hji
      rw [(H u0 hu0).1] at this
      cases this
  | succ fuel ih =>
    intro listed a k hfree hr hy H
    refine ⟨fun h => (by rw [h] at hr; cases hr), fun j hj => ?_⟩
    by_cases hji : j = i
    · subst hji; exact hy.gOp hi H
    · have h1 : ∀ u, ok u → _ := fun u hu => (H u hu).2 j (ready_mono hj hji)
      obtain ⟨hjun, oj, hoj, hall⟩ := mem_ready.1 hj
      have hnot : ∀ e ∈ oj.after, Region.binds md e = true → e.on ≠ i := fun e he hb heq => by
        have h1 := hall e he hb
        have h0 := (mem_ready.1 hr).1
        rw [heq] at h1
        rcases Nat.lt_or_ge i listed.size with h' | h'
        · simp [h'] at h0 h1; rw [h0] at h1; cases h1
        · simp [Array.getElem?_eq_none h'] at h1
      have h2 := gOp_put hoj (hfree j oj hoj hji hjun hnot) (fun cs b => hsel i oi cs b hi) (fun cs b => hsel j oj cs b hoj) hy h1
      have hfree' : ∀ k ok, ops[k]? = some ok → k ≠ i → (listed.setIfInBounds j true).getD k true = false →
          (∀ e ∈ ok.after, Region.binds md e = true → e.on ≠ i) → oi.apart ops ok = true := fun k ok hk hki hun hno => by
        refine hfree k ok hk hki ?_ hno
        by_cases hjk : j = k
        · subst hjk; exact hjun
        · rw [getD_set_ne true hjk] at hun; exact hun
      refine gOp_mono (fun a' k' h3 => ih (listed.setIfInBounds j true) a' k' hfree' (ready_mono hr (Ne.symm hji)) h3.1 (fun u hu => ?_)) h2
      rw [Array.setIfInBounds_comm _ _ hji]
      exact h3.2 u hu
theorem yieldsG_of_gOp {i : Nat} {o : Oper} {a : Act} {k : Kn} {K : Act → Kn → Prop} (hi : ops[i]? = some o) (h : gOp P ops C Le M i K a k) : ∃ ok f, YieldsG P ops C Le (M i) o ok f a k ∧ ∀ u, ok u → K (a.put o.dst u) (kput k o.dst (f u)) := by
  unfold gOp at h
  simp only [hi] at h
  by_cases hw : Region.wanted o (yielded ops a.tmps) = true
  · simp only [hw, if_true] at h
    exact ⟨_, _, .inl ⟨hw, rfl, rfl, h.1, h.2.1⟩, h.2.2⟩
  · simp only [hw] at h
    exact ⟨_, _, .inr ⟨by simpa using hw, rfl, rfl⟩, fun u hu => by subst hu; exact h⟩
theorem wpAnyG_lex {Q : Act → Kn → Prop} (hs : Region.noSelect ops = true) : ∀ (l : List Oper) (i : Nat) (listed : Array Bool) (a : Act) (k : Kn), (∀ j, l[j]? = ops[i + j]?) →
    Region.lexFrom md ops l.length i listed = true → wpGrow P ops C Le M Q i l a k → wpAnyG P md ops C Le M Q l.length listed a k
  | [], _, _, _, _, _, hB, h => ⟨by simpa [Region.lexFrom] using hB, h⟩
  | o :: l, i, listed, a, k, hl, hB, h => by
    have h0 : ops[i]? = some o := by simpa using (hl 0).symm
    simp only [List.length_cons, Region.lexFrom, Bool.and_eq_true] at hB
    obtain ⟨⟨hr, hf⟩, hB'⟩ := hB
    have hst : gOp P ops C Le M i (wpGrow P ops C Le M Q (i + 1) l) a k := by unfold gOp; simp only [h0]; exact h
    obtain ⟨ok, f, hy, hK⟩ := yieldsG_of_gOp h0 hst
    exact wpAnyG_first h0 (Region.noSelect_spec hs) l.length listed a k (Region.free_spec h0 hf) (by simpa using hr) hy
      (fun u hu => wpAnyG_lex hs l (i + 1) _ _ _ (fun j => by have := hl (j + 1); simpa [Nat.add_assoc, Nat.add_comm 1 j] using this) hB' (hK u hu))
/-- One walk of the text's order serves every order. -/
theorem wp_region_grow {id : Nat} {Q : Exit → Act → World → Prop} {a : Act} {w : World} {l : List Oper} (C : World → Prop) (Le : World → World → Prop) (M : Nat → Mode) (hm : P.follows .mixedOrders = true) (hB : Region.lexB .any l.toArray = true) (hCL : ∀ w w', C w → Le w w' → C w') (hC : C w.drew)
    (h : wpGrow P l.toArray C Le M (fun a' k' => ∀ w', C w' → (∀ s, k' s w') → Q .normal a' w') 0 l a (fun _ _ => True)) : (Code.region id l.toArray true).wp P Q a w := by
  simp only [Region.lexB, Bool.and_eq_true] at hB
  refine wp_region_any hm (wpAny_of_grow (M := M) (Q := fun a' k' => ∀ w', C w' → (∀ s, k' s w') → Q .normal a' w') hCL (fun _ _ w' hw' hk h => h w' hw' hk) _ _ _ (fun _ _ => True) _ (fun _ _ _ _ h => h) hC (fun _ => trivial) ?_)
  have := wpAnyG_lex (C := C) (Le := Le) (M := M) (md := .any) hB.1 l 0 (Array.replicate l.toArray.size false) a (fun _ _ => True) (by simp) (by simpa using hB.2) h
  simpa using this
end
/-- One value. -/
def one (v : Value) : Mode := ⟨fun u => u = v, ⟨v, rfl⟩, fun _ _ => True⟩
/-- Any value of which something is known. -/
def loose (f : Value → World → Prop) : Mode := ⟨fun _ => True, ⟨undef, trivial⟩, f⟩
def modes (l : List Mode) (i : Nat) : Mode := l.getD i (one undef)
theorem wanted_none {o : Oper} {y : Nat → Option Bool} (hg : o.guard = none) : Region.wanted o y = true := by unfold Region.wanted; rw [hg]
theorem wanted_met {ops : Array Oper} {a : Act} {o : Oper} (j d : Nat) (want : Bool) (hg : o.guard = some (j, want)) (hd : (ops[j]?).bind (·.dst) = some d) (hv : a.tmps[d]? = some (.bool want)) : Region.wanted o (yielded ops a.tmps) = true := by
  unfold Region.wanted yielded
  rw [hg]
  simp only [hd, Option.bind_some, hv]
  simp
section
variable {P : Program} {ops : Array Oper} {C : World → Prop} {Le : World → World → Prop} {M : Nat → Mode} {Q : Act → Kn → Prop}
theorem grow_less {i : Nat} {rest : List Oper} (hQ : ∀ a k k', (∀ s w, k' s w → k s w) → Q a k → Q a k') : ∀ {i : Nat} {rest : List Oper} {a : Act} {k k' : Kn}, (∀ s w, k' s w → k s w) → wpGrow P ops C Le M Q i rest a k → wpGrow P ops C Le M Q i rest a k' := by
  intro i rest
  induction rest generalizing i with
  | nil => intro a k k' h hh; exact hQ a k k' h hh
  | cons o rest ih =>
    intro a k k' h hh
    unfold wpGrow at hh ⊢
    have hp : ∀ (f : World → Prop) s w, kput k' o.dst f s w → kput k o.dst f s w := by
      intro f s w
      cases o.dst with
      | none => exact h s w
      | some d =>
        simp only [kput]
        split
        · exact id
        · exact h s w
    split
    · rename_i hw
      rw [if_pos hw] at hh
      exact ⟨hh.1, fun w hC hl => hh.2.1 w hC (fun s hs => h s w (hl s hs)), fun u hu => ih (hp _) (hh.2.2 u hu)⟩
    · rename_i hw
      rw [if_neg hw] at hh
      exact ih (hp _) hh
theorem put_less {k : Kn} {dst : Option Tmp} (hd : ∀ d, dst = some d → ∀ w, k d w) : ∀ s w, kput k dst (fun _ => True) s w → k s w := by
  intro s w
  cases dst with
  | none => exact id
  | some d =>
    simp only [kput]
    split
    · rename_i e; subst e; exact fun _ => hd _ rfl w
    · exact id
/-- An operation that yields one value, and leaves the world. -/
theorem g_runs {i : Nat} {o : Oper} {rest : List Oper} {a : Act} {k : Kn} (v : Value) (hQ : ∀ a k k', (∀ s w, k' s w → k s w) → Q a k → Q a k') (hR : ∀ w, Le w w) (hM : M i = one v) (hw : Region.wanted o (yielded ops a.tmps) = true) (hkd : ∀ d, o.dst = some d → ∀ w, k d w)
    (h : ∀ w, C w → (execOp a.eval o).run P w = .ok (.value v) w) (hk : wpGrow P ops C Le M Q (i + 1) rest (a.put o.dst v) k) : wpGrow P ops C Le M Q i (o :: rest) a k := by
  unfold wpGrow
  rw [if_pos hw, hM]
  refine ⟨fun _ _ _ _ h => h, fun w hC _ => ?_, fun u hu => ?_⟩
  · unfold growAt
    rw [h w hC]
    exact ⟨hR w, rfl, trivial⟩
  · cases hu
    exact grow_less (i := i) (rest := rest) hQ (put_less hkd) hk
/-- A call that answers one value. -/
theorem g_calls {i : Nat} {o : Oper} {rest : List Oper} {a : Act} {k : Kn} (f : FuncId) (args : Array Value) (v : Value) (hQ : ∀ a k k', (∀ s w, k' s w → k s w) → Q a k → Q a k') (hM : M i = one v) (hw : Region.wanted o (yielded ops a.tmps) = true) (hkd : ∀ d, o.dst = some d → ∀ w, k d w)
    (h : ∀ w, C w → (execOp a.eval o).run P w = .ok (.enter f args) w) (hc : ∀ w, C w → (∀ s ∈ o.looksAt ops, k s w) → Calls P f args w (fun e w' => e = .returned v ∧ Le w w')) (hk : wpGrow P ops C Le M Q (i + 1) rest (a.put o.dst v) k) : wpGrow P ops C Le M Q i (o :: rest) a k := by
  unfold wpGrow
  rw [if_pos hw, hM]
  refine ⟨fun _ _ _ _ h => h, fun w hC hl => ?_, fun u hu => ?_⟩
  · unfold growAt
    rw [h w hC]
    exact ⟨rfl, (hc w hC hl).mono fun e w' ⟨h1, h2⟩ => ⟨v, h1, h2, rfl, trivial⟩⟩
  · cases hu
    exact grow_less (i := i) (rest := rest) hQ (put_less hkd) hk
/-- A call of whose answer something is known. -/
theorem g_loose {i : Nat} {o : Oper} {rest : List Oper} {a : Act} {k : Kn} (f : FuncId) (args : Array Value) (φ : Value → World → Prop) (hM : M i = loose φ) (hφ : ∀ u w w', Le w w' → φ u w → φ u w') (hw : Region.wanted o (yielded ops a.tmps) = true)
    (h : ∀ w, C w → (execOp a.eval o).run P w = .ok (.enter f args) w) (hc : ∀ w, C w → (∀ s ∈ o.looksAt ops, k s w) → Calls P f args w (fun e w' => ∃ v, e = .returned v ∧ Le w w' ∧ φ v w')) (hk : ∀ u, wpGrow P ops C Le M Q (i + 1) rest (a.put o.dst u) (kput k o.dst (φ u))) : wpGrow P ops C Le M Q i (o :: rest) a k := by
  unfold wpGrow
  rw [if_pos hw, hM]
  refine ⟨hφ, fun w hC hl => ?_, fun u _ => hk u⟩
  unfold growAt
  rw [h w hC]
  exact ⟨rfl, (hc w hC hl).mono fun e w' ⟨v, h1, h2, h3⟩ => ⟨v, h1, h2, trivial, h3⟩⟩
/-- An operation that yields one value, by what is known of what it reads. -/
theorem g_knows {i : Nat} {o : Oper} {rest : List Oper} {a : Act} {k : Kn} (v : Value) (hQ : ∀ a k k', (∀ s w, k' s w → k s w) → Q a k → Q a k') (hR : ∀ w, Le w w) (hM : M i = one v) (hw : Region.wanted o (yielded ops a.tmps) = true) (hkd : ∀ d, o.dst = some d → ∀ w, k d w)
    (h : ∀ w, C w → (∀ s ∈ o.looksAt ops, k s w) → (execOp a.eval o).run P w = .ok (.value v) w) (hk : wpGrow P ops C Le M Q (i + 1) rest (a.put o.dst v) k) : wpGrow P ops C Le M Q i (o :: rest) a k := by
  unfold wpGrow
  rw [if_pos hw, hM]
  refine ⟨fun _ _ _ _ h => h, fun w hC hl => ?_, fun u hu => ?_⟩
  · unfold growAt
    rw [h w hC hl]
    exact ⟨hR w, rfl, trivial⟩
  · cases hu
    exact grow_less (i := i) (rest := rest) hQ (put_less hkd) hk
/-- An operation that may make memory, and of whose value something is known. -/
theorem g_makes {i : Nat} {o : Oper} {rest : List Oper} {a : Act} {k : Kn} (φ : Value → World → Prop) (hM : M i = loose φ) (hφ : ∀ u w w', Le w w' → φ u w → φ u w') (hw : Region.wanted o (yielded ops a.tmps) = true)
    (h : ∀ w, C w → (∀ s ∈ o.looksAt ops, k s w) → ∃ u w', (execOp a.eval o).run P w = .ok (.value u) w' ∧ Le w w' ∧ φ u w') (hk : ∀ u, wpGrow P ops C Le M Q (i + 1) rest (a.put o.dst u) (kput k o.dst (φ u))) : wpGrow P ops C Le M Q i (o :: rest) a k := by
  unfold wpGrow
  rw [if_pos hw, hM]
  refine ⟨hφ, fun w hC hl => ?_, fun u _ => hk u⟩
  obtain ⟨u, w', h1, h2, h3⟩ := h w hC hl
  unfold growAt
  rw [h1]
  exact ⟨h2, trivial, h3⟩
theorem g_nil {i : Nat} {a : Act} {k : Kn} (h : Q a k) : wpGrow P ops C Le M Q i [] a k := h
theorem looks_at {o : Oper} {s : Nat} (h : Operand.tmp s ∈ o.op.operands.toList) : s ∈ o.looksAt ops :=
  List.mem_append_left _ (List.mem_filterMap.2 ⟨.tmp s, h, rfl⟩)
end
/-- Nothing that was there has turned. -/
def Up (w w' : World) : Prop := Below w.heap.size w w'
theorem Up.refl (w : World) : Up w w := Below.refl _ _
theorem up_class (W : World) : ∀ w w', Below W.heap.size W w → Up w w' → Below W.heap.size W w' := fun w w' h h' => h.trans (h'.mono h.size)
theorem grow_end {C : World → Prop} {R : Act → World → Prop} : ∀ (a : Act) (k k' : Kn), (∀ s w, k' s w → k s w) → (∀ w', C w' → (∀ s, k s w') → R a w') → ∀ w', C w' → (∀ s, k' s w') → R a w' :=
  fun a k k' h hq w' hC hk => hq w' hC (fun s => h s w' (hk s))

end Go.Proofs.Ythhjcpmnekibnaa
namespace Go.Proofs.Ythhjcpmnekibnaa
open Go.RowKit
set_option linter.unusedVariables false

theorem hidI {p : Prop} (h : p) : Hid p := h
theorem row1 {w : World} {b t : Nat} {s : ByteArray} (hb : b = w.heap.size) : ∀ (j : Nat) (x : ByteArray), [s][j]? = some x → (w.alloc (.cells #[.string s] t)).cell? ⟨b, j, none⟩ = some (.string x) := by
  intro j x hj
  subst hb
  rw [cell_of_row _ _ _ _ _ _ (heap_alloc_new _ _)]
  match j, hj with
  | 0, hj => simp at hj; subst hj; rfl
theorem row2 {w : World} {b t : Nat} {s u : ByteArray} (hb : b = w.heap.size) : ∀ (j : Nat) (x : ByteArray), [s, u][j]? = some x → (w.alloc (.cells #[.string s, .string u] t)).cell? ⟨b, j, none⟩ = some (.string x) := by
  intro j x hj
  subst hb
  rw [cell_of_row _ _ _ _ _ _ (heap_alloc_new _ _)]
  match j, hj with
  | 0, hj => simp at hj; subst hj; rfl
  | 1, hj => simp at hj; subst hj; rfl
/-- Two texts in a row. -/
def twoF (s u : ByteArray) (v : Value) (w : World) : Prop := ∃ b, v = .slice (some ⟨b, 0, none⟩) 2 2 ∧ b < w.heap.size ∧ ∀ (j : Nat) (x : ByteArray), [s, u][j]? = some x → w.cell? ⟨b, j, none⟩ = some (.string x)
theorem twoF_stays (s u : ByteArray) : ∀ v w w', Up w w' → twoF s u v w → twoF s u v w' := fun v w w' h ⟨b, e, hb, hc⟩ => ⟨b, e, Nat.lt_of_lt_of_le hb (Below.size h), fun j x hj => (Below.cell h (p := ⟨b, j, none⟩) hb).trans (hc j x hj)⟩
end Go.Proofs.Ythhjcpmnekibnaa
namespace Go.Proofs.Ythhjcpmnekibnaa
open Go.RowKit
set_option linter.unusedVariables false

def textC : C → ByteArray
  | .zero => ⟨#[122, 101, 114, 111]⟩
  | .one s => joinT ⟨#[111, 110, 101]⟩ [s]
  | .give c => joinT ⟨#[103, 105, 118, 101]⟩ [textC c]
  | .and l r => joinT ⟨#[97, 110, 100]⟩ [textC l, textC r]
  | .or s l r => joinT ⟨#[111, 114]⟩ [s, textC l, textC r]
  | .scale o c => joinT ⟨#[115, 99, 97, 108, 101]⟩ [textO o, textC c]
  | .when d c => joinT ⟨#[119, 104, 101, 110]⟩ [numT d, textC c]
  | .iff o l r => joinT ⟨#[105, 102]⟩ [textO o, textC l, textC r]
  | .odd _ => ⟨#[]⟩
theorem row3 {w : World} {b t : Nat} {s u z : ByteArray} (hb : b = w.heap.size) : ∀ (j : Nat) (x : ByteArray), [s, u, z][j]? = some x → (w.alloc (.cells #[.string s, .string u, .string z] t)).cell? ⟨b, j, none⟩ = some (.string x) := by
  intro j x hj
  subst hb
  rw [cell_of_row _ _ _ _ _ _ (heap_alloc_new _ _)]
  match j, hj with
  | 0, hj => simp at hj; subst hj; rfl
  | 1, hj => simp at hj; subst hj; rfl
  | 2, hj => simp at hj; subst hj; rfl
/-- Three texts in a row. -/
def threeF (s u z : ByteArray) (v : Value) (w : World) : Prop := ∃ b, v = .slice (some ⟨b, 0, none⟩) 3 3 ∧ b < w.heap.size ∧ ∀ (j : Nat) (x : ByteArray), [s, u, z][j]? = some x → w.cell? ⟨b, j, none⟩ = some (.string x)
theorem threeF_stays (s u z : ByteArray) : ∀ v w w', Up w w' → threeF s u z v w → threeF s u z v w' := fun v w w' h ⟨b, e, hb, hc⟩ => ⟨b, e, Nat.lt_of_lt_of_le hb (Below.size h), fun j x hj => (Below.cell h (p := ⟨b, j, none⟩) hb).trans (hc j x hj)⟩
end Go.Proofs.Ythhjcpmnekibnaa
namespace Go.Proofs.Ythhjcpmnekibnaa
open Go.RowKit
set_option linter.unusedVariables false

theorem joinL1 (a : ByteArray) : (Lib.join ([a].map (·.data.toList)) [44]).length = a.size := by
  have e : ∀ x : ByteArray, x.data.toList.length = x.size := fun x => by simp
  show (a.data.toList ++ []).length = _
  simp only [List.length_append, List.length_nil, e, Nat.add_zero]
theorem joinL2 (a b : ByteArray) : (Lib.join ([a, b].map (·.data.toList)) [44]).length = a.size + b.size + 1 := by
  have e : ∀ x : ByteArray, x.data.toList.length = x.size := fun x => by simp
  show (a.data.toList ++ ([44] ++ (b.data.toList ++ []))).length = _
  simp only [List.length_append, List.length_cons, List.length_nil, e]; omega
theorem joinL3 (a b c : ByteArray) : (Lib.join ([a, b, c].map (·.data.toList)) [44]).length = a.size + b.size + c.size + 2 := by
  have e : ∀ x : ByteArray, x.data.toList.length = x.size := fun x => by simp
  show (a.data.toList ++ ([44] ++ (b.data.toList ++ ([44] ++ (c.data.toList ++ []))))).length = _
  simp only [List.length_append, List.length_cons, List.length_nil, e]; omega
theorem joinT_size (word : ByteArray) (xs : List ByteArray) : (joinT word xs).size = word.size + (Lib.join (xs.map (·.data.toList)) [44]).length + 2 := by
  have e1 : (ByteArray.mk #[40]).size = 1 := rfl
  have e2 : (ByteArray.mk #[41]).size = 1 := rfl
  have e3 : (ByteArray.mk (Lib.join (xs.map (·.data.toList)) [44]).toArray).size = (Lib.join (xs.map (·.data.toList)) [44]).length := by
    simp [ByteArray.size]
  unfold joinT
  rw [ByteArray.size_append, ByteArray.size_append, ByteArray.size_append, e1, e2, e3]; omega
/-- Nothing in it is none, each amount has 64 bits, each name has at most M bytes. -/
def O.neat (M : Nat) : O → Prop
  | .const n => -9223372036854775808 ≤ n ∧ n ≤ 9223372036854775807
  | .fix s => s.size ≤ M
  | .add l r => l.neat M ∧ r.neat M
  | .neg o => o.neat M
  | .mul l r => l.neat M ∧ r.neat M
  | .max l r => l.neat M ∧ r.neat M
  | .odd _ => False
def C.neat (M : Nat) : C → Prop
  | .zero => True
  | .one s => s.size ≤ M
  | .give c => c.neat M
  | .and l r => l.neat M ∧ r.neat M
  | .or s l r => s.size ≤ M ∧ l.neat M ∧ r.neat M
  | .scale o c => o.neat M ∧ c.neat M
  | .when d c => (-9223372036854775808 ≤ d ∧ d ≤ 9223372036854775807) ∧ c.neat M
  | .iff o l r => o.neat M ∧ l.neat M ∧ r.neat M
  | .odd _ => False
theorem textO_size (M : Nat) (o : O) (h : o.neat M) : (textO o).size ≤ (M + 30) * o.nodes := by
  induction o with
  | const n => have := numT_size n h.1 h.2; simp only [textO, O.nodes]; omega
  | fix s => have h' : s.size ≤ M := h; simp only [textO, O.nodes]; rw [joinT_size, joinL1]; have e : (ByteArray.mk #[102, 105, 120]).size = 3 := rfl; omega
  | add l r h1 h2 => have a := h1 h.1; have b := h2 h.2; simp only [textO, O.nodes]; rw [joinT_size, joinL2, Nat.mul_add, Nat.mul_add]; have e : (ByteArray.mk #[97, 100, 100]).size = 3 := rfl; omega
  | neg o h1 => have a := h1 h; simp only [textO, O.nodes]; rw [joinT_size, joinL1, Nat.mul_add]; have e : (ByteArray.mk #[110, 101, 103]).size = 3 := rfl; omega
  | mul l r h1 h2 => have a := h1 h.1; have b := h2 h.2; simp only [textO, O.nodes]; rw [joinT_size, joinL2, Nat.mul_add, Nat.mul_add]; have e : (ByteArray.mk #[109, 117, 108]).size = 3 := rfl; omega
  | max l r h1 h2 => have a := h1 h.1; have b := h2 h.2; simp only [textO, O.nodes]; rw [joinT_size, joinL2, Nat.mul_add, Nat.mul_add]; have e : (ByteArray.mk #[109, 97, 120]).size = 3 := rfl; omega
  | odd v => exact absurd h id
theorem textC_size (M : Nat) (c : C) (h : c.neat M) : (textC c).size ≤ (M + 30) * c.nodes := by
  induction c with
  | zero => simp only [textC, C.nodes]; have e : (ByteArray.mk #[122, 101, 114, 111]).size = 4 := rfl; omega
  | one s => have h' : s.size ≤ M := h; simp only [textC, C.nodes]; rw [joinT_size, joinL1]; have e : (ByteArray.mk #[111, 110, 101]).size = 3 := rfl; omega
  | give c h1 => have a := h1 h; simp only [textC, C.nodes]; rw [joinT_size, joinL1, Nat.mul_add]; have e : (ByteArray.mk #[103, 105, 118, 101]).size = 4 := rfl; omega
  | and l r h1 h2 => have a := h1 h.1; have b := h2 h.2; simp only [textC, C.nodes]; rw [joinT_size, joinL2, Nat.mul_add, Nat.mul_add]; have e : (ByteArray.mk #[97, 110, 100]).size = 3 := rfl; omega
  | or s l r h1 h2 => have h' : s.size ≤ M := h.1; have a := h1 h.2.1; have b := h2 h.2.2; simp only [textC, C.nodes]; rw [joinT_size, joinL3, Nat.mul_add, Nat.mul_add]; have e : (ByteArray.mk #[111, 114]).size = 2 := rfl; omega
  | scale o c h1 => have a := textO_size M o h.1; have b := h1 h.2; simp only [textC, C.nodes]; rw [joinT_size, joinL2, Nat.mul_add, Nat.mul_add]; have e : (ByteArray.mk #[115, 99, 97, 108, 101]).size = 5 := rfl; omega
  | when d c h1 => have a := numT_size d h.1.1 h.1.2; have b := h1 h.2; simp only [textC, C.nodes]; rw [joinT_size, joinL2, Nat.mul_add]; have e : (ByteArray.mk #[119, 104, 101, 110]).size = 4 := rfl; omega
  | iff o l r h1 h2 => have a := textO_size M o h.1; have b := h1 h.2.1; have c := h2 h.2.2; simp only [textC, C.nodes]; rw [joinT_size, joinL3, Nat.mul_add, Nat.mul_add, Nat.mul_add]; have e : (ByteArray.mk #[105, 102]).size = 2 := rfl; omega
  | odd v => exact absurd h id
end Go.Proofs.Ythhjcpmnekibnaa
namespace Go.Proofs.Ythhjcpmnekibnaa
open Go.RowKit
set_option linter.unusedVariables false

theorem formB_neat (o : O) (k : o.Ok) (h : formB o = true) : o.neat 2147483648 := by
  induction o with
  | const n => exact k
  | fix s => exact k
  | add l r h1 h2 => simp only [formB, Bool.and_eq_true] at h; exact ⟨h1 k.1 h.1, h2 k.2 h.2⟩
  | mul l r h1 h2 => simp only [formB, Bool.and_eq_true] at h; exact ⟨h1 k.1 h.1, h2 k.2 h.2⟩
  | max l r h1 h2 => simp only [formB, Bool.and_eq_true] at h; exact ⟨h1 k.1 h.1, h2 k.2 h.2⟩
  | neg o h1 => exact h1 k h
  | odd v => cases h
theorem formC_neat (c : C) (k : c.Ok) (h : formC c = true) : c.neat 2147483648 := by
  induction c with
  | zero => trivial
  | one s => exact k
  | give c h1 => exact h1 k h
  | and l r h1 h2 => simp only [formC, Bool.and_eq_true] at h; exact ⟨h1 k.1 h.1, h2 k.2 h.2⟩
  | or s l r h1 h2 => simp only [formC, Bool.and_eq_true] at h; exact ⟨k.1, h1 k.2.1 h.1.2, h2 k.2.2 h.2⟩
  | scale o c h1 => simp only [formC, Bool.and_eq_true] at h; exact ⟨formB_neat o k.1 h.1, h1 k.2 h.2⟩
  | when d c h1 => simp only [formC, Bool.and_eq_true] at h; exact ⟨k.1, h1 k.2 h.2⟩
  | iff o l r h1 h2 => simp only [formC, Bool.and_eq_true] at h; exact ⟨formB_neat o k.1 h.1.1, h1 k.2.1 h.1.2, h2 k.2.2 h.2⟩
  | odd v => cases h
/-- What write.Obs answers: the text, and the error. -/
def wText (o : O) : ByteArray := if chk o = 0 then (if 1000 < (textO o).size then ⟨#[]⟩ else textO o) else ⟨#[]⟩
def wErr (o : O) : Int := if chk o = 0 then (if 1000 < (textO o).size then 5 else 0) else chk o
def wTextC (c : C) : ByteArray := if chkC c = 0 then (if 1000 < (textC c).size then ⟨#[]⟩ else textC c) else ⟨#[]⟩
def wErrC (c : C) : Int := if chkC c = 0 then (if 1000 < (textC c).size then 5 else 0) else chkC c
theorem chk_zero {o : O} (h : chk o = 0) : formB o = true ∧ o.nodes ≤ 60 ∧ o.depth ≤ 12 := by
  unfold chk at h
  split at h
  · rename_i hf
    split at h
    · cases h
    · exact ⟨hf, by omega, by omega⟩
  · cases h
theorem chkC_zero {c : C} (h : chkC c = 0) : formC c = true ∧ c.nodes ≤ 60 ∧ c.depth ≤ 12 ∧ twice c.labels = false := by
  unfold chkC at h
  split at h
  · rename_i hf
    split at h
    · cases h
    · split at h
      · cases h
      · rename_i ht
        exact ⟨hf, by omega, by omega, by simpa using ht⟩
  · cases h
end Go.Proofs.Ythhjcpmnekibnaa
namespace Go.Proofs.Ythhjcpmnekibnaa
open Go.RowKit
set_option linter.unusedVariables false

/-- The word of a kind. -/
def wordB (k : Int) : ByteArray := ([⟨#[]⟩, ⟨#[122, 101, 114, 111]⟩, ⟨#[111, 110, 101]⟩, ⟨#[103, 105, 118, 101]⟩, ⟨#[97, 110, 100]⟩, ⟨#[111, 114]⟩, ⟨#[115, 99, 97, 108, 101]⟩, ⟨#[119, 104, 101, 110]⟩, ⟨#[105, 102]⟩, ⟨#[]⟩, ⟨#[]⟩, ⟨#[]⟩, ⟨#[102, 105, 120]⟩, ⟨#[97, 100, 100]⟩, ⟨#[110, 101, 103]⟩, ⟨#[109, 117, 108]⟩, ⟨#[109, 97, 120]⟩] : List ByteArray).getD k.toNat ⟨#[]⟩
theorem wordB_size : ∀ k : Nat, k < 17 → (wordB k).size ≤ 5 := by decide +kernel

set_option maxHeartbeats 1000000 in
set_option maxRecDepth 100000 in
theorem word_0 (w : World) : Calls Try.prog 60 #[.int .i64 0] w fun e w' => e = .returned (.string (wordB 0)) ∧ Below w.heap.size w w' := by
  go_enter Try.func60, Try.ntmps60
  go_wp2_with fail
  go_ret
  exact ⟨rfl, below_alloc (Below.refl _ _) _⟩
set_option maxHeartbeats 1000000 in
set_option maxRecDepth 100000 in
theorem word_1 (w : World) : Calls Try.prog 60 #[.int .i64 1] w fun e w' => e = .returned (.string (wordB 1)) ∧ Below w.heap.size w w' := by
  go_enter Try.func60, Try.ntmps60
  go_wp2_with fail
  go_ret
  exact ⟨rfl, below_alloc (Below.refl _ _) _⟩
set_option maxHeartbeats 1000000 in
set_option maxRecDepth 100000 in
theorem word_2 (w : World) : Calls Try.prog 60 #[.int .i64 2] w fun e w' => e = .returned (.string (wordB 2)) ∧ Below w.heap.size w w' := by
  go_enter Try.func60, Try.ntmps60
  go_wp2_with fail
  go_ret
  exact ⟨rfl, below_alloc (Below.refl _ _) _⟩
set_option maxHeartbeats 1000000 in
set_option maxRecDepth 100000 in
theorem word_3 (w : World) : Calls Try.prog 60 #[.int .i64 3] w fun e w' => e = .returned (.string (wordB 3)) ∧ Below w.heap.size w w' := by
  go_enter Try.func60, Try.ntmps60
  go_wp2_with fail
  go_ret
  exact ⟨rfl, below_alloc (Below.refl _ _) _⟩
set_option maxHeartbeats 1000000 in
set_option maxRecDepth 100000 in
theorem word_4 (w : World) : Calls Try.prog 60 #[.int .i64 4] w fun e w' => e = .returned (.string (wordB 4)) ∧ Below w.heap.size w w' := by
  go_enter Try.func60, Try.ntmps60
  go_wp2_with fail
  go_ret
  exact ⟨rfl, below_alloc (Below.refl _ _) _⟩
set_option maxHeartbeats 1000000 in
set_option maxRecDepth 100000 in
theorem word_5 (w : World) : Calls Try.prog 60 #[.int .i64 5] w fun e w' => e = .returned (.string (wordB 5)) ∧ Below w.heap.size w w' := by
  go_enter Try.func60, Try.ntmps60
  go_wp2_with fail
  go_ret
  exact ⟨rfl, below_alloc (Below.refl _ _) _⟩
set_option maxHeartbeats 1000000 in
set_option maxRecDepth 100000 in
theorem word_6 (w : World) : Calls Try.prog 60 #[.int .i64 6] w fun e w' => e = .returned (.string (wordB 6)) ∧ Below w.heap.size w w' := by
  go_enter Try.func60, Try.ntmps60
  go_wp2_with fail
  go_ret
  exact ⟨rfl, below_alloc (Below.refl _ _) _⟩
set_option maxHeartbeats 1000000 in
set_option maxRecDepth 100000 in
theorem word_7 (w : World) : Calls Try.prog 60 #[.int .i64 7] w fun e w' => e = .returned (.string (wordB 7)) ∧ Below w.heap.size w w' := by
  go_enter Try.func60, Try.ntmps60
  go_wp2_with fail
  go_ret
  exact ⟨rfl, below_alloc (Below.refl _ _) _⟩
set_option maxHeartbeats 1000000 in
set_option maxRecDepth 100000 in
theorem word_8 (w : World) : Calls Try.prog 60 #[.int .i64 8] w fun e w' => e = .returned (.string (wordB 8)) ∧ Below w.heap.size w w' := by
  go_enter Try.func60, Try.ntmps60
  go_wp2_with fail
  go_ret
  exact ⟨rfl, below_alloc (Below.refl _ _) _⟩
set_option maxHeartbeats 1000000 in
set_option maxRecDepth 100000 in
theorem word_9 (w : World) : Calls Try.prog 60 #[.int .i64 9] w fun e w' => e = .returned (.string (wordB 9)) ∧ Below w.heap.size w w' := by
  go_enter Try.func60, Try.ntmps60
  go_wp2_with fail
  go_ret
  exact ⟨rfl, below_alloc (Below.refl _ _) _⟩
set_option maxHeartbeats 1000000 in
set_option maxRecDepth 100000 in
theorem word_10 (w : World) : Calls Try.prog 60 #[.int .i64 10] w fun e w' => e = .returned (.string (wordB 10)) ∧ Below w.heap.size w w' := by
  go_enter Try.func60, Try.ntmps60
  go_wp2_with fail
  go_ret
  exact ⟨rfl, below_alloc (Below.refl _ _) _⟩
set_option maxHeartbeats 1000000 in
set_option maxRecDepth 100000 in
theorem word_11 (w : World) : Calls Try.prog 60 #[.int .i64 11] w fun e w' => e = .returned (.string (wordB 11)) ∧ Below w.heap.size w w' := by
  go_enter Try.func60, Try.ntmps60
  go_wp2_with fail
  go_ret
  exact ⟨rfl, below_alloc (Below.refl _ _) _⟩
set_option maxHeartbeats 1000000 in
set_option maxRecDepth 100000 in
theorem word_12 (w : World) : Calls Try.prog 60 #[.int .i64 12] w fun e w' => e = .returned (.string (wordB 12)) ∧ Below w.heap.size w w' := by
  go_enter Try.func60, Try.ntmps60
  go_wp2_with fail
  go_ret
  exact ⟨rfl, below_alloc (Below.refl _ _) _⟩
set_option maxHeartbeats 1000000 in
set_option maxRecDepth 100000 in
theorem word_13 (w : World) : Calls Try.prog 60 #[.int .i64 13] w fun e w' => e = .returned (.string (wordB 13)) ∧ Below w.heap.size w w' := by
  go_enter Try.func60, Try.ntmps60
  go_wp2_with fail
  go_ret
  exact ⟨rfl, below_alloc (Below.refl _ _) _⟩
set_option maxHeartbeats 1000000 in
set_option maxRecDepth 100000 in
theorem word_14 (w : World) : Calls Try.prog 60 #[.int .i64 14] w fun e w' => e = .returned (.string (wordB 14)) ∧ Below w.heap.size w w' := by
  go_enter Try.func60, Try.ntmps60
  go_wp2_with fail
  go_ret
  exact ⟨rfl, below_alloc (Below.refl _ _) _⟩
set_option maxHeartbeats 1000000 in
set_option maxRecDepth 100000 in
theorem word_15 (w : World) : Calls Try.prog 60 #[.int .i64 15] w fun e w' => e = .returned (.string (wordB 15)) ∧ Below w.heap.size w w' := by
  go_enter Try.func60, Try.ntmps60
  go_wp2_with fail
  go_ret
  exact ⟨rfl, below_alloc (Below.refl _ _) _⟩
set_option maxHeartbeats 1000000 in
set_option maxRecDepth 100000 in
theorem word_16 (w : World) : Calls Try.prog 60 #[.int .i64 16] w fun e w' => e = .returned (.string (wordB 16)) ∧ Below w.heap.size w w' := by
  go_enter Try.func60, Try.ntmps60
  go_wp2_with fail
  go_ret
  exact ⟨rfl, below_alloc (Below.refl _ _) _⟩
theorem word_any (k : Int) (h0 : 0 ≤ k) (hk : k ≤ 16) (w : World) : Calls Try.prog 60 #[.int .i64 k] w fun e w' => e = .returned (.string (wordB k)) ∧ Below w.heap.size w w' := by
  have h : k = 0 ∨ k = 1 ∨ k = 2 ∨ k = 3 ∨ k = 4 ∨ k = 5 ∨ k = 6 ∨ k = 7 ∨ k = 8 ∨ k = 9 ∨ k = 10 ∨ k = 11 ∨ k = 12 ∨ k = 13 ∨ k = 14 ∨ k = 15 ∨ k = 16 := by omega
  rcases h with rfl | rfl | rfl | rfl | rfl | rfl | rfl | rfl | rfl | rfl | rfl | rfl | rfl | rfl | rfl | rfl | rfl
  · exact word_0 w
  · exact word_1 w
  · exact word_2 w
  · exact word_3 w
  · exact word_4 w
  · exact word_5 w
  · exact word_6 w
  · exact word_7 w
  · exact word_8 w
  · exact word_9 w
  · exact word_10 w
  · exact word_11 w
  · exact word_12 w
  · exact word_13 w
  · exact word_14 w
  · exact word_15 w
  · exact word_16 w

/-- What stands in a tree's text ahead of its parts. -/
def headP (kind : Int) (s : ByteArray) (n : Int) : List ByteArray := if kind = 2 ∨ kind = 5 ∨ kind = 12 then [s] else if kind = 7 then [numT n] else []
mutual
/-- A tree's text. -/
def textT : T → ByteArray
  | .mk kind s n k => if kind = 11 then numT n else if kind = 1 then ⟨#[122, 101, 114, 111]⟩ else joinT (wordB kind) (headP kind s n ++ textTL k)
def textTL : List T → List ByteArray
  | [] => []
  | t :: l => textT t :: textTL l
end
mutual
/-- A tree whose kinds are some, whose numbers have 64 bits. -/
def T.wk : T → Prop
  | .mk kind s n k => (0 ≤ kind ∧ kind ≤ 16) ∧ (-9223372036854775808 ≤ n ∧ n ≤ 9223372036854775807) ∧ wkL k
def wkL : List T → Prop
  | [] => True
  | t :: l => t.wk ∧ wkL l
end
theorem wkL_mem : ∀ {l : List T}, wkL l → ∀ t ∈ l, t.wk := by
  intro l
  induction l with
  | nil => intro _ t h; cases h
  | cons a l ih =>
    intro h t ht
    unfold wkL at h
    rcases List.mem_cons.1 ht with rfl | ht
    · exact h.1
    · exact ih h.2 t ht
theorem textTL_map (l : List T) : textTL l = l.map textT := by
  induction l with
  | nil => simp [textTL]
  | cons a l ih => simp [textTL, ih]
/-- The parts put together, from the word on. -/
def putT (word : ByteArray) (xs : List ByteArray) : ByteArray := word ++ ⟨#[40]⟩ ++ ⟨(Lib.join (xs.map (·.data.toList)) [44]).toArray⟩
def sepT (xs : List ByteArray) : ByteArray := if xs = [] then ⟨#[]⟩ else ⟨#[44]⟩
theorem joinTail_snoc (sep : List UInt8) (r : List (List UInt8)) (x : List UInt8) : Lib.joinTail sep (r ++ [x]) = Lib.joinTail sep r ++ (sep ++ x) := by
  simp [Lib.joinTail]
theorem ba_ext {a b : ByteArray} (h : a.data.toList = b.data.toList) : a = b := by
  cases a with | mk a => cases b with | mk b => simp only [ByteArray.mk.injEq]; exact Array.toList_inj.1 h
theorem ba_app (a b : ByteArray) : (a ++ b).data.toList = a.data.toList ++ b.data.toList := by simp
theorem putT_snoc (word : ByteArray) (xs : List ByteArray) (x : ByteArray) : putT word (xs ++ [x]) = putT word xs ++ sepT xs ++ x := by
  apply ba_ext
  unfold putT
  simp only [ba_app]
  cases xs with
  | nil => simp [sepT, Lib.join_one, Lib.join_nil]
  | cons a r =>
    rw [sepT, if_neg (by simp)]
    simp only [List.cons_append, List.map_cons, List.map_append, List.map_nil, Lib.join_cons, joinTail_snoc, List.append_assoc]
theorem sepT_snoc (xs : List ByteArray) (x : ByteArray) : sepT (xs ++ [x]) = ⟨#[44]⟩ := by rw [sepT, if_neg (by simp)]
theorem putT_size (word : ByteArray) (xs : List ByteArray) : (putT word xs).size = word.size + 1 + (Lib.join (xs.map (·.data.toList)) [44]).length := by
  have e1 : (ByteArray.mk #[40]).size = 1 := rfl
  have e3 : (ByteArray.mk (Lib.join (xs.map (·.data.toList)) [44]).toArray).size = (Lib.join (xs.map (·.data.toList)) [44]).length := by simp [ByteArray.size]
  unfold putT
  rw [ByteArray.size_append, ByteArray.size_append, e1, e3]
theorem putT_join (word : ByteArray) (xs : List ByteArray) : putT word xs ++ ⟨#[41]⟩ = joinT word xs := rfl
theorem putT_mono (word : ByteArray) (xs ys : List ByteArray) : (putT word xs).size ≤ (putT word (xs ++ ys)).size := by
  induction ys generalizing xs with
  | nil => simp
  | cons y ys ih =>
    have h := ih (xs ++ [y])
    rw [List.append_assoc] at h
    have h2 : (putT word (xs ++ [y])).size = (putT word xs).size + (sepT xs).size + y.size := by rw [putT_snoc, ByteArray.size_append, ByteArray.size_append]
    have h3 : xs ++ ([y] ++ ys) = xs ++ y :: ys := by simp
    rw [h3] at h
    omega

set_option maxHeartbeats 4000000 in
set_option maxRecDepth 100000 in
theorem refText_any (t : T) : t.wk → (textT t).size ≤ 70368744177664 → ∀ (w : World) (v : Value), TIn w 0 t v → Calls Try.prog 28 #[v] w fun e w' => e = .returned (.string (textT t)) ∧ Below w.heap.size w w' := by
  induction t using T.ind with
  | _ kind s n k ih =>
  intro hwk hsz w v hv
  have hkl := len_cap hv
  obtain ⟨a, cap, rfl, hc1, hc2, hK⟩ := hv
  simp only [T.kind, T.s, T.n, T.k] at hc1 hK hkl ⊢
  have hwk' := hwk
  unfold T.wk at hwk'
  obtain ⟨⟨hk0, hk16⟩, ⟨hn0, hn1⟩, hwl⟩ := hwk'
  have HNB : Hid (-9223372036854775808 ≤ n ∧ n ≤ 9223372036854775807) := ⟨hn0, hn1⟩
  have HTT : Hid (textT (.mk kind s n k) = if kind = 11 then numT n else if kind = 1 then ⟨#[122, 101, 114, 111]⟩ else joinT (wordB kind) (headP kind s n ++ textTL k)) := by show _ = _; rw [textT]
  have HIH0 : Hid (∀ t ∈ k, (textT t).size ≤ 70368744177664 → ∀ (w : World) (v : Value), TIn w 0 t v → Calls Try.prog 28 #[v] w fun e w' => e = .returned (.string (textT t)) ∧ Below w.heap.size w w') := fun t ht => ih t ht (wkL_mem hwl t ht)
  have HK := hidIn hK
  have HSZ := hidIn hsz
  clear ih hK hwk hwl hn0 hn1 hsz
  go_enter Try.func28, Try.ntmps28
  by_cases h11 : kind = 11
  · have HE : Hid (textT (.mk kind s n k) = numT n) := by show _ = _; rw [HTT.out, if_pos h11]
    subst h11
    go_wp2_with fail
    refine (digAny n HNB.out.1 HNB.out.2 _).mono ?_
    rintro e w1 ⟨rfl, hb1⟩
    go_wp2_with fail
    go_ret
    exact ⟨by rw [HE.out]; rfl, (below_alloc (Below.refl _ _) _).trans (hb1.mono (by simp))⟩
  by_cases h1 : kind = 1
  · have HE : Hid (textT (.mk kind s n k) = ⟨#[122, 101, 114, 111]⟩) := by show _ = _; rw [HTT.out, if_neg h11, if_pos h1]
    subst h1
    go_wp2_with fail
    go_ret
    exact ⟨by rw [HE.out]; rfl, below_alloc (Below.refl _ _) _⟩
  have HE : Hid (textT (.mk kind s n k) = joinT (wordB kind) (headP kind s n ++ textTL k)) := by show _ = _; rw [HTT.out, if_neg h11, if_neg h1]
  have HW : Hid ((wordB kind).size ≤ 5) := by have := wordB_size kind.toNat (by omega); rw [Int.toNat_of_nonneg hk0] at this; exact this
  have HSZ2 : Hid ((putT (wordB kind) (headP kind s n ++ textTL k)).size ≤ 70368744177664) := by
    have h := HSZ.out
    rw [HE.out, ← putT_join, ByteArray.size_append] at h
    show _ ≤ _
    omega
  have HWD := hidIn (word_any kind hk0 hk16)
  clear HTT HSZ
  have h11' : (kind == 11) = false := by simp [h11]
  have h1' : (kind == 1) = false := by simp [h1]
  go_wp2_with fail
  obtain ⟨W, hW⟩ : ∃ W, W = w.alloc (.cells #[.int .i64 kind, .string s, .int .i64 n, .slice a k.length cap] 33) := ⟨_, rfl⟩
  have HB : Hid (Below w.heap.size w W) := by rw [hW]; exact below_alloc (Below.refl _ _) _
  have HBK : Hid (W.heap[w.heap.size]? = some (.cells #[.int .i64 kind, .string s, .int .i64 n, .slice a k.length cap] 33 (0, 0))) := by rw [hW]; exact heap_alloc_new _ _
  rw [← hW]
  clear hW
  refine (HWD.out _).mono ?_
  rintro e w1 ⟨rfl, hb1⟩
  have HB1 := hidIn hb1
  have HG0 : Hid (∀ X, Below W.heap.size W X → X.cell? ⟨w.heap.size, 0, none⟩ = some (.int .i64 kind)) := fun X hX => (cell_of_row _ _ _ _ _ _ ((hX.block _ (Array.getElem?_eq_some_iff.1 HBK.out).1).trans HBK.out)).trans rfl
  have HG1 : Hid (∀ X, Below W.heap.size W X → X.cell? ⟨w.heap.size, 1, none⟩ = some (.string s)) := fun X hX => (cell_of_row _ _ _ _ _ _ ((hX.block _ (Array.getElem?_eq_some_iff.1 HBK.out).1).trans HBK.out)).trans rfl
  have HG2 : Hid (∀ X, Below W.heap.size W X → X.cell? ⟨w.heap.size, 2, none⟩ = some (.int .i64 n)) := fun X hX => (cell_of_row _ _ _ _ _ _ ((hX.block _ (Array.getElem?_eq_some_iff.1 HBK.out).1).trans HBK.out)).trans rfl
  have HG3 : Hid (∀ X, Below W.heap.size W X → X.cell? ⟨w.heap.size, 3, none⟩ = some (.slice a k.length cap)) := fun X hX => (cell_of_row _ _ _ _ _ _ ((hX.block _ (Array.getElem?_eq_some_iff.1 HBK.out).1).trans HBK.out)).trans rfl
  have HKW : Hid (KAt W 0 k a 0) := HK.out.below HB.out
  clear HBK HK hb1
  obtain ⟨wd, hwd⟩ : ∃ wd, wordB kind = wd := ⟨_, rfl⟩
  rw [hwd] at HW HSZ2 HE
  rw [hwd]
  clear hwd HWD
  have hw5 := HW.out
  have g0 := HG0.out w1 HB1.out
  have g1 := HG1.out w1 HB1.out
  have g2 := HG2.out w1 HB1.out
  have hws : (wd ++ (⟨#[40]⟩ : ByteArray)).size = wd.size + 1 := by rw [ByteArray.size_append]; rfl
  have HHS : Hid ((putT wd (headP kind s n)).size ≤ 70368744177664) := Nat.le_trans (putT_mono wd (headP kind s n) (textTL k)) HSZ2.out
  have HP0 : Hid (wd ++ ⟨#[40]⟩ = putT wd []) := by apply ba_ext; unfold putT; simp [Lib.join_nil]
  by_cases h2 : kind = 2
  · have HH : Hid (headP kind s n = [s]) := by show _ = _; unfold headP; rw [if_pos (by omega)]
    rw [HH.out] at HSZ2 HE HHS
    have hhs := HHS.out
    rw [show putT wd [s] = wd ++ ⟨#[40]⟩ ++ s from by rw [show [s] = [] ++ [s] from rfl, putT_snoc, ← HP0.out]; apply ba_ext; simp [sepT]] at hhs
    have hs3 := hhs
    rw [ByteArray.size_append] at hs3
    have HS0 : Hid (wd ++ ⟨#[40]⟩ ++ s = putT wd [s]) := by show _ = _; rw [show [s] = [] ++ [s] from rfl, putT_snoc, ← HP0.out]; apply ba_ext; simp [sepT]
    have HSP0 : Hid ((⟨#[44]⟩ : ByteArray) = sepT [s]) := rfl
    have HBX := HB1
    subst h2
    have g3 := HG3.out w1 HBX.out
    go_wp2_with fail
    clear g3
    rw [HS0.out, HSP0.out]
    go_loopw [47, 3, 4] (fun s47 s3 s4 wr => ∃ i : Nat, i ≤ k.length ∧ s47 = .int .i64 i ∧ s3 = .string (putT wd ([s] ++ textTL (k.take i))) ∧ s4 = .string (sepT ([s] ++ textTL (k.take i))) ∧ Below W.heap.size W wr) (fun s47 _ _ _ => k.length - (intOf s47).toNat)
    case atStart => exact ⟨0, by omega, rfl, by simp [textTL], by simp [textTL], HBX.out⟩
    case round =>
      clear HBX HS0 HSP0
      obtain ⟨i, hi, rfl, rfl, rfl, hbr⟩ := hrel
      have HBR := hidIn hbr
      by_cases hlt : i < k.length
      · have hlt' : (i : Int) < (k.length : Int) := by omega
        obtain ⟨t, hti⟩ : ∃ t, k[i]? = some t := ⟨_, List.getElem?_eq_getElem hlt⟩
        obtain ⟨b, o, ka, ca, rfl, c0, c1, c2, c3, ht⟩ := (HKW.out.below hbr).cells hti
        have g3 := HG3.out wr hbr
        have HM : Hid (t ∈ k) := List.mem_of_getElem? hti
        have HTI := hidIn ht
        have htk := take_more _ _ _ hti
        have HT3 : Hid ([s] ++ textTL (k.take (i + 1)) = ([s] ++ textTL (k.take i)) ++ [textT t]) := by show _ = _; rw [htk, textTL_map, textTL_map, List.map_append, List.append_assoc]; rfl
        have HLEN : Hid ((putT wd (([s] ++ textTL (k.take i)) ++ [textT t])).size ≤ 70368744177664) := by
          rw [← HT3.out]
          refine Nat.le_trans ?_ HSZ2.out
          have h2 : [s] ++ textTL k = ([s] ++ textTL (k.take (i + 1))) ++ textTL (k.drop (i + 1)) := by
            rw [textTL_map, textTL_map, textTL_map, List.append_assoc, ← List.map_append, List.take_append_drop]
          rw [h2]
          exact putT_mono _ _ _
        clear hti htk ht hbr
        have hsz : (putT wd ([s] ++ textTL (k.take i)) ++ sepT ([s] ++ textTL (k.take i)) ++ textT t).size ≤ 70368744177664 := by rw [← putT_snoc]; exact HLEN.out
        have hsn := putT_snoc wd ([s] ++ textTL (k.take i)) (textT t)
        have HSN : Hid (putT wd ([s] ++ textTL (k.take (i + 1))) = putT wd ([s] ++ textTL (k.take i)) ++ sepT ([s] ++ textTL (k.take i)) ++ textT t) := by show _ = _; rw [HT3.out, putT_snoc]
        have HSP : Hid (sepT ([s] ++ textTL (k.take (i + 1))) = ⟨#[44]⟩) := by show _ = _; rw [HT3.out, sepT_snoc]
        clear hsn HT3 HLEN
        obtain ⟨A, hA⟩ : ∃ A, putT wd ([s] ++ textTL (k.take i)) = A := ⟨_, rfl⟩
        obtain ⟨B, hB⟩ : ∃ B, sepT ([s] ++ textTL (k.take i)) = B := ⟨_, rfl⟩
        obtain ⟨X, hX⟩ : ∃ X, textT t = X := ⟨_, rfl⟩
        rw [hA, hB, hX] at hsz HSN
        rw [hA, hB]
        have HCX : Hid (∀ (w : World) (v : Value), TIn w 0 t v → Calls Try.prog 28 #[v] w fun e w' => e = .returned (.string X) ∧ Below w.heap.size w w') := by
          show ∀ _, _
          have h := HIH0.out t HM.out (by rw [hX]; rw [ByteArray.size_append] at hsz; omega)
          rw [hX] at h
          exact h
        clear hA hB hX
        rw [ByteArray.size_append] at hsz
        have hs1 : (A ++ B).size ≤ 70368744177664 := by omega
        have hs2 := hs1
        rw [ByteArray.size_append] at hs2
        go_wp2_with fail
        refine (HCX.out wr _ HTI.out).mono ?_
        rintro e w4 ⟨rfl, hb4⟩
        have HB4 := hidIn (HBR.out.trans (hb4.mono HBR.out.size))
        clear hb4 c0 c1 c2 c3 g3 HTI
        go_wp2_with fail
        go_roundw
        case rel => exact ⟨i + 1, by omega, by go_num, by rw [HSN.out], by first | (rw [HSP.out]; done) | (rw [HSP.out]; rfl), HB4.out⟩
        case measure => simp [intOf]; omega
      · have hle : i = k.length := by omega
        subst hle
        rw [List.take_length]
        have hsz := HSZ2.out
        have HPJ := hidIn (putT_join wd ([s] ++ textTL k))
        obtain ⟨A, hA⟩ : ∃ A, putT wd ([s] ++ textTL k) = A := ⟨_, rfl⟩
        rw [hA] at hsz HPJ
        rw [hA]
        clear hA
        go_wp2_with fail
        go_ret
        exact ⟨by rw [HE.out, ← HPJ.out]; rfl, HB.out.trans (HBR.out.mono HB.out.size)⟩
  by_cases h5 : kind = 5
  · have HH : Hid (headP kind s n = [s]) := by show _ = _; unfold headP; rw [if_pos (by omega)]
    rw [HH.out] at HSZ2 HE HHS
    have hhs := HHS.out
    rw [show putT wd [s] = wd ++ ⟨#[40]⟩ ++ s from by rw [show [s] = [] ++ [s] from rfl, putT_snoc, ← HP0.out]; apply ba_ext; simp [sepT]] at hhs
    have hs3 := hhs
    rw [ByteArray.size_append] at hs3
    have HS0 : Hid (wd ++ ⟨#[40]⟩ ++ s = putT wd [s]) := by show _ = _; rw [show [s] = [] ++ [s] from rfl, putT_snoc, ← HP0.out]; apply ba_ext; simp [sepT]
    have HSP0 : Hid ((⟨#[44]⟩ : ByteArray) = sepT [s]) := rfl
    have HBX := HB1
    subst h5
    have g3 := HG3.out w1 HBX.out
    go_wp2_with fail
    clear g3
    rw [HS0.out, HSP0.out]
    go_loopw [47, 3, 4] (fun s47 s3 s4 wr => ∃ i : Nat, i ≤ k.length ∧ s47 = .int .i64 i ∧ s3 = .string (putT wd ([s] ++ textTL (k.take i))) ∧ s4 = .string (sepT ([s] ++ textTL (k.take i))) ∧ Below W.heap.size W wr) (fun s47 _ _ _ => k.length - (intOf s47).toNat)
    case atStart => exact ⟨0, by omega, rfl, by simp [textTL], by simp [textTL], HBX.out⟩
    case round =>
      clear HBX HS0 HSP0
      obtain ⟨i, hi, rfl, rfl, rfl, hbr⟩ := hrel
      have HBR := hidIn hbr
      by_cases hlt : i < k.length
      · have hlt' : (i : Int) < (k.length : Int) := by omega
        obtain ⟨t, hti⟩ : ∃ t, k[i]? = some t := ⟨_, List.getElem?_eq_getElem hlt⟩
        obtain ⟨b, o, ka, ca, rfl, c0, c1, c2, c3, ht⟩ := (HKW.out.below hbr).cells hti
        have g3 := HG3.out wr hbr
        have HM : Hid (t ∈ k) := List.mem_of_getElem? hti
        have HTI := hidIn ht
        have htk := take_more _ _ _ hti
        have HT3 : Hid ([s] ++ textTL (k.take (i + 1)) = ([s] ++ textTL (k.take i)) ++ [textT t]) := by show _ = _; rw [htk, textTL_map, textTL_map, List.map_append, List.append_assoc]; rfl
        have HLEN : Hid ((putT wd (([s] ++ textTL (k.take i)) ++ [textT t])).size ≤ 70368744177664) := by
          rw [← HT3.out]
          refine Nat.le_trans ?_ HSZ2.out
          have h2 : [s] ++ textTL k = ([s] ++ textTL (k.take (i + 1))) ++ textTL (k.drop (i + 1)) := by
            rw [textTL_map, textTL_map, textTL_map, List.append_assoc, ← List.map_append, List.take_append_drop]
          rw [h2]
          exact putT_mono _ _ _
        clear hti htk ht hbr
        have hsz : (putT wd ([s] ++ textTL (k.take i)) ++ sepT ([s] ++ textTL (k.take i)) ++ textT t).size ≤ 70368744177664 := by rw [← putT_snoc]; exact HLEN.out
        have hsn := putT_snoc wd ([s] ++ textTL (k.take i)) (textT t)
        have HSN : Hid (putT wd ([s] ++ textTL (k.take (i + 1))) = putT wd ([s] ++ textTL (k.take i)) ++ sepT ([s] ++ textTL (k.take i)) ++ textT t) := by show _ = _; rw [HT3.out, putT_snoc]
        have HSP : Hid (sepT ([s] ++ textTL (k.take (i + 1))) = ⟨#[44]⟩) := by show _ = _; rw [HT3.out, sepT_snoc]
        clear hsn HT3 HLEN
        obtain ⟨A, hA⟩ : ∃ A, putT wd ([s] ++ textTL (k.take i)) = A := ⟨_, rfl⟩
        obtain ⟨B, hB⟩ : ∃ B, sepT ([s] ++ textTL (k.take i)) = B := ⟨_, rfl⟩
        obtain ⟨X, hX⟩ : ∃ X, textT t = X := ⟨_, rfl⟩
        rw [hA, hB, hX] at hsz HSN
        rw [hA, hB]
        have HCX : Hid (∀ (w : World) (v : Value), TIn w 0 t v → Calls Try.prog 28 #[v] w fun e w' => e = .returned (.string X) ∧ Below w.heap.size w w') := by
          show ∀ _, _
          have h := HIH0.out t HM.out (by rw [hX]; rw [ByteArray.size_append] at hsz; omega)
          rw [hX] at h
          exact h
        clear hA hB hX
        rw [ByteArray.size_append] at hsz
        have hs1 : (A ++ B).size ≤ 70368744177664 := by omega
        have hs2 := hs1
        rw [ByteArray.size_append] at hs2
        go_wp2_with fail
        refine (HCX.out wr _ HTI.out).mono ?_
        rintro e w4 ⟨rfl, hb4⟩
        have HB4 := hidIn (HBR.out.trans (hb4.mono HBR.out.size))
        clear hb4 c0 c1 c2 c3 g3 HTI
        go_wp2_with fail
        go_roundw
        case rel => exact ⟨i + 1, by omega, by go_num, by rw [HSN.out], by first | (rw [HSP.out]; done) | (rw [HSP.out]; rfl), HB4.out⟩
        case measure => simp [intOf]; omega
      · have hle : i = k.length := by omega
        subst hle
        rw [List.take_length]
        have hsz := HSZ2.out
        have HPJ := hidIn (putT_join wd ([s] ++ textTL k))
        obtain ⟨A, hA⟩ : ∃ A, putT wd ([s] ++ textTL k) = A := ⟨_, rfl⟩
        rw [hA] at hsz HPJ
        rw [hA]
        clear hA
        go_wp2_with fail
        go_ret
        exact ⟨by rw [HE.out, ← HPJ.out]; rfl, HB.out.trans (HBR.out.mono HB.out.size)⟩
  by_cases h12 : kind = 12
  · have HH : Hid (headP kind s n = [s]) := by show _ = _; unfold headP; rw [if_pos (by omega)]
    rw [HH.out] at HSZ2 HE HHS
    have hhs := HHS.out
    rw [show putT wd [s] = wd ++ ⟨#[40]⟩ ++ s from by rw [show [s] = [] ++ [s] from rfl, putT_snoc, ← HP0.out]; apply ba_ext; simp [sepT]] at hhs
    have hs3 := hhs
    rw [ByteArray.size_append] at hs3
    have HS0 : Hid (wd ++ ⟨#[40]⟩ ++ s = putT wd [s]) := by show _ = _; rw [show [s] = [] ++ [s] from rfl, putT_snoc, ← HP0.out]; apply ba_ext; simp [sepT]
    have HSP0 : Hid ((⟨#[44]⟩ : ByteArray) = sepT [s]) := rfl
    have HBX := HB1
    subst h12
    have g3 := HG3.out w1 HBX.out
    go_wp2_with fail
    clear g3
    rw [HS0.out, HSP0.out]
    go_loopw [47, 3, 4] (fun s47 s3 s4 wr => ∃ i : Nat, i ≤ k.length ∧ s47 = .int .i64 i ∧ s3 = .string (putT wd ([s] ++ textTL (k.take i))) ∧ s4 = .string (sepT ([s] ++ textTL (k.take i))) ∧ Below W.heap.size W wr) (fun s47 _ _ _ => k.length - (intOf s47).toNat)
    case atStart => exact ⟨0, by omega, rfl, by simp [textTL], by simp [textTL], HBX.out⟩
    case round =>
      clear HBX HS0 HSP0
      obtain ⟨i, hi, rfl, rfl, rfl, hbr⟩ := hrel
      have HBR := hidIn hbr
      by_cases hlt : i < k.length
      · have hlt' : (i : Int) < (k.length : Int) := by omega
        obtain ⟨t, hti⟩ : ∃ t, k[i]? = some t := ⟨_, List.getElem?_eq_getElem hlt⟩
        obtain ⟨b, o, ka, ca, rfl, c0, c1, c2, c3, ht⟩ := (HKW.out.below hbr).cells hti
        have g3 := HG3.out wr hbr
        have HM : Hid (t ∈ k) := List.mem_of_getElem? hti
        have HTI := hidIn ht
        have htk := take_more _ _ _ hti
        have HT3 : Hid ([s] ++ textTL (k.take (i + 1)) = ([s] ++ textTL (k.take i)) ++ [textT t]) := by show _ = _; rw [htk, textTL_map, textTL_map, List.map_append, List.append_assoc]; rfl
        have HLEN : Hid ((putT wd (([s] ++ textTL (k.take i)) ++ [textT t])).size ≤ 70368744177664) := by
          rw [← HT3.out]
          refine Nat.le_trans ?_ HSZ2.out
          have h2 : [s] ++ textTL k = ([s] ++ textTL (k.take (i + 1))) ++ textTL (k.drop (i + 1)) := by
            rw [textTL_map, textTL_map, textTL_map, List.append_assoc, ← List.map_append, List.take_append_drop]
          rw [h2]
          exact putT_mono _ _ _
        clear hti htk ht hbr
        have hsz : (putT wd ([s] ++ textTL (k.take i)) ++ sepT ([s] ++ textTL (k.take i)) ++ textT t).size ≤ 70368744177664 := by rw [← putT_snoc]; exact HLEN.out
        have hsn := putT_snoc wd ([s] ++ textTL (k.take i)) (textT t)
        have HSN : Hid (putT wd ([s] ++ textTL (k.take (i + 1))) = putT wd ([s] ++ textTL (k.take i)) ++ sepT ([s] ++ textTL (k.take i)) ++ textT t) := by show _ = _; rw [HT3.out, putT_snoc]
        have HSP : Hid (sepT ([s] ++ textTL (k.take (i + 1))) = ⟨#[44]⟩) := by show _ = _; rw [HT3.out, sepT_snoc]
        clear hsn HT3 HLEN
        obtain ⟨A, hA⟩ : ∃ A, putT wd ([s] ++ textTL (k.take i)) = A := ⟨_, rfl⟩
        obtain ⟨B, hB⟩ : ∃ B, sepT ([s] ++ textTL (k.take i)) = B := ⟨_, rfl⟩
        obtain ⟨X, hX⟩ : ∃ X, textT t = X := ⟨_, rfl⟩
        rw [hA, hB, hX] at hsz HSN
        rw [hA, hB]
        have HCX : Hid (∀ (w : World) (v : Value), TIn w 0 t v → Calls Try.prog 28 #[v] w fun e w' => e = .returned (.string X) ∧ Below w.heap.size w w') := by
          show ∀ _, _
          have h := HIH0.out t HM.out (by rw [hX]; rw [ByteArray.size_append] at hsz; omega)
          rw [hX] at h
          exact h
        clear hA hB hX
        rw [ByteArray.size_append] at hsz
        have hs1 : (A ++ B).size ≤ 70368744177664 := by omega
        have hs2 := hs1
        rw [ByteArray.size_append] at hs2
        go_wp2_with fail
        refine (HCX.out wr _ HTI.out).mono ?_
        rintro e w4 ⟨rfl, hb4⟩
        have HB4 := hidIn (HBR.out.trans (hb4.mono HBR.out.size))
        clear hb4 c0 c1 c2 c3 g3 HTI
        go_wp2_with fail
        go_roundw
        case rel => exact ⟨i + 1, by omega, by go_num, by rw [HSN.out], by first | (rw [HSP.out]; done) | (rw [HSP.out]; rfl), HB4.out⟩
        case measure => simp [intOf]; omega
      · have hle : i = k.length := by omega
        subst hle
        rw [List.take_length]
        have hsz := HSZ2.out
        have HPJ := hidIn (putT_join wd ([s] ++ textTL k))
        obtain ⟨A, hA⟩ : ∃ A, putT wd ([s] ++ textTL k) = A := ⟨_, rfl⟩
        rw [hA] at hsz HPJ
        rw [hA]
        clear hA
        go_wp2_with fail
        go_ret
        exact ⟨by rw [HE.out, ← HPJ.out]; rfl, HB.out.trans (HBR.out.mono HB.out.size)⟩
  by_cases h7 : kind = 7
  · have HH : Hid (headP kind s n = [numT n]) := by show _ = _; unfold headP; rw [if_neg (by omega), if_pos h7]
    rw [HH.out] at HSZ2 HE HHS
    have hhs := HHS.out
    have HS0 : Hid (wd ++ ⟨#[40]⟩ ++ numT n = putT wd [numT n]) := by show _ = _; rw [show [numT n] = [] ++ [numT n] from rfl, putT_snoc, ← HP0.out]; apply ba_ext; simp [sepT]
    have HSP0 : Hid ((⟨#[44]⟩ : ByteArray) = sepT [numT n]) := rfl
    rw [← HS0.out] at hhs
    have hs3 := hhs
    rw [ByteArray.size_append] at hs3
    subst h7
    go_wp2_with fail
    refine (digAny n HNB.out.1 HNB.out.2 _).mono ?_
    rintro e w2 ⟨rfl, hb2⟩
    have HBX := hidIn (HB1.out.trans (hb2.mono HB1.out.size))
    clear hb2 g0 g1 g2
    have g3 := HG3.out w2 HBX.out
    go_wp2_with fail
    clear g3
    rw [HS0.out, HSP0.out]
    go_loopw [47, 3, 4] (fun s47 s3 s4 wr => ∃ i : Nat, i ≤ k.length ∧ s47 = .int .i64 i ∧ s3 = .string (putT wd ([numT n] ++ textTL (k.take i))) ∧ s4 = .string (sepT ([numT n] ++ textTL (k.take i))) ∧ Below W.heap.size W wr) (fun s47 _ _ _ => k.length - (intOf s47).toNat)
    case atStart => exact ⟨0, by omega, rfl, by simp [textTL], by simp [textTL], HBX.out⟩
    case round =>
      clear HBX HS0 HSP0
      obtain ⟨i, hi, rfl, rfl, rfl, hbr⟩ := hrel
      have HBR := hidIn hbr
      by_cases hlt : i < k.length
      · have hlt' : (i : Int) < (k.length : Int) := by omega
        obtain ⟨t, hti⟩ : ∃ t, k[i]? = some t := ⟨_, List.getElem?_eq_getElem hlt⟩
        obtain ⟨b, o, ka, ca, rfl, c0, c1, c2, c3, ht⟩ := (HKW.out.below hbr).cells hti
        have g3 := HG3.out wr hbr
        have HM : Hid (t ∈ k) := List.mem_of_getElem? hti
        have HTI := hidIn ht
        have htk := take_more _ _ _ hti
        have HT3 : Hid ([numT n] ++ textTL (k.take (i + 1)) = ([numT n] ++ textTL (k.take i)) ++ [textT t]) := by show _ = _; rw [htk, textTL_map, textTL_map, List.map_append, List.append_assoc]; rfl
        have HLEN : Hid ((putT wd (([numT n] ++ textTL (k.take i)) ++ [textT t])).size ≤ 70368744177664) := by
          rw [← HT3.out]
          refine Nat.le_trans ?_ HSZ2.out
          have h2 : [numT n] ++ textTL k = ([numT n] ++ textTL (k.take (i + 1))) ++ textTL (k.drop (i + 1)) := by
            rw [textTL_map, textTL_map, textTL_map, List.append_assoc, ← List.map_append, List.take_append_drop]
          rw [h2]
          exact putT_mono _ _ _
        clear hti htk ht hbr
        have hsz : (putT wd ([numT n] ++ textTL (k.take i)) ++ sepT ([numT n] ++ textTL (k.take i)) ++ textT t).size ≤ 70368744177664 := by rw [← putT_snoc]; exact HLEN.out
        have hsn := putT_snoc wd ([numT n] ++ textTL (k.take i)) (textT t)
        have HSN : Hid (putT wd ([numT n] ++ textTL (k.take (i + 1))) = putT wd ([numT n] ++ textTL (k.take i)) ++ sepT ([numT n] ++ textTL (k.take i)) ++ textT t) := by show _ = _; rw [HT3.out, putT_snoc]
        have HSP : Hid (sepT ([numT n] ++ textTL (k.take (i + 1))) = ⟨#[44]⟩) := by show _ = _; rw [HT3.out, sepT_snoc]
        clear hsn HT3 HLEN
        obtain ⟨A, hA⟩ : ∃ A, putT wd ([numT n] ++ textTL (k.take i)) = A := ⟨_, rfl⟩
        obtain ⟨B, hB⟩ : ∃ B, sepT ([numT n] ++ textTL (k.take i)) = B := ⟨_, rfl⟩
        obtain ⟨X, hX⟩ : ∃ X, textT t = X := ⟨_, rfl⟩
        rw [hA, hB, hX] at hsz HSN
        rw [hA, hB]
        have HCX : Hid (∀ (w : World) (v : Value), TIn w 0 t v → Calls Try.prog 28 #[v] w fun e w' => e = .returned (.string X) ∧ Below w.heap.size w w') := by
          show ∀ _, _
          have h := HIH0.out t HM.out (by rw [hX]; rw [ByteArray.size_append] at hsz; omega)
          rw [hX] at h
          exact h
        clear hA hB hX
        rw [ByteArray.size_append] at hsz
        have hs1 : (A ++ B).size ≤ 70368744177664 := by omega
        have hs2 := hs1
        rw [ByteArray.size_append] at hs2
        go_wp2_with fail
        refine (HCX.out wr _ HTI.out).mono ?_
        rintro e w4 ⟨rfl, hb4⟩
        have HB4 := hidIn (HBR.out.trans (hb4.mono HBR.out.size))
        clear hb4 c0 c1 c2 c3 g3 HTI
        go_wp2_with fail
        go_roundw
        case rel => exact ⟨i + 1, by omega, by go_num, by rw [HSN.out], by first | (rw [HSP.out]; done) | (rw [HSP.out]; rfl), HB4.out⟩
        case measure => simp [intOf]; omega
      · have hle : i = k.length := by omega
        subst hle
        rw [List.take_length]
        have hsz := HSZ2.out
        have HPJ := hidIn (putT_join wd ([numT n] ++ textTL k))
        obtain ⟨A, hA⟩ : ∃ A, putT wd ([numT n] ++ textTL k) = A := ⟨_, rfl⟩
        rw [hA] at hsz HPJ
        rw [hA]
        clear hA
        go_wp2_with fail
        go_ret
        exact ⟨by rw [HE.out, ← HPJ.out]; rfl, HB.out.trans (HBR.out.mono HB.out.size)⟩
  have HH : Hid (headP kind s n = []) := by show _ = _; unfold headP; rw [if_neg (by omega), if_neg h7]
  rw [HH.out] at HSZ2 HE HHS
  have HS0 : Hid (wd ++ ⟨#[40]⟩ = putT wd []) := HP0.out
  have HSP0 : Hid ((⟨#[]⟩ : ByteArray) = sepT []) := rfl
  have HBX := HB1
  have q2 : (kind == 2) = false := by simp [h2]
  have q5 : (kind == 5) = false := by simp [h5]
  have q12 : (kind == 12) = false := by simp [h12]
  have q7 : (kind == 7) = false := by simp [h7]
  have g3 := HG3.out w1 HBX.out
  go_wp2_with fail
  clear g3
  rw [HS0.out, HSP0.out]
  go_loopw [47, 3, 4] (fun s47 s3 s4 wr => ∃ i : Nat, i ≤ k.length ∧ s47 = .int .i64 i ∧ s3 = .string (putT wd (([] : List ByteArray) ++ textTL (k.take i))) ∧ s4 = .string (sepT (([] : List ByteArray) ++ textTL (k.take i))) ∧ Below W.heap.size W wr) (fun s47 _ _ _ => k.length - (intOf s47).toNat)
  case atStart => exact ⟨0, by omega, rfl, by simp [textTL], by simp [textTL], HBX.out⟩
  case round =>
    clear HBX HS0 HSP0
    obtain ⟨i, hi, rfl, rfl, rfl, hbr⟩ := hrel
    have HBR := hidIn hbr
    by_cases hlt : i < k.length
    · have hlt' : (i : Int) < (k.length : Int) := by omega
      obtain ⟨t, hti⟩ : ∃ t, k[i]? = some t := ⟨_, List.getElem?_eq_getElem hlt⟩
      obtain ⟨b, o, ka, ca, rfl, c0, c1, c2, c3, ht⟩ := (HKW.out.below hbr).cells hti
      have g3 := HG3.out wr hbr
      have HM : Hid (t ∈ k) := List.mem_of_getElem? hti
      have HTI := hidIn ht
      have htk := take_more _ _ _ hti
      have HT3 : Hid (([] : List ByteArray) ++ textTL (k.take (i + 1)) = (([] : List ByteArray) ++ textTL (k.take i)) ++ [textT t]) := by show _ = _; rw [htk, textTL_map, textTL_map, List.map_append, List.append_assoc]; rfl
      have HLEN : Hid ((putT wd ((([] : List ByteArray) ++ textTL (k.take i)) ++ [textT t])).size ≤ 70368744177664) := by
        rw [← HT3.out]
        refine Nat.le_trans ?_ HSZ2.out
        have h2 : ([] : List ByteArray) ++ textTL k = (([] : List ByteArray) ++ textTL (k.take (i + 1))) ++ textTL (k.drop (i + 1)) := by
          rw [textTL_map, textTL_map, textTL_map, List.append_assoc, ← List.map_append, List.take_append_drop]
        rw [h2]
        exact putT_mono _ _ _
      clear hti htk ht hbr
      have hsz : (putT wd (([] : List ByteArray) ++ textTL (k.take i)) ++ sepT (([] : List ByteArray) ++ textTL (k.take i)) ++ textT t).size ≤ 70368744177664 := by rw [← putT_snoc]; exact HLEN.out
      have hsn := putT_snoc wd (([] : List ByteArray) ++ textTL (k.take i)) (textT t)
      have HSN : Hid (putT wd (([] : List ByteArray) ++ textTL (k.take (i + 1))) = putT wd (([] : List ByteArray) ++ textTL (k.take i)) ++ sepT (([] : List ByteArray) ++ textTL (k.take i)) ++ textT t) := by show _ = _; rw [HT3.out, putT_snoc]
      have HSP : Hid (sepT (([] : List ByteArray) ++ textTL (k.take (i + 1))) = ⟨#[44]⟩) := by show _ = _; rw [HT3.out, sepT_snoc]
      clear hsn HT3 HLEN
      obtain ⟨A, hA⟩ : ∃ A, putT wd (([] : List ByteArray) ++ textTL (k.take i)) = A := ⟨_, rfl⟩
      obtain ⟨B, hB⟩ : ∃ B, sepT (([] : List ByteArray) ++ textTL (k.take i)) = B := ⟨_, rfl⟩
      obtain ⟨X, hX⟩ : ∃ X, textT t = X := ⟨_, rfl⟩
      rw [hA, hB, hX] at hsz HSN
      rw [hA, hB]
      have HCX : Hid (∀ (w : World) (v : Value), TIn w 0 t v → Calls Try.prog 28 #[v] w fun e w' => e = .returned (.string X) ∧ Below w.heap.size w w') := by
        show ∀ _, _
        have h := HIH0.out t HM.out (by rw [hX]; rw [ByteArray.size_append] at hsz; omega)
        rw [hX] at h
        exact h
      clear hA hB hX
      rw [ByteArray.size_append] at hsz
      have hs1 : (A ++ B).size ≤ 70368744177664 := by omega
      have hs2 := hs1
      rw [ByteArray.size_append] at hs2
      go_wp2_with fail
      refine (HCX.out wr _ HTI.out).mono ?_
      rintro e w4 ⟨rfl, hb4⟩
      have HB4 := hidIn (HBR.out.trans (hb4.mono HBR.out.size))
      clear hb4 c0 c1 c2 c3 g3 HTI
      go_wp2_with fail
      go_roundw
      case rel => exact ⟨i + 1, by omega, by go_num, by rw [HSN.out], by first | (rw [HSP.out]; done) | (rw [HSP.out]; rfl), HB4.out⟩
      case measure => simp [intOf]; omega
    · have hle : i = k.length := by omega
      subst hle
      rw [List.take_length]
      have hsz := HSZ2.out
      have HPJ := hidIn (putT_join wd (([] : List ByteArray) ++ textTL k))
      obtain ⟨A, hA⟩ : ∃ A, putT wd (([] : List ByteArray) ++ textTL k) = A := ⟨_, rfl⟩
      rw [hA] at hsz HPJ
      rw [hA]
      clear hA
      go_wp2_with fail
      go_ret
      exact ⟨by rw [HE.out, ← HPJ.out]; rfl, HB.out.trans (HBR.out.mono HB.out.size)⟩


end Go.Proofs.Ythhjcpmnekibnaa
namespace Go.Proofs.Ythhjcpmnekibnaa
open Go.RowKit
set_option linter.unusedVariables false

theorem empL : (⟨#[]⟩ : ByteArray).toList = [] := by decide +kernel
/-- The kind at k is that of the sign. -/
def kOk (s : ByteArray) (number : Bool) (k : Nat) : Bool := decide (s ≠ ⟨#[]⟩) && decide (wordB k = s) && (decide ((11 : Int) ≤ (k : Int)) == number)
theorem kinds_no (number : Bool) : ∀ k : Nat, k < 17 → wordB k = ⟨#[]⟩ ∨ xkind (wordB k) number = 0 ∨ ((decide ((11 : Int) ≤ (k : Int)) == number) = true ∧ xkind (wordB k) number = k) := by
  cases number <;> decide +kernel
theorem words_all (s : ByteArray) (number : Bool) (h : xkind s number ≠ 0) : ∃ k : Nat, k < 17 ∧ xkind s number = k ∧ wordB k = s ∧ s ≠ ⟨#[]⟩ ∧ (decide ((11 : Int) ≤ (k : Int)) == number) = true := by
  unfold xkind at h ⊢
  cases number with
  | true =>
    simp only [if_true] at h ⊢
    by_cases c1 : s = wFix
    · subst c1; exact ⟨12, by decide +kernel⟩
    · rw [if_neg c1] at h ⊢
      by_cases c2 : s = wAdd
      · subst c2; exact ⟨13, by decide +kernel⟩
      · rw [if_neg c2] at h ⊢
        by_cases c3 : s = wNeg
        · subst c3; exact ⟨14, by decide +kernel⟩
        · rw [if_neg c3] at h ⊢
          by_cases c4 : s = wMul
          · subst c4; exact ⟨15, by decide +kernel⟩
          · rw [if_neg c4] at h ⊢
            by_cases c5 : s = wMax
            · subst c5; exact ⟨16, by decide +kernel⟩
            · rw [if_neg c5] at h; exact absurd rfl h
  | false =>
    simp only [Bool.false_eq_true, if_false] at h ⊢
    by_cases c1 : s = wZero
    · subst c1; exact ⟨1, by decide +kernel⟩
    rw [if_neg c1] at h ⊢
    by_cases c2 : s = wOne
    · subst c2; exact ⟨2, by decide +kernel⟩
    rw [if_neg c2] at h ⊢
    by_cases c3 : s = wGive
    · subst c3; exact ⟨3, by decide +kernel⟩
    rw [if_neg c3] at h ⊢
    by_cases c4 : s = wAnd
    · subst c4; exact ⟨4, by decide +kernel⟩
    rw [if_neg c4] at h ⊢
    by_cases c5 : s = wOr
    · subst c5; exact ⟨5, by decide +kernel⟩
    rw [if_neg c5] at h ⊢
    by_cases c6 : s = wScale
    · subst c6; exact ⟨6, by decide +kernel⟩
    rw [if_neg c6] at h ⊢
    by_cases c7 : s = wWhen
    · subst c7; exact ⟨7, by decide +kernel⟩
    rw [if_neg c7] at h ⊢
    by_cases c8 : s = wIf
    · subst c8; exact ⟨8, by decide +kernel⟩
    rw [if_neg c8] at h
    exact absurd rfl h
/-- The first kind whose word it is. -/
theorem kind_at {s : ByteArray} {number : Bool} {k : Nat} (hk : k < 17) (h : kOk s number k = true) : xkind s number = k := by
  unfold kOk at h
  simp only [Bool.and_eq_true, decide_eq_true_eq] at h
  obtain ⟨⟨h1, h2⟩, h3⟩ := h
  rcases kinds_no number k hk with h4 | h4 | h4
  · rw [h2] at h4; exact absurd h4 h1
  · exfalso
    have hall : ∀ number, ∀ k : Nat, k < 17 → wordB k ≠ ⟨#[]⟩ → (decide ((11 : Int) ≤ (k : Int)) == number) = true → xkind (wordB k) number ≠ 0 := by
      intro number
      cases number <;> decide +kernel
    exact hall number k hk (by rw [h2]; exact h1) h3 h4
  · rw [h2] at h4; exact h4.2
theorem kind_none {s : ByteArray} {number : Bool} (h : ∀ k : Nat, 1 ≤ k → k < 17 → kOk s number k = false) : xkind s number = 0 := by
  refine Classical.byContradiction fun hne => ?_
  obtain ⟨k, hk, he, hw, hs, hn⟩ := words_all s number hne
  have h1 : 1 ≤ k := by
    cases k with
    | zero => exact absurd he hne
    | succ k => omega
  have := h k h1 hk
  unfold kOk at this
  rw [decide_eq_true hs, decide_eq_true hw, hn] at this
  cases this

set_option maxHeartbeats 4000000 in
set_option maxRecDepth 100000 in
theorem xkind_any (s : ByteArray) (number : Bool) (w : World) :
    Calls Try.prog 47 #[.string s, .bool number] w fun e w' => e = .returned (.int .i64 (xkind s number)) ∧ Below w.heap.size w w' := by
  go_enter Try.func47, Try.ntmps47
  go_wp2_with fail
  go_loopw [5] (fun s5 wr => ∃ k : Nat, 1 ≤ k ∧ k ≤ 17 ∧ s5 = .int .i64 k ∧ Below w.heap.size w wr ∧ ∀ j : Nat, 1 ≤ j → j < k → kOk s number j = false) (fun s5 _ => 17 - (intOf s5).toNat)
  case atStart => exact ⟨1, by omega, by omega, rfl, Below.refl _ _, fun j h1 h2 => absurd h2 (by omega)⟩
  case round =>
    obtain ⟨k, hk1, hk2, rfl, hb, hno⟩ := hrel
    have HB := hidIn hb
    have HNO := hidIn hno
    clear hb hno
    by_cases hk : k < 17
    · have a1 : (k : Int) ≤ 16 := by omega
      have HN : Hid (kOk s number k = false → ∀ j : Nat, 1 ≤ j → j < k + 1 → kOk s number j = false) := fun hf j h1 h2 => by
        by_cases e : j = k
        · subst e; exact hf
        · exact HNO.out j h1 (by omega)
      have HY : Hid (kOk s number k = true → xkind s number = k) := fun hy => kind_at hk hy
      have HK : Hid (kOk s number k = (decide (s ≠ ⟨#[]⟩) && decide (wordB k = s) && (decide ((11 : Int) ≤ (k : Int)) == number))) := rfl
      by_cases hs : s = ⟨#[]⟩
      · have hf : kOk s number k = false := by rw [HK.out, hs]; rfl
        have h1 : (s.toList != ([] : List UInt8)) = false := by rw [hs, empL]; rfl
        have h2 : (s.toList == ([] : List UInt8)) = true := by rw [hs, empL]; rfl
        have h3 : s.toList.isEmpty = true := by rw [hs, empL]; rfl
        go_wp2_with fail
        go_roundw
        case rel => exact ⟨k + 1, by omega, by omega, by go_num, HB.out, HN.out hf⟩
        case measure => simp [intOf] <;> omega
      · have hse : s.toList ≠ [] := fun e => hs (toList_inj (e.trans empL.symm))
        have h1 : (s.toList != ([] : List UInt8)) = true := by rw [bne_iff_ne]; exact hse
        have h2 : (s.toList == ([] : List UInt8)) = false := by rw [beq_eq_false_iff_ne]; exact hse
        have h3 : s.toList.isEmpty = false := by cases hl : s.toList with | nil => exact absurd hl hse | cons _ _ => rfl
        go_wp2_with fail
        refine (word_any k (by omega) (by omega) wr).mono ?_
        rintro e w1 ⟨rfl, hb1⟩
        have HB1 := hidIn (HB.out.trans (hb1.mono HB.out.size))
        clear hb1
        by_cases hw : wordB k = s
        · have hw1 : ((wordB k).toList == s.toList) = true := by rw [hw]; simp
          by_cases h11 : (11 : Int) ≤ (k : Int)
          · have d11 : decide ((11 : Int) ≤ (k : Int)) = true := decide_eq_true h11
            cases number with
            | true =>
              have hy : kOk s true k = true := by rw [HK.out, decide_eq_true hs, decide_eq_true hw, decide_eq_true h11]; rfl
              generalize wordB k = W at *
              go_wp2_with fail
              go_ret
              exact ⟨by rw [HY.out hy]; rfl, HB1.out⟩
            | false =>
              have hf : kOk s false k = false := by rw [HK.out, decide_eq_true hs, decide_eq_true hw, decide_eq_true h11]; rfl
              generalize wordB k = W at *
              go_wp2_with fail
              go_roundw
              case rel => exact ⟨k + 1, by omega, by omega, by go_num, HB1.out, HN.out hf⟩
              case measure => simp [intOf] <;> omega
          · have d11 : decide ((11 : Int) ≤ (k : Int)) = false := decide_eq_false h11
            cases number with
            | true =>
              have hf : kOk s true k = false := by rw [HK.out, decide_eq_true hs, decide_eq_true hw, decide_eq_false h11]; rfl
              generalize wordB k = W at *
              go_wp2_with fail
              go_roundw
              case rel => exact ⟨k + 1, by omega, by omega, by go_num, HB1.out, HN.out hf⟩
              case measure => simp [intOf] <;> omega
            | false =>
              have hy : kOk s false k = true := by rw [HK.out, decide_eq_true hs, decide_eq_true hw, decide_eq_false h11]; rfl
              generalize wordB k = W at *
              go_wp2_with fail
              go_ret
              exact ⟨by rw [HY.out hy]; rfl, HB1.out⟩
        · have hw1 : ((wordB k).toList == s.toList) = false := by rw [beq_eq_false_iff_ne]; exact fun e => hw (toList_inj e)
          have hf : kOk s number k = false := by rw [HK.out, decide_eq_false hw]; simp
          generalize wordB k = W at *
          go_wp2_with fail
          go_roundw
          case rel => exact ⟨k + 1, by omega, by omega, by go_num, HB1.out, HN.out hf⟩
          case measure => simp [intOf] <;> omega
    · have a1 : ¬ (k : Int) ≤ 16 := by omega
      have HZ : Hid (xkind s number = 0) := kind_none (fun j h1 h2 => HNO.out j h1 (by omega))
      go_wp2_with fail
      go_ret
      exact ⟨by rw [HZ.out]; rfl, HB.out⟩

end Go.Proofs.Ythhjcpmnekibnaa
namespace Go.Proofs.Ythhjcpmnekibnaa
open Go.RowKit
set_option linter.unusedVariables false

/-- A tree's four cells. -/
def kidC (q : T × Option Addr × Nat) : List Value := [.int .i64 q.1.kind, .string q.1.s, .int .i64 q.1.n, .slice q.2.1 q.1.k.length q.2.2]
def kidsC (l : List (T × Option Addr × Nat)) : List Value := l.flatMap kidC
theorem kidsC_app (a b : List (T × Option Addr × Nat)) : kidsC (a ++ b) = kidsC a ++ kidsC b := by simp [kidsC]
theorem kidsC_at : ∀ (l : List (T × Option Addr × Nat)) (i : Nat) (h : i < l.length), (kidsC l)[i * 4]? = some (.int .i64 l[i].1.kind) ∧ (kidsC l)[i * 4 + 1]? = some (.string l[i].1.s) ∧ (kidsC l)[i * 4 + 2]? = some (.int .i64 l[i].1.n) ∧ (kidsC l)[i * 4 + 3]? = some (.slice l[i].2.1 l[i].1.k.length l[i].2.2)
  | [], i, h => by simp at h
  | q :: F, 0, _ => by simp [kidsC, kidC]
  | q :: F, i + 1, h => by
    have ih := kidsC_at F i (by simpa using h)
    have e : kidsC (q :: F) = kidC q ++ kidsC F := by simp [kidsC]
    have hl : (kidC q).length = 4 := rfl
    rw [e, show (i + 1) * 4 = 4 + i * 4 by omega, show 4 + i * 4 + 1 = 4 + (i * 4 + 1) by omega, show 4 + i * 4 + 2 = 4 + (i * 4 + 2) by omega, show 4 + i * 4 + 3 = 4 + (i * 4 + 3) by omega]
    rw [List.getElem?_append_right (by omega), List.getElem?_append_right (by omega), List.getElem?_append_right (by omega), List.getElem?_append_right (by omega), hl]
    simpa using ih
/-- The parts that were read, in a row of the call's own, from block B on. -/
structure RowX (w : World) (B : Nat) (l : List T) (v : Value) : Prop where
  has : ∃ ps : List (T × Option Addr × Nat), ps.map (·.1) = l ∧ w.ownsRow B 33 4 v l.length (kidsC ps) ∧ ∀ q ∈ ps, TIn w B q.1 (.agg #[.int .i64 q.1.kind, .string q.1.s, .int .i64 q.1.n, .slice q.2.1 q.1.k.length q.2.2])
theorem RowX.nil (w : World) (B : Nat) : RowX w B [] (.slice none 0 0) := ⟨[], rfl, World.ownsRow_nil _ _ _ _, fun q hq => by cases hq⟩
/-- A part more. -/
theorem RowX.snoc {w w1 : World} {B : Nat} {l : List T} {v v' : Value} (h : RowX w B l v) (t : T) (a : Option Addr) (c : Nat) (ht : TIn w1 B t (.agg #[.int .i64 t.kind, .string t.s, .int .i64 t.n, .slice a t.k.length c]))
    (hown : ∀ ps : List (T × Option Addr × Nat), ps.map (·.1) = l → w.ownsRow B 33 4 v l.length (kidsC ps) → w1.ownsRow B 33 4 v' (l.length + 1) (kidsC ps ++ kidC (t, a, c)))
    (hk : ∀ u x, TIn w B u x → TIn w1 B u x) : RowX w1 B (l ++ [t]) v' := by
  obtain ⟨ps, h1, h2, h3⟩ := h.has
  refine ⟨ps ++ [(t, a, c)], by rw [List.map_append, h1]; rfl, ?_, ?_⟩
  · rw [kidsC_app, List.length_append]
    have := hown ps h1 h2
    simpa [kidsC] using this
  · intro q hq
    rcases List.mem_append.1 hq with hq | hq
    · exact hk _ _ (h3 q hq)
    · simp at hq
      subst hq
      exact ht
/-- A tree of these parts. -/
theorem RowX.tree {w : World} {B : Nat} {l : List T} {v : Value} (h : RowX w B l v) (k : Int) (s : ByteArray) (n : Int) : TIn w B (.mk k s n l) (.agg #[.int .i64 k, .string s, .int .i64 n, v]) := by
  obtain ⟨ps, h1, h2, h3⟩ := h.has
  have hl : ps.length = l.length := by rw [← h1]; simp
  cases l with
  | nil =>
    have hv : ∃ ao cap, v = .slice ao 0 cap ∧ cap ≤ 9223372036854775807 := by
      rcases h2.2 with ⟨rfl, _⟩ | ⟨g, cap, cur, rfl, _, _, _, hm, _⟩
      · exact ⟨none, 0, rfl, by omega⟩
      · exact ⟨_, cap, rfl, by unfold maxLen at hm; omega⟩
    obtain ⟨ao, cap, rfl, hc⟩ := hv
    exact ⟨ao, cap, rfl, by show (0 : Nat) ≤ cap; omega, hc, trivial⟩
  | cons t0 l0 =>
    have hv : ∃ g cap, v = .slice (some ⟨g, 0, none⟩) (t0 :: l0).length cap ∧ (t0 :: l0).length ≤ cap ∧ cap ≤ 9223372036854775807 ∧ B ≤ g ∧ ∀ j u, (kidsC ps)[j]? = some u → w.cell? ⟨g, j, none⟩ = some u := by
      have hc := fun g hg => h2.cells (g := g) hg
      have hlt := h2.lt
      rcases h2.2 with ⟨_, h0⟩ | ⟨g, cap, cur, rfl, hb, hg, hnc, hm, _⟩
      · simp at h0
      · refine ⟨g, cap, rfl, hnc, by unfold maxLen at hm; omega, hb, fun j u hu => ?_⟩
        have := hc g rfl j u hu
        rw [Addr.add_lit, Nat.zero_add] at this
        exact this
    obtain ⟨g, cap, rfl, hn, hm, hB, hc⟩ := hv
    refine ⟨some ⟨g, 0, none⟩, cap, rfl, hn, hm, ?_⟩
    show KAt w B (t0 :: l0) (some ⟨g, 0, none⟩) 0
    have key : ∀ (m : List T) (i : Nat), (∀ j, m[j]? = (t0 :: l0)[i + j]?) → KAt w B m (some ⟨g, 0, none⟩) i := by
      intro m
      induction m with
      | nil => intro i _; trivial
      | cons t m ih =>
        intro i hm
        have ht : (t0 :: l0)[i]? = some t := by have := hm 0; simpa using this.symm
        have hi : i < ps.length := by rw [hl]; exact (List.getElem?_eq_some_iff.1 ht).1
        have hpt : ps[i].1 = t := by
          have := congrArg (fun z => z[i]?) h1
          simp only [List.getElem?_map, List.getElem?_eq_getElem hi, Option.map_some] at this
          rw [ht] at this
          exact Option.some.inj this
        obtain ⟨c0, c1, c2, c3⟩ := kidsC_at ps i hi
        have htin := h3 ps[i] (List.getElem_mem hi)
        refine ⟨⟨g, 0, rfl, ?_⟩, ih (i + 1) (fun j => by have := hm (j + 1); rw [show i + 1 + j = i + (j + 1) by omega]; simpa using this)⟩
        rw [Nat.zero_add, ← hpt]
        exact TAt_mk htin hB (hc _ _ c0) (hc _ _ c1) (hc _ _ c2) (hc _ _ c3)
    exact key (t0 :: l0) 0 (fun j => by rw [Nat.zero_add])

end Go.Proofs.Ythhjcpmnekibnaa
namespace Go.Proofs.Ythhjcpmnekibnaa
open Go.RowKit
set_option linter.unusedVariables false

theorem XIn.tr {w w' : World} {R : Nat} {x : XS} (h : XIn w R x) (hb : Below w.heap.size w w') : XIn w' R x := h.below hb
theorem XIn.lt {w : World} {R : Nat} {x : XS} (h : XIn w R x) : R < w.heap.size := by
  obtain ⟨a, c, hb, _⟩ := h.has
  exact hb.lt
/-- A cell of another block, above the reader's. -/
theorem XIn.other {w : World} {R b : Nat} {x : XS} (h : XIn w R x) (hb : R < b) (i : Nat) (v : Value) : XIn (w.setCell ⟨b, i, none⟩ v) R x := by
  obtain ⟨a, c, h1, h2, h3, h4⟩ := h.has
  refine ⟨⟨a, c, h1.other (by omega) i v, h2, h3, ?_⟩, h.no, h.len⟩
  intro j y hj
  obtain ⟨b', o, rfl, hb', hlt, q1, q2, q3⟩ := h4 j y hj
  have hk : (w.setCell ⟨b, i, none⟩ v).heap[b']? = w.heap[b']? := heap_setCell_other w ⟨b, i, none⟩ b' v (by show b' ≠ b; omega)
  refine ⟨b', o, rfl, hb', by rw [World.size_setCell]; exact hlt, ?_, ?_, q3⟩
  · rw [← q1]; simp only [World.cell?, hk]
  · rw [← q2]; simp only [World.cell?, hk]
theorem xfirst_e (x : XS) (d : Nat) (h : 12 < d) : (xfirst x d).e ≠ 0 := by
  unfold xfirst
  rw [if_pos h]
  unfold XS.fail
  split
  · show (5 : Int) ≠ 0; decide
  · assumption
set_option maxHeartbeats 4000000 in
set_option maxRecDepth 100000 in
theorem tree_none (f d : Nat) (hd : d ≤ 1000) (x : XS) (number : Bool) (w : World) (R : Nat) (h : XIn w R x) (hk : xkind (xfirst x d).next number = 0) :
    Calls Try.prog 22 #[.pointer (some ⟨R, 0, none⟩), .bool number, .int .i64 (d : Int)] w fun e w' => ∃ v, e = .returned v ∧ TIn w' w.heap.size (xtree (f + 1) x number d).1 v ∧ XIn w' R (xtree (f + 1) x number d).2 ∧ Grew R none w w' := by
  have HT : Hid (xtree (f + 1) x number d = if number = true then (.mk 11 ⟨#[]⟩ ((xfirst x d).num false).1 [], ((xfirst x d).num false).2) else (.mk 0 ⟨#[]⟩ 0 [], (xfirst x d).fail 2)) := by
    show xtree (f + 1) x number d = _
    unfold xtree
    rw [if_pos hk]
  have hR := h.lt
  have HW0 : Hid (Blk (w.alloc (.cells #[.int .i64 0, .string ⟨#[]⟩, .int .i64 0, .slice none 0 0] 33)) w.heap.size 33 #[.int .i64 0, .string ⟨#[]⟩, .int .i64 0, .slice none 0 0]) := blk_new rfl
  have HB0 : Hid (Below w.heap.size w (w.alloc (.cells #[.int .i64 0, .string ⟨#[]⟩, .int .i64 0, .slice none 0 0] 33))) := below_alloc (Below.refl _ _) _
  have HX0 := hidIn (h.tr HB0.out)
  clear h
  go_enter Try.func22, Try.ntmps22
  have hne : w.heap.size ≠ R := by omega
  have hRb : R < w.heap.size := hR
  by_cases h12 : 12 < d
  · have h12' : (12 : Int) < (d : Int) := by omega
    have HF : Hid (x.fail 5 = xfirst x d) := by show x.fail 5 = _; unfold xfirst; rw [if_pos h12]
    go_wp2_with fail
    refine (xfail_any _ R x 5 HX0.out).mono ?_
    rintro e w1 ⟨rfl, h1, hg1⟩
    rw [HF.out] at h1
    have HX1 := hidIn h1
    have HG1 : Hid (Grew R none w w1) := (Grew.of_below HB0.out).tr hg1
    have HK1 := hidIn (HW0.out.grew hg1 hne)
    clear h1 hg1 HX0 HW0 HB0
    go_wp2_with fail
    refine (xnext_any w1 R _ HX1.out).mono ?_
    rintro e w2 ⟨rfl, hb2⟩
    have HX2 := hidIn (HX1.out.tr hb2)
    have HG2 := hidIn (HG1.out.tr (Grew.of_below hb2))
    have HK2 := hidIn (HK1.out.grew (Grew.of_below (M := R) hb2) hne)
    clear hb2 HX1 HG1 HK1
    go_wp2_with fail
    refine (xkind_any _ number w2).mono ?_
    rintro e w3 ⟨rfl, hb3⟩
    have HX3 := hidIn (HX2.out.tr hb3)
    have HG3 := hidIn (HG2.out.tr (Grew.of_below hb3))
    have HK3 := hidIn (HK2.out.grew (Grew.of_below (M := R) hb3) hne)
    clear hb3 HX2 HG2 HK2
    rw [hk]
    cases number with
    | true =>
      rw [if_pos rfl] at HT
      go_wp2_with fail
      refine (xnum_any w3 R _ false HX3.out).mono ?_
      rintro e w4 ⟨rfl, h4, hg4⟩
      have HX4 := hidIn h4
      have HG4 := hidIn (HG3.out.tr hg4)
      have HK4 := hidIn (HK3.out.grew hg4 hne)
      clear h4 hg4 HX3 HG3 HK3
      obtain ⟨⟨z0, z1, z2, z3⟩, f0, f1, f2, f3⟩ := blk_zero HK4.out
      generalize (xfirst x d).num false = nm at *
      go_wp2_with fail
      refine bodyPost_ret (results_cell_row rfl _ _ w.heap.size 33 #[.int .i64 11, .string ⟨#[]⟩, .int .i64 nm.1, .slice none 0 0] (0, 0) _ rfl (set4_blk HK4.out _ _ _ _) Try.underlying33 rfl infoT) rfl ?_
      rw [HT.out]
      exact ⟨_, rfl, tin_leaf _ _ _ _ _, (((HX4.out.other hRb 0 _).other hRb 1 _).other hRb 2 _).other hRb 3 _, set4_grew HG4.out (Nat.le_refl _) _ _ _ _⟩
    | false =>
      rw [if_neg (by decide)] at HT
      go_wp2_with fail
      refine (xfail_any w3 R _ 2 HX3.out).mono ?_
      rintro e w4 ⟨rfl, h4, hg4⟩
      have HX4 := hidIn h4
      have HG4 := hidIn (HG3.out.tr hg4)
      have HK4 := hidIn (HK3.out.grew hg4 hne)
      clear h4 hg4 HX3 HG3 HK3
      obtain ⟨⟨z0, z1, z2, z3⟩, f0, f1, f2, f3⟩ := blk_zero HK4.out
      generalize (xfirst x d).fail 2 = nm at *
      go_wp2_with fail
      refine bodyPost_ret (results_cell_row rfl _ _ w.heap.size 33 #[.int .i64 0, .string ⟨#[]⟩, .int .i64 0, .slice none 0 0] (0, 0) _ rfl (set4_blk HK4.out _ _ _ _) Try.underlying33 rfl infoT) rfl ?_
      rw [HT.out]
      exact ⟨_, rfl, tin_leaf _ _ _ _ _, (((HX4.out.other hRb 0 _).other hRb 1 _).other hRb 2 _).other hRb 3 _, set4_grew HG4.out (Nat.le_refl _) _ _ _ _⟩
  · have h12' : ¬ (12 : Int) < (d : Int) := by omega
    have HF : Hid (x = xfirst x d) := (xfirst_same x h12).symm
    have HX1 : Hid (XIn (w.alloc (.cells #[.int .i64 0, .string ⟨#[]⟩, .int .i64 0, .slice none 0 0] 33)) R (xfirst x d)) := by have := HX0.out; rw [HF.out] at this; exact this
    have HG1 : Hid (Grew R none w (w.alloc (.cells #[.int .i64 0, .string ⟨#[]⟩, .int .i64 0, .slice none 0 0] 33))) := Grew.of_below HB0.out
    have HK1 := HW0
    clear HX0 HW0 HB0
    go_wp2_with fail
    generalize w.alloc (.cells #[.int .i64 0, .string ⟨#[]⟩, .int .i64 0, .slice none 0 0] 33) = w1 at *
    refine (xnext_any w1 R _ HX1.out).mono ?_
    rintro e w2 ⟨rfl, hb2⟩
    have HX2 := hidIn (HX1.out.tr hb2)
    have HG2 := hidIn (HG1.out.tr (Grew.of_below hb2))
    have HK2 := hidIn (HK1.out.grew (Grew.of_below (M := R) hb2) hne)
    clear hb2 HX1 HG1 HK1
    go_wp2_with fail
    refine (xkind_any _ number w2).mono ?_
    rintro e w3 ⟨rfl, hb3⟩
    have HX3 := hidIn (HX2.out.tr hb3)
    have HG3 := hidIn (HG2.out.tr (Grew.of_below hb3))
    have HK3 := hidIn (HK2.out.grew (Grew.of_below (M := R) hb3) hne)
    clear hb3 HX2 HG2 HK2
    rw [hk]
    cases number with
    | true =>
      rw [if_pos rfl] at HT
      go_wp2_with fail
      refine (xnum_any w3 R _ false HX3.out).mono ?_
      rintro e w4 ⟨rfl, h4, hg4⟩
      have HX4 := hidIn h4
      have HG4 := hidIn (HG3.out.tr hg4)
      have HK4 := hidIn (HK3.out.grew hg4 hne)
      clear h4 hg4 HX3 HG3 HK3
      obtain ⟨⟨z0, z1, z2, z3⟩, f0, f1, f2, f3⟩ := blk_zero HK4.out
      generalize (xfirst x d).num false = nm at *
      go_wp2_with fail
      refine bodyPost_ret (results_cell_row rfl _ _ w.heap.size 33 #[.int .i64 11, .string ⟨#[]⟩, .int .i64 nm.1, .slice none 0 0] (0, 0) _ rfl (set4_blk HK4.out _ _ _ _) Try.underlying33 rfl infoT) rfl ?_
      rw [HT.out]
      exact ⟨_, rfl, tin_leaf _ _ _ _ _, (((HX4.out.other hRb 0 _).other hRb 1 _).other hRb 2 _).other hRb 3 _, set4_grew HG4.out (Nat.le_refl _) _ _ _ _⟩
    | false =>
      rw [if_neg (by decide)] at HT
      go_wp2_with fail
      refine (xfail_any w3 R _ 2 HX3.out).mono ?_
      rintro e w4 ⟨rfl, h4, hg4⟩
      have HX4 := hidIn h4
      have HG4 := hidIn (HG3.out.tr hg4)
      have HK4 := hidIn (HK3.out.grew hg4 hne)
      clear h4 hg4 HX3 HG3 HK3
      obtain ⟨⟨z0, z1, z2, z3⟩, f0, f1, f2, f3⟩ := blk_zero HK4.out
      generalize (xfirst x d).fail 2 = nm at *
      go_wp2_with fail
      refine bodyPost_ret (results_cell_row rfl _ _ w.heap.size 33 #[.int .i64 0, .string ⟨#[]⟩, .int .i64 0, .slice none 0 0] (0, 0) _ rfl (set4_blk HK4.out _ _ _ _) Try.underlying33 rfl infoT) rfl ?_
      rw [HT.out]
      exact ⟨_, rfl, tin_leaf _ _ _ _ _, (((HX4.out.other hRb 0 _).other hRb 1 _).other hRb 2 _).other hRb 3 _, set4_grew HG4.out (Nat.le_refl _) _ _ _ _⟩

end Go.Proofs.Ythhjcpmnekibnaa
namespace Go.Proofs.Ythhjcpmnekibnaa.Wd
open Go.RowKit Go.Maps
set_option linter.unusedVariables false

/-- A map in memory: its keys and values, in the order in which they came. -/
def MapIs (w : World) (r : Nat) (l : List (Value × Value)) : Prop := ∃ es clock, w.heap[r]? = some (.map es clock) ∧ es.toList.map (fun e => (e.key, e.val)) = l

theorem MapIs.lt {w : World} {r : Nat} {l : List (Value × Value)} (h : MapIs w r l) : r < w.heap.size := by
  obtain ⟨es, clock, hb, _⟩ := h
  exact (Array.getElem?_eq_some_iff.1 hb).1
theorem MapIs.of_block {w w' : World} {r : Nat} {l : List (Value × Value)} (h : MapIs w r l) (e : w'.heap[r]? = w.heap[r]?) : MapIs w' r l := by
  obtain ⟨es, clock, hb, hl⟩ := h
  exact ⟨es, clock, e.trans hb, hl⟩
theorem MapIs.below {w w' : World} {r B : Nat} {l : List (Value × Value)} (h : MapIs w r l) (hb : Below B w w') (hr : r < B) : MapIs w' r l := h.of_block (hb.block r hr)
theorem MapIs.alloc {w : World} {r : Nat} {l : List (Value × Value)} (h : MapIs w r l) (o : Obj) : MapIs (w.alloc o) r l := h.of_block ((MapKept.heap_alloc w o).2 r h.lt)
theorem MapIs.new (w : World) : MapIs (w.alloc (.map #[] 0)) w.heap.size [] := ⟨#[], 0, (MapKept.heap_alloc w _).1, rfl⟩

/-- Keys of a type, all of them told. -/
def KeysOk (P : Program) (k : TypeId) (l : List (Value × Value)) : Prop := ∀ p ∈ l, ∃ kl, keyOf P k p.1 = some kl

section
variable {P : Program} {w : World} {t k e : TypeId} {r : Nat} {l : List (Value × Value)} {x : Value} {kx : Lit}

theorem find_of {es : Array MapEntry} (hl : es.toList.map (fun e => (e.key, e.val)) = l) (hk : KeysOk P k l) : ∀ e ∈ es.toList, ∃ kl, keyOf P k e.key = some kl := by
  intro e he
  subst hl
  exact hk _ (List.mem_map.2 ⟨e, he, rfl⟩)

theorem run_look_no (K : Keyed P k) (ht : P.underlying t = some (.map k e)) {z : Value} (hz : (zeroValue e).run P w = .ok z w) (h : MapIs w r l) (hk : KeysOk P k l) (hx : keyOf P k x = some kx) (hno : ∀ p ∈ l, p.1 ≠ x) (c : Bool) :
    (Instr.lookup t (.map (some r)) x c).run P w = .ok (if c then .tuple #[z, .bool false] else z) w := by
  obtain ⟨es, clock, hb, hl⟩ := h
  rcases K.find w hx es.toList (find_of hl hk) with ⟨h1, h2⟩ | ⟨j, e0, h1, h2, h3⟩
  · simp [Instr.lookup, run_underlying ht, MapKept.run_getObj_map hb, K.check w es.isEmpty hx, h1, hz, Result.andThen]
  · exfalso
    subst hl
    exact hno _ (List.mem_map.2 ⟨e0, List.mem_of_getElem? h2, rfl⟩) h3

theorem run_look_at (K : Keyed P k) (ht : P.underlying t = some (.map k e)) {v : Value} (h : MapIs w r l) (hk : KeysOk P k l) (hx : keyOf P k x = some kx) (hin : (x, v) ∈ l) (hone : ∀ p ∈ l, p.1 = x → p.2 = v) (c : Bool) :
    (Instr.lookup t (.map (some r)) x c).run P w = .ok (if c then .tuple #[v, .bool true] else v) w := by
  obtain ⟨es, clock, hb, hl⟩ := h
  rcases K.find w hx es.toList (find_of hl hk) with ⟨h1, h2⟩ | ⟨j, e0, h1, h2, h3⟩
  · exfalso
    subst hl
    obtain ⟨e0, he0, e1⟩ := List.mem_map.1 hin
    injection e1 with e2 e3
    exact h2 e0 he0 e2
  · have hv : e0.val = v := by
      subst hl
      exact hone _ (List.mem_map.2 ⟨e0, List.mem_of_getElem? h2, rfl⟩) h3
    subst hv
    simp [Instr.lookup, run_underlying ht, MapKept.run_getObj_map hb, K.check w es.isEmpty hx, h1, Result.andThen]

/-- What a store of a new key leaves, in each world that has the same memory. -/
theorem run_put_no (K : Keyed P k) (ht : P.underlying t = some (.map k e)) (h : MapIs w r l) (hk : KeysOk P k l) (hx : keyOf P k x = some kx) (hno : ∀ p ∈ l, p.1 ≠ x) (v : Value) :
    ∃ H, (∀ V : World, V.heap = w.heap → (Instr.mapUpdate t (.map (some r)) x v).run P V = .ok () { V with heap := H }) ∧ MapIs { w with heap := H } r (l ++ [(x, v)]) ∧ w.grownBy { w with heap := H } (some r) := by
  obtain ⟨es, clock, hb, hl⟩ := h
  have hlt : r < w.heap.size := (Array.getElem?_eq_some_iff.1 hb).1
  refine ⟨w.heap.setIfInBounds r (.map (es.push { key := x, val := v, born := clock }) (clock + 1)), ?_, ?_, ?_⟩
  · intro V hV
    have hbV : V.heap[r]? = some (.map es clock) := by rw [hV]; exact hb
    rcases K.find V hx es.toList (find_of hl hk) with ⟨h1, h2⟩ | ⟨j, e0, h1, h2, h3⟩
    · rw [← hV]
      simp [Instr.mapUpdate, run_underlying ht, MapKept.run_getObj_map hbV, K.check V false hx, h1, MapKept.run_setObj_map _ hbV, Result.andThen]
    · exfalso
      subst hl
      exact hno _ (List.mem_map.2 ⟨e0, List.mem_of_getElem? h2, rfl⟩) h3
  · exact ⟨_, _, (MapKept.heap_set hb).1, by simp [hl]⟩
  · exact { os := rfl, tape := rfl, output := rfl, size := by simp, block := fun i hi hne => (MapKept.heap_set hb).2 i (fun e => hne (by rw [e])) }

theorem run_len_map (ht : P.underlying t = some (.map k e)) (h : MapIs w r l) (ty : TypeId) : (Builtin.len_ #[t] ty #[.map (some r)]).run P w = .ok (.int .i64 l.length) w := by
  obtain ⟨es, clock, hb, hl⟩ := h
  have hs : es.size = l.length := by subst hl; simp
  simp [Builtin.len_, run_underlying ht, MapKept.run_getObj_map hb, goInt, hs, Result.andThen]
end

end Go.Proofs.Ythhjcpmnekibnaa.Wd
namespace Go.Proofs.Ythhjcpmnekibnaa
open Go.RowKit Go.Maps
set_option linter.unusedVariables false

def pI (k v : Int) : Value × Value := (.int .i64 k, .int .i64 v)
theorem keyI : Keyed Try.prog 3 := int_keyed Try.underlying3
theorem zeroIx (w : World) : (zeroValue 3).run Try.prog w = .ok (.int .i64 0) w := by kernel_rfl
def SmallL (l : List (Int × Int)) : Prop := ∀ p ∈ l, 0 ≤ p.1 ∧ p.1 ≤ 16
def pairs (l : List (Int × Int)) : List (Value × Value) := l.map fun p => pI p.1 p.2
theorem pairs_keys {l : List (Int × Int)} (h : SmallL l) : Wd.KeysOk Try.prog 3 (pairs l) := by
  intro p hp
  obtain ⟨q, hq, rfl⟩ := List.mem_map.1 hp
  exact ⟨_, keyOf_int_mk Try.underlying3 (WalkArith.wf_i64 (by have := h q hq; omega))⟩
theorem pairs_no {l : List (Int × Int)} {k : Int} (h : ∀ p ∈ l, p.1 ≠ k) : ∀ p ∈ pairs l, p.1 ≠ Value.int .i64 k := by
  intro p hp
  obtain ⟨q, hq, rfl⟩ := List.mem_map.1 hp
  intro e
  simp [pI] at e
  exact h q hq e
theorem put_pair {w : World} {r B : Nat} {l : List (Int × Int)} (h : Wd.MapIs w r (pairs l)) (hl : SmallL l) (k v : Int) (hk : 0 ≤ k ∧ k ≤ 16) (hno : ∀ p ∈ l, p.1 ≠ k) (hB : B ≤ r) (hw : B ≤ w.heap.size) :
    ∃ w1, (Instr.mapUpdate 120 (.map (some r)) (.int .i64 k) (.int .i64 v)).run Try.prog w = .ok () w1 ∧ Wd.MapIs w1 r (pairs (l ++ [(k, v)])) ∧ Below B w w1 := by
  obtain ⟨H, h1, h2, h3⟩ := Wd.run_put_no keyI Try.underlying120 h (pairs_keys hl) (keyOf_int_mk Try.underlying3 (WalkArith.wf_i64 (by omega))) (pairs_no hno) (.int .i64 v)
  refine ⟨_, h1 w rfl, ?_, ⟨h3.os, h3.tape, h3.output, h3.size, fun i hi => h3.block i (by omega) (fun e => by injection e with e; omega)⟩⟩
  have e : pairs (l ++ [(k, v)]) = pairs l ++ [(Value.int .i64 k, Value.int .i64 v)] := by simp [pairs, pI]
  rw [e]
  exact h2
def partsL : List (Int × Int) := [(3, 1), (4, 2), (5, 2), (6, 2), (7, 1), (8, 3), (13, 2), (14, 1), (15, 2), (16, 2)]
theorem parts_small : SmallL partsL := by unfold SmallL partsL; decide
theorem parts_look {w : World} {r : Nat} (h : Wd.MapIs w r (pairs partsL)) (k : Int) (hk : 0 ≤ k ∧ k ≤ 16) :
    (Instr.lookup 120 (.map (some r)) (.int .i64 k) false).run Try.prog w = .ok (.int .i64 (xparts k)) w := by
  have hkey := keyOf_int_mk (P := Try.prog) Try.underlying3 (a := k) (WalkArith.wf_i64 (by omega))
  have hcase : ∀ n : Nat, n ≤ 16 → (∀ p ∈ partsL, p.1 ≠ (n : Int)) ∧ xparts n = 0 ∨ ∃ v : Nat, ((n : Int), (v : Int)) ∈ partsL ∧ xparts n = v ∧ ∀ p ∈ partsL, p.1 = (n : Int) → p.2 = (v : Int) := by
    intro n hn
    match n, hn with
    | 0, _ => exact .inl (by decide)
    | 1, _ => exact .inl (by decide)
    | 2, _ => exact .inl (by decide)
    | 3, _ => exact .inr ⟨1, by decide⟩
    | 4, _ => exact .inr ⟨2, by decide⟩
    | 5, _ => exact .inr ⟨2, by decide⟩
    | 6, _ => exact .inr ⟨2, by decide⟩
    | 7, _ => exact .inr ⟨1, by decide⟩
    | 8, _ => exact .inr ⟨3, by decide⟩
    | 9, _ => exact .inl (by decide)
    | 10, _ => exact .inl (by decide)
    | 11, _ => exact .inl (by decide)
    | 12, _ => exact .inl (by decide)
    | 13, _ => exact .inr ⟨2, by decide⟩
    | 14, _ => exact .inr ⟨1, by decide⟩
    | 15, _ => exact .inr ⟨2, by decide⟩
    | 16, _ => exact .inr ⟨2, by decide⟩
    | n + 17, h => exact absurd h (by omega)
  obtain ⟨n, rfl⟩ : ∃ n : Nat, k = (n : Int) := ⟨k.toNat, by omega⟩
  rcases hcase n (by omega) with ⟨h1, h2⟩ | ⟨v, h1, h2, h3⟩
  · rw [h2]
    exact Wd.run_look_no keyI Try.underlying120 (zeroIx _) h (pairs_keys parts_small) hkey (pairs_no h1) false
  · rw [h2]
    refine Wd.run_look_at keyI Try.underlying120 h (pairs_keys parts_small) hkey (List.mem_map.2 ⟨_, h1, rfl⟩) ?_ false
    intro p hp e
    obtain ⟨q, hq, rfl⟩ := List.mem_map.1 hp
    simp [pI] at e
    show Value.int .i64 q.2 = _
    rw [h3 q hq e]

end Go.Proofs.Ythhjcpmnekibnaa
namespace Go.Proofs.Ythhjcpmnekibnaa.Mx
open Go.RowKit
set_option linter.unusedVariables false

section
variable {P : Program} {ops : Array Oper} {md : Region.Mode} {C : World → Prop}

/-- An operation run to its end. -/
def uponK (P : Program) (K : Value → World → Prop) (w : World) : Result Next → Prop
  | .ok (.value u) w' => K u w'
  | .ok .skip w' => K undef w'
  | .ok (.enter f args) w' => w' = w ∧ Calls P f args w (fun e w'' => ∃ v, e = .returned v ∧ K v w'')
  | _ => False
def stepK (P : Program) (o : Oper) (a : Act) (w : World) (K : Value → World → Prop) : Prop := uponK P K w ((execOp a.eval o).run P w)
theorem stepK_mono {o : Oper} {a : Act} {w : World} {K K' : Value → World → Prop} (h : ∀ u w', K u w' → K' u w') (hh : stepK P o a w K) : stepK P o a w K' := by
  unfold stepK at *
  generalize (execOp a.eval o).run P w = r at *
  cases r with
  | ok n w' =>
    cases n <;> simp only [uponK] at hh ⊢
    case value u => exact h _ _ hh
    case skip => exact h _ _ hh
    case enter f args => exact ⟨hh.1, hh.2.mono fun e w'' ⟨v, he, hk⟩ => ⟨v, he, h _ _ hk⟩⟩
  | halt x w' => simp only [uponK] at hh
theorem wp_of_stepK {o : Oper} {a : Act} {w : World} {K : Act → World → Prop} {Q : Exit → Act → World → Prop} (hh : stepK P o a w (fun u w' => K (a.put o.dst u) w')) : o.wp P a w K Q := by
  unfold stepK at hh
  unfold Oper.wp
  generalize (execOp a.eval o).run P w = r at *
  cases r with
  | ok n w' =>
    cases n <;> simp only [uponK] at hh <;> simp only [Oper.upon]
    case value u => exact hh
    case skip => exact hh
    case enter f args =>
      obtain ⟨e1, hc⟩ := hh
      rw [e1]
      refine hc.mono fun e w'' ⟨v, he, hk⟩ => ?_
      subst he
      exact hk
  | halt x w' => simp only [uponK] at hh
def wpAnyC (P : Program) (md : Region.Mode) (ops : Array Oper) (C : World → Prop) (Q : Act → World → Prop) : Nat → Array Bool → Act → World → Prop
  | 0, listed, a, w => C w ∧ Region.ready md ops listed = [] ∧ Q a w
  | fuel + 1, listed, a, w => C w ∧ Region.ready md ops listed ≠ [] ∧ ∀ i ∈ Region.ready md ops listed, ∀ o, ops[i]? = some o →
      Region.wanted o (yielded ops a.tmps) = true ∧ stepK P o a w (fun u w' => wpAnyC P md ops C Q fuel (listed.setIfInBounds i true) (a.put o.dst u) w')
theorem wpAnyC_c {Q : Act → World → Prop} : ∀ {fuel : Nat} {listed : Array Bool} {a : Act} {w : World}, wpAnyC P md ops C Q fuel listed a w → C w
  | 0, _, _, _, h => h.1
  | _ + 1, _, _, _, h => h.1
theorem any_of_C {Q : Act → World → Prop} {Q' : Exit → Act → World → Prop} (hQ : ∀ a w, Q a w → Q' .normal a w) : ∀ (fuel : Nat) (listed : Array Bool) (a : Act) (w : World), wpAnyC P md ops C Q fuel listed a w → wpAny P md ops Q' fuel listed a w
  | 0, _, _, _, h => ⟨h.2.1, hQ _ _ h.2.2⟩
  | fuel + 1, listed, a, w, h => ⟨fun h0 => absurd h0 h.2.1, fun i hi => by
      obtain ⟨_, o, ho, _⟩ := mem_ready.1 hi
      obtain ⟨h1, h2⟩ := h.2.2 i hi o ho
      unfold wpOp
      simp only [ho]
      rw [if_pos h1]
      exact .inl (wp_of_stepK (stepK_mono (fun u w' hk => any_of_C hQ fuel _ _ w' hk) h2))⟩
theorem first {Q : Act → World → Prop} {i : Nat} {oi : Oper} {u : Value} (hi : ops[i]? = some oi) (hsel : ∀ (j : Nat) (o : Oper) cs b, ops[j]? = some o → o.op ≠ .select cs b) :
    ∀ (fuel : Nat) (listed : Array Bool) (a : Act) (w : World),
      (∀ j oj, ops[j]? = some oj → j ≠ i → listed.getD j true = false → (∀ e ∈ oj.after, Region.binds md e = true → e.on ≠ i) → oi.apart ops oj = true) →
      i ∈ Region.ready md ops listed → Region.wanted oi (yielded ops a.tmps) = true → (∀ w, C w → (execOp a.eval oi).run P w = .ok (.value u) w) →
      wpAnyC P md ops C Q fuel (listed.setIfInBounds i true) (a.put oi.dst u) w → wpAnyC P md ops C Q (fuel + 1) listed a w := by
  intro fuel
  induction fuel with
  | zero =>
    intro listed a w hfree hr hw hst h
    refine ⟨h.1, fun h0 => (by rw [h0] at hr; cases hr), fun j hj o ho => ?_⟩
    by_cases hji : j = i
    · subst hji
      rw [hi] at ho
      cases ho
      refine ⟨hw, ?_⟩
      unfold stepK
      rw [hst w h.1]
      exact h
    · have := ready_mono hj hji
      rw [h.2.1] at this
      cases this
  | succ fuel ih =>
    intro listed a w hfree hr hw hst h
    refine ⟨h.1, fun h0 => (by rw [h0] at hr; cases hr), fun j hj oj hoj => ?_⟩
    by_cases hji : j = i
    · subst hji
      rw [hi] at hoj
      cases hoj
      refine ⟨hw, ?_⟩
      unfold stepK
      rw [hst w h.1]
      exact h
    · obtain ⟨h1, h2⟩ := h.2.2 j (ready_mono hj hji) oj hoj
      obtain ⟨hjun, oj', hoj', hall⟩ := mem_ready.1 hj
      rw [hoj] at hoj'
      cases hoj'
      have hnot : ∀ e ∈ oj.after, Region.binds md e = true → e.on ≠ i := fun e he hb heq => by
        have h1 := hall e he hb
        have h0 := (mem_ready.1 hr).1
        rw [heq] at h1
        rcases Nat.lt_or_ge i listed.size with h' | h'
        · simp [h'] at h0 h1; rw [h0] at h1; cases h1
        · simp [Array.getElem?_eq_none h'] at h1
      obtain ⟨p1, p2, p3⟩ := Oper.apart_spec (hfree j oj hoj hji hjun hnot)
      have hfree' : ∀ k ok, ops[k]? = some ok → k ≠ i → (listed.setIfInBounds j true).getD k true = false →
          (∀ e ∈ ok.after, Region.binds md e = true → e.on ≠ i) → oi.apart ops ok = true := fun k ok hk hki hun hno => by
        refine hfree k ok hk hki ?_ hno
        by_cases hjk : j = k
        · subst hjk; exact hjun
        · rw [getD_set_ne true hjk] at hun; exact hun
      refine ⟨by rw [wanted_put oj a oi.dst u p1] at h1; exact h1, ?_⟩
      unfold stepK at h2 ⊢
      rw [execOp_put oj (fun cs b => hsel j oj cs b hoj) a oi.dst u p1] at h2
      refine stepK_mono (o := oj) (a := a) (w := w) (fun v w' hk => ?_) h2
      refine ih (listed.setIfInBounds j true) (a.put oj.dst v) w' hfree' (ready_mono hr (Ne.symm hji)) ?_ ?_ ?_
      · rw [wanted_put oi a oj.dst v p3]; exact hw
      · intro w hw
        rw [execOp_put oi (fun cs b => hsel i oi cs b hi) a oj.dst v p3]
        exact hst w hw
      · rw [Array.setIfInBounds_comm _ _ hji, ← Act.put_comm a u v p2]
        exact hk
/-- The order of the one walk: which comes when, and whether it comes alone. -/
def planB (md : Region.Mode) (ops : Array Oper) : List (Nat × Bool) → Array Bool → Bool
  | [], listed => (Region.ready md ops listed).isEmpty
  | (i, al) :: r, listed => (Region.ready md ops listed).contains i && (if al then (Region.ready md ops listed).all (· == i) else Region.free md ops listed i) && planB md ops r (listed.setIfInBounds i true)
def mix (P : Program) (ops : Array Oper) (C : World → Prop) (Q : Act → World → Prop) : List (Oper × Bool) → Act → World → Prop
  | [], a, w => C w → Q a w
  | (o, true) :: r, a, w => Region.wanted o (yielded ops a.tmps) = true ∧ stepK P o a w (fun u w' => C w' ∧ mix P ops C Q r (a.put o.dst u) w')
  | (o, false) :: r, a, w => Region.wanted o (yielded ops a.tmps) = true ∧ ∃ u, (∀ w, C w → (execOp a.eval o).run P w = .ok (.value u) w) ∧ mix P ops C Q r (a.put o.dst u) w
theorem C_of_mix {Q : Act → World → Prop} (hs : Region.noSelect ops = true) : ∀ (plan : List (Nat × Bool)) (L : List (Oper × Bool)) (listed : Array Bool) (a : Act) (w : World), plan.map (fun p => ((ops[p.1]?), p.2)) = L.map (fun q => (some q.1, q.2)) →
    planB md ops plan listed = true → C w → mix P ops C Q L a w → wpAnyC P md ops C Q plan.length listed a w
  | [], L, listed, a, w, hL, hB, hC, h => by
    cases L with
    | nil => exact ⟨hC, by simpa [planB] using hB, h hC⟩
    | cons q L => simp at hL
  | (i, al) :: r, L, listed, a, w, hL, hB, hC, h => by
    cases L with
    | nil => simp at hL
    | cons q L =>
      obtain ⟨o, al'⟩ := q
      simp only [List.map_cons, List.cons.injEq, Prod.mk.injEq] at hL
      obtain ⟨⟨ho, rfl⟩, hL'⟩ := hL
      simp only [planB, Bool.and_eq_true] at hB
      obtain ⟨⟨hr, hf⟩, hB'⟩ := hB
      have hr' : i ∈ Region.ready md ops listed := by simpa using hr
      cases al with
      | true =>
        simp only [if_true, List.all_eq_true, beq_iff_eq] at hf
        obtain ⟨h1, h2⟩ := h
        refine ⟨hC, fun h0 => (by rw [h0] at hr'; cases hr'), fun j hj oj hoj => ?_⟩
        have hji := hf j hj
        subst hji
        rw [ho] at hoj
        cases hoj
        exact ⟨h1, stepK_mono (fun u w' hk => C_of_mix hs r L _ _ w' hL' hB' hk.1 hk.2) h2⟩
      | false =>
        simp only [Bool.false_eq_true, if_false] at hf
        obtain ⟨h1, u, h2, h3⟩ := h
        exact first ho (Region.noSelect_spec hs) r.length listed a w (Region.free_spec ho hf) hr' h1 h2 (C_of_mix hs r L _ _ w hL' hB' hC h3)
/-- One walk serves every order. -/
theorem wp_region_mix {id : Nat} {Q : Exit → Act → World → Prop} {a : Act} {w : World} {l : List Oper} (C : World → Prop) (plan : List (Nat × Bool)) (hm : P.follows .mixedOrders = true)
    (hB : (Region.noSelect l.toArray && planB .any l.toArray plan (Array.replicate l.length false) && plan.length == l.length) = true) (hC : C w.drew)
    (h : mix P l.toArray C (fun a w => Q .normal a w) (plan.map fun p => (l.getD p.1 default, p.2)) a w.drew) (hin : plan.all (fun p => p.1 < l.length) = true) : (Code.region id l.toArray true).wp P Q a w := by
  simp only [Bool.and_eq_true, beq_iff_eq] at hB
  refine wp_region_any hm (any_of_C (C := C) (Q := fun a w => Q .normal a w) (fun _ _ h => h) _ _ _ _ ?_)
  have := C_of_mix (C := C) (md := .any) hB.1.1 plan _ (Array.replicate l.length false) a w.drew (by
    rw [List.map_map]
    apply List.map_congr_left
    intro p hp
    have hlt : p.1 < l.length := by simpa using List.all_eq_true.1 hin p hp
    simp [List.getD, List.getElem?_eq_getElem hlt]) hB.1.2 hC h
  rw [hB.2] at this
  simpa using this
variable {Q : Act → World → Prop}
/-- What only reads what stays. -/
theorem m_pure {o : Oper} {r : List (Oper × Bool)} {a : Act} {w : World} (v : Value) (hw : Region.wanted o (yielded ops a.tmps) = true) (h : ∀ w, C w → (execOp a.eval o).run P w = .ok (.value v) w) (hk : mix P ops C Q r (a.put o.dst v) w) : mix P ops C Q ((o, false) :: r) a w := ⟨hw, v, h, hk⟩
/-- A call. -/
theorem m_call {o : Oper} {r : List (Oper × Bool)} {a : Act} {w : World} (f : FuncId) (args : Array Value) (hw : Region.wanted o (yielded ops a.tmps) = true) (h : (execOp a.eval o).run P w = .ok (.enter f args) w)
    (hc : Calls P f args w (fun e w' => ∃ v, e = .returned v ∧ C w' ∧ mix P ops C Q r (a.put o.dst v) w')) : mix P ops C Q ((o, true) :: r) a w := by
  refine ⟨hw, ?_⟩
  unfold stepK
  rw [h]
  exact ⟨rfl, hc⟩
/-- An operation that comes alone. -/
theorem m_run {o : Oper} {r : List (Oper × Bool)} {a : Act} {w w' : World} (v : Value) (hw : Region.wanted o (yielded ops a.tmps) = true) (h : (execOp a.eval o).run P w = .ok (.value v) w') (hC : C w') (hk : mix P ops C Q r (a.put o.dst v) w') : mix P ops C Q ((o, true) :: r) a w := by
  refine ⟨hw, ?_⟩
  unfold stepK
  rw [h]
  exact ⟨hC, hk⟩
theorem m_nil {a : Act} {w : World} (h : C w → Q a w) : mix P ops C Q [] a w := h
theorem wanted_none {o : Oper} {y : Nat → Option Bool} (hg : o.guard = none) : Region.wanted o y = true := by unfold Region.wanted; rw [hg]
theorem wanted_met {ops : Array Oper} {a : Act} {o : Oper} (j d : Nat) (want : Bool) (hg : o.guard = some (j, want)) (hd : (ops[j]?).bind (·.dst) = some d) (hv : a.tmps[d]? = some (.bool want)) : Region.wanted o (yielded ops a.tmps) = true := by
  unfold Region.wanted yielded
  rw [hg]
  simp only [hd, Option.bind_some, hv]
  simp
end

end Go.Proofs.Ythhjcpmnekibnaa.Mx
namespace Go.Proofs.Ythhjcpmnekibnaa.Mx
open Go.RowKit
set_option linter.unusedVariables false

section
variable {P : Program} {ops : Array Oper} {md : Region.Mode} {C : World → Prop}
def wpAny3 (P : Program) (md : Region.Mode) (ops : Array Oper) (C : World → Prop) (C2 : World → Prop) (jj : Nat) (Q : Act → World → Prop) : Nat → Array Bool → Act → World → Prop
  | 0, listed, a, w => (C w ∧ (listed.getD jj false = true → C2 w)) ∧ Region.ready md ops listed = [] ∧ Q a w
  | fuel + 1, listed, a, w => (C w ∧ (listed.getD jj false = true → C2 w)) ∧ Region.ready md ops listed ≠ [] ∧ ∀ i ∈ Region.ready md ops listed, ∀ o, ops[i]? = some o →
      (Region.wanted o (yielded ops a.tmps) = true ∧ stepK P o a w (fun u w' => wpAny3 P md ops C C2 jj Q fuel (listed.setIfInBounds i true) (a.put o.dst u) w')) ∨
      (Region.wanted o (yielded ops a.tmps) = false ∧ wpAny3 P md ops C C2 jj Q fuel (listed.setIfInBounds i true) (a.put o.dst undef) w)
theorem any_of_3 {C2 : World → Prop} {jj : Nat} {Q : Act → World → Prop} {Q' : Exit → Act → World → Prop} (hQ : ∀ a w, Q a w → Q' .normal a w) : ∀ (fuel : Nat) (listed : Array Bool) (a : Act) (w : World), wpAny3 P md ops C C2 jj Q fuel listed a w → wpAny P md ops Q' fuel listed a w
  | 0, _, _, _, h => ⟨h.2.1, hQ _ _ h.2.2⟩
  | fuel + 1, listed, a, w, h => ⟨fun h0 => absurd h0 h.2.1, fun i hi => by
      obtain ⟨_, o, ho, _⟩ := mem_ready.1 hi
      unfold wpOp
      simp only [ho]
      rcases h.2.2 i hi o ho with ⟨h1, h2⟩ | ⟨h1, h2⟩
      · rw [if_pos h1]
        exact .inl (wp_of_stepK (stepK_mono (fun u w' hk => any_of_3 hQ fuel _ _ w' hk) h2))
      · rw [if_neg (by rw [h1]; decide)]
        exact any_of_3 hQ fuel _ _ w h2⟩
theorem first3 {C2 : World → Prop} {jj : Nat} {Q : Act → World → Prop} {i : Nat} {oi : Oper} {u : Value} (hi : ops[i]? = some oi) (hsel : ∀ (j : Nat) (o : Oper) cs b, ops[j]? = some o → o.op ≠ .select cs b) :
    ∀ (fuel : Nat) (listed : Array Bool) (a : Act) (w : World),
      (∀ j oj, ops[j]? = some oj → j ≠ i → listed.getD j true = false → (∀ e ∈ oj.after, Region.binds md e = true → e.on ≠ i) → oi.apart ops oj = true) →
      i ∈ Region.ready md ops listed → ((Region.wanted oi (yielded ops a.tmps) = true ∧ ∀ w, C w → (listed.getD jj false = true → C2 w) → stepK P oi a w (fun u' w' => u' = u ∧ w' = w)) ∨ (Region.wanted oi (yielded ops a.tmps) = false ∧ u = undef)) → i ≠ jj →
      wpAny3 P md ops C C2 jj Q fuel (listed.setIfInBounds i true) (a.put oi.dst u) w → wpAny3 P md ops C C2 jj Q (fuel + 1) listed a w := by
  intro fuel
  induction fuel with
  | zero =>
    intro listed a w hfree hr hst hij h
    have hc : C w ∧ (listed.getD jj false = true → C2 w) := ⟨h.1.1, fun x => h.1.2 (by rw [getD_set_ne false hij]; exact x)⟩
    refine ⟨hc, fun h0 => (by rw [h0] at hr; cases hr), fun j hj o ho => ?_⟩
    by_cases hji : j = i
    · subst hji
      rw [hi] at ho
      cases ho
      rcases hst with ⟨hw, hst⟩ | ⟨hw, hu⟩
      · exact .inl ⟨hw, stepK_mono (fun u' w' hu => by rw [hu.1, hu.2]; exact h) (hst w hc.1 hc.2)⟩
      · exact .inr ⟨hw, by rw [← hu]; exact h⟩
    · have := ready_mono hj hji
      rw [h.2.1] at this
      cases this
  | succ fuel ih =>
    intro listed a w hfree hr hst hij h
    have hc : C w ∧ (listed.getD jj false = true → C2 w) := ⟨h.1.1, fun x => h.1.2 (by rw [getD_set_ne false hij]; exact x)⟩
    refine ⟨hc, fun h0 => (by rw [h0] at hr; cases hr), fun j hj oj hoj => ?_⟩
    by_cases hji : j = i
    · subst hji
      rw [hi] at hoj
      cases hoj
      rcases hst with ⟨hw, hst⟩ | ⟨hw, hu⟩
      · exact .inl ⟨hw, stepK_mono (fun u' w' hu => by rw [hu.1, hu.2]; exact h) (hst w hc.1 hc.2)⟩
      · exact .inr ⟨hw, by rw [← hu]; exact h⟩
    · obtain ⟨hjun, oj', hoj', hall⟩ := mem_ready.1 hj
      rw [hoj] at hoj'
      cases hoj'
      have hnot : ∀ e ∈ oj.after, Region.binds md e = true → e.on ≠ i := fun e he hb heq => by
        have h1 := hall e he hb
        have h0 := (mem_ready.1 hr).1
        rw [heq] at h1
        rcases Nat.lt_or_ge i listed.size with h' | h'
        · simp [h'] at h0 h1; rw [h0] at h1; cases h1
        · simp [Array.getElem?_eq_none h'] at h1
      obtain ⟨p1, p2, p3⟩ := Oper.apart_spec (hfree j oj hoj hji hjun hnot)
      have hfree' : ∀ k ok, ops[k]? = some ok → k ≠ i → (listed.setIfInBounds j true).getD k true = false →
          (∀ e ∈ ok.after, Region.binds md e = true → e.on ≠ i) → oi.apart ops ok = true := fun k ok hk hki hun hno => by
        refine hfree k ok hk hki ?_ hno
        by_cases hjk : j = k
        · subst hjk; exact hjun
        · rw [getD_set_ne true hjk] at hun; exact hun
      have next : ∀ (v : Value) (w' : World), wpAny3 P md ops C C2 jj Q fuel ((listed.setIfInBounds i true).setIfInBounds j true) ((a.put oi.dst u).put oj.dst v) w' → wpAny3 P md ops C C2 jj Q (fuel + 1) (listed.setIfInBounds j true) (a.put oj.dst v) w' := fun v w' hk => by
        refine ih (listed.setIfInBounds j true) (a.put oj.dst v) w' hfree' (ready_mono hr (Ne.symm hji)) ?_ hij ?_
        · rw [wanted_put oi a oj.dst v p3]
          rcases hst with ⟨hw, hst⟩ | hst
          · refine .inl ⟨hw, fun w hw hw2 => ?_⟩
            have := hst w hw (fun x => hw2 (getD_set_true x))
            unfold stepK at this ⊢
            rw [execOp_put oi (fun cs b => hsel i oi cs b hi) a oj.dst v p3]
            exact this
          · exact .inr hst
        · rw [Array.setIfInBounds_comm _ _ hji, ← Act.put_comm a u v p2]
          exact hk
      rcases h.2.2 j (ready_mono hj hji) oj hoj with ⟨h1, h2⟩ | ⟨h1, h2⟩
      · refine .inl ⟨by rw [wanted_put oj a oi.dst u p1] at h1; exact h1, ?_⟩
        unfold stepK at h2 ⊢
        rw [execOp_put oj (fun cs b => hsel j oj cs b hoj) a oi.dst u p1] at h2
        exact stepK_mono (o := oj) (a := a) (w := w) (fun v w' hk => next v w' hk) h2
      · exact .inr ⟨by rw [wanted_put oj a oi.dst u p1] at h1; exact h1, next undef w h2⟩
/-- In the first phase C is known of each world; from operation jj on C2 as well. -/
def mix3 (P : Program) (ops : Array Oper) (C C2 : World → Prop) (jj : Nat) (Q : Act → World → Prop) : Bool → List (Oper × Nat × Bool) → Act → World → Prop
  | ph, [], a, w => C w → (ph = true → C2 w) → Q a w
  | ph, (o, i, true) :: r, a, w => Region.wanted o (yielded ops a.tmps) = true ∧ stepK P o a w (fun u w' => C w' ∧ ((ph || i == jj) = true → C2 w') ∧ mix3 P ops C C2 jj Q (ph || i == jj) r (a.put o.dst u) w')
  | ph, (o, i, false) :: r, a, w => i ≠ jj ∧ ∃ u, ((Region.wanted o (yielded ops a.tmps) = true ∧ ∀ w, C w → (ph = true → C2 w) → stepK P o a w (fun u' w' => u' = u ∧ w' = w)) ∨ (Region.wanted o (yielded ops a.tmps) = false ∧ u = undef)) ∧ mix3 P ops C C2 jj Q ph r (a.put o.dst u) w
theorem any3_of_mix {C2 : World → Prop} {jj : Nat} {Q : Act → World → Prop} (hs : Region.noSelect ops = true) : ∀ (plan : List (Nat × Bool)) (L : List (Oper × Nat × Bool)) (listed : Array Bool) (ph : Bool) (a : Act) (w : World), plan.map (fun p => (ops[p.1]?, p.1, p.2)) = L.map (fun q => (some q.1, q.2.1, q.2.2)) →
    planB md ops plan listed = true → listed.getD jj false = ph → jj < listed.size → C w → (ph = true → C2 w) → mix3 P ops C C2 jj Q ph L a w → wpAny3 P md ops C C2 jj Q plan.length listed a w
  | [], L, listed, ph, a, w, hL, hB, hp, hz, hC, hC2, h => by
    cases L with
    | nil => exact ⟨⟨hC, fun x => hC2 (by rw [← hp]; exact x)⟩, by simpa [planB] using hB, h hC hC2⟩
    | cons q L => simp at hL
  | (i, al) :: r, L, listed, ph, a, w, hL, hB, hp, hz, hC, hC2, h => by
    cases L with
    | nil => simp at hL
    | cons q L =>
      obtain ⟨o, i', al'⟩ := q
      simp only [List.map_cons, List.cons.injEq, Prod.mk.injEq] at hL
      obtain ⟨⟨ho, rfl, rfl⟩, hL'⟩ := hL
      simp only [planB, Bool.and_eq_true] at hB
      obtain ⟨⟨hr, hf⟩, hB'⟩ := hB
      have hr' : i ∈ Region.ready md ops listed := by simpa using hr
      have hz' : jj < (listed.setIfInBounds i true).size := by simpa using hz
      have hp' : (listed.setIfInBounds i true).getD jj false = (ph || i == jj) := by
        by_cases hij : i = jj
        · subst hij
          simp [hz]
        · rw [getD_set_ne false hij, hp]
          simp [hij]
      cases al with
      | true =>
        simp only [if_true, List.all_eq_true, beq_iff_eq] at hf
        obtain ⟨h1, h2⟩ := h
        refine ⟨⟨hC, fun x => hC2 (by rw [← hp]; exact x)⟩, fun h0 => (by rw [h0] at hr'; cases hr'), fun j hj oj hoj => ?_⟩
        have hji := hf j hj
        subst hji
        rw [ho] at hoj
        cases hoj
        exact .inl ⟨h1, stepK_mono (fun u w' hk => any3_of_mix hs r L _ _ _ w' hL' hB' hp' hz' hk.1 hk.2.1 hk.2.2) h2⟩
      | false =>
        simp only [Bool.false_eq_true, if_false] at hf
        obtain ⟨hij, u, h2, h3⟩ := h
        have hph : (ph || i == jj) = ph := by
          have : (i == jj) = false := by rw [beq_eq_false_iff_ne]; exact hij
          rw [this, Bool.or_false]
        rw [hph] at hp'
        exact first3 ho (Region.noSelect_spec hs) r.length listed a w (Region.free_spec ho hf) hr' (h2.imp (fun hh => ⟨hh.1, fun w hw hw2 => hh.2 w hw (fun x => hw2 (by rw [hp]; exact x))⟩) id) hij (any3_of_mix hs r L _ _ _ w hL' hB' hp' hz' hC hC2 h3)
/-- One walk serves every order, in two phases. -/
theorem wp_region_mix3 {id : Nat} {Q : Exit → Act → World → Prop} {a : Act} {w : World} {l : List Oper} (C C2 : World → Prop) (jj : Nat) (plan : List (Nat × Bool)) (hm : P.follows .mixedOrders = true)
    (hB : (Region.noSelect l.toArray && planB .any l.toArray plan (Array.replicate l.length false) && plan.length == l.length) = true) (hC : C w.drew)
    (h : mix3 P l.toArray C C2 jj (fun a w => Q .normal a w) false (plan.map fun p => (l.getD p.1 default, p.1, p.2)) a w.drew) (hin : (plan.all (fun p => p.1 < l.length) && decide (jj < l.length)) = true) : (Code.region id l.toArray true).wp P Q a w := by
  simp only [Bool.and_eq_true, beq_iff_eq, decide_eq_true_eq] at hB hin
  refine wp_region_any hm (any_of_3 (C := C) (C2 := C2) (jj := jj) (Q := fun a w => Q .normal a w) (fun _ _ h => h) _ _ _ _ ?_)
  have := any3_of_mix (C := C) (C2 := C2) (jj := jj) (md := .any) hB.1.1 plan _ (Array.replicate l.length false) false a w.drew (by
    rw [List.map_map]
    apply List.map_congr_left
    intro p hp
    have hlt : p.1 < l.length := by simpa using List.all_eq_true.1 hin.1 p hp
    simp [List.getD, List.getElem?_eq_getElem hlt]) hB.1.2 (by simp [hin.2]) (by simpa using hin.2) hC (fun x => by cases x) h
  rw [hB.2] at this
  simpa using this
variable {C2 : World → Prop} {jj : Nat} {Q : Act → World → Prop}
theorem q_pure {ph : Bool} {o : Oper} {i : Nat} {r : List (Oper × Nat × Bool)} {a : Act} {w : World} (v : Value) (hij : i ≠ jj) (hw : Region.wanted o (yielded ops a.tmps) = true) (h : ∀ w, C w → (ph = true → C2 w) → (execOp a.eval o).run P w = .ok (.value v) w) (hk : mix3 P ops C C2 jj Q ph r (a.put o.dst v) w) : mix3 P ops C C2 jj Q ph ((o, i, false) :: r) a w :=
  ⟨hij, v, .inl ⟨hw, fun w h1 h2 => by unfold stepK; rw [h w h1 h2]; exact ⟨rfl, rfl⟩⟩, hk⟩
/-- What is left out. -/
theorem q_skip {ph : Bool} {o : Oper} {i : Nat} {r : List (Oper × Nat × Bool)} {a : Act} {w : World} (hij : i ≠ jj) (hw : Region.wanted o (yielded ops a.tmps) = false) (hk : mix3 P ops C C2 jj Q ph r (a.put o.dst undef) w) : mix3 P ops C C2 jj Q ph ((o, i, false) :: r) a w := ⟨hij, undef, .inr ⟨hw, rfl⟩, hk⟩
/-- A call that only reads what stays. -/
theorem q_reads {ph : Bool} {o : Oper} {i : Nat} {r : List (Oper × Nat × Bool)} {a : Act} {w : World} (f : FuncId) (args : Array Value) (v : Value) (hij : i ≠ jj) (hw : Region.wanted o (yielded ops a.tmps) = true) (h : ∀ w, C w → (execOp a.eval o).run P w = .ok (.enter f args) w)
    (hc : ∀ w, C w → (ph = true → C2 w) → Calls P f args w (fun e w' => e = .returned v ∧ w' = w)) (hk : mix3 P ops C C2 jj Q ph r (a.put o.dst v) w) : mix3 P ops C C2 jj Q ph ((o, i, false) :: r) a w :=
  ⟨hij, v, .inl ⟨hw, fun w h1 h2 => by unfold stepK; rw [h w h1]; exact ⟨rfl, (hc w h1 h2).mono fun e w' h3 => ⟨v, h3.1, rfl, h3.2⟩⟩⟩, hk⟩
theorem q_call {ph : Bool} {o : Oper} {i : Nat} {r : List (Oper × Nat × Bool)} {a : Act} {w : World} (f : FuncId) (args : Array Value) (hw : Region.wanted o (yielded ops a.tmps) = true) (h : (execOp a.eval o).run P w = .ok (.enter f args) w)
    (hc : Calls P f args w (fun e w' => ∃ v, e = .returned v ∧ C w' ∧ ((ph || i == jj) = true → C2 w') ∧ mix3 P ops C C2 jj Q (ph || i == jj) r (a.put o.dst v) w')) : mix3 P ops C C2 jj Q ph ((o, i, true) :: r) a w := by
  refine ⟨hw, ?_⟩
  unfold stepK
  rw [h]
  exact ⟨rfl, hc⟩
theorem q_run {ph : Bool} {o : Oper} {i : Nat} {r : List (Oper × Nat × Bool)} {a : Act} {w w' : World} (v : Value) (hw : Region.wanted o (yielded ops a.tmps) = true) (h : (execOp a.eval o).run P w = .ok (.value v) w') (hC : C w') (hC2 : (ph || i == jj) = true → C2 w') (hk : mix3 P ops C C2 jj Q (ph || i == jj) r (a.put o.dst v) w') : mix3 P ops C C2 jj Q ph ((o, i, true) :: r) a w := by
  refine ⟨hw, ?_⟩
  unfold stepK
  rw [h]
  exact ⟨hC, hC2, hk⟩
theorem q_nil {ph : Bool} {a : Act} {w : World} (h : C w → (ph = true → C2 w) → Q a w) : mix3 P ops C C2 jj Q ph [] a w := h
theorem unwanted_met {ops : Array Oper} {a : Act} {o : Oper} (j d : Nat) (want have' : Bool) (hg : o.guard = some (j, want)) (hd : (ops[j]?).bind (·.dst) = some d) (hv : a.tmps[d]? = some (.bool have')) (hne : (have' == want) = false) : Region.wanted o (yielded ops a.tmps) = false := by
  unfold Region.wanted yielded
  rw [hg]
  simp only [hd, Option.bind_some, hv]
  cases want <;> cases have' <;> first | rfl | exact absurd hne (by decide)
end

end Go.Proofs.Ythhjcpmnekibnaa.Mx
namespace Go.Proofs.Ythhjcpmnekibnaa
open Go.RowKit
set_option linter.unusedVariables false

section
variable {P : Program} {ops : Array Oper} {md : Region.Mode} {C : World → Prop} {Le : World → World → Prop} {M : Nat → Mode} {n : Nat}
/-- The last operation waits for all others. -/
def waitsAll (md : Region.Mode) (ops : Array Oper) (n : Nat) : Bool := (List.range n).all fun i => (ops[n]?).any fun o => o.after.any fun e => Region.binds md e && e.on == i
theorem waits_spec (h : waitsAll md ops n = true) {i : Nat} (hi : i < n) : ∃ o, ops[n]? = some o ∧ ∃ e ∈ o.after, Region.binds md e = true ∧ e.on = i := by
  unfold waitsAll at h
  rw [List.all_eq_true] at h
  have h1 := h i (List.mem_range.2 hi)
  cases ho : ops[n]? with
  | none => rw [ho] at h1; simp at h1
  | some o =>
    rw [ho] at h1
    simp only [Option.any_some] at h1
    rw [Array.any_eq_true] at h1
    obtain ⟨j, hj, h2⟩ := h1
    simp only [Bool.and_eq_true, beq_iff_eq] at h2
    exact ⟨o, rfl, o.after[j], Array.getElem_mem _, h2.1, h2.2⟩
theorem last_waits (h : waitsAll md ops n = true) {i : Nat} (hi : i < n) {listed : Array Bool} (hun : listed.getD i true = false) : n ∉ Region.ready md ops listed := by
  intro hr
  obtain ⟨o, ho, e, he, hb, hon⟩ := waits_spec h hi
  obtain ⟨_, o', ho', hall⟩ := mem_ready.1 hr
  rw [ho] at ho'
  injection ho' with ho'
  subst ho'
  have h1 := hall e he hb
  rw [hon] at h1
  rcases Nat.lt_or_ge i listed.size with h' | h'
  · simp [h'] at hun h1; rw [hun] at h1; cases h1
  · simp [Array.getElem?_eq_none h'] at h1
def wpAnyL (P : Program) (md : Region.Mode) (ops : Array Oper) (C : World → Prop) (Le : World → World → Prop) (M : Nat → Mode) (n : Nat) (Q : Act → Kn → Prop) : Nat → Array Bool → Act → Kn → Prop
  | 0, listed, a, k => Region.ready md ops listed ≠ [] ∧ (∀ j ∈ Region.ready md ops listed, j = n) ∧ Region.ready md ops (listed.setIfInBounds n true) = [] ∧ Q a k
  | fuel + 1, listed, a, k => Region.ready md ops listed ≠ [] ∧ (∀ j ∈ Region.ready md ops listed, j ≠ n) ∧ ∀ i ∈ Region.ready md ops listed, gOp P ops C Le M i (wpAnyL P md ops C Le M n Q fuel (listed.setIfInBounds i true)) a k
theorem wpAny_of_growL {Q : Act → Kn → Prop} {Q' : Exit → Act → World → Prop} (hCL : ∀ w w', C w → Le w w' → C w') (hQ : ∀ a k w, C w → (∀ s, k s w) → Q a k → wpOp P ops Q' n (fun a w => Q' .normal a w) a w) : ∀ (fuel : Nat) (listed : Array Bool) (a : Act) (k : Kn) (w : World), Stays Le k → C w → (∀ s, k s w) →
    wpAnyL P md ops C Le M n Q fuel listed a k → wpAny P md ops Q' (fuel + 1) listed a w
  | 0, _, _, _, _, hs, hw, hk, h => ⟨fun h0 => absurd h0 h.1, fun i hi => by
      have := h.2.1 i hi
      subst this
      exact wpOp_mono (fun a w hq => ⟨h.2.2.1, hq⟩) (hQ _ _ _ hw hk h.2.2.2)⟩
  | fuel + 1, _, _, _, _, hs, hw, hk, h => ⟨fun h0 => absurd h0 h.1, fun i hi => wpOp_of_gOp hCL hs hw hk (fun a' k' w' hs' hw' hk' => wpAny_of_growL hCL hQ fuel _ a' k' w' hs' hw' hk') (h.2.2 i hi)⟩
theorem wpAnyL_first {Q : Act → Kn → Prop} {i : Nat} {oi : Oper} {ok : Value → Prop} {f : Value → World → Prop} (hwt : waitsAll md ops n = true) (hin : i < n) (hi : ops[i]? = some oi) (hsel : ∀ (j : Nat) (o : Oper) cs b, ops[j]? = some o → o.op ≠ .select cs b) :
    ∀ (fuel : Nat) (listed : Array Bool) (a : Act) (k : Kn),
      (∀ j oj, ops[j]? = some oj → j ≠ i → listed.getD j true = false → (∀ e ∈ oj.after, Region.binds md e = true → e.on ≠ i) → oi.apart ops oj = true) →
      i ∈ Region.ready md ops listed → YieldsG P ops C Le (M i) oi ok f a k →
      (∀ u, ok u → wpAnyL P md ops C Le M n Q fuel (listed.setIfInBounds i true) (a.put oi.dst u) (kput k oi.dst (f u))) → wpAnyL P md ops C Le M n Q (fuel + 1) listed a k := by
  intro fuel
  induction fuel with
  | zero =>
    intro listed a k _ hr hy H
    have hnl : ∀ j ∈ Region.ready md ops listed, j ≠ n := fun j hj e => last_waits hwt hin (mem_ready.1 hr).1 (e ▸ hj)
    refine ⟨fun h => (by rw [h] at hr; cases hr), hnl, fun j hj => ?_⟩
    by_cases hji : j = i
    · subst hji; exact hy.gOp hi H
    · obtain ⟨u0, hu0⟩ := yields_some hy
      exact absurd ((H u0 hu0).2.1 j (ready_mono hj hji)) (hnl j hj)
  | succ fuel ih =>
    intro listed a k hfree hr hy H
    have hnl : ∀ j ∈ Region.ready md ops listed, j ≠ n := fun j hj e => last_waits hwt hin (mem_ready.1 hr).1 (e ▸ hj)
    refine ⟨fun h => (by rw [h] at hr; cases hr), hnl, fun j hj => ?_⟩
    by_cases hji : j = i
    · subst hji; exact hy.gOp hi H
    · have h1 : ∀ u, ok u → _ := fun u hu => (H u hu).2.2 j (ready_mono hj hji)
      obtain ⟨hjun, oj, hoj, hall⟩ := mem_ready.1 hj
      have hnot : ∀ e ∈ oj.after, Region.binds md e = true → e.on ≠ i := fun e he hb heq => by
        have h1 := hall e he hb
        have h0 := (mem_ready.1 hr).1
        rw [heq] at h1
        rcases Nat.lt_or_ge i listed.size with h' | h'
        · simp [h'] at h0 h1; rw [h0] at h1; cases h1
        · simp [Array.getElem?_eq_none h'] at h1
      have h2 := gOp_put hoj (hfree j oj hoj hji hjun hnot) (fun cs b => hsel i oi cs b hi) (fun cs b => hsel j oj cs b hoj) hy h1
      have hfree' : ∀ k ok, ops[k]? = some ok → k ≠ i → (listed.setIfInBounds j true).getD k true = false →
          (∀ e ∈ ok.after, Region.binds md e = true → e.on ≠ i) → oi.apart ops ok = true := fun k ok hk hki hun hno => by
        refine hfree k ok hk hki ?_ hno
        by_cases hjk : j = k
        · subst hjk; exact hjun
        · rw [getD_set_ne true hjk] at hun; exact hun
      refine gOp_mono (fun a' k' h3 => ih (listed.setIfInBounds j true) a' k' hfree' (ready_mono hr (Ne.symm hji)) h3.1 (fun u hu => ?_)) h2
      rw [Array.setIfInBounds_comm _ _ hji]
      exact h3.2 u hu
theorem wpAnyL_lex {Q : Act → Kn → Prop} (hs : Region.noSelect ops = true) (hwt : waitsAll md ops n = true) : ∀ (l : List Oper) (i : Nat) (listed : Array Bool) (a : Act) (k : Kn), i + l.length = n → (∀ j, j < l.length → l[j]? = ops[i + j]?) →
    Region.lexFrom md ops (l.length + 1) i listed = true → wpGrow P ops C Le M Q i l a k → wpAnyL P md ops C Le M n Q l.length listed a k
  | [], i, listed, _, _, hn, _, hB, h => by
    have hin : i = n := by simpa using hn
    subst hin
    simp only [List.length_nil, Region.lexFrom, Bool.and_eq_true, List.isEmpty_iff] at hB
    obtain ⟨⟨hr, hf⟩, he⟩ := hB
    have hr' : i ∈ Region.ready md ops listed := by simpa using hr
    refine ⟨fun h0 => (by rw [h0] at hr'; cases hr'), fun j hj => ?_, he, h⟩
    by_cases hji : j = i
    · exact hji
    · have := ready_mono hj hji
      rw [he] at this
      cases this
  | o :: l, i, listed, a, k, hn, hl, hB, h => by
    have h0 : ops[i]? = some o := by simpa using (hl 0 (by simp)).symm
    simp only [List.length_cons] at hn
    rw [List.length_cons] at hB
    unfold Region.lexFrom at hB
    simp only [Bool.and_eq_true] at hB
    obtain ⟨⟨hr, hf⟩, hB'⟩ := hB
    have hst : gOp P ops C Le M i (wpGrow P ops C Le M Q (i + 1) l) a k := by unfold gOp; simp only [h0]; exact h
    obtain ⟨ok, f, hy, hK⟩ := yieldsG_of_gOp h0 hst
    exact wpAnyL_first hwt (by omega) h0 (Region.noSelect_spec hs) l.length listed a k (Region.free_spec h0 hf) (by simpa using hr) hy
      (fun u hu => wpAnyL_lex hs hwt l (i + 1) _ _ _ (by omega) (fun j hj => by have := hl (j + 1) (by simp; omega); simpa [Nat.add_assoc, Nat.add_comm 1 j] using this) hB' (hK u hu))
/-- All but the last in the text's order, then the last. -/
theorem wp_region_growL {id : Nat} {Q : Exit → Act → World → Prop} {a : Act} {w : World} {l : List Oper} {o : Oper} {L : List Oper} (C : World → Prop) (Le : World → World → Prop) (M : Nat → Mode) (hm : P.follows .mixedOrders = true) (hL : L = l ++ [o]) (hB : Region.lexB .any L.toArray = true) (hwt : waitsAll .any L.toArray l.length = true) (hCL : ∀ w w', C w → Le w w' → C w') (hC : C w.drew)
    (h : wpGrow P L.toArray C Le M (fun a' k' => ∀ w', C w' → (∀ s, k' s w') → wpList P L.toArray Q [o] a' w') 0 l a (fun _ _ => True)) : (Code.region id L.toArray true).wp P Q a w := by
  simp only [Region.lexB, Bool.and_eq_true] at hB
  have hsz : L.toArray.size = l.length + 1 := by rw [hL]; simp
  have ho : L.toArray[l.length]? = some o := by rw [hL]; simp
  refine wp_region_any hm ?_
  rw [hsz]
  refine wpAny_of_growL (M := M) (n := l.length) (Q := fun a' k' => ∀ w', C w' → (∀ s, k' s w') → wpList P L.toArray Q [o] a' w') hCL (fun a k w' hw' hk h => ?_) _ _ _ (fun _ _ => True) _ (fun _ _ _ _ h => h) hC (fun _ => trivial) ?_
  · have := h w' hw' hk
    unfold wpList at this
    unfold wpOp
    simp only [ho]
    exact this
  · have hB2 := hB.2
    rw [hsz] at hB2
    exact wpAnyL_lex (C := C) (Le := Le) (M := M) (md := .any) hB.1 hwt l 0 _ a (fun _ _ => True) (by simp) (fun j hj => by rw [hL]; simp [List.getElem?_append_left hj]) hB2 h
end

end Go.Proofs.Ythhjcpmnekibnaa
namespace Go.Proofs.Ythhjcpmnekibnaa.Mx
open Go.RowKit
set_option linter.unusedVariables false

section
variable {P : Program} {ops : Array Oper} {md : Region.Mode} {C : World → Prop}
def wpAny4 (P : Program) (md : Region.Mode) (ops : Array Oper) (C : World → Prop) (jj : Nat) (Q : Act → World → Prop) : Nat → Array Bool → Act → World → Prop
  | 0, listed, a, w => (listed.getD jj false = false → C w) ∧ Region.ready md ops listed = [] ∧ Q a w
  | fuel + 1, listed, a, w => (listed.getD jj false = false → C w) ∧ Region.ready md ops listed ≠ [] ∧ ∀ i ∈ Region.ready md ops listed, ∀ o, ops[i]? = some o →
      (Region.wanted o (yielded ops a.tmps) = true ∧ stepK P o a w (fun u w' => wpAny4 P md ops C jj Q fuel (listed.setIfInBounds i true) (a.put o.dst u) w')) ∨
      (Region.wanted o (yielded ops a.tmps) = false ∧ wpAny4 P md ops C jj Q fuel (listed.setIfInBounds i true) (a.put o.dst undef) w)
theorem any_of_4 {jj : Nat} {Q : Act → World → Prop} {Q' : Exit → Act → World → Prop} (hQ : ∀ a w, Q a w → Q' .normal a w) : ∀ (fuel : Nat) (listed : Array Bool) (a : Act) (w : World), wpAny4 P md ops C jj Q fuel listed a w → wpAny P md ops Q' fuel listed a w
  | 0, _, _, _, h => ⟨h.2.1, hQ _ _ h.2.2⟩
  | fuel + 1, listed, a, w, h => ⟨fun h0 => absurd h0 h.2.1, fun i hi => by
      obtain ⟨_, o, ho, _⟩ := mem_ready.1 hi
      unfold wpOp
      simp only [ho]
      rcases h.2.2 i hi o ho with ⟨h1, h2⟩ | ⟨h1, h2⟩
      · rw [if_pos h1]
        exact .inl (wp_of_stepK (stepK_mono (fun u w' hk => any_of_4 hQ fuel _ _ w' hk) h2))
      · rw [if_neg (by rw [h1]; decide)]
        exact any_of_4 hQ fuel _ _ w h2⟩
theorem first4 {jj : Nat} {Q : Act → World → Prop} {i : Nat} {oi : Oper} {u : Value} (hwt : waitsAll md ops jj = true) (hin : i < jj) (hi : ops[i]? = some oi) (hsel : ∀ (j : Nat) (o : Oper) cs b, ops[j]? = some o → o.op ≠ .select cs b) :
    ∀ (fuel : Nat) (listed : Array Bool) (a : Act) (w : World),
      (∀ j oj, ops[j]? = some oj → j ≠ i → listed.getD j true = false → (∀ e ∈ oj.after, Region.binds md e = true → e.on ≠ i) → oi.apart ops oj = true) →
      i ∈ Region.ready md ops listed → listed.getD jj false = false → ((Region.wanted oi (yielded ops a.tmps) = true ∧ ∀ w, C w → stepK P oi a w (fun u' w' => u' = u ∧ w' = w)) ∨ (Region.wanted oi (yielded ops a.tmps) = false ∧ u = undef)) →
      wpAny4 P md ops C jj Q fuel (listed.setIfInBounds i true) (a.put oi.dst u) w → wpAny4 P md ops C jj Q (fuel + 1) listed a w := by
  have hij : i ≠ jj := by omega
  intro fuel
  induction fuel with
  | zero =>
    intro listed a w hfree hr hlj hst h
    have hc : C w := h.1 (by rw [getD_set_ne false hij]; exact hlj)
    refine ⟨fun _ => hc, fun h0 => (by rw [h0] at hr; cases hr), fun j hj o ho => ?_⟩
    by_cases hji : j = i
    · subst hji
      rw [hi] at ho
      cases ho
      rcases hst with ⟨hw, hst⟩ | ⟨hw, hu⟩
      · exact .inl ⟨hw, stepK_mono (fun u' w' hu => by rw [hu.1, hu.2]; exact h) (hst w hc)⟩
      · exact .inr ⟨hw, by rw [← hu]; exact h⟩
    · have := ready_mono hj hji
      rw [h.2.1] at this
      cases this
  | succ fuel ih =>
    intro listed a w hfree hr hlj hst h
    have hc : C w := h.1 (by rw [getD_set_ne false hij]; exact hlj)
    refine ⟨fun _ => hc, fun h0 => (by rw [h0] at hr; cases hr), fun j hj oj hoj => ?_⟩
    by_cases hji : j = i
    · subst hji
      rw [hi] at hoj
      cases hoj
      rcases hst with ⟨hw, hst⟩ | ⟨hw, hu⟩
      · exact .inl ⟨hw, stepK_mono (fun u' w' hu => by rw [hu.1, hu.2]; exact h) (hst w hc)⟩
      · exact .inr ⟨hw, by rw [← hu]; exact h⟩
    · obtain ⟨hjun, oj', hoj', hall⟩ := mem_ready.1 hj
      rw [hoj] at hoj'
      cases hoj'
      have hjj : j ≠ jj := fun e => last_waits hwt hin (mem_ready.1 hr).1 (e ▸ hj)
      have hnot : ∀ e ∈ oj.after, Region.binds md e = true → e.on ≠ i := fun e he hb heq => by
        have h1 := hall e he hb
        have h0 := (mem_ready.1 hr).1
        rw [heq] at h1
        rcases Nat.lt_or_ge i listed.size with h' | h'
        · simp [h'] at h0 h1; rw [h0] at h1; cases h1
        · simp [Array.getElem?_eq_none h'] at h1
      obtain ⟨p1, p2, p3⟩ := Oper.apart_spec (hfree j oj hoj hji hjun hnot)
      have hfree' : ∀ k ok, ops[k]? = some ok → k ≠ i → (listed.setIfInBounds j true).getD k true = false →
          (∀ e ∈ ok.after, Region.binds md e = true → e.on ≠ i) → oi.apart ops ok = true := fun k ok hk hki hun hno => by
        refine hfree k ok hk hki ?_ hno
        by_cases hjk : j = k
        · subst hjk; exact hjun
        · rw [getD_set_ne true hjk] at hun; exact hun
      have next : ∀ (v : Value) (w' : World), wpAny4 P md ops C jj Q fuel ((listed.setIfInBounds i true).setIfInBounds j true) ((a.put oi.dst u).put oj.dst v) w' → wpAny4 P md ops C jj Q (fuel + 1) (listed.setIfInBounds j true) (a.put oj.dst v) w' := fun v w' hk => by
        refine ih (listed.setIfInBounds j true) (a.put oj.dst v) w' hfree' (ready_mono hr (Ne.symm hji)) (by rw [getD_set_ne false hjj]; exact hlj) ?_ ?_
        · rw [wanted_put oi a oj.dst v p3]
          rcases hst with ⟨hw, hst⟩ | hst
          · refine .inl ⟨hw, fun w hw => ?_⟩
            have := hst w hw
            unfold stepK at this ⊢
            rw [execOp_put oi (fun cs b => hsel i oi cs b hi) a oj.dst v p3]
            exact this
          · exact .inr hst
        · rw [Array.setIfInBounds_comm _ _ hji, ← Act.put_comm a u v p2]
          exact hk
      rcases h.2.2 j (ready_mono hj hji) oj hoj with ⟨h1, h2⟩ | ⟨h1, h2⟩
      · refine .inl ⟨by rw [wanted_put oj a oi.dst u p1] at h1; exact h1, ?_⟩
        unfold stepK at h2 ⊢
        rw [execOp_put oj (fun cs b => hsel j oj cs b hoj) a oi.dst u p1] at h2
        exact stepK_mono (o := oj) (a := a) (w := w) (fun v w' hk => next v w' hk) h2
      · exact .inr ⟨by rw [wanted_put oj a oi.dst u p1] at h1; exact h1, next undef w h2⟩
/-- C is known of each world until operation jj, the last. -/
def mix4 (P : Program) (ops : Array Oper) (C : World → Prop) (jj : Nat) (Q : Act → World → Prop) : List (Oper × Nat × Bool) → Act → World → Prop
  | [], a, w => Q a w
  | (o, i, true) :: r, a, w => Region.wanted o (yielded ops a.tmps) = true ∧ stepK P o a w (fun u w' => (i ≠ jj → C w') ∧ mix4 P ops C jj Q r (a.put o.dst u) w')
  | (o, i, false) :: r, a, w => i < jj ∧ ∃ u, ((Region.wanted o (yielded ops a.tmps) = true ∧ ∀ w, C w → stepK P o a w (fun u' w' => u' = u ∧ w' = w)) ∨ (Region.wanted o (yielded ops a.tmps) = false ∧ u = undef)) ∧ mix4 P ops C jj Q r (a.put o.dst u) w
def lastB (jj : Nat) : List (Nat × Bool) → Bool
  | [] => true
  | (i, _) :: r => (i != jj || r.isEmpty) && lastB jj r
theorem any4_of_mix {jj : Nat} {Q : Act → World → Prop} (hs : Region.noSelect ops = true) (hwt : waitsAll md ops jj = true) : ∀ (plan : List (Nat × Bool)) (L : List (Oper × Nat × Bool)) (listed : Array Bool) (a : Act) (w : World), plan.map (fun p => (ops[p.1]?, p.1, p.2)) = L.map (fun q => (some q.1, q.2.1, q.2.2)) →
    planB md ops plan listed = true → lastB jj plan = true → (listed.getD jj false = true → plan = []) → jj < listed.size → (listed.getD jj false = false → C w) → mix4 P ops C jj Q L a w → wpAny4 P md ops C jj Q plan.length listed a w
  | [], L, listed, a, w, hL, hB, hlb, hp, hz, hC, h => by
    cases L with
    | nil => exact ⟨hC, by simpa [planB] using hB, h⟩
    | cons q L => simp at hL
  | (i, al) :: r, L, listed, a, w, hL, hB, hlb, hp, hz, hC, h => by
    cases L with
    | nil => simp at hL
    | cons q L =>
      obtain ⟨o, i', al'⟩ := q
      simp only [List.map_cons, List.cons.injEq, Prod.mk.injEq] at hL
      obtain ⟨⟨ho, rfl, rfl⟩, hL'⟩ := hL
      simp only [planB, Bool.and_eq_true] at hB
      obtain ⟨⟨hr, hf⟩, hB'⟩ := hB
      have hr' : i ∈ Region.ready md ops listed := by simpa using hr
      have hz' : jj < (listed.setIfInBounds i true).size := by simpa using hz
      have hlj : listed.getD jj false = false := by
        cases hx : listed.getD jj false with
        | false => rfl
        | true => have := hp hx; cases this
      simp only [lastB, Bool.and_eq_true] at hlb
      have hp' : (listed.setIfInBounds i true).getD jj false = true → r = [] := fun hx => by
        by_cases e : i = jj
        · have h1 := hlb.1
          subst e
          simpa using h1
        · rw [getD_set_ne false e, hlj] at hx
          cases hx
      cases al with
      | true =>
        simp only [if_true, List.all_eq_true, beq_iff_eq] at hf
        obtain ⟨h1, h2⟩ := h
        refine ⟨hC, fun h0 => (by rw [h0] at hr'; cases hr'), fun j hj oj hoj => ?_⟩
        have hji := hf j hj
        subst hji
        rw [ho] at hoj
        cases hoj
        refine .inl ⟨h1, stepK_mono (fun u w' hk => any4_of_mix hs hwt r L _ _ w' hL' hB' hlb.2 hp' hz' (fun hx => hk.1 (fun e => ?_)) hk.2) h2⟩
        subst e
        simp [hz] at hx
      | false =>
        simp only [Bool.false_eq_true, if_false] at hf
        obtain ⟨hij, u, h2, h3⟩ := h
        exact first4 hwt hij ho (Region.noSelect_spec hs) r.length listed a w (Region.free_spec ho hf) hr' hlj h2 (any4_of_mix hs hwt r L _ _ w hL' hB' hlb.2 hp' hz' (fun hx => hC hlj) h3)
/-- One walk serves every order; the last operation waits for all others. -/
theorem wp_region_mix4 {id : Nat} {Q : Exit → Act → World → Prop} {a : Act} {w : World} {l : List Oper} (C : World → Prop) (jj : Nat) (plan : List (Nat × Bool)) (hm : P.follows .mixedOrders = true)
    (hB : (Region.noSelect l.toArray && planB .any l.toArray plan (Array.replicate l.length false) && lastB jj plan && waitsAll .any l.toArray jj && plan.length == l.length) = true) (hC : C w.drew)
    (h : mix4 P l.toArray C jj (fun a w => Q .normal a w) (plan.map fun p => (l.getD p.1 default, p.1, p.2)) a w.drew) (hin : (plan.all (fun p => p.1 < l.length) && decide (jj < l.length)) = true) : (Code.region id l.toArray true).wp P Q a w := by
  simp only [Bool.and_eq_true, beq_iff_eq, decide_eq_true_eq] at hB hin
  refine wp_region_any hm (any_of_4 (C := C) (jj := jj) (Q := fun a w => Q .normal a w) (fun _ _ h => h) _ _ _ _ ?_)
  have := any4_of_mix (C := C) (jj := jj) (md := .any) hB.1.1.1.1 hB.1.2 plan _ (Array.replicate l.length false) a w.drew (by
    rw [List.map_map]
    apply List.map_congr_left
    intro p hp
    have hlt : p.1 < l.length := by simpa using List.all_eq_true.1 hin.1 p hp
    simp [List.getD, List.getElem?_eq_getElem hlt]) hB.1.1.1.2 hB.1.1.2 (fun x => by simp [hin.2] at x) (by simpa using hin.2) (fun _ => hC) h
  rw [hB.2] at this
  simpa using this
variable {jj : Nat} {Q : Act → World → Prop}
theorem l_pure {o : Oper} {i : Nat} {r : List (Oper × Nat × Bool)} {a : Act} {w : World} (v : Value) (hij : i < jj) (hw : Region.wanted o (yielded ops a.tmps) = true) (h : ∀ w, C w → (execOp a.eval o).run P w = .ok (.value v) w) (hk : mix4 P ops C jj Q r (a.put o.dst v) w) : mix4 P ops C jj Q ((o, i, false) :: r) a w :=
  ⟨hij, v, .inl ⟨hw, fun w h1 => by unfold stepK; rw [h w h1]; exact ⟨rfl, rfl⟩⟩, hk⟩
/-- What is left out. -/
theorem l_skip {o : Oper} {i : Nat} {r : List (Oper × Nat × Bool)} {a : Act} {w : World} (hij : i < jj) (hw : Region.wanted o (yielded ops a.tmps) = false) (hk : mix4 P ops C jj Q r (a.put o.dst undef) w) : mix4 P ops C jj Q ((o, i, false) :: r) a w := ⟨hij, undef, .inr ⟨hw, rfl⟩, hk⟩
theorem l_call {o : Oper} {i : Nat} {r : List (Oper × Nat × Bool)} {a : Act} {w : World} (f : FuncId) (args : Array Value) (hw : Region.wanted o (yielded ops a.tmps) = true) (h : (execOp a.eval o).run P w = .ok (.enter f args) w)
    (hc : Calls P f args w (fun e w' => ∃ v, e = .returned v ∧ C w' ∧ mix4 P ops C jj Q r (a.put o.dst v) w')) : mix4 P ops C jj Q ((o, i, true) :: r) a w := by
  refine ⟨hw, ?_⟩
  unfold stepK
  rw [h]
  exact ⟨rfl, hc.mono fun e w' ⟨v, h1, h2, h3⟩ => ⟨v, h1, fun _ => h2, h3⟩⟩
theorem l_run {o : Oper} {i : Nat} {r : List (Oper × Nat × Bool)} {a : Act} {w w' : World} (v : Value) (hw : Region.wanted o (yielded ops a.tmps) = true) (h : (execOp a.eval o).run P w = .ok (.value v) w') (hC : C w') (hk : mix4 P ops C jj Q r (a.put o.dst v) w') : mix4 P ops C jj Q ((o, i, true) :: r) a w := by
  refine ⟨hw, ?_⟩
  unfold stepK
  rw [h]
  exact ⟨fun _ => hC, hk⟩
/-- The last one, a store. -/
theorem l_last {o : Oper} {a : Act} {w w' : World} (hw : Region.wanted o (yielded ops a.tmps) = true) (h : (execOp a.eval o).run P w = .ok .skip w') (hk : Q (a.put o.dst undef) w') : mix4 P ops C jj Q [(o, jj, true)] a w := by
  refine ⟨hw, ?_⟩
  unfold stepK
  rw [h]
  exact ⟨fun e => absurd rfl e, hk⟩
theorem unwanted_undef {ops : Array Oper} {a : Act} {o : Oper} (j d : Nat) (want : Bool) (hg : o.guard = some (j, want)) (hd : (ops[j]?).bind (·.dst) = some d) (hv : a.tmps[d]? = some undef) : Region.wanted o (yielded ops a.tmps) = false := by
  unfold Region.wanted yielded
  rw [hg]
  simp only [hd, Option.bind_some, hv]
  cases want <;> rfl
end

end Go.Proofs.Ythhjcpmnekibnaa.Mx
namespace Go.Proofs.Ythhjcpmnekibnaa
open Go.RowKit
set_option linter.unusedVariables false

/-- Blocks from B on are as they were, but the row's own. -/
def Off (w w' : World) (B : Nat) (v : Value) : Prop := ∀ k, B ≤ k → k < w.heap.size → v.ownBlock ≠ some k → w'.heap[k]? = w.heap[k]?
def aggT (q : T × Option Addr × Nat) : Value := .agg #[.int .i64 q.1.kind, .string q.1.s, .int .i64 q.1.n, .slice q.2.1 q.1.k.length q.2.2]
structure RowY (w : World) (B : Nat) (l : List T) (v : Value) : Prop where
  has : ∃ ps : List (T × Option Addr × Nat), ps.map (·.1) = l ∧ w.ownsRow B 33 4 v l.length (kidsC ps) ∧ ∀ q ∈ ps, ∀ w', Off w w' B v → TIn w' B q.1 (aggT q)
theorem RowY.nil (w : World) (B : Nat) : RowY w B [] (.slice none 0 0) := ⟨[], rfl, World.ownsRow_nil _ _ _ _, fun q hq => by cases hq⟩
theorem RowY.toX {w : World} {B : Nat} {l : List T} {v : Value} (h : RowY w B l v) : RowX w B l v := by
  obtain ⟨ps, h1, h2, h3⟩ := h.has
  exact ⟨ps, h1, h2, fun q hq => h3 q hq w (fun _ _ _ _ => rfl)⟩
theorem RowY.shape {w : World} {B : Nat} {l : List T} {v : Value} (h : RowY w B l v) : ∃ ao cap, v = .slice ao l.length cap := by
  obtain ⟨ps, h1, h2, h3⟩ := h.has
  rcases h2.2 with ⟨rfl, h0⟩ | ⟨g, cap, cur, rfl, _⟩
  · rw [h0]; exact ⟨_, _, rfl⟩
  · exact ⟨_, _, rfl⟩
theorem RowY.own {w : World} {B : Nat} {l : List T} {v : Value} (h : RowY w B l v) : ∀ k, v.ownBlock = some k → B ≤ k ∧ k < w.heap.size := by
  obtain ⟨ps, h1, h2, h3⟩ := h.has
  exact h2.lt
theorem RowY.keep {w w' : World} {B : Nat} {l : List T} {v : Value} (h : RowY w B l v) (hs : w.heap.size ≤ w'.heap.size) (hb : ∀ k, B ≤ k → k < w.heap.size → w'.heap[k]? = w.heap[k]?) : RowY w' B l v := by
  obtain ⟨ps, h1, h2, h3⟩ := h.has
  refine ⟨ps, h1, ⟨h2.1, ?_⟩, fun q hq w2 hoff => h3 q hq w2 (fun k k1 k2 k3 => (hoff k k1 (Nat.lt_of_lt_of_le k2 hs) k3).trans (hb k k1 k2))⟩
  rcases h2.2 with hn | ⟨g, cap, cur, rfl, hbg, hg, rest⟩
  · exact .inl hn
  · exact .inr ⟨g, cap, cur, rfl, hbg, (hb g hbg (Array.getElem?_eq_some_iff.1 hg).1).trans hg, rest⟩
theorem RowY.grew {w w' : World} {B R : Nat} {l : List T} {v : Value} (h : RowY w B l v) (hg : Grew R none w w') (hR : R < B) : RowY w' B l v :=
  h.keep hg.size (fun k k1 k2 => hg.block k k2 (by omega) (by simp))
theorem RowY.set {w : World} {B b i : Nat} {x : Value} {l : List T} {v : Value} (h : RowY w B l v) (hb : b < B) : RowY (w.setCell ⟨b, i, none⟩ x) B l v :=
  h.keep (by rw [World.size_setCell]; exact Nat.le_refl _) (fun k k1 k2 => heap_setCell_other w ⟨b, i, none⟩ k x (by show k ≠ b; omega))
theorem infoTT : (Try.prog.info? 33).map (fun i => (i.zero, i.size, i.bytes)) = some (some (.agg #[.int .i64 0, .string ByteArray.empty, .int .i64 0, .slice none 0 0]), 4, 56) := by kernel_rfl
/-- A part more. -/
theorem RowY.append {w : World} {B : Nat} {l : List T} {v : Value} (h : RowY w B l v) (hl : l.length ≤ 1000) (hB : B ≤ w.heap.size) (t : T) (ka : Option Addr) (kc : Nat) (ab : Nat) (hc : w.heap[ab]? = some (.cells #[.int .i64 t.kind, .string t.s, .int .i64 t.n, .slice ka t.k.length kc] 33))
    (ht : ∀ w', Off w w' B v → TIn w' B t (aggT (t, ka, kc))) (ty : TypeId) :
    ∃ v' w', (Builtin.append_ #[31, 31] ty #[v, .slice (some ⟨ab, 0, none⟩) 1 1]).run Try.prog w = .ok v' w' ∧ RowY w' B (l ++ [t]) v' ∧ w.grownBy w' v.ownBlock ∧ ∃ ao cap, v' = .slice ao (l.length + 1) cap := by
  obtain ⟨i0, gi, gz0, gz1, gz2⟩ := info_parts infoTT
  obtain ⟨ps, h1, h2, h3⟩ := h.has
  have hlt := h.own
  obtain ⟨v', w', hr, ho, hg, _, hloc⟩ := run_append_own_at (P := Try.prog) w B 31 ty 33 i0 (.agg #[.int .i64 0, .string ByteArray.empty, .int .i64 0, .slice none 0 0]) 4 56 Try.underlying31 gi gz0 gz1 gz2 rfl (by decide) v l.length (kidsC ps) h2 ⟨ab, 0, none⟩ 1 1 (kidC (t, ka, kc)) rfl
    (by
      intro j u hj
      rw [Addr.add_lit, Nat.zero_add, cell_of_row _ _ _ _ _ _ hc]
      simpa [kidC] using hj)
    (by
      intro u hu
      simp [kidC] at hu
      rcases hu with rfl | rfl | rfl | rfl <;> rfl) (by unfold maxLen; omega) (by omega) hB
  refine ⟨v', w', hr, ⟨ps ++ [(t, ka, kc)], by rw [List.map_append, h1]; rfl, ?_, ?_⟩, hg, ?_⟩
  · rw [kidsC_app, List.length_append]
    simpa [kidsC] using ho
  · have hoff : ∀ w2, Off w' w2 B v' → Off w w2 B v := by
      intro w2 ho2 k k1 k2 k3
      have e1 := hg.block k k2 (fun e => k3 e.symm)
      refine (ho2 k k1 (Nat.lt_of_lt_of_le k2 hg.size) ?_).trans e1
      rcases hloc with e | e
      · rw [e]; exact k3
      · rw [e]; intro e2; injection e2 with e2; omega
    intro q hq w2 ho2
    rcases List.mem_append.1 hq with hq | hq
    · exact h3 q hq w2 (hoff w2 ho2)
    · simp at hq
      subst hq
      exact ht w2 (hoff w2 ho2)
  · rcases ho.2 with ⟨_, h0⟩ | ⟨g, cap, cur, rfl, _⟩
    · omega
    · exact ⟨_, _, rfl⟩
/-- A tree that was read stands whatever becomes of an older block. -/
theorem tin_off {w : World} {B N : Nat} {t : T} {x : Value} {v : Value} (h : TIn w N t x) (hB : B ≤ N) (hv : ∀ k, v.ownBlock = some k → k < N) : ∀ w', Off w w' B v → TIn w' B t x := by
  intro w' ho
  refine h.kept hB (fun b o u hb hc => ?_)
  have hlt := World.block_lt_of_cell? w _ hc
  have e := ho b (by omega) hlt (fun e => by have := hv b e; omega)
  simp only [World.cell?] at hc ⊢
  rw [e]
  exact hc

/-- The reader stands where the blocks up to its own are as they were. -/
theorem XIn.upto {w w' : World} {R : Nat} {x : XS} (h : XIn w R x) (hs : w.heap.size ≤ w'.heap.size) (hb : ∀ q, q ≤ R → w'.heap[q]? = w.heap[q]?) : XIn w' R x := by
  obtain ⟨a, c, h1, h2, h3, h4⟩ := h.has
  refine ⟨⟨a, c, (hb R (Nat.le_refl _)).trans h1, h2, h3, ?_⟩, h.no, h.len⟩
  intro j y hj
  obtain ⟨b', o, rfl, hb', hlt, q1, q2, q3⟩ := h4 j y hj
  have hk := hb b' (by omega)
  refine ⟨b', o, rfl, hb', by omega, ?_, ?_, q3⟩
  · rw [← q1]; simp only [World.cell?, hk]
  · rw [← q2]; simp only [World.cell?, hk]

/-! ### the parts, one by one -/
def xflag (number : Bool) (k : Int) (i : Nat) : Bool := number || (decide (i = 0) && (decide (k = 6) || decide (k = 8)))
theorem xkids_go (rec : XS → Bool → T × XS) (k : Int) (number : Bool) (P i : Nat) (x : XS) (hi : i < P) (he : x.e = 0) :
    xkids rec k number (P - i) i x = ((rec (xcomma k i x) (xflag number k i)).1 :: (xkids rec k number (P - (i + 1)) (i + 1) (rec (xcomma k i x) (xflag number k i)).2).1, (xkids rec k number (P - (i + 1)) (i + 1) (rec (xcomma k i x) (xflag number k i)).2).2) := by
  obtain ⟨m, hm⟩ : ∃ m, P - i = m + 1 := ⟨P - i - 1, by omega⟩
  rw [hm, show P - (i + 1) = m by omega]
  conv => lhs; unfold xkids
  rw [if_pos he]
  rfl
theorem xkids_end (rec : XS → Bool → T × XS) (k : Int) (number : Bool) (P i : Nat) (x : XS) (h : P ≤ i ∨ x.e ≠ 0) : xkids rec k number (P - i) i x = ([], x) := by
  rcases h with h | h
  · rw [show P - i = 0 by omega]; rfl
  · cases hm : P - i with
    | zero => rfl
    | succ m => unfold xkids; rw [if_neg h]

end Go.Proofs.Ythhjcpmnekibnaa
