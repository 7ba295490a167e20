/- What a reader reads as a contract. -/
import Derived.Test.YtbppkklfjmpgiaaReadP
namespace Go.Proofs.Ytbppkklfjmpgiaa
open Go.RowKit
set_option linter.unusedVariables false

theorem termR_e (f : Nat) : ∀ r d, r.e ≠ 0 → (termR f r d).2.e ≠ 0 := by
  induction f with
  | zero => intro r d h; exact h
  | succ f ih =>
    intro r d h
    have h1 := firstR_e r d h
    have ih' : ∀ q, q.e ≠ 0 → ((fun q => termR f q (d + 1)) q).2.e ≠ 0 := fun q hq => ih q (d + 1) hq
    unfold termR
    repeat' split
    · exact h1
    · exact markR_e _ _ (nameR_e _ (markR_e _ _ h1))
    · exact lastF_e _ ih' _ (markR_e _ _ h1)
    · exact lastsF_e _ ih' _ (markR_e _ _ h1)
    · exact lastsF_e _ ih' _ (markR_e _ _ (nameR_e _ (markR_e _ _ h1)))
    · exact lastF_e _ ih' _ (markR_e _ _ (obsR_e _ _ _ (markR_e _ _ h1)))
    · exact lastF_e _ ih' _ (markR_e _ _ (dayR_e _ (markR_e _ _ h1)))
    · exact lastsF_e _ ih' _ (markR_e _ _ (obsR_e _ _ _ (markR_e _ _ h1)))
    · exact fitR_e _ _ _ h1

set_option maxHeartbeats 1000000 in
set_option maxRecDepth 100000 in
theorem last_any (f d : Nat) (hd : d ≤ 100) (hI : TermC f (d + 1)) (r : RS) (w : World) (R : Nat) (he : 13 ≤ d → r.e ≠ 0) (h : RIn w R r) :
    Calls Try.prog 42 #[.pointer (some ⟨R, 0, none⟩), .int .i64 (d : Int)] w fun e w' => e = .returned (lastF (fun q => termR f q (d + 1)) r).1.val ∧ (lastF (fun q => termR f q (d + 1)) r).1.Ok ∧ RIn w' R (lastF (fun q => termR f q (d + 1)) r).2 ∧ Grew R none w w' := by
  have HI : Hid (∀ (r : RS) (w : World) (R : Nat), (13 ≤ d → r.e ≠ 0) → RIn w R r → Calls Try.prog 22 #[.pointer (some ⟨R, 0, none⟩), .int .i64 ((d : Int) + 1)] w fun e w' => e = .returned (termR f r (d + 1)).1.val ∧ (termR f r (d + 1)).1.Ok ∧ RIn w' R (termR f r (d + 1)).2 ∧ Grew R none w w') := fun r w R hr hR => hI r w R (fun hd => hr (by omega)) hR
  have HH := hidIn h
  have HE0 := hidIn he
  clear h hI he
  unfold lastF
  go_enter Try.func42, Try.ntmps42
  go_wp2_with fail
  refine (HI.out _ w R HE0.out HH.out).mono ?_
  rintro e w2 ⟨rfl, hok2, h2, hg2⟩
  have HR2 := hidIn h2
  have HO2 := hidIn hok2
  have HG2 := hidIn hg2
  clear h2 hg2 hok2
  go_wp2_with fail
  refine (mark_any w2 R _ rpB HR2.out).mono ?_
  rintro e w3 ⟨rfl, h3, hg3⟩
  have HR3 := hidIn h3
  have HG3 := hidIn (HG2.out.tr hg3)
  clear h3 hg3
  go_wp2_with fail
  go_ret
  exact ⟨rfl, HO2.out, HR3.out, HG3.out⟩
set_option maxHeartbeats 1000000 in
set_option maxRecDepth 100000 in
theorem lasts_any (f d : Nat) (hd : d ≤ 100) (hI : TermC f (d + 1)) (r : RS) (w : World) (R : Nat) (he : 13 ≤ d → r.e ≠ 0) (h : RIn w R r) :
    Calls Try.prog 43 #[.pointer (some ⟨R, 0, none⟩), .int .i64 (d : Int)] w fun e w' => e = .returned (.tuple #[(lastsF (fun q => termR f q (d + 1)) r).1.val, (lastsF (fun q => termR f q (d + 1)) r).2.1.val]) ∧ (lastsF (fun q => termR f q (d + 1)) r).1.Ok ∧ (lastsF (fun q => termR f q (d + 1)) r).2.1.Ok ∧ RIn w' R (lastsF (fun q => termR f q (d + 1)) r).2.2 ∧ Grew R none w w' := by
  have HI : Hid (∀ (r : RS) (w : World) (R : Nat), (13 ≤ d → r.e ≠ 0) → RIn w R r → Calls Try.prog 22 #[.pointer (some ⟨R, 0, none⟩), .int .i64 ((d : Int) + 1)] w fun e w' => e = .returned (termR f r (d + 1)).1.val ∧ (termR f r (d + 1)).1.Ok ∧ RIn w' R (termR f r (d + 1)).2 ∧ Grew R none w w') := fun r w R hr hR => hI r w R (fun hd => hr (by omega)) hR
  have HL := hidIn (last_any f d hd hI)
  have HH := hidIn h
  have HE0 := hidIn he
  clear h hI he
  unfold lastsF
  go_enter Try.func43, Try.ntmps43
  go_wp2_with fail
  refine (HI.out _ w R HE0.out HH.out).mono ?_
  rintro e w2 ⟨rfl, hok2, h2, hg2⟩
  have HR2 := hidIn h2
  have HO2 := hidIn hok2
  have HG2 := hidIn hg2
  have HE2 : Hid (13 ≤ d → (termR f r (d + 1)).2.e ≠ 0) := fun hd => termR_e _ _ _ (HE0.out hd)
  clear h2 hg2 hok2
  go_wp2_with fail
  refine (mark_any w2 R _ cmB HR2.out).mono ?_
  rintro e w3 ⟨rfl, h3, hg3⟩
  have HR3 := hidIn h3
  have HG3 := hidIn (HG2.out.tr hg3)
  clear h3 hg3
  go_wp2_with fail
  refine (HL.out _ w3 R (fun hd => markR_e _ _ (HE2.out hd)) HR3.out).mono ?_
  rintro e w4 ⟨rfl, hok4, h4, hg4⟩
  have HR4 := hidIn h4
  have HO4 := hidIn hok4
  have HG4 := hidIn (HG3.out.tr hg4)
  clear h4 hg4 hok4
  go_wp2_with fail
  go_ret2
  exact ⟨rfl, HO2.out, HO4.out, HR4.out, HG4.out⟩

set_option maxHeartbeats 4000000 in
set_option maxRecDepth 100000 in
theorem term_step (f d : Nat) (hdf : d + (f + 1) = 15) (hI : TermC f (d + 1)) (r : RS) (w : World) (R : Nat) (he : 14 ≤ d → r.e ≠ 0) (h : RIn w R r) :
    Calls Try.prog 22 #[.pointer (some ⟨R, 0, none⟩), .int .i64 (d : Int)] w fun e w' => e = .returned (termR (f + 1) r d).1.val ∧ (termR (f + 1) r d).1.Ok ∧ RIn w' R (termR (f + 1) r d).2 ∧ Grew R none w w' := by
  have hO := obs_all f (d + 1) (by omega)
  have HI : Hid (∀ (r : RS) (w : World) (R : Nat), (13 ≤ d → r.e ≠ 0) → RIn w R r → Calls Try.prog 30 #[.pointer (some ⟨R, 0, none⟩), .int .i64 ((d : Int) + 1)] w fun e w' => e = .returned (obsR f r (d + 1)).1.val ∧ (obsR f r (d + 1)).1.Ok ∧ RIn w' R (obsR f r (d + 1)).2 ∧ Grew R none w w') := fun r w R hr hR => hO r w R (fun hd => hr (by omega)) hR
  have HL1 := hidIn (last_any f d (by omega) hI)
  have HL2 := hidIn (lasts_any f d (by omega) hI)
  clear hI hO
  have HH := hidIn h
  have HLT0 := hidIn h.lt
  have HSZ := hidIn (takeS_size h)
  have HDD : Hid (d + (f + 1) = 15) := hdf
  have HER := hidIn he
  clear h he
  go_enter Try.func22, Try.ntmps22
  go_wp2_with fail
  refine (first_any w R r d (by omega) HH.out).mono ?_
  rintro e w1 ⟨rfl, h1, hg1⟩
  have HR1 := hidIn h1
  have HG1 := hidIn hg1
  have HE1 : Hid (13 ≤ d → (firstR r d).e ≠ 0) := fun hd => firstR_deep r d (by omega)
  clear h1 hg1
  obtain ⟨s, hse⟩ : ∃ s, takeS r = s := ⟨_, rfl⟩
  have HSE := hidIn hse
  rw [hse] at HSZ
  rw [hse]
  clear hse
  unfold sgV
  go_upto_region 3 with fail
  obtain ⟨W, hW⟩ : ∃ W, W = w1.alloc (.cells #[.string s.1, .int .i64 s.2] 119) := ⟨_, rfl⟩
  have HBL : Hid (Below w1.heap.size w1 W) := by rw [hW]; exact below_alloc (Below.refl _ _) _
  have HBK : Hid (Blk W w1.heap.size 119 #[.string s.1, .int .i64 s.2]) := by rw [hW]; exact blk_new rfl
  have HR0 := hidIn (HR1.out.below HBL.out)
  have HG0 : Hid (Grew R none w W) := HG1.out.tr (Grew.of_below HBL.out)
  have c0 : W.cell? ⟨w1.heap.size, 0, none⟩ = some (.string s.1) := HBK.out.cell 0
  have c1 : W.cell? ⟨w1.heap.size, 1, none⟩ = some (.int .i64 s.2) := HBK.out.cell 1
  rw [← hW]
  clear hW HR1 HG1
  obtain ⟨r1, hr1⟩ : ∃ r1, firstR r d = r1 := ⟨_, rfl⟩
  rw [hr1] at HR0 HE1
  have HRR := hidIn hr1
  clear hr1

  by_cases k0 : s.1 = wZero
  · have HT : Hid (termR (f + 1) r d = (.zero, r1)) := by show _ = _; rw [termR, HSE.out, HRR.out, if_pos k0]
    have y : (s.1.toList == [122, 101, 114, 111]) = true := by rw [tl_eq tlZero]; exact decide_eq_true k0
    clear k0
    go_wp2_with fail
    go_ret
    rw [HT.out]
    exact ⟨rfl, trivial, HR0.out, HG0.out⟩
  by_cases k1 : s.1 = wOne
  · have HT : Hid (termR (f + 1) r d = (.one (takeS (markR r1 lpB)).1, markR (nameR (markR r1 lpB)) rpB)) := by show _ = _; rw [termR, HSE.out, HRR.out, if_neg k0, if_pos k1]
    have n0 : (s.1.toList == [122, 101, 114, 111]) = false := by rw [tl_eq tlZero]; exact decide_eq_false k0
    have y : (s.1.toList == [111, 110, 101]) = true := by rw [tl_eq tlOne]; exact decide_eq_true k1
    clear k0 k1
    go_wp2_with fail
    refine (mark_any W R r1 lpB HR0.out).mono ?_
    rintro e v1 ⟨rfl, h, hg⟩
    have HR1 := hidIn h
    have HG1 := hidIn (HG0.out.tr hg)
    clear h hg
    have HNS := hidIn (takeS_size HR1.out)
    go_wp2_with fail
    refine (rname_any _ R _ HR1.out).mono ?_
    rintro e v2 ⟨rfl, h, hg⟩
    have HR2 := hidIn h
    have HG2 := hidIn (HG1.out.tr hg)
    clear h hg
    go_wp2_with fail
    refine (mark_any _ R _ rpB HR2.out).mono ?_
    rintro e v3 ⟨rfl, h, hg⟩
    have HR3 := hidIn h
    have HG3 := hidIn (HG2.out.tr hg)
    clear h hg
    go_wp2_with fail
    go_ret
    rw [HT.out]
    exact ⟨rfl, HNS.out, HR3.out, HG3.out⟩
  by_cases k2 : s.1 = wGive
  · have HT : Hid (termR (f + 1) r d = (.give (lastF (fun q => termR f q (d + 1)) (markR r1 lpB)).1, (lastF (fun q => termR f q (d + 1)) (markR r1 lpB)).2)) := by show _ = _; rw [termR, HSE.out, HRR.out, if_neg k0, if_neg k1, if_pos k2]
    have n0 : (s.1.toList == [122, 101, 114, 111]) = false := by rw [tl_eq tlZero]; exact decide_eq_false k0
    have n1 : (s.1.toList == [111, 110, 101]) = false := by rw [tl_eq tlOne]; exact decide_eq_false k1
    have y : (s.1.toList == [103, 105, 118, 101]) = true := by rw [tl_eq tlGive]; exact decide_eq_true k2
    clear k0 k1 k2
    go_wp2_with fail
    refine (mark_any W R r1 lpB HR0.out).mono ?_
    rintro e v1 ⟨rfl, h, hg⟩
    have HR1 := hidIn h
    have HG1 := hidIn (HG0.out.tr hg)
    clear h hg
    go_wp2_with fail
    refine (HL1.out _ _ R (fun hd => markR_e _ _ (HE1.out hd)) HR1.out).mono ?_
    rintro e v2 ⟨rfl, ho, h, hg⟩
    have HO2 := hidIn ho
    clear ho
    have HR2 := hidIn h
    have HG2 := hidIn (HG1.out.tr hg)
    clear h hg
    obtain ⟨xa, hxa⟩ : ∃ v, (lastF (fun q => termR f q (d + 1)) (markR r1 lpB)).1.val = v := ⟨_, rfl⟩
    have HXa := hidIn hxa
    have qa := (lastF (fun q => termR f q (d + 1)) (markR r1 lpB)).1.one' HO2.out
    rw [hxa] at qa
    rw [hxa]
    clear hxa
    have sva := qa.store
    have cva := qa.cells
    have mva := qa.cells
    unfold Value.cells at mva
    clear qa
    go_wp2_with fail
    go_ret
    rw [HT.out]
    exact ⟨by show _ = Ending.returned (.iface _ (.agg #[C.val _])); rw [HXa.out]; rfl, HO2.out, HR2.out, HG2.out⟩
  by_cases k3 : s.1 = wAnd
  · have HT : Hid (termR (f + 1) r d = (.and (lastsF (fun q => termR f q (d + 1)) (markR r1 lpB)).1 (lastsF (fun q => termR f q (d + 1)) (markR r1 lpB)).2.1, (lastsF (fun q => termR f q (d + 1)) (markR r1 lpB)).2.2)) := by show _ = _; rw [termR, HSE.out, HRR.out, if_neg k0, if_neg k1, if_neg k2, if_pos k3]
    have n0 : (s.1.toList == [122, 101, 114, 111]) = false := by rw [tl_eq tlZero]; exact decide_eq_false k0
    have n1 : (s.1.toList == [111, 110, 101]) = false := by rw [tl_eq tlOne]; exact decide_eq_false k1
    have n2 : (s.1.toList == [103, 105, 118, 101]) = false := by rw [tl_eq tlGive]; exact decide_eq_false k2
    have y : (s.1.toList == [97, 110, 100]) = true := by rw [tl_eq tlAnd]; exact decide_eq_true k3
    clear k0 k1 k2 k3
    go_wp2_with fail
    refine (mark_any W R r1 lpB HR0.out).mono ?_
    rintro e v1 ⟨rfl, h, hg⟩
    have HR1 := hidIn h
    have HG1 := hidIn (HG0.out.tr hg)
    clear h hg
    go_wp2_with fail
    refine (HL2.out _ _ R (fun hd => markR_e _ _ (HE1.out hd)) HR1.out).mono ?_
    rintro e v2 ⟨rfl, ho, ho2, h, hg⟩
    have HO2 := hidIn ho
    have HP2 := hidIn ho2
    clear ho ho2
    have HR2 := hidIn h
    have HG2 := hidIn (HG1.out.tr hg)
    clear h hg
    obtain ⟨xa, hxa⟩ : ∃ v, (lastsF (fun q => termR f q (d + 1)) (markR r1 lpB)).1.val = v := ⟨_, rfl⟩
    have HXa := hidIn hxa
    have qa := (lastsF (fun q => termR f q (d + 1)) (markR r1 lpB)).1.one' HO2.out
    rw [hxa] at qa
    rw [hxa]
    clear hxa
    have sva := qa.store
    have cva := qa.cells
    have mva := qa.cells
    unfold Value.cells at mva
    clear qa
    obtain ⟨xb, hxb⟩ : ∃ v, (lastsF (fun q => termR f q (d + 1)) (markR r1 lpB)).2.1.val = v := ⟨_, rfl⟩
    have HXb := hidIn hxb
    have qb := (lastsF (fun q => termR f q (d + 1)) (markR r1 lpB)).2.1.one' HP2.out
    rw [hxb] at qb
    rw [hxb]
    clear hxb
    have svb := qb.store
    have cvb := qb.cells
    have mvb := qb.cells
    unfold Value.cells at mvb
    clear qb
    go_wp2_with fail
    go_ret
    rw [HT.out]
    exact ⟨by show _ = Ending.returned (.iface _ (.agg #[C.val _, C.val _])); rw [HXa.out, HXb.out]; rfl, ⟨HO2.out, HP2.out⟩, HR2.out, HG2.out⟩
  by_cases k4 : s.1 = wOr
  · have HT : Hid (termR (f + 1) r d = (.or (takeS (markR r1 lpB)).1 (lastsF (fun q => termR f q (d + 1)) (markR (nameR (markR r1 lpB)) cmB)).1 (lastsF (fun q => termR f q (d + 1)) (markR (nameR (markR r1 lpB)) cmB)).2.1, (lastsF (fun q => termR f q (d + 1)) (markR (nameR (markR r1 lpB)) cmB)).2.2)) := by show _ = _; rw [termR, HSE.out, HRR.out, if_neg k0, if_neg k1, if_neg k2, if_neg k3, if_pos k4]
    have n0 : (s.1.toList == [122, 101, 114, 111]) = false := by rw [tl_eq tlZero]; exact decide_eq_false k0
    have n1 : (s.1.toList == [111, 110, 101]) = false := by rw [tl_eq tlOne]; exact decide_eq_false k1
    have n2 : (s.1.toList == [103, 105, 118, 101]) = false := by rw [tl_eq tlGive]; exact decide_eq_false k2
    have n3 : (s.1.toList == [97, 110, 100]) = false := by rw [tl_eq tlAnd]; exact decide_eq_false k3
    have y : (s.1.toList == [111, 114]) = true := by rw [tl_eq tlOr]; exact decide_eq_true k4
    clear k0 k1 k2 k3 k4
    go_wp2_with fail
    refine (mark_any W R r1 lpB HR0.out).mono ?_
    rintro e v1 ⟨rfl, h, hg⟩
    have HR1 := hidIn h
    have HG1 := hidIn (HG0.out.tr hg)
    clear h hg
    have HNS := hidIn (takeS_size HR1.out)
    go_wp2_with fail
    refine (rname_any _ R _ HR1.out).mono ?_
    rintro e v2 ⟨rfl, h, hg⟩
    have HR2 := hidIn h
    have HG2 := hidIn (HG1.out.tr hg)
    clear h hg
    go_wp2_with fail
    refine (mark_any _ R _ cmB HR2.out).mono ?_
    rintro e v3 ⟨rfl, h, hg⟩
    have HR3 := hidIn h
    have HG3 := hidIn (HG2.out.tr hg)
    clear h hg
    go_wp2_with fail
    refine (HL2.out _ _ R (fun hd => markR_e _ _ (nameR_e _ (markR_e _ _ (HE1.out hd)))) HR3.out).mono ?_
    rintro e v4 ⟨rfl, ho, ho2, h, hg⟩
    have HO4 := hidIn ho
    have HP4 := hidIn ho2
    clear ho ho2
    have HR4 := hidIn h
    have HG4 := hidIn (HG3.out.tr hg)
    clear h hg
    obtain ⟨xa, hxa⟩ : ∃ v, (lastsF (fun q => termR f q (d + 1)) (markR (nameR (markR r1 lpB)) cmB)).1.val = v := ⟨_, rfl⟩
    have HXa := hidIn hxa
    have qa := (lastsF (fun q => termR f q (d + 1)) (markR (nameR (markR r1 lpB)) cmB)).1.one' HO4.out
    rw [hxa] at qa
    rw [hxa]
    clear hxa
    have sva := qa.store
    have cva := qa.cells
    have mva := qa.cells
    unfold Value.cells at mva
    clear qa
    obtain ⟨xb, hxb⟩ : ∃ v, (lastsF (fun q => termR f q (d + 1)) (markR (nameR (markR r1 lpB)) cmB)).2.1.val = v := ⟨_, rfl⟩
    have HXb := hidIn hxb
    have qb := (lastsF (fun q => termR f q (d + 1)) (markR (nameR (markR r1 lpB)) cmB)).2.1.one' HP4.out
    rw [hxb] at qb
    rw [hxb]
    clear hxb
    have svb := qb.store
    have cvb := qb.cells
    have mvb := qb.cells
    unfold Value.cells at mvb
    clear qb
    go_wp2_with fail
    go_ret
    rw [HT.out]
    exact ⟨by show _ = Ending.returned (.iface _ (.agg #[_, C.val _, C.val _])); rw [HXa.out, HXb.out]; rfl, ⟨HNS.out, HO4.out, HP4.out⟩, HR4.out, HG4.out⟩
  by_cases k5 : s.1 = wScale
  · have HT : Hid (termR (f + 1) r d = (.scale (obsR f (markR r1 lpB) (d + 1)).1 (lastF (fun q => termR f q (d + 1)) (markR (obsR f (markR r1 lpB) (d + 1)).2 cmB)).1, (lastF (fun q => termR f q (d + 1)) (markR (obsR f (markR r1 lpB) (d + 1)).2 cmB)).2)) := by show _ = _; rw [termR, HSE.out, HRR.out, if_neg k0, if_neg k1, if_neg k2, if_neg k3, if_neg k4, if_pos k5]
    have n0 : (s.1.toList == [122, 101, 114, 111]) = false := by rw [tl_eq tlZero]; exact decide_eq_false k0
    have n1 : (s.1.toList == [111, 110, 101]) = false := by rw [tl_eq tlOne]; exact decide_eq_false k1
    have n2 : (s.1.toList == [103, 105, 118, 101]) = false := by rw [tl_eq tlGive]; exact decide_eq_false k2
    have n3 : (s.1.toList == [97, 110, 100]) = false := by rw [tl_eq tlAnd]; exact decide_eq_false k3
    have n4 : (s.1.toList == [111, 114]) = false := by rw [tl_eq tlOr]; exact decide_eq_false k4
    have y : (s.1.toList == [115, 99, 97, 108, 101]) = true := by rw [tl_eq tlScale]; exact decide_eq_true k5
    clear k0 k1 k2 k3 k4 k5
    go_wp2_with fail
    refine (mark_any W R r1 lpB HR0.out).mono ?_
    rintro e v1 ⟨rfl, h, hg⟩
    have HR1 := hidIn h
    have HG1 := hidIn (HG0.out.tr hg)
    clear h hg
    go_wp2_with fail
    refine (HI.out _ _ R (fun hd => markR_e _ _ (HE1.out hd)) HR1.out).mono ?_
    rintro e v2 ⟨rfl, ho, h, hg⟩
    have HO2 := hidIn ho
    clear ho
    have HR2 := hidIn h
    have HG2 := hidIn (HG1.out.tr hg)
    clear h hg
    obtain ⟨xa, hxa⟩ : ∃ v, (obsR f (markR r1 lpB) (d + 1)).1.val = v := ⟨_, rfl⟩
    have HXa := hidIn hxa
    have qa := (obsR f (markR r1 lpB) (d + 1)).1.one' HO2.out
    rw [hxa] at qa
    rw [hxa]
    clear hxa
    have sva := qa.store
    have cva := qa.cells
    have mva := qa.cells
    unfold Value.cells at mva
    clear qa
    go_wp2_with fail
    refine (mark_any _ R _ cmB HR2.out).mono ?_
    rintro e v3 ⟨rfl, h, hg⟩
    have HR3 := hidIn h
    have HG3 := hidIn (HG2.out.tr hg)
    clear h hg
    go_wp2_with fail
    refine (HL1.out _ _ R (fun hd => markR_e _ _ (obsR_e _ _ _ (markR_e _ _ (HE1.out hd)))) HR3.out).mono ?_
    rintro e v4 ⟨rfl, ho, h, hg⟩
    have HO4 := hidIn ho
    clear ho
    have HR4 := hidIn h
    have HG4 := hidIn (HG3.out.tr hg)
    clear h hg
    obtain ⟨xb, hxb⟩ : ∃ v, (lastF (fun q => termR f q (d + 1)) (markR (obsR f (markR r1 lpB) (d + 1)).2 cmB)).1.val = v := ⟨_, rfl⟩
    have HXb := hidIn hxb
    have qb := (lastF (fun q => termR f q (d + 1)) (markR (obsR f (markR r1 lpB) (d + 1)).2 cmB)).1.one' HO4.out
    rw [hxb] at qb
    rw [hxb]
    clear hxb
    have svb := qb.store
    have cvb := qb.cells
    have mvb := qb.cells
    unfold Value.cells at mvb
    clear qb
    go_wp2_with fail
    go_ret
    rw [HT.out]
    exact ⟨by show _ = Ending.returned (.iface _ (.agg #[O.val _, C.val _])); rw [HXa.out, HXb.out]; rfl, ⟨HO2.out, HO4.out⟩, HR4.out, HG4.out⟩
  by_cases k6 : s.1 = wWhen
  · have HT : Hid (termR (f + 1) r d = (.when (dayV (markR r1 lpB)) (lastF (fun q => termR f q (d + 1)) (markR (dayR (markR r1 lpB)) cmB)).1, (lastF (fun q => termR f q (d + 1)) (markR (dayR (markR r1 lpB)) cmB)).2)) := by show _ = _; rw [termR, HSE.out, HRR.out, if_neg k0, if_neg k1, if_neg k2, if_neg k3, if_neg k4, if_neg k5, if_pos k6]
    have n0 : (s.1.toList == [122, 101, 114, 111]) = false := by rw [tl_eq tlZero]; exact decide_eq_false k0
    have n1 : (s.1.toList == [111, 110, 101]) = false := by rw [tl_eq tlOne]; exact decide_eq_false k1
    have n2 : (s.1.toList == [103, 105, 118, 101]) = false := by rw [tl_eq tlGive]; exact decide_eq_false k2
    have n3 : (s.1.toList == [97, 110, 100]) = false := by rw [tl_eq tlAnd]; exact decide_eq_false k3
    have n4 : (s.1.toList == [111, 114]) = false := by rw [tl_eq tlOr]; exact decide_eq_false k4
    have n5 : (s.1.toList == [115, 99, 97, 108, 101]) = false := by rw [tl_eq tlScale]; exact decide_eq_false k5
    have y : (s.1.toList == [119, 104, 101, 110]) = true := by rw [tl_eq tlWhen]; exact decide_eq_true k6
    clear k0 k1 k2 k3 k4 k5 k6
    go_wp2_with fail
    refine (mark_any W R r1 lpB HR0.out).mono ?_
    rintro e v1 ⟨rfl, h, hg⟩
    have HR1 := hidIn h
    have HG1 := hidIn (HG0.out.tr hg)
    clear h hg
    have HNB := hidIn (numOf_bd (takeS (markR r1 lpB)).1.data.toList)
    go_wp2_with fail
    refine (rday_any _ R _ HR1.out).mono ?_
    rintro e v2 ⟨rfl, h, hg⟩
    have HR2 := hidIn h
    have HG2 := hidIn (HG1.out.tr hg)
    clear h hg
    go_wp2_with fail
    refine (mark_any _ R _ cmB HR2.out).mono ?_
    rintro e v3 ⟨rfl, h, hg⟩
    have HR3 := hidIn h
    have HG3 := hidIn (HG2.out.tr hg)
    clear h hg
    go_wp2_with fail
    refine (HL1.out _ _ R (fun hd => markR_e _ _ (dayR_e _ (markR_e _ _ (HE1.out hd)))) HR3.out).mono ?_
    rintro e v4 ⟨rfl, ho, h, hg⟩
    have HO4 := hidIn ho
    clear ho
    have HR4 := hidIn h
    have HG4 := hidIn (HG3.out.tr hg)
    clear h hg
    obtain ⟨xb, hxb⟩ : ∃ v, (lastF (fun q => termR f q (d + 1)) (markR (dayR (markR r1 lpB)) cmB)).1.val = v := ⟨_, rfl⟩
    have HXb := hidIn hxb
    have qb := (lastF (fun q => termR f q (d + 1)) (markR (dayR (markR r1 lpB)) cmB)).1.one' HO4.out
    rw [hxb] at qb
    rw [hxb]
    clear hxb
    have svb := qb.store
    have cvb := qb.cells
    have mvb := qb.cells
    unfold Value.cells at mvb
    clear qb
    go_wp2_with fail
    go_ret
    rw [HT.out]
    exact ⟨by show _ = Ending.returned (.iface _ (.agg #[_, C.val _])); rw [HXb.out]; rfl, ⟨HNB.out, HO4.out⟩, HR4.out, HG4.out⟩
  by_cases k7 : s.1 = wIf
  · have HT : Hid (termR (f + 1) r d = (.iff (obsR f (markR r1 lpB) (d + 1)).1 (lastsF (fun q => termR f q (d + 1)) (markR (obsR f (markR r1 lpB) (d + 1)).2 cmB)).1 (lastsF (fun q => termR f q (d + 1)) (markR (obsR f (markR r1 lpB) (d + 1)).2 cmB)).2.1, (lastsF (fun q => termR f q (d + 1)) (markR (obsR f (markR r1 lpB) (d + 1)).2 cmB)).2.2)) := by show _ = _; rw [termR, HSE.out, HRR.out, if_neg k0, if_neg k1, if_neg k2, if_neg k3, if_neg k4, if_neg k5, if_neg k6, if_pos k7]
    have n0 : (s.1.toList == [122, 101, 114, 111]) = false := by rw [tl_eq tlZero]; exact decide_eq_false k0
    have n1 : (s.1.toList == [111, 110, 101]) = false := by rw [tl_eq tlOne]; exact decide_eq_false k1
    have n2 : (s.1.toList == [103, 105, 118, 101]) = false := by rw [tl_eq tlGive]; exact decide_eq_false k2
    have n3 : (s.1.toList == [97, 110, 100]) = false := by rw [tl_eq tlAnd]; exact decide_eq_false k3
    have n4 : (s.1.toList == [111, 114]) = false := by rw [tl_eq tlOr]; exact decide_eq_false k4
    have n5 : (s.1.toList == [115, 99, 97, 108, 101]) = false := by rw [tl_eq tlScale]; exact decide_eq_false k5
    have n6 : (s.1.toList == [119, 104, 101, 110]) = false := by rw [tl_eq tlWhen]; exact decide_eq_false k6
    have y : (s.1.toList == [105, 102]) = true := by rw [tl_eq tlIf]; exact decide_eq_true k7
    clear k0 k1 k2 k3 k4 k5 k6 k7
    go_wp2_with fail
    refine (mark_any W R r1 lpB HR0.out).mono ?_
    rintro e v1 ⟨rfl, h, hg⟩
    have HR1 := hidIn h
    have HG1 := hidIn (HG0.out.tr hg)
    clear h hg
    go_wp2_with fail
    refine (HI.out _ _ R (fun hd => markR_e _ _ (HE1.out hd)) HR1.out).mono ?_
    rintro e v2 ⟨rfl, ho, h, hg⟩
    have HO2 := hidIn ho
    clear ho
    have HR2 := hidIn h
    have HG2 := hidIn (HG1.out.tr hg)
    clear h hg
    obtain ⟨xa, hxa⟩ : ∃ v, (obsR f (markR r1 lpB) (d + 1)).1.val = v := ⟨_, rfl⟩
    have HXa := hidIn hxa
    have qa := (obsR f (markR r1 lpB) (d + 1)).1.one' HO2.out
    rw [hxa] at qa
    rw [hxa]
    clear hxa
    have sva := qa.store
    have cva := qa.cells
    have mva := qa.cells
    unfold Value.cells at mva
    clear qa
    go_wp2_with fail
    refine (mark_any _ R _ cmB HR2.out).mono ?_
    rintro e v3 ⟨rfl, h, hg⟩
    have HR3 := hidIn h
    have HG3 := hidIn (HG2.out.tr hg)
    clear h hg
    go_wp2_with fail
    refine (HL2.out _ _ R (fun hd => markR_e _ _ (obsR_e _ _ _ (markR_e _ _ (HE1.out hd)))) HR3.out).mono ?_
    rintro e v4 ⟨rfl, ho, ho2, h, hg⟩
    have HO4 := hidIn ho
    have HP4 := hidIn ho2
    clear ho ho2
    have HR4 := hidIn h
    have HG4 := hidIn (HG3.out.tr hg)
    clear h hg
    obtain ⟨xb, hxb⟩ : ∃ v, (lastsF (fun q => termR f q (d + 1)) (markR (obsR f (markR r1 lpB) (d + 1)).2 cmB)).1.val = v := ⟨_, rfl⟩
    have HXb := hidIn hxb
    have qb := (lastsF (fun q => termR f q (d + 1)) (markR (obsR f (markR r1 lpB) (d + 1)).2 cmB)).1.one' HO4.out
    rw [hxb] at qb
    rw [hxb]
    clear hxb
    have svb := qb.store
    have cvb := qb.cells
    have mvb := qb.cells
    unfold Value.cells at mvb
    clear qb
    obtain ⟨xc, hxc⟩ : ∃ v, (lastsF (fun q => termR f q (d + 1)) (markR (obsR f (markR r1 lpB) (d + 1)).2 cmB)).2.1.val = v := ⟨_, rfl⟩
    have HXc := hidIn hxc
    have qc := (lastsF (fun q => termR f q (d + 1)) (markR (obsR f (markR r1 lpB) (d + 1)).2 cmB)).2.1.one' HP4.out
    rw [hxc] at qc
    rw [hxc]
    clear hxc
    have svc := qc.store
    have cvc := qc.cells
    have mvc := qc.cells
    unfold Value.cells at mvc
    clear qc
    go_wp2_with fail
    go_ret
    rw [HT.out]
    exact ⟨by show _ = Ending.returned (.iface _ (.agg #[O.val _, C.val _, C.val _])); rw [HXa.out, HXb.out, HXc.out]; rfl, ⟨HO2.out, HO4.out, HP4.out⟩, HR4.out, HG4.out⟩
  have HT : Hid (termR (f + 1) r d = (.odd .nilIface, fitR r1 s false)) := by show _ = _; rw [termR, HSE.out, HRR.out, if_neg k0, if_neg k1, if_neg k2, if_neg k3, if_neg k4, if_neg k5, if_neg k6, if_neg k7]
  have n0 : (s.1.toList == [122, 101, 114, 111]) = false := by rw [tl_eq tlZero]; exact decide_eq_false k0
  have n1 : (s.1.toList == [111, 110, 101]) = false := by rw [tl_eq tlOne]; exact decide_eq_false k1
  have n2 : (s.1.toList == [103, 105, 118, 101]) = false := by rw [tl_eq tlGive]; exact decide_eq_false k2
  have n3 : (s.1.toList == [97, 110, 100]) = false := by rw [tl_eq tlAnd]; exact decide_eq_false k3
  have n4 : (s.1.toList == [111, 114]) = false := by rw [tl_eq tlOr]; exact decide_eq_false k4
  have n5 : (s.1.toList == [115, 99, 97, 108, 101]) = false := by rw [tl_eq tlScale]; exact decide_eq_false k5
  have n6 : (s.1.toList == [119, 104, 101, 110]) = false := by rw [tl_eq tlWhen]; exact decide_eq_false k6
  have n7 : (s.1.toList == [105, 102]) = false := by rw [tl_eq tlIf]; exact decide_eq_false k7
  clear k0 k1 k2 k3 k4 k5 k6 k7
  go_wp2_with fail
  refine (fit_any _ R r1 s false HR0.out).mono ?_
  rintro e v1 ⟨rfl, h, hg⟩
  have HR1 := hidIn h
  have HG1 := hidIn (HG0.out.tr hg)
  clear h hg
  go_wp2_with fail
  go_ret
  rw [HT.out]
  exact ⟨rfl, .inl rfl, HR1.out, HG1.out⟩
set_option maxHeartbeats 4000000 in
set_option maxRecDepth 100000 in
theorem term_dead (d : Nat) (hd : d ≤ 15) (r : RS) (w : World) (R : Nat) (he : r.e ≠ 0) (h : RIn w R r) :
    Calls Try.prog 22 #[.pointer (some ⟨R, 0, none⟩), .int .i64 (d : Int)] w fun e w' => e = .returned .nilIface ∧ RIn w' R r ∧ Grew R none w w' := by
  have hdf : d + (0 + 1) ≤ 16 := by omega
  have HDE : Hid (takeS r = (⟨#[]⟩, r.past) ∧ firstR r d = r ∧ ∀ s, fitR r s false = r) := ⟨takeS_none r he, dead_first r d he, fun s => dead_fit r s he⟩
  clear he
  have HH := hidIn h
  have HLT0 := hidIn h.lt
  have HSZ := hidIn (takeS_size h)
  clear h
  go_enter Try.func22, Try.ntmps22
  go_wp2_with fail
  refine (first_any w R r d (by omega) HH.out).mono ?_
  rintro e w1 ⟨rfl, h1, hg1⟩
  have HR1 := hidIn h1
  have HG1 := hidIn hg1
  clear h1 hg1
  obtain ⟨s, hse⟩ : ∃ s, takeS r = s := ⟨_, rfl⟩
  have HSE := hidIn hse
  rw [hse] at HSZ
  rw [hse]
  clear hse
  unfold sgV
  go_upto_region 3 with fail
  obtain ⟨W, hW⟩ : ∃ W, W = w1.alloc (.cells #[.string s.1, .int .i64 s.2] 119) := ⟨_, rfl⟩
  have HBL : Hid (Below w1.heap.size w1 W) := by rw [hW]; exact below_alloc (Below.refl _ _) _
  have HBK : Hid (Blk W w1.heap.size 119 #[.string s.1, .int .i64 s.2]) := by rw [hW]; exact blk_new rfl
  have HR0 := hidIn (HR1.out.below HBL.out)
  have HG0 : Hid (Grew R none w W) := HG1.out.tr (Grew.of_below HBL.out)
  have c0 : W.cell? ⟨w1.heap.size, 0, none⟩ = some (.string s.1) := HBK.out.cell 0
  have c1 : W.cell? ⟨w1.heap.size, 1, none⟩ = some (.int .i64 s.2) := HBK.out.cell 1
  rw [← hW]
  clear hW HR1 HG1
  obtain ⟨r1, hr1⟩ : ∃ r1, firstR r d = r1 := ⟨_, rfl⟩
  rw [hr1] at HR0
  have HRR := hidIn hr1
  clear hr1
  have hs0 : s = (⟨#[]⟩, r.past) := HSE.out.symm.trans HDE.out.1
  have hrr : r1 = r := HRR.out.symm.trans HDE.out.2.1
  have n0 : (s.1.toList == [122, 101, 114, 111]) = false := by rw [tl_eq tlZero, hs0]; show decide ((⟨#[]⟩ : ByteArray) = wZero) = false; decide
  have n1 : (s.1.toList == [111, 110, 101]) = false := by rw [tl_eq tlOne, hs0]; show decide ((⟨#[]⟩ : ByteArray) = wOne) = false; decide
  have n2 : (s.1.toList == [103, 105, 118, 101]) = false := by rw [tl_eq tlGive, hs0]; show decide ((⟨#[]⟩ : ByteArray) = wGive) = false; decide
  have n3 : (s.1.toList == [97, 110, 100]) = false := by rw [tl_eq tlAnd, hs0]; show decide ((⟨#[]⟩ : ByteArray) = wAnd) = false; decide
  have n4 : (s.1.toList == [111, 114]) = false := by rw [tl_eq tlOr, hs0]; show decide ((⟨#[]⟩ : ByteArray) = wOr) = false; decide
  have n5 : (s.1.toList == [115, 99, 97, 108, 101]) = false := by rw [tl_eq tlScale, hs0]; show decide ((⟨#[]⟩ : ByteArray) = wScale) = false; decide
  have n6 : (s.1.toList == [119, 104, 101, 110]) = false := by rw [tl_eq tlWhen, hs0]; show decide ((⟨#[]⟩ : ByteArray) = wWhen) = false; decide
  have n7 : (s.1.toList == [105, 102]) = false := by rw [tl_eq tlIf, hs0]; show decide ((⟨#[]⟩ : ByteArray) = wIf) = false; decide
  have HS0 := hidIn hs0
  have HR9 := hidIn hrr
  clear hs0 hrr
  go_wp2_with fail
  refine (fit_any _ R r1 s false HR0.out).mono ?_
  rintro e v1 ⟨rfl, h, hg⟩
  have HR1 := hidIn h
  have HG1 := hidIn (HG0.out.tr hg)
  clear h hg
  go_wp2_with fail
  go_ret
  have h2 := HR1.out
  rw [HR9.out, HDE.out.2.2] at h2
  exact ⟨rfl, h2, HG1.out⟩
theorem term_all : ∀ f d, d + f = 15 → TermC f d := by
  intro f
  induction f with
  | zero =>
    intro d hd r w R he h
    refine (term_dead d (by omega) r w R (he (by omega)) h).mono ?_
    rintro e w' ⟨rfl, h1, h2⟩
    exact ⟨rfl, .inl rfl, h1, h2⟩
  | succ f ih =>
    intro d hd r w R he h
    exact term_step f d hd (ih (d + 1) (by omega)) r w R he h

end Go.Proofs.Ytbppkklfjmpgiaa
