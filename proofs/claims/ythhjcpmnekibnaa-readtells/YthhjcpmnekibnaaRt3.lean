/- The document's tree, where a word stands. -/
import Derived.Test.YthhjcpmnekibnaaRt2
import Derived.Maps.Own
import Derived.Maps.OwnOps
import Derived.Maps.OwnSet
import Derived.Test.YthhjcpmnekibnaaRt1
import Derived.Test.YthhjcpmnekibnaaRefO
import Derived.Test.YthhjcpmnekibnaaMakerC1
import Derived.Test.YthhjcpmnekibnaaMakerC2
import Derived.Test.YthhjcpmnekibnaaMakerC4
import Derived.Test.YthhjcpmnekibnaaMakerC5
import Derived.Test.YthhjcpmnekibnaaMakerC6
import Derived.Test.YthhjcpmnekibnaaTermSize
import Derived.Test.YthhjcpmnekibnaaObsT2
import Derived.Test.YthhjcpmnekibnaaTermWalk
import Derived.Test.YthhjcpmnekibnaaMakerC0
namespace Go.Proofs.Ythhjcpmnekibnaa
open Go.RowKit Go.Maps
set_option linter.unusedVariables false

theorem kind_next {x : XS} {number : Bool} (h : xkind x.next number ≠ 0) : x.e = 0 ∧ x.no < x.all.length := XS.next_at (fun e => h (by rw [e]; exact xkind_emp number))

set_option maxHeartbeats 4000000 in
set_option maxRecDepth 100000 in
theorem tree_word (f d : Nat) (hd : d ≤ 12) (x : XS) (number : Bool) (w : World) (R : Nat) (h : XIn w R x) (HREC : Hid (∀ (y : XS) (b : Bool) (w' : World), XIn w' R y → Calls Try.prog 22 #[.pointer (some ⟨R, 0, none⟩), .bool b, .int .i64 ((d : Int) + 1)] w' fun e w'' => ∃ v, e = .returned v ∧ TIn w'' w'.heap.size (xtree f y b (d + 1)).1 v ∧ XIn w'' R (xtree f y b (d + 1)).2 ∧ Grew R none w' w'')) (k : Int) (hk : xkind x.next number = k) (hk0 : k ≠ 0) (hkb : 0 ≤ k ∧ k ≤ 16) :
    Calls Try.prog 22 #[.pointer (some ⟨R, 0, none⟩), .bool number, .int .i64 (d : Int)] w fun e w' => ∃ v, e = .returned v ∧ TIn w' w.heap.size (xtree (f + 1) x number d).1 v ∧ XIn w' R (xtree (f + 1) x number d).2 ∧ Grew R none w w' := by
  have hR := h.lt
  have HW0 : Hid (Blk (w.alloc (.cells #[.int .i64 0, .string ⟨#[]⟩, .int .i64 0, .slice none 0 0] 33)) w.heap.size 33 #[.int .i64 0, .string ⟨#[]⟩, .int .i64 0, .slice none 0 0]) := blk_new rfl
  have HB0 : Hid (Below w.heap.size w (w.alloc (.cells #[.int .i64 0, .string ⟨#[]⟩, .int .i64 0, .slice none 0 0] 33))) := below_alloc (Below.refl _ _) _
  have HX1 := hidIn (h.tr HB0.out)
  have HG1 : Hid (Grew R none w (w.alloc (.cells #[.int .i64 0, .string ⟨#[]⟩, .int .i64 0, .slice none 0 0] 33))) := Grew.of_below HB0.out
  have HK1 := HW0
  have hne : w.heap.size ≠ R := by omega
  have hRb : R < w.heap.size := hR
  have hn := kind_next (x := x) (number := number) (by rw [hk]; exact hk0)
  clear h HW0 HB0
  go_enter Try.func22, Try.ntmps22
  have h12' : ¬ (12 : Int) < (d : Int) := by omega
  go_wp2_with fail
  generalize w.alloc (.cells #[.int .i64 0, .string ⟨#[]⟩, .int .i64 0, .slice none 0 0] 33) = w1 at *
  refine (xnext_any w1 R _ HX1.out).mono ?_
  rintro e w2 ⟨rfl, hb2⟩
  have HX2 := hidIn (HX1.out.tr hb2)
  have HG2 := hidIn (HG1.out.tr (Grew.of_below hb2))
  have HK2 := hidIn (HK1.out.grew (Grew.of_below (M := R) hb2) hne)
  clear hb2 HX1 HG1 HK1
  go_wp2_with fail
  refine (xkind_any _ number w2).mono ?_
  rintro e w3 ⟨rfl, hb3⟩
  have HX3 := hidIn (HX2.out.tr hb3)
  have HG3 := hidIn (HG2.out.tr (Grew.of_below hb3))
  have HK3 := hidIn (HK2.out.grew (Grew.of_below (M := R) hb3) hne)
  clear hb3 HX2 HG2 HK2
  rw [hk]
  have hk0' : (k == 0) = false := by rw [beq_eq_false_iff_ne]; exact hk0
  obtain ⟨g1, fz1, gb⟩ := HX3.out.cells
  have HST := hidIn (HX3.out.steps hn.2)
  generalize hno : (x.no : Int) = no at *
  go_upto_region 12 with fail
  have HX5 := hidIn (HST.out.1.tr (below_alloc (Below.refl _ _) (.cells #[.int .i64 k, .string ⟨#[]⟩, .int .i64 0, .slice none 0 0] 33)))
  have HG5 := hidIn ((HG3.out.tr HST.out.2).alloc (.cells #[.int .i64 k, .string ⟨#[]⟩, .int .i64 0, .slice none 0 0] 33))
  have HK5 := hidIn (blk_k (HK3.out.grew HST.out.2 hne) (.cells #[.int .i64 k, .string ⟨#[]⟩, .int .i64 0, .slice none 0 0] 33))
  have htb : w3.heap.size = (w3.setCell ⟨R, 1, none⟩ (.int .i64 (no + 1))).heap.size := by rw [World.size_setCell]
  have HT5 : Hid (Blk ((w3.setCell ⟨R, 1, none⟩ (.int .i64 (no + 1))).alloc (.cells #[.int .i64 k, .string ⟨#[]⟩, .int .i64 0, .slice none 0 0] 33)) w3.heap.size 33 #[.int .i64 k, .string ⟨#[]⟩, .int .i64 0, .slice none 0 0]) := blk_new htb
  have htb2 : w.heap.size < w3.heap.size := HK3.out.lt
  clear HST HX3 HG3 HK3 htb g1 fz1
  generalize (w3.setCell ⟨R, 1, none⟩ (.int .i64 (no + 1))).alloc (.cells #[.int .i64 k, .string ⟨#[]⟩, .int .i64 0, .slice none 0 0] 33) = w5 at *
  generalize w3.heap.size = tb at *
  obtain ⟨⟨z0, z1, z2, z3⟩, f0, f1, f2, f3⟩ := blk_zero HK5.out
  by_cases hk1 : k = 1
  · subst hk1
    have HT : Hid (xtree (f + 1) x number d = (.mk 1 ⟨#[]⟩ 0 [], x.step)) := by
      show xtree (f + 1) x number d = _
      unfold xtree
      rw [xfirst_same x (by omega), hk]
      rfl
    have t0 : w5.cell? ⟨tb, 0, none⟩ = some (.int .i64 1) := HT5.out.cell 0
    have t1 : w5.cell? ⟨tb, 1, none⟩ = some (.string ⟨#[]⟩) := HT5.out.cell 1
    have t2 : w5.cell? ⟨tb, 2, none⟩ = some (.int .i64 0) := HT5.out.cell 2
    have t3 : w5.cell? ⟨tb, 3, none⟩ = some (.slice none 0 0) := HT5.out.cell 3
    go_wp2_with fail
    refine bodyPost_ret (results_cell_row rfl _ _ w.heap.size 33 #[.int .i64 1, .string ⟨#[]⟩, .int .i64 0, .slice none 0 0] (0, 0) _ rfl (set4_blk HK5.out _ _ _ _) Try.underlying33 rfl infoT) rfl ?_
    rw [HT.out]
    exact ⟨_, rfl, tin_leaf _ _ _ _ _, (((HX5.out.other hRb 0 _).other hRb 1 _).other hRb 2 _).other hRb 3 _, set4_grew HG5.out (Nat.le_refl _) _ _ _ _⟩
  · have hk1' : (k == 1) = false := by rw [beq_eq_false_iff_ne]; exact hk1
    clear z0 z1 z2 z3 f0 f1 f2 f3
    go_wp2_with fail
    refine (xsign_any w5 R x.step lpB mark_ne.1 HX5.out).mono ?_
    rintro e w6 ⟨rfl, h6, hg6⟩
    have HX6 := hidIn h6
    have HG6 := hidIn (HG5.out.tr hg6)
    have HK6 := hidIn (HK5.out.grew hg6 hne)
    have HT6 := hidIn (HT5.out.grew hg6 (by omega))
    clear h6 hg6 HX5 HG5 HK5 HT5
    have hmm := @run_makeMap Try.prog
    have q0 : Wd.MapIs (w6.alloc (.map #[] 0)) w6.heap.size (pairs []) := Wd.MapIs.new w6
    have e0 : Below w6.heap.size w6 (w6.alloc (.map #[] 0)) := below_alloc (Below.refl _ _) _
    have s0 : w6.heap.size ≤ (w6.alloc (.map #[] 0)).heap.size := e0.size
    obtain ⟨m1, r1, q1, e1⟩ := put_pair (B := w6.heap.size) q0 (by unfold SmallL; decide) 3 1 (by omega) (by decide) (Nat.le_refl _) s0
    have s1 : w6.heap.size ≤ m1.heap.size := Nat.le_trans s0 e1.size
    obtain ⟨m2, r2, q2, e2⟩ := put_pair (B := w6.heap.size) q1 (by unfold SmallL; decide) 4 2 (by omega) (by decide) (Nat.le_refl _) s1
    have s2 : w6.heap.size ≤ m2.heap.size := Nat.le_trans s1 e2.size
    obtain ⟨m3, r3, q3, e3⟩ := put_pair (B := w6.heap.size) q2 (by unfold SmallL; decide) 5 2 (by omega) (by decide) (Nat.le_refl _) s2
    have s3 : w6.heap.size ≤ m3.heap.size := Nat.le_trans s2 e3.size
    obtain ⟨m4, r4, q4, e4⟩ := put_pair (B := w6.heap.size) q3 (by unfold SmallL; decide) 6 2 (by omega) (by decide) (Nat.le_refl _) s3
    have s4 : w6.heap.size ≤ m4.heap.size := Nat.le_trans s3 e4.size
    obtain ⟨m5, r5, q5, e5⟩ := put_pair (B := w6.heap.size) q4 (by unfold SmallL; decide) 7 1 (by omega) (by decide) (Nat.le_refl _) s4
    have s5 : w6.heap.size ≤ m5.heap.size := Nat.le_trans s4 e5.size
    obtain ⟨m6, r6, q6, e6⟩ := put_pair (B := w6.heap.size) q5 (by unfold SmallL; decide) 8 3 (by omega) (by decide) (Nat.le_refl _) s5
    have s6 : w6.heap.size ≤ m6.heap.size := Nat.le_trans s5 e6.size
    obtain ⟨m7, r7, q7, e7⟩ := put_pair (B := w6.heap.size) q6 (by unfold SmallL; decide) 13 2 (by omega) (by decide) (Nat.le_refl _) s6
    have s7 : w6.heap.size ≤ m7.heap.size := Nat.le_trans s6 e7.size
    obtain ⟨m8, r8, q8, e8⟩ := put_pair (B := w6.heap.size) q7 (by unfold SmallL; decide) 14 1 (by omega) (by decide) (Nat.le_refl _) s7
    have s8 : w6.heap.size ≤ m8.heap.size := Nat.le_trans s7 e8.size
    obtain ⟨m9, r9, q9, e9⟩ := put_pair (B := w6.heap.size) q8 (by unfold SmallL; decide) 15 2 (by omega) (by decide) (Nat.le_refl _) s8
    have s9 : w6.heap.size ≤ m9.heap.size := Nat.le_trans s8 e9.size
    obtain ⟨m10, r10, q10, e10⟩ := put_pair (B := w6.heap.size) q9 (by unfold SmallL; decide) 16 2 (by omega) (by decide) (Nat.le_refl _) s9
    have s10 : w6.heap.size ≤ m10.heap.size := Nat.le_trans s9 e10.size
    have hlook := parts_look (show Wd.MapIs m10 w6.heap.size (pairs partsL) from q10) k hkb
    have HB7 : Hid (Below w6.heap.size w6 m10) := ((((((((((e0.trans e1).trans e2).trans e3).trans e4).trans e5).trans e6).trans e7).trans e8).trans e9).trans e10)
    have HX7 := hidIn (HX6.out.tr HB7.out)
    have HG7 := hidIn (HG6.out.tr (Grew.of_below HB7.out))
    have HK7 := hidIn (HK6.out.grew (Grew.of_below (M := R) HB7.out) hne)
    have HT7 := hidIn (HT6.out.grew (Grew.of_below (M := R) HB7.out) (by omega))
    clear q0 e0 s0 q1 e1 s1 q2 e2 s2 q3 e3 s3 q4 e4 s4 q5 e5 s5 q6 e6 s6 q7 e7 s7 q8 e8 s8 q9 e9 s9 q10 e10 s10 HX6 HG6 HK6 HT6 HB7
    go_upto_block 0 with fail
    clear r1 r2 r3 r4 r5 r6 r7 r8 r9 r10 hlook hmm
    obtain ⟨xh, hxh⟩ : ∃ xh, (xhead k (x.step.sign lpB)).2.2 = xh := ⟨_, rfl⟩
    obtain ⟨hs, hhs⟩ : ∃ hs, (xhead k (x.step.sign lpB)).1 = hs := ⟨_, rfl⟩
    obtain ⟨hn, hhn⟩ : ∃ hn, (xhead k (x.step.sign lpB)).2.1 = hn := ⟨_, rfl⟩
    have HXH := hidIn hxh
    have HHS := hidIn hhs
    have HHN := hidIn hhn
    clear hxh hhs hhn
    have HRT : Hid (R < tb) := by show R < tb; omega
    have HWT : Hid (w.heap.size ≠ tb) := by show w.heap.size ≠ tb; omega
    have HWL : Hid (w.heap.size ≤ tb) := by show w.heap.size ≤ tb; omega
    go_cut [9] (fun s9 wx => s9 = .pointer (some ⟨tb, 0, none⟩) ∧ XIn wx R xh ∧ Grew R none w wx ∧ Blk wx w.heap.size 33 #[.int .i64 0, .string ⟨#[]⟩, .int .i64 0, .slice none 0 0] ∧ Blk wx tb 33 #[.int .i64 k, .string hs, .int .i64 hn, .slice none 0 0])
    case first =>
      by_cases hnm : k = 2 ∨ k = 5 ∨ k = 12
      · have HXD : Hid (xhead k (x.step.sign lpB) = ((x.step.sign lpB).name.1, 0, (x.step.sign lpB).name.2)) := by unfold Hid xhead; rw [if_pos hnm]
        rcases hnm with rfl | rfl | rfl
        all_goals
          go_wp2_with fail
          refine (xname_any _ R _ HX7.out).mono ?_
          rintro e w8 ⟨rfl, h8, hg8⟩
          have HX8 := hidIn h8
          have HG8 := hidIn (HG7.out.tr hg8)
          have HK8 := hidIn (HK7.out.grew hg8 hne)
          have HT8 := hidIn (HT7.out.grew hg8 (by have := HRT.out; omega))
          clear h8 hg8 HX7 HG7 HK7 HT7
          have c1 : w8.cell? ⟨tb, 1, none⟩ = some (.string ⟨#[]⟩) := HT8.out.cell 1
          have f1 : w8.frozen? ⟨tb, 1, none⟩ = false := HT8.out.frozen 1
          generalize (x.step.sign lpB).name = nm at *
          go_wp2_with fail
          go_meet
          case rel =>
            have e1 := HXH.out
            have e2 := HHS.out
            have e3 := HHN.out
            rw [HXD.out] at e1 e2 e3
            subst e1 e2 e3
            exact ⟨rfl, HX8.out.other HRT.out 1 _, HG8.out.setNew HWL.out 1 _, HK8.out.other HWT.out 1 _, HT8.out.set 1 _⟩
      · by_cases h7 : k = 7
        · subst h7
          have HXD : Hid (xhead 7 (x.step.sign lpB) = (⟨#[]⟩, ((x.step.sign lpB).num true).1, ((x.step.sign lpB).num true).2)) := by unfold Hid xhead; rw [if_neg (by decide), if_pos rfl]
          go_wp2_with fail
          refine (xnum_any _ R _ true HX7.out).mono ?_
          rintro e w8 ⟨rfl, h8, hg8⟩
          have HX8 := hidIn h8
          have HG8 := hidIn (HG7.out.tr hg8)
          have HK8 := hidIn (HK7.out.grew hg8 hne)
          have HT8 := hidIn (HT7.out.grew hg8 (by have := HRT.out; omega))
          clear h8 hg8 HX7 HG7 HK7 HT7
          have c1 : w8.cell? ⟨tb, 2, none⟩ = some (.int .i64 0) := HT8.out.cell 2
          have f1 : w8.frozen? ⟨tb, 2, none⟩ = false := HT8.out.frozen 2
          generalize (x.step.sign lpB).num true = nm at *
          go_wp2_with fail
          go_meet
          case rel =>
            have e1 := HXH.out
            have e2 := HHS.out
            have e3 := HHN.out
            rw [HXD.out] at e1 e2 e3
            subst e1 e2 e3
            exact ⟨rfl, HX8.out.other HRT.out 2 _, HG8.out.setNew HWL.out 2 _, HK8.out.other HWT.out 2 _, HT8.out.set 2 _⟩
        · have HXD : Hid (xhead k (x.step.sign lpB) = (⟨#[]⟩, 0, x.step.sign lpB)) := by unfold Hid xhead; rw [if_neg hnm, if_neg h7]
          have k2 : (k == 2) = false := by rw [beq_eq_false_iff_ne]; omega
          have k5 : (k == 5) = false := by rw [beq_eq_false_iff_ne]; omega
          have k12 : (k == 12) = false := by rw [beq_eq_false_iff_ne]; omega
          have k7 : (k == 7) = false := by rw [beq_eq_false_iff_ne]; omega
          clear hnm
          go_wp2_with fail
          go_meet
          case rel =>
            have e1 := HXH.out
            have e2 := HHS.out
            have e3 := HHN.out
            rw [HXD.out] at e1 e2 e3
            subst e1 e2 e3
            exact ⟨rfl, HX7.out, HG7.out, HK7.out, HT7.out⟩
    case rest =>
      obtain ⟨rfl, hx8, hg8, hk8, ht8⟩ := hcut
      have HXH8 := hidIn hx8
      have HG8 := hidIn hg8
      have HK8 := hidIn hk8
      have HT8 := hidIn ht8
      clear hx8 hg8 hk8 ht8
      have hP3 : xparts k ≤ 3 := by unfold xparts; split <;> (try omega); split <;> (try omega); split <;> omega
      have HTR : Hid (xtree (f + 1) x number d = (.mk k hs hn (xkids (fun y b => xtree f y b (d + 1)) k number (xparts k) 0 xh).1, (xkids (fun y b => xtree f y b (d + 1)) k number (xparts k) 0 xh).2.sign rpB)) := by
        show xtree (f + 1) x number d = _
        rw [xtree, xfirst_same x (by omega), hk, if_neg hk0, if_neg hk1]
        unfold xrest
        rw [HXH.out, HHS.out, HHN.out]
      go_wp2_with fail
      go_loopw [11] (fun s11 wr => ∃ (i : Nat) (l : List T) (xi : XS) (v : Value), i ≤ xparts k ∧ s11 = .int .i64 i ∧ l.length = i ∧
        xkids (fun y b => xtree f y b (d + 1)) k number (xparts k) 0 xh = (l ++ (xkids (fun y b => xtree f y b (d + 1)) k number (xparts k - i) i xi).1, (xkids (fun y b => xtree f y b (d + 1)) k number (xparts k - i) i xi).2) ∧
        XIn wr R xi ∧ Grew R none w wr ∧ Blk wr w.heap.size 33 #[.int .i64 0, .string ⟨#[]⟩, .int .i64 0, .slice none 0 0] ∧ Blk wr tb 33 #[.int .i64 k, .string hs, .int .i64 hn, v] ∧ RowY wr (tb + 1) l v) (fun s11 _ => xparts k - (intOf s11).toNat)
      case atStart => exact ⟨0, [], xh, .slice none 0 0, by omega, rfl, rfl, by simp, HXH8.out, HG8.out, HK8.out, HT8.out, RowY.nil _ _⟩
      case round =>
        obtain ⟨i, l, xi, v, hip, rfl, hli, heq, hx, hg, hkb2, htb3, hrow⟩ := hrel
        have HEQ := hidIn heq
        have HXI := hidIn hx
        have HGI := hidIn hg
        have HKI := hidIn hkb2
        have HTI0 := hidIn htb3
        have HRI := hidIn hrow
        have hwrap : IntKind.i64.wrap ((d : Int) + 1) = (d : Int) + 1 := by simp [IntKind.wrap, IntKind.bits, IntKind.signed]; omega
        clear heq hx hg hkb2 htb3 hrow HXH8 HG8 HK8 HT8
        have hxe : wr.cell? ⟨R, 4, none⟩ = some (.int .i64 xi.e) := by
          obtain ⟨a, c, h1, _⟩ := HXI.out.has
          exact h1.cell 4
        by_cases hgo : i < xparts k ∧ xi.e = 0
        · obtain ⟨hip, he0⟩ := hgo
          have hip' : (i : Int) < (xparts k : Int) := by omega
          have HE0 := hidIn he0
          rw [he0] at hxe
          clear he0
          by_cases hi0 : 0 < i
          · have hgt : (0 : Int) < (i : Int) := by omega
            have hiz : ((i : Int) == 0) = false := by rw [beq_eq_false_iff_ne]; omega
            have hin : ¬ i = 0 := by omega
            cases number
            · have HFL : Hid (xflag false k i = false) := by unfold Hid xflag; simp [hin]
              have HCM : Hid (xcomma k i xi = xi.sign cmB) := by show xcomma _ _ _ = _; unfold xcomma; rw [if_pos (by omega)]
              clear hin hi0
              go_wp2_with fail
              refine (xsign_any wr R xi cmB mark_ne.2.1 HXI.out).mono ?_
              rintro e w11 ⟨rfl, hx11, hg11⟩
              have HXC0 : Hid (XIn w11 R (xcomma k i xi)) := by rw [HCM.out]; exact hx11
              have HGC0 := hidIn (HGI.out.tr hg11)
              have HKC0 := hidIn (HKI.out.grew hg11 hne)
              have HTC0 := hidIn (HTI0.out.grew hg11 (by have := HRT.out; omega))
              have HRC0 := hidIn (HRI.out.grew hg11 (by have := HRT.out; omega))
              clear hx11 hg11 HGI HKI HTI0 HRI HXI
              have HXC : Hid (XIn w11.drew R (xcomma k i xi)) := HXC0.out.below (bel_1 _)
              have HGC : Hid (Grew R none w w11.drew) := HGC0.out.drew
              have HKC : Hid (Blk w11.drew w.heap.size 33 #[.int .i64 0, .string ⟨#[]⟩, .int .i64 0, .slice none 0 0]) := HKC0.out
              have HTC : Hid (Blk w11.drew tb 33 #[.int .i64 k, .string hs, .int .i64 hn, v]) := HTC0.out
              have HRC : Hid (RowY w11.drew (tb + 1) l v) := HRC0.out.keep (Nat.le_refl _) (fun _ _ _ => rfl)
              clear HXC0 HGC0 HKC0 HTC0 HRC0
              go_wp2_with fail
              refine Mx.wp_region_mix4 (fun w' => Blk w' tb 33 #[.int .i64 k, .string hs, .int .i64 hn, v]) 22 [(0, false), (1, false), (2, false), (3, false), (4, false), (5, false), (6, false), (7, false), (8, false), (9, false), (10, false), (11, false), (12, false), (13, false), (14, false), (15, false), (16, false), (17, false), (18, true), (19, true), (20, true), (21, true), (22, true)] (by kernel_rfl) (by kernel_rfl) HTC.out ?_ (by kernel_rfl)
              simp only [List.map_cons, List.map_nil, List.getD_cons_zero, List.getD_cons_succ]
              generalize hops : (#[_, _, _, _, _, _, _, _, _, _, _, _, _, _, _, _, _, _, _, _, _, _, _] : Array Oper) = ops
              have HD4 : Hid ((ops[4]?).bind (·.dst) = some 93) := by rw [← hops]; exact rfl
              have HD7 : Hid ((ops[7]?).bind (·.dst) = some 96) := by rw [← hops]; exact rfl
              have HD10 : Hid ((ops[10]?).bind (·.dst) = some 99) := by rw [← hops]; exact rfl
              clear hops
              refine Mx.l_pure (.pointer (some ⟨tb, 3, none⟩)) (by decide) (Mx.wanted_none rfl) (fun w' hw' => ?_) ?_
              · go_simp
              simp only [Act.put, List.setIfInBounds_toArray, List.set_cons_zero, List.set_cons_succ]
              refine Mx.l_pure (v) (by decide) (Mx.wanted_none rfl) (fun w' hw' => ?_) ?_
              · have hc3 : w'.cell? ⟨tb, 3, none⟩ = some v := hw'.cell 3
                go_simp
              simp only [Act.put, List.setIfInBounds_toArray, List.set_cons_zero, List.set_cons_succ]
              refine Mx.l_pure (.pointer (some ⟨R, 0, none⟩)) (by decide) (Mx.wanted_none rfl) (fun w' hw' => ?_) ?_
              · go_simp
              simp only [Act.put, List.setIfInBounds_toArray, List.set_cons_zero, List.set_cons_succ]
              refine Mx.l_pure (.bool false) (by decide) (Mx.wanted_none rfl) (fun w' hw' => ?_) ?_
              · go_simp
              simp only [Act.put, List.setIfInBounds_toArray, List.set_cons_zero, List.set_cons_succ]
              refine Mx.l_pure (.bool false) (by decide) (Mx.wanted_none rfl) (fun w' hw' => ?_) ?_
              · go_simp
              simp only [Act.put, List.setIfInBounds_toArray, List.set_cons_zero, List.set_cons_succ]
              refine Mx.l_pure (.int .i64 i) (by decide) (Mx.wanted_met 4 93 false rfl HD4.out rfl) (fun w' hw' => ?_) ?_
              · go_simp
              simp only [Act.put, List.setIfInBounds_toArray, List.set_cons_zero, List.set_cons_succ]
              refine Mx.l_pure (.bool false) (by decide) (Mx.wanted_met 4 93 false rfl HD4.out rfl) (fun w' hw' => ?_) ?_
              · go_simp
              simp only [Act.put, List.setIfInBounds_toArray, List.set_cons_zero, List.set_cons_succ]
              refine Mx.l_pure (.bool false) (by decide) (Mx.wanted_met 4 93 false rfl HD4.out rfl) (fun w' hw' => ?_) ?_
              · go_simp
              simp only [Act.put, List.setIfInBounds_toArray, List.set_cons_zero, List.set_cons_succ]
              refine Mx.l_skip (by decide) (Mx.unwanted_met 7 96 true false rfl HD7.out rfl rfl) ?_
              simp only [Act.put, List.setIfInBounds_toArray, List.set_cons_zero, List.set_cons_succ]
              refine Mx.l_skip (by decide) (Mx.unwanted_met 7 96 true false rfl HD7.out rfl rfl) ?_
              simp only [Act.put, List.setIfInBounds_toArray, List.set_cons_zero, List.set_cons_succ]
              refine Mx.l_skip (by decide) (Mx.unwanted_met 7 96 true false rfl HD7.out rfl rfl) ?_
              simp only [Act.put, List.setIfInBounds_toArray, List.set_cons_zero, List.set_cons_succ]
              refine Mx.l_skip (by decide) (Mx.unwanted_undef 10 99 false rfl HD10.out rfl) ?_
              simp only [Act.put, List.setIfInBounds_toArray, List.set_cons_zero, List.set_cons_succ]
              refine Mx.l_skip (by decide) (Mx.unwanted_undef 10 99 false rfl HD10.out rfl) ?_
              simp only [Act.put, List.setIfInBounds_toArray, List.set_cons_zero, List.set_cons_succ]
              refine Mx.l_skip (by decide) (Mx.unwanted_met 7 96 true false rfl HD7.out rfl rfl) ?_
              simp only [Act.put, List.setIfInBounds_toArray, List.set_cons_zero, List.set_cons_succ]
              refine Mx.l_pure (.bool false) (by decide) (Mx.wanted_met 4 93 false rfl HD4.out rfl) (fun w' hw' => ?_) ?_
              · go_simp
              simp only [Act.put, List.setIfInBounds_toArray, List.set_cons_zero, List.set_cons_succ]
              refine Mx.l_pure (.bool false) (by decide) (Mx.wanted_none rfl) (fun w' hw' => ?_) ?_
              · go_simp
              simp only [Act.put, List.setIfInBounds_toArray, List.set_cons_zero, List.set_cons_succ]
              refine Mx.l_pure (.int .i64 d) (by decide) (Mx.wanted_none rfl) (fun w' hw' => ?_) ?_
              · go_simp
              simp only [Act.put, List.setIfInBounds_toArray, List.set_cons_zero, List.set_cons_succ]
              refine Mx.l_pure (.int .i64 ((d : Int) + 1)) (by decide) (Mx.wanted_none rfl) (fun w' hw' => ?_) ?_
              · go_simp
              simp only [Act.put, List.setIfInBounds_toArray, List.set_cons_zero, List.set_cons_succ]
              refine Mx.l_call 22 #[.pointer (some ⟨R, 0, none⟩), .bool false, .int .i64 ((d : Int) + 1)] (Mx.wanted_none rfl) ?_ ?_
              · go_simp
              refine (HREC.out (xcomma k i xi) false _ HXC.out).mono ?_
              rintro e w12 ⟨tv, rfl, ht12, hx12, hg12⟩
              rw [← HFL.out] at ht12 hx12
              have htv := ht12
              obtain ⟨ka, kc, rfl, hz1, hz2, hz3⟩ := htv
              clear hz1 hz2 hz3
              have HX12 := hidIn hx12
              have HG12 := hidIn (HGC.out.tr hg12)
              have HK12 := hidIn (HKC.out.grew hg12 hne)
              have HT12 := hidIn (HTC.out.grew hg12 (by have := HRT.out; omega))
              have HR12 := hidIn (HRC.out.grew hg12 (by have := HRT.out; omega))
              have HTI := hidIn ht12
              have HWC := hidIn HTC.out.lt
              have HOWN := hidIn HRC.out.own
              refine ⟨_, rfl, HT12.out, ?_⟩
              clear ht12 hx12 hg12
              obtain ⟨tt, htt⟩ : ∃ tt, (xtree f (xcomma k i xi) (xflag false k i) (d + 1)).1 = tt := ⟨_, rfl⟩
              rw [htt] at HTI
              rw [htt]
              obtain ⟨xx, hxx⟩ : ∃ xx, (xtree f (xcomma k i xi) (xflag false k i) (d + 1)).2 = xx := ⟨_, rfl⟩
              rw [hxx] at HX12
              have HTT := hidIn htt
              have HXX := hidIn hxx
              clear htt hxx
              simp only [Act.put, List.setIfInBounds_toArray, List.set_cons_zero, List.set_cons_succ]
              refine Mx.l_run (.slice (some ⟨w12.heap.size, 0, none⟩) 1 1) (Mx.wanted_none rfl) (w' := w12.alloc (.cells #[.int .i64 tt.kind, .string tt.s, .int .i64 tt.n, .slice ka tt.k.length kc] 33)) ?_ (blk_k HT12.out _) ?_
              · go_simp
              simp only [Act.put, List.setIfInBounds_toArray, List.set_cons_zero, List.set_cons_succ]
              obtain ⟨v', w14, hrun, hrow, hgrow, ao, cap, hv'⟩ := RowY.append (ty := 31) (HR12.out.keep (w' := w12.alloc (.cells #[.int .i64 tt.kind, .string tt.s, .int .i64 tt.n, .slice ka tt.k.length kc] 33)) (by simp) (fun q _ h2 => Below.heap_alloc _ _ _ h2)) (by omega) (by have := HT12.out.lt; simp; omega) tt ka kc w12.heap.size (heap_alloc_new _ _) (tin_off (HTI.out.below (below_alloc (Below.refl _ _) _)) (by have := HWC.out; simp at this ⊢; omega) (fun q hq => by have := (HOWN.out q hq).2; simpa using this))
              have HB13 : Hid (Below w12.heap.size w12 (w12.alloc (.cells #[.int .i64 tt.kind, .string tt.s, .int .i64 tt.n, .slice ka tt.k.length kc] 33))) := below_alloc (Below.refl _ _) _
              have hv2 := hv'
              generalize w12.alloc (.cells #[.int .i64 tt.kind, .string tt.s, .int .i64 tt.n, .slice ka tt.k.length kc] 33) = w13 at *
              have HOW2 : Hid (∀ q, v.ownBlock = some q → tb + 1 ≤ q) := fun q hq => (HOWN.out q hq).1
              have HG14 : Hid (∀ q, q < w13.heap.size → q ≤ tb → w14.heap[q]? = w13.heap[q]?) := fun q h1 h2 => hgrow.block q h1 (fun e => by have := HOW2.out q e.symm; omega)
              have HT13 : Hid (Blk w13 tb 33 #[.int .i64 k, .string hs, .int .i64 hn, v]) := HT12.out.grew (Grew.of_below (M := R) HB13.out) (by have := HRT.out; omega)
              have HK13 : Hid (Blk w13 w.heap.size 33 #[.int .i64 0, .string ⟨#[]⟩, .int .i64 0, .slice none 0 0]) := HK12.out.grew (Grew.of_below (M := R) HB13.out) hne
              have HT14 : Hid (Blk w14 tb 33 #[.int .i64 k, .string hs, .int .i64 hn, v]) := (HG14.out tb HT13.out.lt (Nat.le_refl _)).trans HT13.out
              have HK14 : Hid (Blk w14 w.heap.size 33 #[.int .i64 0, .string ⟨#[]⟩, .int .i64 0, .slice none 0 0]) := (HG14.out w.heap.size HK13.out.lt HWL.out).trans HK13.out
              have HX14 : Hid (XIn w14 R xx) := (HX12.out.below HB13.out).upto hgrow.size (fun q hq => HG14.out q (by have := HT13.out.lt; have := HRT.out; omega) (by have := HRT.out; omega))
              have HG14b : Hid (Grew R none w w14) := (HG12.out.tr (Grew.of_below HB13.out)).trans (Grew.of_grown hgrow) (.inr (fun q hq => by have := HOW2.out q hq; have := HWL.out; omega))
              have HR14 := hidIn hrow
              clear hgrow hrow HB13 HG14 HT13 HK13 HX12 HG12 HK12 HT12 HR12 HTI HWC HOWN HOW2
              refine Mx.l_run v' (Mx.wanted_none rfl) (w' := w14) ?_ HT14.out ?_
              · simp [execOp, resolve, invoke, builtin, Act.eval, hrun]
              have c3 : w14.cell? ⟨tb, 3, none⟩ = some v := HT14.out.cell 3
              have f3 : w14.frozen? ⟨tb, 3, none⟩ = false := HT14.out.frozen 3
              clear hrun
              subst hv2
              simp only [Act.put, List.setIfInBounds_toArray, List.set_cons_zero, List.set_cons_succ]
              refine Mx.l_run (.pointer (some ⟨tb, 3, none⟩)) (Mx.wanted_none rfl) (w' := w14) ?_ HT14.out ?_
              · go_simp
              simp only [Act.put, List.setIfInBounds_toArray, List.set_cons_zero, List.set_cons_succ]
              refine Mx.l_last (w' := w14.setCell ⟨tb, 3, none⟩ (.slice ao (l.length + 1) cap)) (Mx.wanted_none rfl) ?_ ?_
              · go_simp
              simp only [Act.put]
              have HX15 := hidIn (HX14.out.other HRT.out 3 (.slice ao (l.length + 1) cap))
              have HG15 := hidIn (HG14b.out.setNew HWL.out 3 (.slice ao (l.length + 1) cap))
              have HK15 := hidIn (HK14.out.other HWT.out 3 (.slice ao (l.length + 1) cap))
              have HT15 : Hid (Blk (w14.setCell ⟨tb, 3, none⟩ (.slice ao (l.length + 1) cap)) tb 33 #[.int .i64 k, .string hs, .int .i64 hn, .slice ao (l.length + 1) cap]) := HT14.out.set 3 _
              have HR15 := hidIn (HR14.out.set (i := 3) (x := .slice ao (l.length + 1) cap) (Nat.lt_succ_self tb))
              have HEQ2 : Hid (xkids (fun y b => xtree f y b (d + 1)) k false (xparts k) 0 xh = ((l ++ [tt]) ++ (xkids (fun y b => xtree f y b (d + 1)) k false (xparts k - (i + 1)) (i + 1) xx).1, (xkids (fun y b => xtree f y b (d + 1)) k false (xparts k - (i + 1)) (i + 1) xx).2)) := by
                unfold Hid
                rw [HEQ.out, xkids_go _ _ _ _ _ _ hip HE0.out, HTT.out, HXX.out]
                simp
              clear HX14 HG14b HK14 HT14 HR14 c3 f3 HTT HXX
              generalize w14.setCell ⟨tb, 3, none⟩ (.slice ao (l.length + 1) cap) = w15 at *
              clear hgt hiz
              go_wp2_with fail
              go_roundw
              case rel => exact ⟨i + 1, l ++ [tt], xx, .slice ao (l.length + 1) cap, by omega, by go_num, by rw [List.length_append]; simp; omega, HEQ2.out, HX15.out, HG15.out, HK15.out, HT15.out, HR15.out⟩
              case measure => simp [intOf] <;> omega
            · have HFL : Hid (xflag true k i = true) := by unfold Hid xflag; simp [hin]
              have HCM : Hid (xcomma k i xi = xi.sign cmB) := by show xcomma _ _ _ = _; unfold xcomma; rw [if_pos (by omega)]
              clear hin hi0
              go_wp2_with fail
              refine (xsign_any wr R xi cmB mark_ne.2.1 HXI.out).mono ?_
              rintro e w11 ⟨rfl, hx11, hg11⟩
              have HXC0 : Hid (XIn w11 R (xcomma k i xi)) := by rw [HCM.out]; exact hx11
              have HGC0 := hidIn (HGI.out.tr hg11)
              have HKC0 := hidIn (HKI.out.grew hg11 hne)
              have HTC0 := hidIn (HTI0.out.grew hg11 (by have := HRT.out; omega))
              have HRC0 := hidIn (HRI.out.grew hg11 (by have := HRT.out; omega))
              clear hx11 hg11 HGI HKI HTI0 HRI HXI
              have HXC : Hid (XIn w11.drew R (xcomma k i xi)) := HXC0.out.below (bel_1 _)
              have HGC : Hid (Grew R none w w11.drew) := HGC0.out.drew
              have HKC : Hid (Blk w11.drew w.heap.size 33 #[.int .i64 0, .string ⟨#[]⟩, .int .i64 0, .slice none 0 0]) := HKC0.out
              have HTC : Hid (Blk w11.drew tb 33 #[.int .i64 k, .string hs, .int .i64 hn, v]) := HTC0.out
              have HRC : Hid (RowY w11.drew (tb + 1) l v) := HRC0.out.keep (Nat.le_refl _) (fun _ _ _ => rfl)
              clear HXC0 HGC0 HKC0 HTC0 HRC0
              go_wp2_with fail
              refine Mx.wp_region_mix4 (fun w' => Blk w' tb 33 #[.int .i64 k, .string hs, .int .i64 hn, v]) 22 [(0, false), (1, false), (2, false), (3, false), (4, false), (5, false), (6, false), (7, false), (8, false), (9, false), (10, false), (11, false), (12, false), (13, false), (14, false), (15, false), (16, false), (17, false), (18, true), (19, true), (20, true), (21, true), (22, true)] (by kernel_rfl) (by kernel_rfl) HTC.out ?_ (by kernel_rfl)
              simp only [List.map_cons, List.map_nil, List.getD_cons_zero, List.getD_cons_succ]
              generalize hops : (#[_, _, _, _, _, _, _, _, _, _, _, _, _, _, _, _, _, _, _, _, _, _, _] : Array Oper) = ops
              have HD4 : Hid ((ops[4]?).bind (·.dst) = some 93) := by rw [← hops]; exact rfl
              have HD7 : Hid ((ops[7]?).bind (·.dst) = some 96) := by rw [← hops]; exact rfl
              have HD10 : Hid ((ops[10]?).bind (·.dst) = some 99) := by rw [← hops]; exact rfl
              clear hops
              refine Mx.l_pure (.pointer (some ⟨tb, 3, none⟩)) (by decide) (Mx.wanted_none rfl) (fun w' hw' => ?_) ?_
              · go_simp
              simp only [Act.put, List.setIfInBounds_toArray, List.set_cons_zero, List.set_cons_succ]
              refine Mx.l_pure (v) (by decide) (Mx.wanted_none rfl) (fun w' hw' => ?_) ?_
              · have hc3 : w'.cell? ⟨tb, 3, none⟩ = some v := hw'.cell 3
                go_simp
              simp only [Act.put, List.setIfInBounds_toArray, List.set_cons_zero, List.set_cons_succ]
              refine Mx.l_pure (.pointer (some ⟨R, 0, none⟩)) (by decide) (Mx.wanted_none rfl) (fun w' hw' => ?_) ?_
              · go_simp
              simp only [Act.put, List.setIfInBounds_toArray, List.set_cons_zero, List.set_cons_succ]
              refine Mx.l_pure (.bool true) (by decide) (Mx.wanted_none rfl) (fun w' hw' => ?_) ?_
              · go_simp
              simp only [Act.put, List.setIfInBounds_toArray, List.set_cons_zero, List.set_cons_succ]
              refine Mx.l_pure (.bool true) (by decide) (Mx.wanted_none rfl) (fun w' hw' => ?_) ?_
              · go_simp
              simp only [Act.put, List.setIfInBounds_toArray, List.set_cons_zero, List.set_cons_succ]
              refine Mx.l_skip (by decide) (Mx.unwanted_met 4 93 false true rfl HD4.out rfl rfl) ?_
              simp only [Act.put, List.setIfInBounds_toArray, List.set_cons_zero, List.set_cons_succ]
              refine Mx.l_skip (by decide) (Mx.unwanted_met 4 93 false true rfl HD4.out rfl rfl) ?_
              simp only [Act.put, List.setIfInBounds_toArray, List.set_cons_zero, List.set_cons_succ]
              refine Mx.l_skip (by decide) (Mx.unwanted_met 4 93 false true rfl HD4.out rfl rfl) ?_
              simp only [Act.put, List.setIfInBounds_toArray, List.set_cons_zero, List.set_cons_succ]
              refine Mx.l_skip (by decide) (Mx.unwanted_undef 7 96 true rfl HD7.out rfl) ?_
              simp only [Act.put, List.setIfInBounds_toArray, List.set_cons_zero, List.set_cons_succ]
              refine Mx.l_skip (by decide) (Mx.unwanted_undef 7 96 true rfl HD7.out rfl) ?_
              simp only [Act.put, List.setIfInBounds_toArray, List.set_cons_zero, List.set_cons_succ]
              refine Mx.l_skip (by decide) (Mx.unwanted_undef 7 96 true rfl HD7.out rfl) ?_
              simp only [Act.put, List.setIfInBounds_toArray, List.set_cons_zero, List.set_cons_succ]
              refine Mx.l_skip (by decide) (Mx.unwanted_undef 10 99 false rfl HD10.out rfl) ?_
              simp only [Act.put, List.setIfInBounds_toArray, List.set_cons_zero, List.set_cons_succ]
              refine Mx.l_skip (by decide) (Mx.unwanted_undef 10 99 false rfl HD10.out rfl) ?_
              simp only [Act.put, List.setIfInBounds_toArray, List.set_cons_zero, List.set_cons_succ]
              refine Mx.l_skip (by decide) (Mx.unwanted_undef 7 96 true rfl HD7.out rfl) ?_
              simp only [Act.put, List.setIfInBounds_toArray, List.set_cons_zero, List.set_cons_succ]
              refine Mx.l_skip (by decide) (Mx.unwanted_met 4 93 false true rfl HD4.out rfl rfl) ?_
              simp only [Act.put, List.setIfInBounds_toArray, List.set_cons_zero, List.set_cons_succ]
              refine Mx.l_pure (.bool true) (by decide) (Mx.wanted_none rfl) (fun w' hw' => ?_) ?_
              · go_simp
              simp only [Act.put, List.setIfInBounds_toArray, List.set_cons_zero, List.set_cons_succ]
              refine Mx.l_pure (.int .i64 d) (by decide) (Mx.wanted_none rfl) (fun w' hw' => ?_) ?_
              · go_simp
              simp only [Act.put, List.setIfInBounds_toArray, List.set_cons_zero, List.set_cons_succ]
              refine Mx.l_pure (.int .i64 ((d : Int) + 1)) (by decide) (Mx.wanted_none rfl) (fun w' hw' => ?_) ?_
              · go_simp
              simp only [Act.put, List.setIfInBounds_toArray, List.set_cons_zero, List.set_cons_succ]
              refine Mx.l_call 22 #[.pointer (some ⟨R, 0, none⟩), .bool true, .int .i64 ((d : Int) + 1)] (Mx.wanted_none rfl) ?_ ?_
              · go_simp
              refine (HREC.out (xcomma k i xi) true _ HXC.out).mono ?_
              rintro e w12 ⟨tv, rfl, ht12, hx12, hg12⟩
              rw [← HFL.out] at ht12 hx12
              have htv := ht12
              obtain ⟨ka, kc, rfl, hz1, hz2, hz3⟩ := htv
              clear hz1 hz2 hz3
              have HX12 := hidIn hx12
              have HG12 := hidIn (HGC.out.tr hg12)
              have HK12 := hidIn (HKC.out.grew hg12 hne)
              have HT12 := hidIn (HTC.out.grew hg12 (by have := HRT.out; omega))
              have HR12 := hidIn (HRC.out.grew hg12 (by have := HRT.out; omega))
              have HTI := hidIn ht12
              have HWC := hidIn HTC.out.lt
              have HOWN := hidIn HRC.out.own
              refine ⟨_, rfl, HT12.out, ?_⟩
              clear ht12 hx12 hg12
              obtain ⟨tt, htt⟩ : ∃ tt, (xtree f (xcomma k i xi) (xflag true k i) (d + 1)).1 = tt := ⟨_, rfl⟩
              rw [htt] at HTI
              rw [htt]
              obtain ⟨xx, hxx⟩ : ∃ xx, (xtree f (xcomma k i xi) (xflag true k i) (d + 1)).2 = xx := ⟨_, rfl⟩
              rw [hxx] at HX12
              have HTT := hidIn htt
              have HXX := hidIn hxx
              clear htt hxx
              simp only [Act.put, List.setIfInBounds_toArray, List.set_cons_zero, List.set_cons_succ]
              refine Mx.l_run (.slice (some ⟨w12.heap.size, 0, none⟩) 1 1) (Mx.wanted_none rfl) (w' := w12.alloc (.cells #[.int .i64 tt.kind, .string tt.s, .int .i64 tt.n, .slice ka tt.k.length kc] 33)) ?_ (blk_k HT12.out _) ?_
              · go_simp
              simp only [Act.put, List.setIfInBounds_toArray, List.set_cons_zero, List.set_cons_succ]
              obtain ⟨v', w14, hrun, hrow, hgrow, ao, cap, hv'⟩ := RowY.append (ty := 31) (HR12.out.keep (w' := w12.alloc (.cells #[.int .i64 tt.kind, .string tt.s, .int .i64 tt.n, .slice ka tt.k.length kc] 33)) (by simp) (fun q _ h2 => Below.heap_alloc _ _ _ h2)) (by omega) (by have := HT12.out.lt; simp; omega) tt ka kc w12.heap.size (heap_alloc_new _ _) (tin_off (HTI.out.below (below_alloc (Below.refl _ _) _)) (by have := HWC.out; simp at this ⊢; omega) (fun q hq => by have := (HOWN.out q hq).2; simpa using this))
              have HB13 : Hid (Below w12.heap.size w12 (w12.alloc (.cells #[.int .i64 tt.kind, .string tt.s, .int .i64 tt.n, .slice ka tt.k.length kc] 33))) := below_alloc (Below.refl _ _) _
              have hv2 := hv'
              generalize w12.alloc (.cells #[.int .i64 tt.kind, .string tt.s, .int .i64 tt.n, .slice ka tt.k.length kc] 33) = w13 at *
              have HOW2 : Hid (∀ q, v.ownBlock = some q → tb + 1 ≤ q) := fun q hq => (HOWN.out q hq).1
              have HG14 : Hid (∀ q, q < w13.heap.size → q ≤ tb → w14.heap[q]? = w13.heap[q]?) := fun q h1 h2 => hgrow.block q h1 (fun e => by have := HOW2.out q e.symm; omega)
              have HT13 : Hid (Blk w13 tb 33 #[.int .i64 k, .string hs, .int .i64 hn, v]) := HT12.out.grew (Grew.of_below (M := R) HB13.out) (by have := HRT.out; omega)
              have HK13 : Hid (Blk w13 w.heap.size 33 #[.int .i64 0, .string ⟨#[]⟩, .int .i64 0, .slice none 0 0]) := HK12.out.grew (Grew.of_below (M := R) HB13.out) hne
              have HT14 : Hid (Blk w14 tb 33 #[.int .i64 k, .string hs, .int .i64 hn, v]) := (HG14.out tb HT13.out.lt (Nat.le_refl _)).trans HT13.out
              have HK14 : Hid (Blk w14 w.heap.size 33 #[.int .i64 0, .string ⟨#[]⟩, .int .i64 0, .slice none 0 0]) := (HG14.out w.heap.size HK13.out.lt HWL.out).trans HK13.out
              have HX14 : Hid (XIn w14 R xx) := (HX12.out.below HB13.out).upto hgrow.size (fun q hq => HG14.out q (by have := HT13.out.lt; have := HRT.out; omega) (by have := HRT.out; omega))
              have HG14b : Hid (Grew R none w w14) := (HG12.out.tr (Grew.of_below HB13.out)).trans (Grew.of_grown hgrow) (.inr (fun q hq => by have := HOW2.out q hq; have := HWL.out; omega))
              have HR14 := hidIn hrow
              clear hgrow hrow HB13 HG14 HT13 HK13 HX12 HG12 HK12 HT12 HR12 HTI HWC HOWN HOW2
              refine Mx.l_run v' (Mx.wanted_none rfl) (w' := w14) ?_ HT14.out ?_
              · simp [execOp, resolve, invoke, builtin, Act.eval, hrun]
              have c3 : w14.cell? ⟨tb, 3, none⟩ = some v := HT14.out.cell 3
              have f3 : w14.frozen? ⟨tb, 3, none⟩ = false := HT14.out.frozen 3
              clear hrun
              subst hv2
              simp only [Act.put, List.setIfInBounds_toArray, List.set_cons_zero, List.set_cons_succ]
              refine Mx.l_run (.pointer (some ⟨tb, 3, none⟩)) (Mx.wanted_none rfl) (w' := w14) ?_ HT14.out ?_
              · go_simp
              simp only [Act.put, List.setIfInBounds_toArray, List.set_cons_zero, List.set_cons_succ]
              refine Mx.l_last (w' := w14.setCell ⟨tb, 3, none⟩ (.slice ao (l.length + 1) cap)) (Mx.wanted_none rfl) ?_ ?_
              · go_simp
              simp only [Act.put]
              have HX15 := hidIn (HX14.out.other HRT.out 3 (.slice ao (l.length + 1) cap))
              have HG15 := hidIn (HG14b.out.setNew HWL.out 3 (.slice ao (l.length + 1) cap))
              have HK15 := hidIn (HK14.out.other HWT.out 3 (.slice ao (l.length + 1) cap))
              have HT15 : Hid (Blk (w14.setCell ⟨tb, 3, none⟩ (.slice ao (l.length + 1) cap)) tb 33 #[.int .i64 k, .string hs, .int .i64 hn, .slice ao (l.length + 1) cap]) := HT14.out.set 3 _
              have HR15 := hidIn (HR14.out.set (i := 3) (x := .slice ao (l.length + 1) cap) (Nat.lt_succ_self tb))
              have HEQ2 : Hid (xkids (fun y b => xtree f y b (d + 1)) k true (xparts k) 0 xh = ((l ++ [tt]) ++ (xkids (fun y b => xtree f y b (d + 1)) k true (xparts k - (i + 1)) (i + 1) xx).1, (xkids (fun y b => xtree f y b (d + 1)) k true (xparts k - (i + 1)) (i + 1) xx).2)) := by
                unfold Hid
                rw [HEQ.out, xkids_go _ _ _ _ _ _ hip HE0.out, HTT.out, HXX.out]
                simp
              clear HX14 HG14b HK14 HT14 HR14 c3 f3 HTT HXX
              generalize w14.setCell ⟨tb, 3, none⟩ (.slice ao (l.length + 1) cap) = w15 at *
              clear hgt hiz
              go_wp2_with fail
              go_roundw
              case rel => exact ⟨i + 1, l ++ [tt], xx, .slice ao (l.length + 1) cap, by omega, by go_num, by rw [List.length_append]; simp; omega, HEQ2.out, HX15.out, HG15.out, HK15.out, HT15.out, HR15.out⟩
              case measure => simp [intOf] <;> omega
          · have hgt : ¬ (0 : Int) < (i : Int) := by omega
            have hiz : ((i : Int) == 0) = true := by rw [beq_iff_eq]; omega
            have hin : i = 0 := by omega
            by_cases hk5 : k = 5
            · have hq6 : ¬ k = 6 := by omega
              have hq8 : ¬ k = 8 := by omega
              have hkk5 : (k == 5) = true := by rw [beq_iff_eq]; omega
              have hkk7 : (k == 7) = false := by rw [beq_eq_false_iff_ne]; omega
              have hkk6 : (k == 6) = false := by rw [beq_eq_false_iff_ne]; omega
              have hkk8 : (k == 8) = false := by rw [beq_eq_false_iff_ne]; omega
              cases number
              · have HFL : Hid (xflag false k i = false) := by unfold Hid xflag; simp [hin, hq6, hq8]
                have HCM : Hid (xcomma k i xi = xi.sign cmB) := by show xcomma _ _ _ = _; unfold xcomma; rw [if_pos (by omega)]
                clear hin hi0 hq6 hq8 hk5
                go_wp2_with fail
                refine (xsign_any wr R xi cmB mark_ne.2.1 HXI.out).mono ?_
                rintro e w11 ⟨rfl, hx11, hg11⟩
                have HXC0 : Hid (XIn w11 R (xcomma k i xi)) := by rw [HCM.out]; exact hx11
                have HGC0 := hidIn (HGI.out.tr hg11)
                have HKC0 := hidIn (HKI.out.grew hg11 hne)
                have HTC0 := hidIn (HTI0.out.grew hg11 (by have := HRT.out; omega))
                have HRC0 := hidIn (HRI.out.grew hg11 (by have := HRT.out; omega))
                clear hx11 hg11 HGI HKI HTI0 HRI HXI
                have HXC : Hid (XIn w11.drew R (xcomma k i xi)) := HXC0.out.below (bel_1 _)
                have HGC : Hid (Grew R none w w11.drew) := HGC0.out.drew
                have HKC : Hid (Blk w11.drew w.heap.size 33 #[.int .i64 0, .string ⟨#[]⟩, .int .i64 0, .slice none 0 0]) := HKC0.out
                have HTC : Hid (Blk w11.drew tb 33 #[.int .i64 k, .string hs, .int .i64 hn, v]) := HTC0.out
                have HRC : Hid (RowY w11.drew (tb + 1) l v) := HRC0.out.keep (Nat.le_refl _) (fun _ _ _ => rfl)
                clear HXC0 HGC0 HKC0 HTC0 HRC0
                go_wp2_with fail
                refine Mx.wp_region_mix4 (fun w' => Blk w' tb 33 #[.int .i64 k, .string hs, .int .i64 hn, v]) 22 [(0, false), (1, false), (2, false), (3, false), (4, false), (5, false), (6, false), (7, false), (8, false), (9, false), (10, false), (11, false), (12, false), (13, false), (14, false), (15, false), (16, false), (17, false), (18, true), (19, true), (20, true), (21, true), (22, true)] (by kernel_rfl) (by kernel_rfl) HTC.out ?_ (by kernel_rfl)
                simp only [List.map_cons, List.map_nil, List.getD_cons_zero, List.getD_cons_succ]
                generalize hops : (#[_, _, _, _, _, _, _, _, _, _, _, _, _, _, _, _, _, _, _, _, _, _, _] : Array Oper) = ops
                have HD4 : Hid ((ops[4]?).bind (·.dst) = some 93) := by rw [← hops]; exact rfl
                have HD7 : Hid ((ops[7]?).bind (·.dst) = some 96) := by rw [← hops]; exact rfl
                have HD10 : Hid ((ops[10]?).bind (·.dst) = some 99) := by rw [← hops]; exact rfl
                clear hops
                refine Mx.l_pure (.pointer (some ⟨tb, 3, none⟩)) (by decide) (Mx.wanted_none rfl) (fun w' hw' => ?_) ?_
                · go_simp
                simp only [Act.put, List.setIfInBounds_toArray, List.set_cons_zero, List.set_cons_succ]
                refine Mx.l_pure (v) (by decide) (Mx.wanted_none rfl) (fun w' hw' => ?_) ?_
                · have hc3 : w'.cell? ⟨tb, 3, none⟩ = some v := hw'.cell 3
                  go_simp
                simp only [Act.put, List.setIfInBounds_toArray, List.set_cons_zero, List.set_cons_succ]
                refine Mx.l_pure (.pointer (some ⟨R, 0, none⟩)) (by decide) (Mx.wanted_none rfl) (fun w' hw' => ?_) ?_
                · go_simp
                simp only [Act.put, List.setIfInBounds_toArray, List.set_cons_zero, List.set_cons_succ]
                refine Mx.l_pure (.bool false) (by decide) (Mx.wanted_none rfl) (fun w' hw' => ?_) ?_
                · go_simp
                simp only [Act.put, List.setIfInBounds_toArray, List.set_cons_zero, List.set_cons_succ]
                refine Mx.l_pure (.bool false) (by decide) (Mx.wanted_none rfl) (fun w' hw' => ?_) ?_
                · go_simp
                simp only [Act.put, List.setIfInBounds_toArray, List.set_cons_zero, List.set_cons_succ]
                refine Mx.l_pure (.int .i64 i) (by decide) (Mx.wanted_met 4 93 false rfl HD4.out rfl) (fun w' hw' => ?_) ?_
                · go_simp
                simp only [Act.put, List.setIfInBounds_toArray, List.set_cons_zero, List.set_cons_succ]
                refine Mx.l_pure (.bool true) (by decide) (Mx.wanted_met 4 93 false rfl HD4.out rfl) (fun w' hw' => ?_) ?_
                · go_simp
                simp only [Act.put, List.setIfInBounds_toArray, List.set_cons_zero, List.set_cons_succ]
                refine Mx.l_pure (.bool true) (by decide) (Mx.wanted_met 4 93 false rfl HD4.out rfl) (fun w' hw' => ?_) ?_
                · go_simp
                simp only [Act.put, List.setIfInBounds_toArray, List.set_cons_zero, List.set_cons_succ]
                refine Mx.l_pure (.int .i64 k) (by decide) (Mx.wanted_met 7 96 true rfl HD7.out rfl) (fun w' hw' => ?_) ?_
                · go_simp
                simp only [Act.put, List.setIfInBounds_toArray, List.set_cons_zero, List.set_cons_succ]
                refine Mx.l_pure (.bool false) (by decide) (Mx.wanted_met 7 96 true rfl HD7.out rfl) (fun w' hw' => ?_) ?_
                · go_simp
                simp only [Act.put, List.setIfInBounds_toArray, List.set_cons_zero, List.set_cons_succ]
                refine Mx.l_pure (.bool false) (by decide) (Mx.wanted_met 7 96 true rfl HD7.out rfl) (fun w' hw' => ?_) ?_
                · go_simp
                simp only [Act.put, List.setIfInBounds_toArray, List.set_cons_zero, List.set_cons_succ]
                refine Mx.l_pure (.int .i64 k) (by decide) (Mx.wanted_met 10 99 false rfl HD10.out rfl) (fun w' hw' => ?_) ?_
                · go_simp
                simp only [Act.put, List.setIfInBounds_toArray, List.set_cons_zero, List.set_cons_succ]
                refine Mx.l_pure (.bool false) (by decide) (Mx.wanted_met 10 99 false rfl HD10.out rfl) (fun w' hw' => ?_) ?_
                · go_simp
                simp only [Act.put, List.setIfInBounds_toArray, List.set_cons_zero, List.set_cons_succ]
                refine Mx.l_pure (.bool false) (by decide) (Mx.wanted_met 7 96 true rfl HD7.out rfl) (fun w' hw' => ?_) ?_
                · go_simp
                simp only [Act.put, List.setIfInBounds_toArray, List.set_cons_zero, List.set_cons_succ]
                refine Mx.l_pure (.bool false) (by decide) (Mx.wanted_met 4 93 false rfl HD4.out rfl) (fun w' hw' => ?_) ?_
                · go_simp
                simp only [Act.put, List.setIfInBounds_toArray, List.set_cons_zero, List.set_cons_succ]
                refine Mx.l_pure (.bool false) (by decide) (Mx.wanted_none rfl) (fun w' hw' => ?_) ?_
                · go_simp
                simp only [Act.put, List.setIfInBounds_toArray, List.set_cons_zero, List.set_cons_succ]
                refine Mx.l_pure (.int .i64 d) (by decide) (Mx.wanted_none rfl) (fun w' hw' => ?_) ?_
                · go_simp
                simp only [Act.put, List.setIfInBounds_toArray, List.set_cons_zero, List.set_cons_succ]
                refine Mx.l_pure (.int .i64 ((d : Int) + 1)) (by decide) (Mx.wanted_none rfl) (fun w' hw' => ?_) ?_
                · go_simp
                simp only [Act.put, List.setIfInBounds_toArray, List.set_cons_zero, List.set_cons_succ]
                refine Mx.l_call 22 #[.pointer (some ⟨R, 0, none⟩), .bool false, .int .i64 ((d : Int) + 1)] (Mx.wanted_none rfl) ?_ ?_
                · go_simp
                refine (HREC.out (xcomma k i xi) false _ HXC.out).mono ?_
                rintro e w12 ⟨tv, rfl, ht12, hx12, hg12⟩
                rw [← HFL.out] at ht12 hx12
                have htv := ht12
                obtain ⟨ka, kc, rfl, hz1, hz2, hz3⟩ := htv
                clear hz1 hz2 hz3
                have HX12 := hidIn hx12
                have HG12 := hidIn (HGC.out.tr hg12)
                have HK12 := hidIn (HKC.out.grew hg12 hne)
                have HT12 := hidIn (HTC.out.grew hg12 (by have := HRT.out; omega))
                have HR12 := hidIn (HRC.out.grew hg12 (by have := HRT.out; omega))
                have HTI := hidIn ht12
                have HWC := hidIn HTC.out.lt
                have HOWN := hidIn HRC.out.own
                refine ⟨_, rfl, HT12.out, ?_⟩
                clear ht12 hx12 hg12
                obtain ⟨tt, htt⟩ : ∃ tt, (xtree f (xcomma k i xi) (xflag false k i) (d + 1)).1 = tt := ⟨_, rfl⟩
                rw [htt] at HTI
                rw [htt]
                obtain ⟨xx, hxx⟩ : ∃ xx, (xtree f (xcomma k i xi) (xflag false k i) (d + 1)).2 = xx := ⟨_, rfl⟩
                rw [hxx] at HX12
                have HTT := hidIn htt
                have HXX := hidIn hxx
                clear htt hxx
                simp only [Act.put, List.setIfInBounds_toArray, List.set_cons_zero, List.set_cons_succ]
                refine Mx.l_run (.slice (some ⟨w12.heap.size, 0, none⟩) 1 1) (Mx.wanted_none rfl) (w' := w12.alloc (.cells #[.int .i64 tt.kind, .string tt.s, .int .i64 tt.n, .slice ka tt.k.length kc] 33)) ?_ (blk_k HT12.out _) ?_
                · go_simp
                simp only [Act.put, List.setIfInBounds_toArray, List.set_cons_zero, List.set_cons_succ]
                obtain ⟨v', w14, hrun, hrow, hgrow, ao, cap, hv'⟩ := RowY.append (ty := 31) (HR12.out.keep (w' := w12.alloc (.cells #[.int .i64 tt.kind, .string tt.s, .int .i64 tt.n, .slice ka tt.k.length kc] 33)) (by simp) (fun q _ h2 => Below.heap_alloc _ _ _ h2)) (by omega) (by have := HT12.out.lt; simp; omega) tt ka kc w12.heap.size (heap_alloc_new _ _) (tin_off (HTI.out.below (below_alloc (Below.refl _ _) _)) (by have := HWC.out; simp at this ⊢; omega) (fun q hq => by have := (HOWN.out q hq).2; simpa using this))
                have HB13 : Hid (Below w12.heap.size w12 (w12.alloc (.cells #[.int .i64 tt.kind, .string tt.s, .int .i64 tt.n, .slice ka tt.k.length kc] 33))) := below_alloc (Below.refl _ _) _
                have hv2 := hv'
                generalize w12.alloc (.cells #[.int .i64 tt.kind, .string tt.s, .int .i64 tt.n, .slice ka tt.k.length kc] 33) = w13 at *
                have HOW2 : Hid (∀ q, v.ownBlock = some q → tb + 1 ≤ q) := fun q hq => (HOWN.out q hq).1
                have HG14 : Hid (∀ q, q < w13.heap.size → q ≤ tb → w14.heap[q]? = w13.heap[q]?) := fun q h1 h2 => hgrow.block q h1 (fun e => by have := HOW2.out q e.symm; omega)
                have HT13 : Hid (Blk w13 tb 33 #[.int .i64 k, .string hs, .int .i64 hn, v]) := HT12.out.grew (Grew.of_below (M := R) HB13.out) (by have := HRT.out; omega)
                have HK13 : Hid (Blk w13 w.heap.size 33 #[.int .i64 0, .string ⟨#[]⟩, .int .i64 0, .slice none 0 0]) := HK12.out.grew (Grew.of_below (M := R) HB13.out) hne
                have HT14 : Hid (Blk w14 tb 33 #[.int .i64 k, .string hs, .int .i64 hn, v]) := (HG14.out tb HT13.out.lt (Nat.le_refl _)).trans HT13.out
                have HK14 : Hid (Blk w14 w.heap.size 33 #[.int .i64 0, .string ⟨#[]⟩, .int .i64 0, .slice none 0 0]) := (HG14.out w.heap.size HK13.out.lt HWL.out).trans HK13.out
                have HX14 : Hid (XIn w14 R xx) := (HX12.out.below HB13.out).upto hgrow.size (fun q hq => HG14.out q (by have := HT13.out.lt; have := HRT.out; omega) (by have := HRT.out; omega))
                have HG14b : Hid (Grew R none w w14) := (HG12.out.tr (Grew.of_below HB13.out)).trans (Grew.of_grown hgrow) (.inr (fun q hq => by have := HOW2.out q hq; have := HWL.out; omega))
                have HR14 := hidIn hrow
                clear hgrow hrow HB13 HG14 HT13 HK13 HX12 HG12 HK12 HT12 HR12 HTI HWC HOWN HOW2
                refine Mx.l_run v' (Mx.wanted_none rfl) (w' := w14) ?_ HT14.out ?_
                · simp [execOp, resolve, invoke, builtin, Act.eval, hrun]
                have c3 : w14.cell? ⟨tb, 3, none⟩ = some v := HT14.out.cell 3
                have f3 : w14.frozen? ⟨tb, 3, none⟩ = false := HT14.out.frozen 3
                clear hrun
                subst hv2
                simp only [Act.put, List.setIfInBounds_toArray, List.set_cons_zero, List.set_cons_succ]
                refine Mx.l_run (.pointer (some ⟨tb, 3, none⟩)) (Mx.wanted_none rfl) (w' := w14) ?_ HT14.out ?_
                · go_simp
                simp only [Act.put, List.setIfInBounds_toArray, List.set_cons_zero, List.set_cons_succ]
                refine Mx.l_last (w' := w14.setCell ⟨tb, 3, none⟩ (.slice ao (l.length + 1) cap)) (Mx.wanted_none rfl) ?_ ?_
                · go_simp
                simp only [Act.put]
                have HX15 := hidIn (HX14.out.other HRT.out 3 (.slice ao (l.length + 1) cap))
                have HG15 := hidIn (HG14b.out.setNew HWL.out 3 (.slice ao (l.length + 1) cap))
                have HK15 := hidIn (HK14.out.other HWT.out 3 (.slice ao (l.length + 1) cap))
                have HT15 : Hid (Blk (w14.setCell ⟨tb, 3, none⟩ (.slice ao (l.length + 1) cap)) tb 33 #[.int .i64 k, .string hs, .int .i64 hn, .slice ao (l.length + 1) cap]) := HT14.out.set 3 _
                have HR15 := hidIn (HR14.out.set (i := 3) (x := .slice ao (l.length + 1) cap) (Nat.lt_succ_self tb))
                have HEQ2 : Hid (xkids (fun y b => xtree f y b (d + 1)) k false (xparts k) 0 xh = ((l ++ [tt]) ++ (xkids (fun y b => xtree f y b (d + 1)) k false (xparts k - (i + 1)) (i + 1) xx).1, (xkids (fun y b => xtree f y b (d + 1)) k false (xparts k - (i + 1)) (i + 1) xx).2)) := by
                  unfold Hid
                  rw [HEQ.out, xkids_go _ _ _ _ _ _ hip HE0.out, HTT.out, HXX.out]
                  simp
                clear HX14 HG14b HK14 HT14 HR14 c3 f3 HTT HXX
                generalize w14.setCell ⟨tb, 3, none⟩ (.slice ao (l.length + 1) cap) = w15 at *
                clear hgt hiz
                go_wp2_with fail
                go_roundw
                case rel => exact ⟨i + 1, l ++ [tt], xx, .slice ao (l.length + 1) cap, by omega, by go_num, by rw [List.length_append]; simp; omega, HEQ2.out, HX15.out, HG15.out, HK15.out, HT15.out, HR15.out⟩
                case measure => simp [intOf] <;> omega
              · have HFL : Hid (xflag true k i = true) := by unfold Hid xflag; simp [hin, hq6, hq8]
                have HCM : Hid (xcomma k i xi = xi.sign cmB) := by show xcomma _ _ _ = _; unfold xcomma; rw [if_pos (by omega)]
                clear hin hi0 hq6 hq8 hk5
                go_wp2_with fail
                refine (xsign_any wr R xi cmB mark_ne.2.1 HXI.out).mono ?_
                rintro e w11 ⟨rfl, hx11, hg11⟩
                have HXC0 : Hid (XIn w11 R (xcomma k i xi)) := by rw [HCM.out]; exact hx11
                have HGC0 := hidIn (HGI.out.tr hg11)
                have HKC0 := hidIn (HKI.out.grew hg11 hne)
                have HTC0 := hidIn (HTI0.out.grew hg11 (by have := HRT.out; omega))
                have HRC0 := hidIn (HRI.out.grew hg11 (by have := HRT.out; omega))
                clear hx11 hg11 HGI HKI HTI0 HRI HXI
                have HXC : Hid (XIn w11.drew R (xcomma k i xi)) := HXC0.out.below (bel_1 _)
                have HGC : Hid (Grew R none w w11.drew) := HGC0.out.drew
                have HKC : Hid (Blk w11.drew w.heap.size 33 #[.int .i64 0, .string ⟨#[]⟩, .int .i64 0, .slice none 0 0]) := HKC0.out
                have HTC : Hid (Blk w11.drew tb 33 #[.int .i64 k, .string hs, .int .i64 hn, v]) := HTC0.out
                have HRC : Hid (RowY w11.drew (tb + 1) l v) := HRC0.out.keep (Nat.le_refl _) (fun _ _ _ => rfl)
                clear HXC0 HGC0 HKC0 HTC0 HRC0
                go_wp2_with fail
                refine Mx.wp_region_mix4 (fun w' => Blk w' tb 33 #[.int .i64 k, .string hs, .int .i64 hn, v]) 22 [(0, false), (1, false), (2, false), (3, false), (4, false), (5, false), (6, false), (7, false), (8, false), (9, false), (10, false), (11, false), (12, false), (13, false), (14, false), (15, false), (16, false), (17, false), (18, true), (19, true), (20, true), (21, true), (22, true)] (by kernel_rfl) (by kernel_rfl) HTC.out ?_ (by kernel_rfl)
                simp only [List.map_cons, List.map_nil, List.getD_cons_zero, List.getD_cons_succ]
                generalize hops : (#[_, _, _, _, _, _, _, _, _, _, _, _, _, _, _, _, _, _, _, _, _, _, _] : Array Oper) = ops
                have HD4 : Hid ((ops[4]?).bind (·.dst) = some 93) := by rw [← hops]; exact rfl
                have HD7 : Hid ((ops[7]?).bind (·.dst) = some 96) := by rw [← hops]; exact rfl
                have HD10 : Hid ((ops[10]?).bind (·.dst) = some 99) := by rw [← hops]; exact rfl
                clear hops
                refine Mx.l_pure (.pointer (some ⟨tb, 3, none⟩)) (by decide) (Mx.wanted_none rfl) (fun w' hw' => ?_) ?_
                · go_simp
                simp only [Act.put, List.setIfInBounds_toArray, List.set_cons_zero, List.set_cons_succ]
                refine Mx.l_pure (v) (by decide) (Mx.wanted_none rfl) (fun w' hw' => ?_) ?_
                · have hc3 : w'.cell? ⟨tb, 3, none⟩ = some v := hw'.cell 3
                  go_simp
                simp only [Act.put, List.setIfInBounds_toArray, List.set_cons_zero, List.set_cons_succ]
                refine Mx.l_pure (.pointer (some ⟨R, 0, none⟩)) (by decide) (Mx.wanted_none rfl) (fun w' hw' => ?_) ?_
                · go_simp
                simp only [Act.put, List.setIfInBounds_toArray, List.set_cons_zero, List.set_cons_succ]
                refine Mx.l_pure (.bool true) (by decide) (Mx.wanted_none rfl) (fun w' hw' => ?_) ?_
                · go_simp
                simp only [Act.put, List.setIfInBounds_toArray, List.set_cons_zero, List.set_cons_succ]
                refine Mx.l_pure (.bool true) (by decide) (Mx.wanted_none rfl) (fun w' hw' => ?_) ?_
                · go_simp
                simp only [Act.put, List.setIfInBounds_toArray, List.set_cons_zero, List.set_cons_succ]
                refine Mx.l_skip (by decide) (Mx.unwanted_met 4 93 false true rfl HD4.out rfl rfl) ?_
                simp only [Act.put, List.setIfInBounds_toArray, List.set_cons_zero, List.set_cons_succ]
                refine Mx.l_skip (by decide) (Mx.unwanted_met 4 93 false true rfl HD4.out rfl rfl) ?_
                simp only [Act.put, List.setIfInBounds_toArray, List.set_cons_zero, List.set_cons_succ]
                refine Mx.l_skip (by decide) (Mx.unwanted_met 4 93 false true rfl HD4.out rfl rfl) ?_
                simp only [Act.put, List.setIfInBounds_toArray, List.set_cons_zero, List.set_cons_succ]
                refine Mx.l_skip (by decide) (Mx.unwanted_undef 7 96 true rfl HD7.out rfl) ?_
                simp only [Act.put, List.setIfInBounds_toArray, List.set_cons_zero, List.set_cons_succ]
                refine Mx.l_skip (by decide) (Mx.unwanted_undef 7 96 true rfl HD7.out rfl) ?_
                simp only [Act.put, List.setIfInBounds_toArray, List.set_cons_zero, List.set_cons_succ]
                refine Mx.l_skip (by decide) (Mx.unwanted_undef 7 96 true rfl HD7.out rfl) ?_
                simp only [Act.put, List.setIfInBounds_toArray, List.set_cons_zero, List.set_cons_succ]
                refine Mx.l_skip (by decide) (Mx.unwanted_undef 10 99 false rfl HD10.out rfl) ?_
                simp only [Act.put, List.setIfInBounds_toArray, List.set_cons_zero, List.set_cons_succ]
                refine Mx.l_skip (by decide) (Mx.unwanted_undef 10 99 false rfl HD10.out rfl) ?_
                simp only [Act.put, List.setIfInBounds_toArray, List.set_cons_zero, List.set_cons_succ]
                refine Mx.l_skip (by decide) (Mx.unwanted_undef 7 96 true rfl HD7.out rfl) ?_
                simp only [Act.put, List.setIfInBounds_toArray, List.set_cons_zero, List.set_cons_succ]
                refine Mx.l_skip (by decide) (Mx.unwanted_met 4 93 false true rfl HD4.out rfl rfl) ?_
                simp only [Act.put, List.setIfInBounds_toArray, List.set_cons_zero, List.set_cons_succ]
                refine Mx.l_pure (.bool true) (by decide) (Mx.wanted_none rfl) (fun w' hw' => ?_) ?_
                · go_simp
                simp only [Act.put, List.setIfInBounds_toArray, List.set_cons_zero, List.set_cons_succ]
                refine Mx.l_pure (.int .i64 d) (by decide) (Mx.wanted_none rfl) (fun w' hw' => ?_) ?_
                · go_simp
                simp only [Act.put, List.setIfInBounds_toArray, List.set_cons_zero, List.set_cons_succ]
                refine Mx.l_pure (.int .i64 ((d : Int) + 1)) (by decide) (Mx.wanted_none rfl) (fun w' hw' => ?_) ?_
                · go_simp
                simp only [Act.put, List.setIfInBounds_toArray, List.set_cons_zero, List.set_cons_succ]
                refine Mx.l_call 22 #[.pointer (some ⟨R, 0, none⟩), .bool true, .int .i64 ((d : Int) + 1)] (Mx.wanted_none rfl) ?_ ?_
                · go_simp
                refine (HREC.out (xcomma k i xi) true _ HXC.out).mono ?_
                rintro e w12 ⟨tv, rfl, ht12, hx12, hg12⟩
                rw [← HFL.out] at ht12 hx12
                have htv := ht12
                obtain ⟨ka, kc, rfl, hz1, hz2, hz3⟩ := htv
                clear hz1 hz2 hz3
                have HX12 := hidIn hx12
                have HG12 := hidIn (HGC.out.tr hg12)
                have HK12 := hidIn (HKC.out.grew hg12 hne)
                have HT12 := hidIn (HTC.out.grew hg12 (by have := HRT.out; omega))
                have HR12 := hidIn (HRC.out.grew hg12 (by have := HRT.out; omega))
                have HTI := hidIn ht12
                have HWC := hidIn HTC.out.lt
                have HOWN := hidIn HRC.out.own
                refine ⟨_, rfl, HT12.out, ?_⟩
                clear ht12 hx12 hg12
                obtain ⟨tt, htt⟩ : ∃ tt, (xtree f (xcomma k i xi) (xflag true k i) (d + 1)).1 = tt := ⟨_, rfl⟩
                rw [htt] at HTI
                rw [htt]
                obtain ⟨xx, hxx⟩ : ∃ xx, (xtree f (xcomma k i xi) (xflag true k i) (d + 1)).2 = xx := ⟨_, rfl⟩
                rw [hxx] at HX12
                have HTT := hidIn htt
                have HXX := hidIn hxx
                clear htt hxx
                simp only [Act.put, List.setIfInBounds_toArray, List.set_cons_zero, List.set_cons_succ]
                refine Mx.l_run (.slice (some ⟨w12.heap.size, 0, none⟩) 1 1) (Mx.wanted_none rfl) (w' := w12.alloc (.cells #[.int .i64 tt.kind, .string tt.s, .int .i64 tt.n, .slice ka tt.k.length kc] 33)) ?_ (blk_k HT12.out _) ?_
                · go_simp
                simp only [Act.put, List.setIfInBounds_toArray, List.set_cons_zero, List.set_cons_succ]
                obtain ⟨v', w14, hrun, hrow, hgrow, ao, cap, hv'⟩ := RowY.append (ty := 31) (HR12.out.keep (w' := w12.alloc (.cells #[.int .i64 tt.kind, .string tt.s, .int .i64 tt.n, .slice ka tt.k.length kc] 33)) (by simp) (fun q _ h2 => Below.heap_alloc _ _ _ h2)) (by omega) (by have := HT12.out.lt; simp; omega) tt ka kc w12.heap.size (heap_alloc_new _ _) (tin_off (HTI.out.below (below_alloc (Below.refl _ _) _)) (by have := HWC.out; simp at this ⊢; omega) (fun q hq => by have := (HOWN.out q hq).2; simpa using this))
                have HB13 : Hid (Below w12.heap.size w12 (w12.alloc (.cells #[.int .i64 tt.kind, .string tt.s, .int .i64 tt.n, .slice ka tt.k.length kc] 33))) := below_alloc (Below.refl _ _) _
                have hv2 := hv'
                generalize w12.alloc (.cells #[.int .i64 tt.kind, .string tt.s, .int .i64 tt.n, .slice ka tt.k.length kc] 33) = w13 at *
                have HOW2 : Hid (∀ q, v.ownBlock = some q → tb + 1 ≤ q) := fun q hq => (HOWN.out q hq).1
                have HG14 : Hid (∀ q, q < w13.heap.size → q ≤ tb → w14.heap[q]? = w13.heap[q]?) := fun q h1 h2 => hgrow.block q h1 (fun e => by have := HOW2.out q e.symm; omega)
                have HT13 : Hid (Blk w13 tb 33 #[.int .i64 k, .string hs, .int .i64 hn, v]) := HT12.out.grew (Grew.of_below (M := R) HB13.out) (by have := HRT.out; omega)
                have HK13 : Hid (Blk w13 w.heap.size 33 #[.int .i64 0, .string ⟨#[]⟩, .int .i64 0, .slice none 0 0]) := HK12.out.grew (Grew.of_below (M := R) HB13.out) hne
                have HT14 : Hid (Blk w14 tb 33 #[.int .i64 k, .string hs, .int .i64 hn, v]) := (HG14.out tb HT13.out.lt (Nat.le_refl _)).trans HT13.out
                have HK14 : Hid (Blk w14 w.heap.size 33 #[.int .i64 0, .string ⟨#[]⟩, .int .i64 0, .slice none 0 0]) := (HG14.out w.heap.size HK13.out.lt HWL.out).trans HK13.out
                have HX14 : Hid (XIn w14 R xx) := (HX12.out.below HB13.out).upto hgrow.size (fun q hq => HG14.out q (by have := HT13.out.lt; have := HRT.out; omega) (by have := HRT.out; omega))
                have HG14b : Hid (Grew R none w w14) := (HG12.out.tr (Grew.of_below HB13.out)).trans (Grew.of_grown hgrow) (.inr (fun q hq => by have := HOW2.out q hq; have := HWL.out; omega))
                have HR14 := hidIn hrow
                clear hgrow hrow HB13 HG14 HT13 HK13 HX12 HG12 HK12 HT12 HR12 HTI HWC HOWN HOW2
                refine Mx.l_run v' (Mx.wanted_none rfl) (w' := w14) ?_ HT14.out ?_
                · simp [execOp, resolve, invoke, builtin, Act.eval, hrun]
                have c3 : w14.cell? ⟨tb, 3, none⟩ = some v := HT14.out.cell 3
                have f3 : w14.frozen? ⟨tb, 3, none⟩ = false := HT14.out.frozen 3
                clear hrun
                subst hv2
                simp only [Act.put, List.setIfInBounds_toArray, List.set_cons_zero, List.set_cons_succ]
                refine Mx.l_run (.pointer (some ⟨tb, 3, none⟩)) (Mx.wanted_none rfl) (w' := w14) ?_ HT14.out ?_
                · go_simp
                simp only [Act.put, List.setIfInBounds_toArray, List.set_cons_zero, List.set_cons_succ]
                refine Mx.l_last (w' := w14.setCell ⟨tb, 3, none⟩ (.slice ao (l.length + 1) cap)) (Mx.wanted_none rfl) ?_ ?_
                · go_simp
                simp only [Act.put]
                have HX15 := hidIn (HX14.out.other HRT.out 3 (.slice ao (l.length + 1) cap))
                have HG15 := hidIn (HG14b.out.setNew HWL.out 3 (.slice ao (l.length + 1) cap))
                have HK15 := hidIn (HK14.out.other HWT.out 3 (.slice ao (l.length + 1) cap))
                have HT15 : Hid (Blk (w14.setCell ⟨tb, 3, none⟩ (.slice ao (l.length + 1) cap)) tb 33 #[.int .i64 k, .string hs, .int .i64 hn, .slice ao (l.length + 1) cap]) := HT14.out.set 3 _
                have HR15 := hidIn (HR14.out.set (i := 3) (x := .slice ao (l.length + 1) cap) (Nat.lt_succ_self tb))
                have HEQ2 : Hid (xkids (fun y b => xtree f y b (d + 1)) k true (xparts k) 0 xh = ((l ++ [tt]) ++ (xkids (fun y b => xtree f y b (d + 1)) k true (xparts k - (i + 1)) (i + 1) xx).1, (xkids (fun y b => xtree f y b (d + 1)) k true (xparts k - (i + 1)) (i + 1) xx).2)) := by
                  unfold Hid
                  rw [HEQ.out, xkids_go _ _ _ _ _ _ hip HE0.out, HTT.out, HXX.out]
                  simp
                clear HX14 HG14b HK14 HT14 HR14 c3 f3 HTT HXX
                generalize w14.setCell ⟨tb, 3, none⟩ (.slice ao (l.length + 1) cap) = w15 at *
                clear hgt hiz
                go_wp2_with fail
                go_roundw
                case rel => exact ⟨i + 1, l ++ [tt], xx, .slice ao (l.length + 1) cap, by omega, by go_num, by rw [List.length_append]; simp; omega, HEQ2.out, HX15.out, HG15.out, HK15.out, HT15.out, HR15.out⟩
                case measure => simp [intOf] <;> omega
            by_cases hk7 : k = 7
            · have hq6 : ¬ k = 6 := by omega
              have hq8 : ¬ k = 8 := by omega
              have hkk5 : (k == 5) = false := by rw [beq_eq_false_iff_ne]; omega
              have hkk7 : (k == 7) = true := by rw [beq_iff_eq]; omega
              have hkk6 : (k == 6) = false := by rw [beq_eq_false_iff_ne]; omega
              have hkk8 : (k == 8) = false := by rw [beq_eq_false_iff_ne]; omega
              cases number
              · have HFL : Hid (xflag false k i = false) := by unfold Hid xflag; simp [hin, hq6, hq8]
                have HCM : Hid (xcomma k i xi = xi.sign cmB) := by show xcomma _ _ _ = _; unfold xcomma; rw [if_pos (by omega)]
                clear hin hi0 hq6 hq8 hk7
                go_wp2_with fail
                refine (xsign_any wr R xi cmB mark_ne.2.1 HXI.out).mono ?_
                rintro e w11 ⟨rfl, hx11, hg11⟩
                have HXC0 : Hid (XIn w11 R (xcomma k i xi)) := by rw [HCM.out]; exact hx11
                have HGC0 := hidIn (HGI.out.tr hg11)
                have HKC0 := hidIn (HKI.out.grew hg11 hne)
                have HTC0 := hidIn (HTI0.out.grew hg11 (by have := HRT.out; omega))
                have HRC0 := hidIn (HRI.out.grew hg11 (by have := HRT.out; omega))
                clear hx11 hg11 HGI HKI HTI0 HRI HXI
                have HXC : Hid (XIn w11.drew R (xcomma k i xi)) := HXC0.out.below (bel_1 _)
                have HGC : Hid (Grew R none w w11.drew) := HGC0.out.drew
                have HKC : Hid (Blk w11.drew w.heap.size 33 #[.int .i64 0, .string ⟨#[]⟩, .int .i64 0, .slice none 0 0]) := HKC0.out
                have HTC : Hid (Blk w11.drew tb 33 #[.int .i64 k, .string hs, .int .i64 hn, v]) := HTC0.out
                have HRC : Hid (RowY w11.drew (tb + 1) l v) := HRC0.out.keep (Nat.le_refl _) (fun _ _ _ => rfl)
                clear HXC0 HGC0 HKC0 HTC0 HRC0
                go_wp2_with fail
                refine Mx.wp_region_mix4 (fun w' => Blk w' tb 33 #[.int .i64 k, .string hs, .int .i64 hn, v]) 22 [(0, false), (1, false), (2, false), (3, false), (4, false), (5, false), (6, false), (7, false), (8, false), (9, false), (10, false), (11, false), (12, false), (13, false), (14, false), (15, false), (16, false), (17, false), (18, true), (19, true), (20, true), (21, true), (22, true)] (by kernel_rfl) (by kernel_rfl) HTC.out ?_ (by kernel_rfl)
                simp only [List.map_cons, List.map_nil, List.getD_cons_zero, List.getD_cons_succ]
                generalize hops : (#[_, _, _, _, _, _, _, _, _, _, _, _, _, _, _, _, _, _, _, _, _, _, _] : Array Oper) = ops
                have HD4 : Hid ((ops[4]?).bind (·.dst) = some 93) := by rw [← hops]; exact rfl
                have HD7 : Hid ((ops[7]?).bind (·.dst) = some 96) := by rw [← hops]; exact rfl
                have HD10 : Hid ((ops[10]?).bind (·.dst) = some 99) := by rw [← hops]; exact rfl
                clear hops
                refine Mx.l_pure (.pointer (some ⟨tb, 3, none⟩)) (by decide) (Mx.wanted_none rfl) (fun w' hw' => ?_) ?_
                · go_simp
                simp only [Act.put, List.setIfInBounds_toArray, List.set_cons_zero, List.set_cons_succ]
                refine Mx.l_pure (v) (by decide) (Mx.wanted_none rfl) (fun w' hw' => ?_) ?_
                · have hc3 : w'.cell? ⟨tb, 3, none⟩ = some v := hw'.cell 3
                  go_simp
                simp only [Act.put, List.setIfInBounds_toArray, List.set_cons_zero, List.set_cons_succ]
                refine Mx.l_pure (.pointer (some ⟨R, 0, none⟩)) (by decide) (Mx.wanted_none rfl) (fun w' hw' => ?_) ?_
                · go_simp
                simp only [Act.put, List.setIfInBounds_toArray, List.set_cons_zero, List.set_cons_succ]
                refine Mx.l_pure (.bool false) (by decide) (Mx.wanted_none rfl) (fun w' hw' => ?_) ?_
                · go_simp
                simp only [Act.put, List.setIfInBounds_toArray, List.set_cons_zero, List.set_cons_succ]
                refine Mx.l_pure (.bool false) (by decide) (Mx.wanted_none rfl) (fun w' hw' => ?_) ?_
                · go_simp
                simp only [Act.put, List.setIfInBounds_toArray, List.set_cons_zero, List.set_cons_succ]
                refine Mx.l_pure (.int .i64 i) (by decide) (Mx.wanted_met 4 93 false rfl HD4.out rfl) (fun w' hw' => ?_) ?_
                · go_simp
                simp only [Act.put, List.setIfInBounds_toArray, List.set_cons_zero, List.set_cons_succ]
                refine Mx.l_pure (.bool true) (by decide) (Mx.wanted_met 4 93 false rfl HD4.out rfl) (fun w' hw' => ?_) ?_
                · go_simp
                simp only [Act.put, List.setIfInBounds_toArray, List.set_cons_zero, List.set_cons_succ]
                refine Mx.l_pure (.bool true) (by decide) (Mx.wanted_met 4 93 false rfl HD4.out rfl) (fun w' hw' => ?_) ?_
                · go_simp
                simp only [Act.put, List.setIfInBounds_toArray, List.set_cons_zero, List.set_cons_succ]
                refine Mx.l_pure (.int .i64 k) (by decide) (Mx.wanted_met 7 96 true rfl HD7.out rfl) (fun w' hw' => ?_) ?_
                · go_simp
                simp only [Act.put, List.setIfInBounds_toArray, List.set_cons_zero, List.set_cons_succ]
                refine Mx.l_pure (.bool false) (by decide) (Mx.wanted_met 7 96 true rfl HD7.out rfl) (fun w' hw' => ?_) ?_
                · go_simp
                simp only [Act.put, List.setIfInBounds_toArray, List.set_cons_zero, List.set_cons_succ]
                refine Mx.l_pure (.bool false) (by decide) (Mx.wanted_met 7 96 true rfl HD7.out rfl) (fun w' hw' => ?_) ?_
                · go_simp
                simp only [Act.put, List.setIfInBounds_toArray, List.set_cons_zero, List.set_cons_succ]
                refine Mx.l_pure (.int .i64 k) (by decide) (Mx.wanted_met 10 99 false rfl HD10.out rfl) (fun w' hw' => ?_) ?_
                · go_simp
                simp only [Act.put, List.setIfInBounds_toArray, List.set_cons_zero, List.set_cons_succ]
                refine Mx.l_pure (.bool false) (by decide) (Mx.wanted_met 10 99 false rfl HD10.out rfl) (fun w' hw' => ?_) ?_
                · go_simp
                simp only [Act.put, List.setIfInBounds_toArray, List.set_cons_zero, List.set_cons_succ]
                refine Mx.l_pure (.bool false) (by decide) (Mx.wanted_met 7 96 true rfl HD7.out rfl) (fun w' hw' => ?_) ?_
                · go_simp
                simp only [Act.put, List.setIfInBounds_toArray, List.set_cons_zero, List.set_cons_succ]
                refine Mx.l_pure (.bool false) (by decide) (Mx.wanted_met 4 93 false rfl HD4.out rfl) (fun w' hw' => ?_) ?_
                · go_simp
                simp only [Act.put, List.setIfInBounds_toArray, List.set_cons_zero, List.set_cons_succ]
                refine Mx.l_pure (.bool false) (by decide) (Mx.wanted_none rfl) (fun w' hw' => ?_) ?_
                · go_simp
                simp only [Act.put, List.setIfInBounds_toArray, List.set_cons_zero, List.set_cons_succ]
                refine Mx.l_pure (.int .i64 d) (by decide) (Mx.wanted_none rfl) (fun w' hw' => ?_) ?_
                · go_simp
                simp only [Act.put, List.setIfInBounds_toArray, List.set_cons_zero, List.set_cons_succ]
                refine Mx.l_pure (.int .i64 ((d : Int) + 1)) (by decide) (Mx.wanted_none rfl) (fun w' hw' => ?_) ?_
                · go_simp
                simp only [Act.put, List.setIfInBounds_toArray, List.set_cons_zero, List.set_cons_succ]
                refine Mx.l_call 22 #[.pointer (some ⟨R, 0, none⟩), .bool false, .int .i64 ((d : Int) + 1)] (Mx.wanted_none rfl) ?_ ?_
                · go_simp
                refine (HREC.out (xcomma k i xi) false _ HXC.out).mono ?_
                rintro e w12 ⟨tv, rfl, ht12, hx12, hg12⟩
                rw [← HFL.out] at ht12 hx12
                have htv := ht12
                obtain ⟨ka, kc, rfl, hz1, hz2, hz3⟩ := htv
                clear hz1 hz2 hz3
                have HX12 := hidIn hx12
                have HG12 := hidIn (HGC.out.tr hg12)
                have HK12 := hidIn (HKC.out.grew hg12 hne)
                have HT12 := hidIn (HTC.out.grew hg12 (by have := HRT.out; omega))
                have HR12 := hidIn (HRC.out.grew hg12 (by have := HRT.out; omega))
                have HTI := hidIn ht12
                have HWC := hidIn HTC.out.lt
                have HOWN := hidIn HRC.out.own
                refine ⟨_, rfl, HT12.out, ?_⟩
                clear ht12 hx12 hg12
                obtain ⟨tt, htt⟩ : ∃ tt, (xtree f (xcomma k i xi) (xflag false k i) (d + 1)).1 = tt := ⟨_, rfl⟩
                rw [htt] at HTI
                rw [htt]
                obtain ⟨xx, hxx⟩ : ∃ xx, (xtree f (xcomma k i xi) (xflag false k i) (d + 1)).2 = xx := ⟨_, rfl⟩
                rw [hxx] at HX12
                have HTT := hidIn htt
                have HXX := hidIn hxx
                clear htt hxx
                simp only [Act.put, List.setIfInBounds_toArray, List.set_cons_zero, List.set_cons_succ]
                refine Mx.l_run (.slice (some ⟨w12.heap.size, 0, none⟩) 1 1) (Mx.wanted_none rfl) (w' := w12.alloc (.cells #[.int .i64 tt.kind, .string tt.s, .int .i64 tt.n, .slice ka tt.k.length kc] 33)) ?_ (blk_k HT12.out _) ?_
                · go_simp
                simp only [Act.put, List.setIfInBounds_toArray, List.set_cons_zero, List.set_cons_succ]
                obtain ⟨v', w14, hrun, hrow, hgrow, ao, cap, hv'⟩ := RowY.append (ty := 31) (HR12.out.keep (w' := w12.alloc (.cells #[.int .i64 tt.kind, .string tt.s, .int .i64 tt.n, .slice ka tt.k.length kc] 33)) (by simp) (fun q _ h2 => Below.heap_alloc _ _ _ h2)) (by omega) (by have := HT12.out.lt; simp; omega) tt ka kc w12.heap.size (heap_alloc_new _ _) (tin_off (HTI.out.below (below_alloc (Below.refl _ _) _)) (by have := HWC.out; simp at this ⊢; omega) (fun q hq => by have := (HOWN.out q hq).2; simpa using this))
                have HB13 : Hid (Below w12.heap.size w12 (w12.alloc (.cells #[.int .i64 tt.kind, .string tt.s, .int .i64 tt.n, .slice ka tt.k.length kc] 33))) := below_alloc (Below.refl _ _) _
                have hv2 := hv'
                generalize w12.alloc (.cells #[.int .i64 tt.kind, .string tt.s, .int .i64 tt.n, .slice ka tt.k.length kc] 33) = w13 at *
                have HOW2 : Hid (∀ q, v.ownBlock = some q → tb + 1 ≤ q) := fun q hq => (HOWN.out q hq).1
                have HG14 : Hid (∀ q, q < w13.heap.size → q ≤ tb → w14.heap[q]? = w13.heap[q]?) := fun q h1 h2 => hgrow.block q h1 (fun e => by have := HOW2.out q e.symm; omega)
                have HT13 : Hid (Blk w13 tb 33 #[.int .i64 k, .string hs, .int .i64 hn, v]) := HT12.out.grew (Grew.of_below (M := R) HB13.out) (by have := HRT.out; omega)
                have HK13 : Hid (Blk w13 w.heap.size 33 #[.int .i64 0, .string ⟨#[]⟩, .int .i64 0, .slice none 0 0]) := HK12.out.grew (Grew.of_below (M := R) HB13.out) hne
                have HT14 : Hid (Blk w14 tb 33 #[.int .i64 k, .string hs, .int .i64 hn, v]) := (HG14.out tb HT13.out.lt (Nat.le_refl _)).trans HT13.out
                have HK14 : Hid (Blk w14 w.heap.size 33 #[.int .i64 0, .string ⟨#[]⟩, .int .i64 0, .slice none 0 0]) := (HG14.out w.heap.size HK13.out.lt HWL.out).trans HK13.out
                have HX14 : Hid (XIn w14 R xx) := (HX12.out.below HB13.out).upto hgrow.size (fun q hq => HG14.out q (by have := HT13.out.lt; have := HRT.out; omega) (by have := HRT.out; omega))
                have HG14b : Hid (Grew R none w w14) := (HG12.out.tr (Grew.of_below HB13.out)).trans (Grew.of_grown hgrow) (.inr (fun q hq => by have := HOW2.out q hq; have := HWL.out; omega))
                have HR14 := hidIn hrow
                clear hgrow hrow HB13 HG14 HT13 HK13 HX12 HG12 HK12 HT12 HR12 HTI HWC HOWN HOW2
                refine Mx.l_run v' (Mx.wanted_none rfl) (w' := w14) ?_ HT14.out ?_
                · simp [execOp, resolve, invoke, builtin, Act.eval, hrun]
                have c3 : w14.cell? ⟨tb, 3, none⟩ = some v := HT14.out.cell 3
                have f3 : w14.frozen? ⟨tb, 3, none⟩ = false := HT14.out.frozen 3
                clear hrun
                subst hv2
                simp only [Act.put, List.setIfInBounds_toArray, List.set_cons_zero, List.set_cons_succ]
                refine Mx.l_run (.pointer (some ⟨tb, 3, none⟩)) (Mx.wanted_none rfl) (w' := w14) ?_ HT14.out ?_
                · go_simp
                simp only [Act.put, List.setIfInBounds_toArray, List.set_cons_zero, List.set_cons_succ]
                refine Mx.l_last (w' := w14.setCell ⟨tb, 3, none⟩ (.slice ao (l.length + 1) cap)) (Mx.wanted_none rfl) ?_ ?_
                · go_simp
                simp only [Act.put]
                have HX15 := hidIn (HX14.out.other HRT.out 3 (.slice ao (l.length + 1) cap))
                have HG15 := hidIn (HG14b.out.setNew HWL.out 3 (.slice ao (l.length + 1) cap))
                have HK15 := hidIn (HK14.out.other HWT.out 3 (.slice ao (l.length + 1) cap))
                have HT15 : Hid (Blk (w14.setCell ⟨tb, 3, none⟩ (.slice ao (l.length + 1) cap)) tb 33 #[.int .i64 k, .string hs, .int .i64 hn, .slice ao (l.length + 1) cap]) := HT14.out.set 3 _
                have HR15 := hidIn (HR14.out.set (i := 3) (x := .slice ao (l.length + 1) cap) (Nat.lt_succ_self tb))
                have HEQ2 : Hid (xkids (fun y b => xtree f y b (d + 1)) k false (xparts k) 0 xh = ((l ++ [tt]) ++ (xkids (fun y b => xtree f y b (d + 1)) k false (xparts k - (i + 1)) (i + 1) xx).1, (xkids (fun y b => xtree f y b (d + 1)) k false (xparts k - (i + 1)) (i + 1) xx).2)) := by
                  unfold Hid
                  rw [HEQ.out, xkids_go _ _ _ _ _ _ hip HE0.out, HTT.out, HXX.out]
                  simp
                clear HX14 HG14b HK14 HT14 HR14 c3 f3 HTT HXX
                generalize w14.setCell ⟨tb, 3, none⟩ (.slice ao (l.length + 1) cap) = w15 at *
                clear hgt hiz
                go_wp2_with fail
                go_roundw
                case rel => exact ⟨i + 1, l ++ [tt], xx, .slice ao (l.length + 1) cap, by omega, by go_num, by rw [List.length_append]; simp; omega, HEQ2.out, HX15.out, HG15.out, HK15.out, HT15.out, HR15.out⟩
                case measure => simp [intOf] <;> omega
              · have HFL : Hid (xflag true k i = true) := by unfold Hid xflag; simp [hin, hq6, hq8]
                have HCM : Hid (xcomma k i xi = xi.sign cmB) := by show xcomma _ _ _ = _; unfold xcomma; rw [if_pos (by omega)]
                clear hin hi0 hq6 hq8 hk7
                go_wp2_with fail
                refine (xsign_any wr R xi cmB mark_ne.2.1 HXI.out).mono ?_
                rintro e w11 ⟨rfl, hx11, hg11⟩
                have HXC0 : Hid (XIn w11 R (xcomma k i xi)) := by rw [HCM.out]; exact hx11
                have HGC0 := hidIn (HGI.out.tr hg11)
                have HKC0 := hidIn (HKI.out.grew hg11 hne)
                have HTC0 := hidIn (HTI0.out.grew hg11 (by have := HRT.out; omega))
                have HRC0 := hidIn (HRI.out.grew hg11 (by have := HRT.out; omega))
                clear hx11 hg11 HGI HKI HTI0 HRI HXI
                have HXC : Hid (XIn w11.drew R (xcomma k i xi)) := HXC0.out.below (bel_1 _)
                have HGC : Hid (Grew R none w w11.drew) := HGC0.out.drew
                have HKC : Hid (Blk w11.drew w.heap.size 33 #[.int .i64 0, .string ⟨#[]⟩, .int .i64 0, .slice none 0 0]) := HKC0.out
                have HTC : Hid (Blk w11.drew tb 33 #[.int .i64 k, .string hs, .int .i64 hn, v]) := HTC0.out
                have HRC : Hid (RowY w11.drew (tb + 1) l v) := HRC0.out.keep (Nat.le_refl _) (fun _ _ _ => rfl)
                clear HXC0 HGC0 HKC0 HTC0 HRC0
                go_wp2_with fail
                refine Mx.wp_region_mix4 (fun w' => Blk w' tb 33 #[.int .i64 k, .string hs, .int .i64 hn, v]) 22 [(0, false), (1, false), (2, false), (3, false), (4, false), (5, false), (6, false), (7, false), (8, false), (9, false), (10, false), (11, false), (12, false), (13, false), (14, false), (15, false), (16, false), (17, false), (18, true), (19, true), (20, true), (21, true), (22, true)] (by kernel_rfl) (by kernel_rfl) HTC.out ?_ (by kernel_rfl)
                simp only [List.map_cons, List.map_nil, List.getD_cons_zero, List.getD_cons_succ]
                generalize hops : (#[_, _, _, _, _, _, _, _, _, _, _, _, _, _, _, _, _, _, _, _, _, _, _] : Array Oper) = ops
                have HD4 : Hid ((ops[4]?).bind (·.dst) = some 93) := by rw [← hops]; exact rfl
                have HD7 : Hid ((ops[7]?).bind (·.dst) = some 96) := by rw [← hops]; exact rfl
                have HD10 : Hid ((ops[10]?).bind (·.dst) = some 99) := by rw [← hops]; exact rfl
                clear hops
                refine Mx.l_pure (.pointer (some ⟨tb, 3, none⟩)) (by decide) (Mx.wanted_none rfl) (fun w' hw' => ?_) ?_
                · go_simp
                simp only [Act.put, List.setIfInBounds_toArray, List.set_cons_zero, List.set_cons_succ]
                refine Mx.l_pure (v) (by decide) (Mx.wanted_none rfl) (fun w' hw' => ?_) ?_
                · have hc3 : w'.cell? ⟨tb, 3, none⟩ = some v := hw'.cell 3
                  go_simp
                simp only [Act.put, List.setIfInBounds_toArray, List.set_cons_zero, List.set_cons_succ]
                refine Mx.l_pure (.pointer (some ⟨R, 0, none⟩)) (by decide) (Mx.wanted_none rfl) (fun w' hw' => ?_) ?_
                · go_simp
                simp only [Act.put, List.setIfInBounds_toArray, List.set_cons_zero, List.set_cons_succ]
                refine Mx.l_pure (.bool true) (by decide) (Mx.wanted_none rfl) (fun w' hw' => ?_) ?_
                · go_simp
                simp only [Act.put, List.setIfInBounds_toArray, List.set_cons_zero, List.set_cons_succ]
                refine Mx.l_pure (.bool true) (by decide) (Mx.wanted_none rfl) (fun w' hw' => ?_) ?_
                · go_simp
                simp only [Act.put, List.setIfInBounds_toArray, List.set_cons_zero, List.set_cons_succ]
                refine Mx.l_skip (by decide) (Mx.unwanted_met 4 93 false true rfl HD4.out rfl rfl) ?_
                simp only [Act.put, List.setIfInBounds_toArray, List.set_cons_zero, List.set_cons_succ]
                refine Mx.l_skip (by decide) (Mx.unwanted_met 4 93 false true rfl HD4.out rfl rfl) ?_
                simp only [Act.put, List.setIfInBounds_toArray, List.set_cons_zero, List.set_cons_succ]
                refine Mx.l_skip (by decide) (Mx.unwanted_met 4 93 false true rfl HD4.out rfl rfl) ?_
                simp only [Act.put, List.setIfInBounds_toArray, List.set_cons_zero, List.set_cons_succ]
                refine Mx.l_skip (by decide) (Mx.unwanted_undef 7 96 true rfl HD7.out rfl) ?_
                simp only [Act.put, List.setIfInBounds_toArray, List.set_cons_zero, List.set_cons_succ]
                refine Mx.l_skip (by decide) (Mx.unwanted_undef 7 96 true rfl HD7.out rfl) ?_
                simp only [Act.put, List.setIfInBounds_toArray, List.set_cons_zero, List.set_cons_succ]
                refine Mx.l_skip (by decide) (Mx.unwanted_undef 7 96 true rfl HD7.out rfl) ?_
                simp only [Act.put, List.setIfInBounds_toArray, List.set_cons_zero, List.set_cons_succ]
                refine Mx.l_skip (by decide) (Mx.unwanted_undef 10 99 false rfl HD10.out rfl) ?_
                simp only [Act.put, List.setIfInBounds_toArray, List.set_cons_zero, List.set_cons_succ]
                refine Mx.l_skip (by decide) (Mx.unwanted_undef 10 99 false rfl HD10.out rfl) ?_
                simp only [Act.put, List.setIfInBounds_toArray, List.set_cons_zero, List.set_cons_succ]
                refine Mx.l_skip (by decide) (Mx.unwanted_undef 7 96 true rfl HD7.out rfl) ?_
                simp only [Act.put, List.setIfInBounds_toArray, List.set_cons_zero, List.set_cons_succ]
                refine Mx.l_skip (by decide) (Mx.unwanted_met 4 93 false true rfl HD4.out rfl rfl) ?_
                simp only [Act.put, List.setIfInBounds_toArray, List.set_cons_zero, List.set_cons_succ]
                refine Mx.l_pure (.bool true) (by decide) (Mx.wanted_none rfl) (fun w' hw' => ?_) ?_
                · go_simp
                simp only [Act.put, List.setIfInBounds_toArray, List.set_cons_zero, List.set_cons_succ]
                refine Mx.l_pure (.int .i64 d) (by decide) (Mx.wanted_none rfl) (fun w' hw' => ?_) ?_
                · go_simp
                simp only [Act.put, List.setIfInBounds_toArray, List.set_cons_zero, List.set_cons_succ]
                refine Mx.l_pure (.int .i64 ((d : Int) + 1)) (by decide) (Mx.wanted_none rfl) (fun w' hw' => ?_) ?_
                · go_simp
                simp only [Act.put, List.setIfInBounds_toArray, List.set_cons_zero, List.set_cons_succ]
                refine Mx.l_call 22 #[.pointer (some ⟨R, 0, none⟩), .bool true, .int .i64 ((d : Int) + 1)] (Mx.wanted_none rfl) ?_ ?_
                · go_simp
                refine (HREC.out (xcomma k i xi) true _ HXC.out).mono ?_
                rintro e w12 ⟨tv, rfl, ht12, hx12, hg12⟩
                rw [← HFL.out] at ht12 hx12
                have htv := ht12
                obtain ⟨ka, kc, rfl, hz1, hz2, hz3⟩ := htv
                clear hz1 hz2 hz3
                have HX12 := hidIn hx12
                have HG12 := hidIn (HGC.out.tr hg12)
                have HK12 := hidIn (HKC.out.grew hg12 hne)
                have HT12 := hidIn (HTC.out.grew hg12 (by have := HRT.out; omega))
                have HR12 := hidIn (HRC.out.grew hg12 (by have := HRT.out; omega))
                have HTI := hidIn ht12
                have HWC := hidIn HTC.out.lt
                have HOWN := hidIn HRC.out.own
                refine ⟨_, rfl, HT12.out, ?_⟩
                clear ht12 hx12 hg12
                obtain ⟨tt, htt⟩ : ∃ tt, (xtree f (xcomma k i xi) (xflag true k i) (d + 1)).1 = tt := ⟨_, rfl⟩
                rw [htt] at HTI
                rw [htt]
                obtain ⟨xx, hxx⟩ : ∃ xx, (xtree f (xcomma k i xi) (xflag true k i) (d + 1)).2 = xx := ⟨_, rfl⟩
                rw [hxx] at HX12
                have HTT := hidIn htt
                have HXX := hidIn hxx
                clear htt hxx
                simp only [Act.put, List.setIfInBounds_toArray, List.set_cons_zero, List.set_cons_succ]
                refine Mx.l_run (.slice (some ⟨w12.heap.size, 0, none⟩) 1 1) (Mx.wanted_none rfl) (w' := w12.alloc (.cells #[.int .i64 tt.kind, .string tt.s, .int .i64 tt.n, .slice ka tt.k.length kc] 33)) ?_ (blk_k HT12.out _) ?_
                · go_simp
                simp only [Act.put, List.setIfInBounds_toArray, List.set_cons_zero, List.set_cons_succ]
                obtain ⟨v', w14, hrun, hrow, hgrow, ao, cap, hv'⟩ := RowY.append (ty := 31) (HR12.out.keep (w' := w12.alloc (.cells #[.int .i64 tt.kind, .string tt.s, .int .i64 tt.n, .slice ka tt.k.length kc] 33)) (by simp) (fun q _ h2 => Below.heap_alloc _ _ _ h2)) (by omega) (by have := HT12.out.lt; simp; omega) tt ka kc w12.heap.size (heap_alloc_new _ _) (tin_off (HTI.out.below (below_alloc (Below.refl _ _) _)) (by have := HWC.out; simp at this ⊢; omega) (fun q hq => by have := (HOWN.out q hq).2; simpa using this))
                have HB13 : Hid (Below w12.heap.size w12 (w12.alloc (.cells #[.int .i64 tt.kind, .string tt.s, .int .i64 tt.n, .slice ka tt.k.length kc] 33))) := below_alloc (Below.refl _ _) _
                have hv2 := hv'
                generalize w12.alloc (.cells #[.int .i64 tt.kind, .string tt.s, .int .i64 tt.n, .slice ka tt.k.length kc] 33) = w13 at *
                have HOW2 : Hid (∀ q, v.ownBlock = some q → tb + 1 ≤ q) := fun q hq => (HOWN.out q hq).1
                have HG14 : Hid (∀ q, q < w13.heap.size → q ≤ tb → w14.heap[q]? = w13.heap[q]?) := fun q h1 h2 => hgrow.block q h1 (fun e => by have := HOW2.out q e.symm; omega)
                have HT13 : Hid (Blk w13 tb 33 #[.int .i64 k, .string hs, .int .i64 hn, v]) := HT12.out.grew (Grew.of_below (M := R) HB13.out) (by have := HRT.out; omega)
                have HK13 : Hid (Blk w13 w.heap.size 33 #[.int .i64 0, .string ⟨#[]⟩, .int .i64 0, .slice none 0 0]) := HK12.out.grew (Grew.of_below (M := R) HB13.out) hne
                have HT14 : Hid (Blk w14 tb 33 #[.int .i64 k, .string hs, .int .i64 hn, v]) := (HG14.out tb HT13.out.lt (Nat.le_refl _)).trans HT13.out
                have HK14 : Hid (Blk w14 w.heap.size 33 #[.int .i64 0, .string ⟨#[]⟩, .int .i64 0, .slice none 0 0]) := (HG14.out w.heap.size HK13.out.lt HWL.out).trans HK13.out
                have HX14 : Hid (XIn w14 R xx) := (HX12.out.below HB13.out).upto hgrow.size (fun q hq => HG14.out q (by have := HT13.out.lt; have := HRT.out; omega) (by have := HRT.out; omega))
                have HG14b : Hid (Grew R none w w14) := (HG12.out.tr (Grew.of_below HB13.out)).trans (Grew.of_grown hgrow) (.inr (fun q hq => by have := HOW2.out q hq; have := HWL.out; omega))
                have HR14 := hidIn hrow
                clear hgrow hrow HB13 HG14 HT13 HK13 HX12 HG12 HK12 HT12 HR12 HTI HWC HOWN HOW2
                refine Mx.l_run v' (Mx.wanted_none rfl) (w' := w14) ?_ HT14.out ?_
                · simp [execOp, resolve, invoke, builtin, Act.eval, hrun]
                have c3 : w14.cell? ⟨tb, 3, none⟩ = some v := HT14.out.cell 3
                have f3 : w14.frozen? ⟨tb, 3, none⟩ = false := HT14.out.frozen 3
                clear hrun
                subst hv2
                simp only [Act.put, List.setIfInBounds_toArray, List.set_cons_zero, List.set_cons_succ]
                refine Mx.l_run (.pointer (some ⟨tb, 3, none⟩)) (Mx.wanted_none rfl) (w' := w14) ?_ HT14.out ?_
                · go_simp
                simp only [Act.put, List.setIfInBounds_toArray, List.set_cons_zero, List.set_cons_succ]
                refine Mx.l_last (w' := w14.setCell ⟨tb, 3, none⟩ (.slice ao (l.length + 1) cap)) (Mx.wanted_none rfl) ?_ ?_
                · go_simp
                simp only [Act.put]
                have HX15 := hidIn (HX14.out.other HRT.out 3 (.slice ao (l.length + 1) cap))
                have HG15 := hidIn (HG14b.out.setNew HWL.out 3 (.slice ao (l.length + 1) cap))
                have HK15 := hidIn (HK14.out.other HWT.out 3 (.slice ao (l.length + 1) cap))
                have HT15 : Hid (Blk (w14.setCell ⟨tb, 3, none⟩ (.slice ao (l.length + 1) cap)) tb 33 #[.int .i64 k, .string hs, .int .i64 hn, .slice ao (l.length + 1) cap]) := HT14.out.set 3 _
                have HR15 := hidIn (HR14.out.set (i := 3) (x := .slice ao (l.length + 1) cap) (Nat.lt_succ_self tb))
                have HEQ2 : Hid (xkids (fun y b => xtree f y b (d + 1)) k true (xparts k) 0 xh = ((l ++ [tt]) ++ (xkids (fun y b => xtree f y b (d + 1)) k true (xparts k - (i + 1)) (i + 1) xx).1, (xkids (fun y b => xtree f y b (d + 1)) k true (xparts k - (i + 1)) (i + 1) xx).2)) := by
                  unfold Hid
                  rw [HEQ.out, xkids_go _ _ _ _ _ _ hip HE0.out, HTT.out, HXX.out]
                  simp
                clear HX14 HG14b HK14 HT14 HR14 c3 f3 HTT HXX
                generalize w14.setCell ⟨tb, 3, none⟩ (.slice ao (l.length + 1) cap) = w15 at *
                clear hgt hiz
                go_wp2_with fail
                go_roundw
                case rel => exact ⟨i + 1, l ++ [tt], xx, .slice ao (l.length + 1) cap, by omega, by go_num, by rw [List.length_append]; simp; omega, HEQ2.out, HX15.out, HG15.out, HK15.out, HT15.out, HR15.out⟩
                case measure => simp [intOf] <;> omega
            by_cases hk6 : k = 6
            · have hq6 : k = 6 := by omega
              have hq8 : ¬ k = 8 := by omega
              have hkk5 : (k == 5) = false := by rw [beq_eq_false_iff_ne]; omega
              have hkk7 : (k == 7) = false := by rw [beq_eq_false_iff_ne]; omega
              have hkk6 : (k == 6) = true := by rw [beq_iff_eq]; omega
              have hkk8 : (k == 8) = false := by rw [beq_eq_false_iff_ne]; omega
              cases number
              · have HFL : Hid (xflag false k i = true) := by unfold Hid xflag; simp [hin, hq6]
                have HCM : Hid (xcomma k i xi = xi) := by show xcomma _ _ _ = _; unfold xcomma; rw [if_neg (by omega)]
                clear hin hi0 hq6 hq8 hk6
                have HXC0 : Hid (XIn wr R (xcomma k i xi)) := by rw [HCM.out]; exact HXI.out
                have HGC0 := HGI
                have HKC0 := HKI
                have HTC0 := HTI0
                have HRC0 := HRI
                clear HGI HKI HTI0 HRI HXI
                have HXC : Hid (XIn wr.drew R (xcomma k i xi)) := HXC0.out.below (bel_1 _)
                have HGC : Hid (Grew R none w wr.drew) := HGC0.out.drew
                have HKC : Hid (Blk wr.drew w.heap.size 33 #[.int .i64 0, .string ⟨#[]⟩, .int .i64 0, .slice none 0 0]) := HKC0.out
                have HTC : Hid (Blk wr.drew tb 33 #[.int .i64 k, .string hs, .int .i64 hn, v]) := HTC0.out
                have HRC : Hid (RowY wr.drew (tb + 1) l v) := HRC0.out.keep (Nat.le_refl _) (fun _ _ _ => rfl)
                clear HXC0 HGC0 HKC0 HTC0 HRC0
                go_wp2_with fail
                refine Mx.wp_region_mix4 (fun w' => Blk w' tb 33 #[.int .i64 k, .string hs, .int .i64 hn, v]) 22 [(0, false), (1, false), (2, false), (3, false), (4, false), (5, false), (6, false), (7, false), (8, false), (9, false), (10, false), (11, false), (12, false), (13, false), (14, false), (15, false), (16, false), (17, false), (18, true), (19, true), (20, true), (21, true), (22, true)] (by kernel_rfl) (by kernel_rfl) HTC.out ?_ (by kernel_rfl)
                simp only [List.map_cons, List.map_nil, List.getD_cons_zero, List.getD_cons_succ]
                generalize hops : (#[_, _, _, _, _, _, _, _, _, _, _, _, _, _, _, _, _, _, _, _, _, _, _] : Array Oper) = ops
                have HD4 : Hid ((ops[4]?).bind (·.dst) = some 93) := by rw [← hops]; exact rfl
                have HD7 : Hid ((ops[7]?).bind (·.dst) = some 96) := by rw [← hops]; exact rfl
                have HD10 : Hid ((ops[10]?).bind (·.dst) = some 99) := by rw [← hops]; exact rfl
                clear hops
                refine Mx.l_pure (.pointer (some ⟨tb, 3, none⟩)) (by decide) (Mx.wanted_none rfl) (fun w' hw' => ?_) ?_
                · go_simp
                simp only [Act.put, List.setIfInBounds_toArray, List.set_cons_zero, List.set_cons_succ]
                refine Mx.l_pure (v) (by decide) (Mx.wanted_none rfl) (fun w' hw' => ?_) ?_
                · have hc3 : w'.cell? ⟨tb, 3, none⟩ = some v := hw'.cell 3
                  go_simp
                simp only [Act.put, List.setIfInBounds_toArray, List.set_cons_zero, List.set_cons_succ]
                refine Mx.l_pure (.pointer (some ⟨R, 0, none⟩)) (by decide) (Mx.wanted_none rfl) (fun w' hw' => ?_) ?_
                · go_simp
                simp only [Act.put, List.setIfInBounds_toArray, List.set_cons_zero, List.set_cons_succ]
                refine Mx.l_pure (.bool false) (by decide) (Mx.wanted_none rfl) (fun w' hw' => ?_) ?_
                · go_simp
                simp only [Act.put, List.setIfInBounds_toArray, List.set_cons_zero, List.set_cons_succ]
                refine Mx.l_pure (.bool false) (by decide) (Mx.wanted_none rfl) (fun w' hw' => ?_) ?_
                · go_simp
                simp only [Act.put, List.setIfInBounds_toArray, List.set_cons_zero, List.set_cons_succ]
                refine Mx.l_pure (.int .i64 i) (by decide) (Mx.wanted_met 4 93 false rfl HD4.out rfl) (fun w' hw' => ?_) ?_
                · go_simp
                simp only [Act.put, List.setIfInBounds_toArray, List.set_cons_zero, List.set_cons_succ]
                refine Mx.l_pure (.bool true) (by decide) (Mx.wanted_met 4 93 false rfl HD4.out rfl) (fun w' hw' => ?_) ?_
                · go_simp
                simp only [Act.put, List.setIfInBounds_toArray, List.set_cons_zero, List.set_cons_succ]
                refine Mx.l_pure (.bool true) (by decide) (Mx.wanted_met 4 93 false rfl HD4.out rfl) (fun w' hw' => ?_) ?_
                · go_simp
                simp only [Act.put, List.setIfInBounds_toArray, List.set_cons_zero, List.set_cons_succ]
                refine Mx.l_pure (.int .i64 k) (by decide) (Mx.wanted_met 7 96 true rfl HD7.out rfl) (fun w' hw' => ?_) ?_
                · go_simp
                simp only [Act.put, List.setIfInBounds_toArray, List.set_cons_zero, List.set_cons_succ]
                refine Mx.l_pure (.bool true) (by decide) (Mx.wanted_met 7 96 true rfl HD7.out rfl) (fun w' hw' => ?_) ?_
                · go_simp
                simp only [Act.put, List.setIfInBounds_toArray, List.set_cons_zero, List.set_cons_succ]
                refine Mx.l_pure (.bool true) (by decide) (Mx.wanted_met 7 96 true rfl HD7.out rfl) (fun w' hw' => ?_) ?_
                · go_simp
                simp only [Act.put, List.setIfInBounds_toArray, List.set_cons_zero, List.set_cons_succ]
                refine Mx.l_skip (by decide) (Mx.unwanted_met 10 99 false true rfl HD10.out rfl rfl) ?_
                simp only [Act.put, List.setIfInBounds_toArray, List.set_cons_zero, List.set_cons_succ]
                refine Mx.l_skip (by decide) (Mx.unwanted_met 10 99 false true rfl HD10.out rfl rfl) ?_
                simp only [Act.put, List.setIfInBounds_toArray, List.set_cons_zero, List.set_cons_succ]
                refine Mx.l_pure (.bool true) (by decide) (Mx.wanted_met 7 96 true rfl HD7.out rfl) (fun w' hw' => ?_) ?_
                · go_simp
                simp only [Act.put, List.setIfInBounds_toArray, List.set_cons_zero, List.set_cons_succ]
                refine Mx.l_pure (.bool true) (by decide) (Mx.wanted_met 4 93 false rfl HD4.out rfl) (fun w' hw' => ?_) ?_
                · go_simp
                simp only [Act.put, List.setIfInBounds_toArray, List.set_cons_zero, List.set_cons_succ]
                refine Mx.l_pure (.bool true) (by decide) (Mx.wanted_none rfl) (fun w' hw' => ?_) ?_
                · go_simp
                simp only [Act.put, List.setIfInBounds_toArray, List.set_cons_zero, List.set_cons_succ]
                refine Mx.l_pure (.int .i64 d) (by decide) (Mx.wanted_none rfl) (fun w' hw' => ?_) ?_
                · go_simp
                simp only [Act.put, List.setIfInBounds_toArray, List.set_cons_zero, List.set_cons_succ]
                refine Mx.l_pure (.int .i64 ((d : Int) + 1)) (by decide) (Mx.wanted_none rfl) (fun w' hw' => ?_) ?_
                · go_simp
                simp only [Act.put, List.setIfInBounds_toArray, List.set_cons_zero, List.set_cons_succ]
                refine Mx.l_call 22 #[.pointer (some ⟨R, 0, none⟩), .bool true, .int .i64 ((d : Int) + 1)] (Mx.wanted_none rfl) ?_ ?_
                · go_simp
                refine (HREC.out (xcomma k i xi) true _ HXC.out).mono ?_
                rintro e w12 ⟨tv, rfl, ht12, hx12, hg12⟩
                rw [← HFL.out] at ht12 hx12
                have htv := ht12
                obtain ⟨ka, kc, rfl, hz1, hz2, hz3⟩ := htv
                clear hz1 hz2 hz3
                have HX12 := hidIn hx12
                have HG12 := hidIn (HGC.out.tr hg12)
                have HK12 := hidIn (HKC.out.grew hg12 hne)
                have HT12 := hidIn (HTC.out.grew hg12 (by have := HRT.out; omega))
                have HR12 := hidIn (HRC.out.grew hg12 (by have := HRT.out; omega))
                have HTI := hidIn ht12
                have HWC := hidIn HTC.out.lt
                have HOWN := hidIn HRC.out.own
                refine ⟨_, rfl, HT12.out, ?_⟩
                clear ht12 hx12 hg12
                obtain ⟨tt, htt⟩ : ∃ tt, (xtree f (xcomma k i xi) (xflag false k i) (d + 1)).1 = tt := ⟨_, rfl⟩
                rw [htt] at HTI
                rw [htt]
                obtain ⟨xx, hxx⟩ : ∃ xx, (xtree f (xcomma k i xi) (xflag false k i) (d + 1)).2 = xx := ⟨_, rfl⟩
                rw [hxx] at HX12
                have HTT := hidIn htt
                have HXX := hidIn hxx
                clear htt hxx
                simp only [Act.put, List.setIfInBounds_toArray, List.set_cons_zero, List.set_cons_succ]
                refine Mx.l_run (.slice (some ⟨w12.heap.size, 0, none⟩) 1 1) (Mx.wanted_none rfl) (w' := w12.alloc (.cells #[.int .i64 tt.kind, .string tt.s, .int .i64 tt.n, .slice ka tt.k.length kc] 33)) ?_ (blk_k HT12.out _) ?_
                · go_simp
                simp only [Act.put, List.setIfInBounds_toArray, List.set_cons_zero, List.set_cons_succ]
                obtain ⟨v', w14, hrun, hrow, hgrow, ao, cap, hv'⟩ := RowY.append (ty := 31) (HR12.out.keep (w' := w12.alloc (.cells #[.int .i64 tt.kind, .string tt.s, .int .i64 tt.n, .slice ka tt.k.length kc] 33)) (by simp) (fun q _ h2 => Below.heap_alloc _ _ _ h2)) (by omega) (by have := HT12.out.lt; simp; omega) tt ka kc w12.heap.size (heap_alloc_new _ _) (tin_off (HTI.out.below (below_alloc (Below.refl _ _) _)) (by have := HWC.out; simp at this ⊢; omega) (fun q hq => by have := (HOWN.out q hq).2; simpa using this))
                have HB13 : Hid (Below w12.heap.size w12 (w12.alloc (.cells #[.int .i64 tt.kind, .string tt.s, .int .i64 tt.n, .slice ka tt.k.length kc] 33))) := below_alloc (Below.refl _ _) _
                have hv2 := hv'
                generalize w12.alloc (.cells #[.int .i64 tt.kind, .string tt.s, .int .i64 tt.n, .slice ka tt.k.length kc] 33) = w13 at *
                have HOW2 : Hid (∀ q, v.ownBlock = some q → tb + 1 ≤ q) := fun q hq => (HOWN.out q hq).1
                have HG14 : Hid (∀ q, q < w13.heap.size → q ≤ tb → w14.heap[q]? = w13.heap[q]?) := fun q h1 h2 => hgrow.block q h1 (fun e => by have := HOW2.out q e.symm; omega)
                have HT13 : Hid (Blk w13 tb 33 #[.int .i64 k, .string hs, .int .i64 hn, v]) := HT12.out.grew (Grew.of_below (M := R) HB13.out) (by have := HRT.out; omega)
                have HK13 : Hid (Blk w13 w.heap.size 33 #[.int .i64 0, .string ⟨#[]⟩, .int .i64 0, .slice none 0 0]) := HK12.out.grew (Grew.of_below (M := R) HB13.out) hne
                have HT14 : Hid (Blk w14 tb 33 #[.int .i64 k, .string hs, .int .i64 hn, v]) := (HG14.out tb HT13.out.lt (Nat.le_refl _)).trans HT13.out
                have HK14 : Hid (Blk w14 w.heap.size 33 #[.int .i64 0, .string ⟨#[]⟩, .int .i64 0, .slice none 0 0]) := (HG14.out w.heap.size HK13.out.lt HWL.out).trans HK13.out
                have HX14 : Hid (XIn w14 R xx) := (HX12.out.below HB13.out).upto hgrow.size (fun q hq => HG14.out q (by have := HT13.out.lt; have := HRT.out; omega) (by have := HRT.out; omega))
                have HG14b : Hid (Grew R none w w14) := (HG12.out.tr (Grew.of_below HB13.out)).trans (Grew.of_grown hgrow) (.inr (fun q hq => by have := HOW2.out q hq; have := HWL.out; omega))
                have HR14 := hidIn hrow
                clear hgrow hrow HB13 HG14 HT13 HK13 HX12 HG12 HK12 HT12 HR12 HTI HWC HOWN HOW2
                refine Mx.l_run v' (Mx.wanted_none rfl) (w' := w14) ?_ HT14.out ?_
                · simp [execOp, resolve, invoke, builtin, Act.eval, hrun]
                have c3 : w14.cell? ⟨tb, 3, none⟩ = some v := HT14.out.cell 3
                have f3 : w14.frozen? ⟨tb, 3, none⟩ = false := HT14.out.frozen 3
                clear hrun
                subst hv2
                simp only [Act.put, List.setIfInBounds_toArray, List.set_cons_zero, List.set_cons_succ]
                refine Mx.l_run (.pointer (some ⟨tb, 3, none⟩)) (Mx.wanted_none rfl) (w' := w14) ?_ HT14.out ?_
                · go_simp
                simp only [Act.put, List.setIfInBounds_toArray, List.set_cons_zero, List.set_cons_succ]
                refine Mx.l_last (w' := w14.setCell ⟨tb, 3, none⟩ (.slice ao (l.length + 1) cap)) (Mx.wanted_none rfl) ?_ ?_
                · go_simp
                simp only [Act.put]
                have HX15 := hidIn (HX14.out.other HRT.out 3 (.slice ao (l.length + 1) cap))
                have HG15 := hidIn (HG14b.out.setNew HWL.out 3 (.slice ao (l.length + 1) cap))
                have HK15 := hidIn (HK14.out.other HWT.out 3 (.slice ao (l.length + 1) cap))
                have HT15 : Hid (Blk (w14.setCell ⟨tb, 3, none⟩ (.slice ao (l.length + 1) cap)) tb 33 #[.int .i64 k, .string hs, .int .i64 hn, .slice ao (l.length + 1) cap]) := HT14.out.set 3 _
                have HR15 := hidIn (HR14.out.set (i := 3) (x := .slice ao (l.length + 1) cap) (Nat.lt_succ_self tb))
                have HEQ2 : Hid (xkids (fun y b => xtree f y b (d + 1)) k false (xparts k) 0 xh = ((l ++ [tt]) ++ (xkids (fun y b => xtree f y b (d + 1)) k false (xparts k - (i + 1)) (i + 1) xx).1, (xkids (fun y b => xtree f y b (d + 1)) k false (xparts k - (i + 1)) (i + 1) xx).2)) := by
                  unfold Hid
                  rw [HEQ.out, xkids_go _ _ _ _ _ _ hip HE0.out, HTT.out, HXX.out]
                  simp
                clear HX14 HG14b HK14 HT14 HR14 c3 f3 HTT HXX
                generalize w14.setCell ⟨tb, 3, none⟩ (.slice ao (l.length + 1) cap) = w15 at *
                clear hgt hiz
                go_wp2_with fail
                go_roundw
                case rel => exact ⟨i + 1, l ++ [tt], xx, .slice ao (l.length + 1) cap, by omega, by go_num, by rw [List.length_append]; simp; omega, HEQ2.out, HX15.out, HG15.out, HK15.out, HT15.out, HR15.out⟩
                case measure => simp [intOf] <;> omega
              · have HFL : Hid (xflag true k i = true) := by unfold Hid xflag; simp [hin, hq6]
                have HCM : Hid (xcomma k i xi = xi) := by show xcomma _ _ _ = _; unfold xcomma; rw [if_neg (by omega)]
                clear hin hi0 hq6 hq8 hk6
                have HXC0 : Hid (XIn wr R (xcomma k i xi)) := by rw [HCM.out]; exact HXI.out
                have HGC0 := HGI
                have HKC0 := HKI
                have HTC0 := HTI0
                have HRC0 := HRI
                clear HGI HKI HTI0 HRI HXI
                have HXC : Hid (XIn wr.drew R (xcomma k i xi)) := HXC0.out.below (bel_1 _)
                have HGC : Hid (Grew R none w wr.drew) := HGC0.out.drew
                have HKC : Hid (Blk wr.drew w.heap.size 33 #[.int .i64 0, .string ⟨#[]⟩, .int .i64 0, .slice none 0 0]) := HKC0.out
                have HTC : Hid (Blk wr.drew tb 33 #[.int .i64 k, .string hs, .int .i64 hn, v]) := HTC0.out
                have HRC : Hid (RowY wr.drew (tb + 1) l v) := HRC0.out.keep (Nat.le_refl _) (fun _ _ _ => rfl)
                clear HXC0 HGC0 HKC0 HTC0 HRC0
                go_wp2_with fail
                refine Mx.wp_region_mix4 (fun w' => Blk w' tb 33 #[.int .i64 k, .string hs, .int .i64 hn, v]) 22 [(0, false), (1, false), (2, false), (3, false), (4, false), (5, false), (6, false), (7, false), (8, false), (9, false), (10, false), (11, false), (12, false), (13, false), (14, false), (15, false), (16, false), (17, false), (18, true), (19, true), (20, true), (21, true), (22, true)] (by kernel_rfl) (by kernel_rfl) HTC.out ?_ (by kernel_rfl)
                simp only [List.map_cons, List.map_nil, List.getD_cons_zero, List.getD_cons_succ]
                generalize hops : (#[_, _, _, _, _, _, _, _, _, _, _, _, _, _, _, _, _, _, _, _, _, _, _] : Array Oper) = ops
                have HD4 : Hid ((ops[4]?).bind (·.dst) = some 93) := by rw [← hops]; exact rfl
                have HD7 : Hid ((ops[7]?).bind (·.dst) = some 96) := by rw [← hops]; exact rfl
                have HD10 : Hid ((ops[10]?).bind (·.dst) = some 99) := by rw [← hops]; exact rfl
                clear hops
                refine Mx.l_pure (.pointer (some ⟨tb, 3, none⟩)) (by decide) (Mx.wanted_none rfl) (fun w' hw' => ?_) ?_
                · go_simp
                simp only [Act.put, List.setIfInBounds_toArray, List.set_cons_zero, List.set_cons_succ]
                refine Mx.l_pure (v) (by decide) (Mx.wanted_none rfl) (fun w' hw' => ?_) ?_
                · have hc3 : w'.cell? ⟨tb, 3, none⟩ = some v := hw'.cell 3
                  go_simp
                simp only [Act.put, List.setIfInBounds_toArray, List.set_cons_zero, List.set_cons_succ]
                refine Mx.l_pure (.pointer (some ⟨R, 0, none⟩)) (by decide) (Mx.wanted_none rfl) (fun w' hw' => ?_) ?_
                · go_simp
                simp only [Act.put, List.setIfInBounds_toArray, List.set_cons_zero, List.set_cons_succ]
                refine Mx.l_pure (.bool true) (by decide) (Mx.wanted_none rfl) (fun w' hw' => ?_) ?_
                · go_simp
                simp only [Act.put, List.setIfInBounds_toArray, List.set_cons_zero, List.set_cons_succ]
                refine Mx.l_pure (.bool true) (by decide) (Mx.wanted_none rfl) (fun w' hw' => ?_) ?_
                · go_simp
                simp only [Act.put, List.setIfInBounds_toArray, List.set_cons_zero, List.set_cons_succ]
                refine Mx.l_skip (by decide) (Mx.unwanted_met 4 93 false true rfl HD4.out rfl rfl) ?_
                simp only [Act.put, List.setIfInBounds_toArray, List.set_cons_zero, List.set_cons_succ]
                refine Mx.l_skip (by decide) (Mx.unwanted_met 4 93 false true rfl HD4.out rfl rfl) ?_
                simp only [Act.put, List.setIfInBounds_toArray, List.set_cons_zero, List.set_cons_succ]
                refine Mx.l_skip (by decide) (Mx.unwanted_met 4 93 false true rfl HD4.out rfl rfl) ?_
                simp only [Act.put, List.setIfInBounds_toArray, List.set_cons_zero, List.set_cons_succ]
                refine Mx.l_skip (by decide) (Mx.unwanted_undef 7 96 true rfl HD7.out rfl) ?_
                simp only [Act.put, List.setIfInBounds_toArray, List.set_cons_zero, List.set_cons_succ]
                refine Mx.l_skip (by decide) (Mx.unwanted_undef 7 96 true rfl HD7.out rfl) ?_
                simp only [Act.put, List.setIfInBounds_toArray, List.set_cons_zero, List.set_cons_succ]
                refine Mx.l_skip (by decide) (Mx.unwanted_undef 7 96 true rfl HD7.out rfl) ?_
                simp only [Act.put, List.setIfInBounds_toArray, List.set_cons_zero, List.set_cons_succ]
                refine Mx.l_skip (by decide) (Mx.unwanted_undef 10 99 false rfl HD10.out rfl) ?_
                simp only [Act.put, List.setIfInBounds_toArray, List.set_cons_zero, List.set_cons_succ]
                refine Mx.l_skip (by decide) (Mx.unwanted_undef 10 99 false rfl HD10.out rfl) ?_
                simp only [Act.put, List.setIfInBounds_toArray, List.set_cons_zero, List.set_cons_succ]
                refine Mx.l_skip (by decide) (Mx.unwanted_undef 7 96 true rfl HD7.out rfl) ?_
                simp only [Act.put, List.setIfInBounds_toArray, List.set_cons_zero, List.set_cons_succ]
                refine Mx.l_skip (by decide) (Mx.unwanted_met 4 93 false true rfl HD4.out rfl rfl) ?_
                simp only [Act.put, List.setIfInBounds_toArray, List.set_cons_zero, List.set_cons_succ]
                refine Mx.l_pure (.bool true) (by decide) (Mx.wanted_none rfl) (fun w' hw' => ?_) ?_
                · go_simp
                simp only [Act.put, List.setIfInBounds_toArray, List.set_cons_zero, List.set_cons_succ]
                refine Mx.l_pure (.int .i64 d) (by decide) (Mx.wanted_none rfl) (fun w' hw' => ?_) ?_
                · go_simp
                simp only [Act.put, List.setIfInBounds_toArray, List.set_cons_zero, List.set_cons_succ]
                refine Mx.l_pure (.int .i64 ((d : Int) + 1)) (by decide) (Mx.wanted_none rfl) (fun w' hw' => ?_) ?_
                · go_simp
                simp only [Act.put, List.setIfInBounds_toArray, List.set_cons_zero, List.set_cons_succ]
                refine Mx.l_call 22 #[.pointer (some ⟨R, 0, none⟩), .bool true, .int .i64 ((d : Int) + 1)] (Mx.wanted_none rfl) ?_ ?_
                · go_simp
                refine (HREC.out (xcomma k i xi) true _ HXC.out).mono ?_
                rintro e w12 ⟨tv, rfl, ht12, hx12, hg12⟩
                rw [← HFL.out] at ht12 hx12
                have htv := ht12
                obtain ⟨ka, kc, rfl, hz1, hz2, hz3⟩ := htv
                clear hz1 hz2 hz3
                have HX12 := hidIn hx12
                have HG12 := hidIn (HGC.out.tr hg12)
                have HK12 := hidIn (HKC.out.grew hg12 hne)
                have HT12 := hidIn (HTC.out.grew hg12 (by have := HRT.out; omega))
                have HR12 := hidIn (HRC.out.grew hg12 (by have := HRT.out; omega))
                have HTI := hidIn ht12
                have HWC := hidIn HTC.out.lt
                have HOWN := hidIn HRC.out.own
                refine ⟨_, rfl, HT12.out, ?_⟩
                clear ht12 hx12 hg12
                obtain ⟨tt, htt⟩ : ∃ tt, (xtree f (xcomma k i xi) (xflag true k i) (d + 1)).1 = tt := ⟨_, rfl⟩
                rw [htt] at HTI
                rw [htt]
                obtain ⟨xx, hxx⟩ : ∃ xx, (xtree f (xcomma k i xi) (xflag true k i) (d + 1)).2 = xx := ⟨_, rfl⟩
                rw [hxx] at HX12
                have HTT := hidIn htt
                have HXX := hidIn hxx
                clear htt hxx
                simp only [Act.put, List.setIfInBounds_toArray, List.set_cons_zero, List.set_cons_succ]
                refine Mx.l_run (.slice (some ⟨w12.heap.size, 0, none⟩) 1 1) (Mx.wanted_none rfl) (w' := w12.alloc (.cells #[.int .i64 tt.kind, .string tt.s, .int .i64 tt.n, .slice ka tt.k.length kc] 33)) ?_ (blk_k HT12.out _) ?_
                · go_simp
                simp only [Act.put, List.setIfInBounds_toArray, List.set_cons_zero, List.set_cons_succ]
                obtain ⟨v', w14, hrun, hrow, hgrow, ao, cap, hv'⟩ := RowY.append (ty := 31) (HR12.out.keep (w' := w12.alloc (.cells #[.int .i64 tt.kind, .string tt.s, .int .i64 tt.n, .slice ka tt.k.length kc] 33)) (by simp) (fun q _ h2 => Below.heap_alloc _ _ _ h2)) (by omega) (by have := HT12.out.lt; simp; omega) tt ka kc w12.heap.size (heap_alloc_new _ _) (tin_off (HTI.out.below (below_alloc (Below.refl _ _) _)) (by have := HWC.out; simp at this ⊢; omega) (fun q hq => by have := (HOWN.out q hq).2; simpa using this))
                have HB13 : Hid (Below w12.heap.size w12 (w12.alloc (.cells #[.int .i64 tt.kind, .string tt.s, .int .i64 tt.n, .slice ka tt.k.length kc] 33))) := below_alloc (Below.refl _ _) _
                have hv2 := hv'
                generalize w12.alloc (.cells #[.int .i64 tt.kind, .string tt.s, .int .i64 tt.n, .slice ka tt.k.length kc] 33) = w13 at *
                have HOW2 : Hid (∀ q, v.ownBlock = some q → tb + 1 ≤ q) := fun q hq => (HOWN.out q hq).1
                have HG14 : Hid (∀ q, q < w13.heap.size → q ≤ tb → w14.heap[q]? = w13.heap[q]?) := fun q h1 h2 => hgrow.block q h1 (fun e => by have := HOW2.out q e.symm; omega)
                have HT13 : Hid (Blk w13 tb 33 #[.int .i64 k, .string hs, .int .i64 hn, v]) := HT12.out.grew (Grew.of_below (M := R) HB13.out) (by have := HRT.out; omega)
                have HK13 : Hid (Blk w13 w.heap.size 33 #[.int .i64 0, .string ⟨#[]⟩, .int .i64 0, .slice none 0 0]) := HK12.out.grew (Grew.of_below (M := R) HB13.out) hne
                have HT14 : Hid (Blk w14 tb 33 #[.int .i64 k, .string hs, .int .i64 hn, v]) := (HG14.out tb HT13.out.lt (Nat.le_refl _)).trans HT13.out
                have HK14 : Hid (Blk w14 w.heap.size 33 #[.int .i64 0, .string ⟨#[]⟩, .int .i64 0, .slice none 0 0]) := (HG14.out w.heap.size HK13.out.lt HWL.out).trans HK13.out
                have HX14 : Hid (XIn w14 R xx) := (HX12.out.below HB13.out).upto hgrow.size (fun q hq => HG14.out q (by have := HT13.out.lt; have := HRT.out; omega) (by have := HRT.out; omega))
                have HG14b : Hid (Grew R none w w14) := (HG12.out.tr (Grew.of_below HB13.out)).trans (Grew.of_grown hgrow) (.inr (fun q hq => by have := HOW2.out q hq; have := HWL.out; omega))
                have HR14 := hidIn hrow
                clear hgrow hrow HB13 HG14 HT13 HK13 HX12 HG12 HK12 HT12 HR12 HTI HWC HOWN HOW2
                refine Mx.l_run v' (Mx.wanted_none rfl) (w' := w14) ?_ HT14.out ?_
                · simp [execOp, resolve, invoke, builtin, Act.eval, hrun]
                have c3 : w14.cell? ⟨tb, 3, none⟩ = some v := HT14.out.cell 3
                have f3 : w14.frozen? ⟨tb, 3, none⟩ = false := HT14.out.frozen 3
                clear hrun
                subst hv2
                simp only [Act.put, List.setIfInBounds_toArray, List.set_cons_zero, List.set_cons_succ]
                refine Mx.l_run (.pointer (some ⟨tb, 3, none⟩)) (Mx.wanted_none rfl) (w' := w14) ?_ HT14.out ?_
                · go_simp
                simp only [Act.put, List.setIfInBounds_toArray, List.set_cons_zero, List.set_cons_succ]
                refine Mx.l_last (w' := w14.setCell ⟨tb, 3, none⟩ (.slice ao (l.length + 1) cap)) (Mx.wanted_none rfl) ?_ ?_
                · go_simp
                simp only [Act.put]
                have HX15 := hidIn (HX14.out.other HRT.out 3 (.slice ao (l.length + 1) cap))
                have HG15 := hidIn (HG14b.out.setNew HWL.out 3 (.slice ao (l.length + 1) cap))
                have HK15 := hidIn (HK14.out.other HWT.out 3 (.slice ao (l.length + 1) cap))
                have HT15 : Hid (Blk (w14.setCell ⟨tb, 3, none⟩ (.slice ao (l.length + 1) cap)) tb 33 #[.int .i64 k, .string hs, .int .i64 hn, .slice ao (l.length + 1) cap]) := HT14.out.set 3 _
                have HR15 := hidIn (HR14.out.set (i := 3) (x := .slice ao (l.length + 1) cap) (Nat.lt_succ_self tb))
                have HEQ2 : Hid (xkids (fun y b => xtree f y b (d + 1)) k true (xparts k) 0 xh = ((l ++ [tt]) ++ (xkids (fun y b => xtree f y b (d + 1)) k true (xparts k - (i + 1)) (i + 1) xx).1, (xkids (fun y b => xtree f y b (d + 1)) k true (xparts k - (i + 1)) (i + 1) xx).2)) := by
                  unfold Hid
                  rw [HEQ.out, xkids_go _ _ _ _ _ _ hip HE0.out, HTT.out, HXX.out]
                  simp
                clear HX14 HG14b HK14 HT14 HR14 c3 f3 HTT HXX
                generalize w14.setCell ⟨tb, 3, none⟩ (.slice ao (l.length + 1) cap) = w15 at *
                clear hgt hiz
                go_wp2_with fail
                go_roundw
                case rel => exact ⟨i + 1, l ++ [tt], xx, .slice ao (l.length + 1) cap, by omega, by go_num, by rw [List.length_append]; simp; omega, HEQ2.out, HX15.out, HG15.out, HK15.out, HT15.out, HR15.out⟩
                case measure => simp [intOf] <;> omega
            by_cases hk8 : k = 8
            · have hq6 : ¬ k = 6 := by omega
              have hq8 : k = 8 := by omega
              have hkk5 : (k == 5) = false := by rw [beq_eq_false_iff_ne]; omega
              have hkk7 : (k == 7) = false := by rw [beq_eq_false_iff_ne]; omega
              have hkk6 : (k == 6) = false := by rw [beq_eq_false_iff_ne]; omega
              have hkk8 : (k == 8) = true := by rw [beq_iff_eq]; omega
              cases number
              · have HFL : Hid (xflag false k i = true) := by unfold Hid xflag; simp [hin, hq8]
                have HCM : Hid (xcomma k i xi = xi) := by show xcomma _ _ _ = _; unfold xcomma; rw [if_neg (by omega)]
                clear hin hi0 hq6 hq8 hk8
                have HXC0 : Hid (XIn wr R (xcomma k i xi)) := by rw [HCM.out]; exact HXI.out
                have HGC0 := HGI
                have HKC0 := HKI
                have HTC0 := HTI0
                have HRC0 := HRI
                clear HGI HKI HTI0 HRI HXI
                have HXC : Hid (XIn wr.drew R (xcomma k i xi)) := HXC0.out.below (bel_1 _)
                have HGC : Hid (Grew R none w wr.drew) := HGC0.out.drew
                have HKC : Hid (Blk wr.drew w.heap.size 33 #[.int .i64 0, .string ⟨#[]⟩, .int .i64 0, .slice none 0 0]) := HKC0.out
                have HTC : Hid (Blk wr.drew tb 33 #[.int .i64 k, .string hs, .int .i64 hn, v]) := HTC0.out
                have HRC : Hid (RowY wr.drew (tb + 1) l v) := HRC0.out.keep (Nat.le_refl _) (fun _ _ _ => rfl)
                clear HXC0 HGC0 HKC0 HTC0 HRC0
                go_wp2_with fail
                refine Mx.wp_region_mix4 (fun w' => Blk w' tb 33 #[.int .i64 k, .string hs, .int .i64 hn, v]) 22 [(0, false), (1, false), (2, false), (3, false), (4, false), (5, false), (6, false), (7, false), (8, false), (9, false), (10, false), (11, false), (12, false), (13, false), (14, false), (15, false), (16, false), (17, false), (18, true), (19, true), (20, true), (21, true), (22, true)] (by kernel_rfl) (by kernel_rfl) HTC.out ?_ (by kernel_rfl)
                simp only [List.map_cons, List.map_nil, List.getD_cons_zero, List.getD_cons_succ]
                generalize hops : (#[_, _, _, _, _, _, _, _, _, _, _, _, _, _, _, _, _, _, _, _, _, _, _] : Array Oper) = ops
                have HD4 : Hid ((ops[4]?).bind (·.dst) = some 93) := by rw [← hops]; exact rfl
                have HD7 : Hid ((ops[7]?).bind (·.dst) = some 96) := by rw [← hops]; exact rfl
                have HD10 : Hid ((ops[10]?).bind (·.dst) = some 99) := by rw [← hops]; exact rfl
                clear hops
                refine Mx.l_pure (.pointer (some ⟨tb, 3, none⟩)) (by decide) (Mx.wanted_none rfl) (fun w' hw' => ?_) ?_
                · go_simp
                simp only [Act.put, List.setIfInBounds_toArray, List.set_cons_zero, List.set_cons_succ]
                refine Mx.l_pure (v) (by decide) (Mx.wanted_none rfl) (fun w' hw' => ?_) ?_
                · have hc3 : w'.cell? ⟨tb, 3, none⟩ = some v := hw'.cell 3
                  go_simp
                simp only [Act.put, List.setIfInBounds_toArray, List.set_cons_zero, List.set_cons_succ]
                refine Mx.l_pure (.pointer (some ⟨R, 0, none⟩)) (by decide) (Mx.wanted_none rfl) (fun w' hw' => ?_) ?_
                · go_simp
                simp only [Act.put, List.setIfInBounds_toArray, List.set_cons_zero, List.set_cons_succ]
                refine Mx.l_pure (.bool false) (by decide) (Mx.wanted_none rfl) (fun w' hw' => ?_) ?_
                · go_simp
                simp only [Act.put, List.setIfInBounds_toArray, List.set_cons_zero, List.set_cons_succ]
                refine Mx.l_pure (.bool false) (by decide) (Mx.wanted_none rfl) (fun w' hw' => ?_) ?_
                · go_simp
                simp only [Act.put, List.setIfInBounds_toArray, List.set_cons_zero, List.set_cons_succ]
                refine Mx.l_pure (.int .i64 i) (by decide) (Mx.wanted_met 4 93 false rfl HD4.out rfl) (fun w' hw' => ?_) ?_
                · go_simp
                simp only [Act.put, List.setIfInBounds_toArray, List.set_cons_zero, List.set_cons_succ]
                refine Mx.l_pure (.bool true) (by decide) (Mx.wanted_met 4 93 false rfl HD4.out rfl) (fun w' hw' => ?_) ?_
                · go_simp
                simp only [Act.put, List.setIfInBounds_toArray, List.set_cons_zero, List.set_cons_succ]
                refine Mx.l_pure (.bool true) (by decide) (Mx.wanted_met 4 93 false rfl HD4.out rfl) (fun w' hw' => ?_) ?_
                · go_simp
                simp only [Act.put, List.setIfInBounds_toArray, List.set_cons_zero, List.set_cons_succ]
                refine Mx.l_pure (.int .i64 k) (by decide) (Mx.wanted_met 7 96 true rfl HD7.out rfl) (fun w' hw' => ?_) ?_
                · go_simp
                simp only [Act.put, List.setIfInBounds_toArray, List.set_cons_zero, List.set_cons_succ]
                refine Mx.l_pure (.bool false) (by decide) (Mx.wanted_met 7 96 true rfl HD7.out rfl) (fun w' hw' => ?_) ?_
                · go_simp
                simp only [Act.put, List.setIfInBounds_toArray, List.set_cons_zero, List.set_cons_succ]
                refine Mx.l_pure (.bool false) (by decide) (Mx.wanted_met 7 96 true rfl HD7.out rfl) (fun w' hw' => ?_) ?_
                · go_simp
                simp only [Act.put, List.setIfInBounds_toArray, List.set_cons_zero, List.set_cons_succ]
                refine Mx.l_pure (.int .i64 k) (by decide) (Mx.wanted_met 10 99 false rfl HD10.out rfl) (fun w' hw' => ?_) ?_
                · go_simp
                simp only [Act.put, List.setIfInBounds_toArray, List.set_cons_zero, List.set_cons_succ]
                refine Mx.l_pure (.bool true) (by decide) (Mx.wanted_met 10 99 false rfl HD10.out rfl) (fun w' hw' => ?_) ?_
                · go_simp
                simp only [Act.put, List.setIfInBounds_toArray, List.set_cons_zero, List.set_cons_succ]
                refine Mx.l_pure (.bool true) (by decide) (Mx.wanted_met 7 96 true rfl HD7.out rfl) (fun w' hw' => ?_) ?_
                · go_simp
                simp only [Act.put, List.setIfInBounds_toArray, List.set_cons_zero, List.set_cons_succ]
                refine Mx.l_pure (.bool true) (by decide) (Mx.wanted_met 4 93 false rfl HD4.out rfl) (fun w' hw' => ?_) ?_
                · go_simp
                simp only [Act.put, List.setIfInBounds_toArray, List.set_cons_zero, List.set_cons_succ]
                refine Mx.l_pure (.bool true) (by decide) (Mx.wanted_none rfl) (fun w' hw' => ?_) ?_
                · go_simp
                simp only [Act.put, List.setIfInBounds_toArray, List.set_cons_zero, List.set_cons_succ]
                refine Mx.l_pure (.int .i64 d) (by decide) (Mx.wanted_none rfl) (fun w' hw' => ?_) ?_
                · go_simp
                simp only [Act.put, List.setIfInBounds_toArray, List.set_cons_zero, List.set_cons_succ]
                refine Mx.l_pure (.int .i64 ((d : Int) + 1)) (by decide) (Mx.wanted_none rfl) (fun w' hw' => ?_) ?_
                · go_simp
                simp only [Act.put, List.setIfInBounds_toArray, List.set_cons_zero, List.set_cons_succ]
                refine Mx.l_call 22 #[.pointer (some ⟨R, 0, none⟩), .bool true, .int .i64 ((d : Int) + 1)] (Mx.wanted_none rfl) ?_ ?_
                · go_simp
                refine (HREC.out (xcomma k i xi) true _ HXC.out).mono ?_
                rintro e w12 ⟨tv, rfl, ht12, hx12, hg12⟩
                rw [← HFL.out] at ht12 hx12
                have htv := ht12
                obtain ⟨ka, kc, rfl, hz1, hz2, hz3⟩ := htv
                clear hz1 hz2 hz3
                have HX12 := hidIn hx12
                have HG12 := hidIn (HGC.out.tr hg12)
                have HK12 := hidIn (HKC.out.grew hg12 hne)
                have HT12 := hidIn (HTC.out.grew hg12 (by have := HRT.out; omega))
                have HR12 := hidIn (HRC.out.grew hg12 (by have := HRT.out; omega))
                have HTI := hidIn ht12
                have HWC := hidIn HTC.out.lt
                have HOWN := hidIn HRC.out.own
                refine ⟨_, rfl, HT12.out, ?_⟩
                clear ht12 hx12 hg12
                obtain ⟨tt, htt⟩ : ∃ tt, (xtree f (xcomma k i xi) (xflag false k i) (d + 1)).1 = tt := ⟨_, rfl⟩
                rw [htt] at HTI
                rw [htt]
                obtain ⟨xx, hxx⟩ : ∃ xx, (xtree f (xcomma k i xi) (xflag false k i) (d + 1)).2 = xx := ⟨_, rfl⟩
                rw [hxx] at HX12
                have HTT := hidIn htt
                have HXX := hidIn hxx
                clear htt hxx
                simp only [Act.put, List.setIfInBounds_toArray, List.set_cons_zero, List.set_cons_succ]
                refine Mx.l_run (.slice (some ⟨w12.heap.size, 0, none⟩) 1 1) (Mx.wanted_none rfl) (w' := w12.alloc (.cells #[.int .i64 tt.kind, .string tt.s, .int .i64 tt.n, .slice ka tt.k.length kc] 33)) ?_ (blk_k HT12.out _) ?_
                · go_simp
                simp only [Act.put, List.setIfInBounds_toArray, List.set_cons_zero, List.set_cons_succ]
                obtain ⟨v', w14, hrun, hrow, hgrow, ao, cap, hv'⟩ := RowY.append (ty := 31) (HR12.out.keep (w' := w12.alloc (.cells #[.int .i64 tt.kind, .string tt.s, .int .i64 tt.n, .slice ka tt.k.length kc] 33)) (by simp) (fun q _ h2 => Below.heap_alloc _ _ _ h2)) (by omega) (by have := HT12.out.lt; simp; omega) tt ka kc w12.heap.size (heap_alloc_new _ _) (tin_off (HTI.out.below (below_alloc (Below.refl _ _) _)) (by have := HWC.out; simp at this ⊢; omega) (fun q hq => by have := (HOWN.out q hq).2; simpa using this))
                have HB13 : Hid (Below w12.heap.size w12 (w12.alloc (.cells #[.int .i64 tt.kind, .string tt.s, .int .i64 tt.n, .slice ka tt.k.length kc] 33))) := below_alloc (Below.refl _ _) _
                have hv2 := hv'
                generalize w12.alloc (.cells #[.int .i64 tt.kind, .string tt.s, .int .i64 tt.n, .slice ka tt.k.length kc] 33) = w13 at *
                have HOW2 : Hid (∀ q, v.ownBlock = some q → tb + 1 ≤ q) := fun q hq => (HOWN.out q hq).1
                have HG14 : Hid (∀ q, q < w13.heap.size → q ≤ tb → w14.heap[q]? = w13.heap[q]?) := fun q h1 h2 => hgrow.block q h1 (fun e => by have := HOW2.out q e.symm; omega)
                have HT13 : Hid (Blk w13 tb 33 #[.int .i64 k, .string hs, .int .i64 hn, v]) := HT12.out.grew (Grew.of_below (M := R) HB13.out) (by have := HRT.out; omega)
                have HK13 : Hid (Blk w13 w.heap.size 33 #[.int .i64 0, .string ⟨#[]⟩, .int .i64 0, .slice none 0 0]) := HK12.out.grew (Grew.of_below (M := R) HB13.out) hne
                have HT14 : Hid (Blk w14 tb 33 #[.int .i64 k, .string hs, .int .i64 hn, v]) := (HG14.out tb HT13.out.lt (Nat.le_refl _)).trans HT13.out
                have HK14 : Hid (Blk w14 w.heap.size 33 #[.int .i64 0, .string ⟨#[]⟩, .int .i64 0, .slice none 0 0]) := (HG14.out w.heap.size HK13.out.lt HWL.out).trans HK13.out
                have HX14 : Hid (XIn w14 R xx) := (HX12.out.below HB13.out).upto hgrow.size (fun q hq => HG14.out q (by have := HT13.out.lt; have := HRT.out; omega) (by have := HRT.out; omega))
                have HG14b : Hid (Grew R none w w14) := (HG12.out.tr (Grew.of_below HB13.out)).trans (Grew.of_grown hgrow) (.inr (fun q hq => by have := HOW2.out q hq; have := HWL.out; omega))
                have HR14 := hidIn hrow
                clear hgrow hrow HB13 HG14 HT13 HK13 HX12 HG12 HK12 HT12 HR12 HTI HWC HOWN HOW2
                refine Mx.l_run v' (Mx.wanted_none rfl) (w' := w14) ?_ HT14.out ?_
                · simp [execOp, resolve, invoke, builtin, Act.eval, hrun]
                have c3 : w14.cell? ⟨tb, 3, none⟩ = some v := HT14.out.cell 3
                have f3 : w14.frozen? ⟨tb, 3, none⟩ = false := HT14.out.frozen 3
                clear hrun
                subst hv2
                simp only [Act.put, List.setIfInBounds_toArray, List.set_cons_zero, List.set_cons_succ]
                refine Mx.l_run (.pointer (some ⟨tb, 3, none⟩)) (Mx.wanted_none rfl) (w' := w14) ?_ HT14.out ?_
                · go_simp
                simp only [Act.put, List.setIfInBounds_toArray, List.set_cons_zero, List.set_cons_succ]
                refine Mx.l_last (w' := w14.setCell ⟨tb, 3, none⟩ (.slice ao (l.length + 1) cap)) (Mx.wanted_none rfl) ?_ ?_
                · go_simp
                simp only [Act.put]
                have HX15 := hidIn (HX14.out.other HRT.out 3 (.slice ao (l.length + 1) cap))
                have HG15 := hidIn (HG14b.out.setNew HWL.out 3 (.slice ao (l.length + 1) cap))
                have HK15 := hidIn (HK14.out.other HWT.out 3 (.slice ao (l.length + 1) cap))
                have HT15 : Hid (Blk (w14.setCell ⟨tb, 3, none⟩ (.slice ao (l.length + 1) cap)) tb 33 #[.int .i64 k, .string hs, .int .i64 hn, .slice ao (l.length + 1) cap]) := HT14.out.set 3 _
                have HR15 := hidIn (HR14.out.set (i := 3) (x := .slice ao (l.length + 1) cap) (Nat.lt_succ_self tb))
                have HEQ2 : Hid (xkids (fun y b => xtree f y b (d + 1)) k false (xparts k) 0 xh = ((l ++ [tt]) ++ (xkids (fun y b => xtree f y b (d + 1)) k false (xparts k - (i + 1)) (i + 1) xx).1, (xkids (fun y b => xtree f y b (d + 1)) k false (xparts k - (i + 1)) (i + 1) xx).2)) := by
                  unfold Hid
                  rw [HEQ.out, xkids_go _ _ _ _ _ _ hip HE0.out, HTT.out, HXX.out]
                  simp
                clear HX14 HG14b HK14 HT14 HR14 c3 f3 HTT HXX
                generalize w14.setCell ⟨tb, 3, none⟩ (.slice ao (l.length + 1) cap) = w15 at *
                clear hgt hiz
                go_wp2_with fail
                go_roundw
                case rel => exact ⟨i + 1, l ++ [tt], xx, .slice ao (l.length + 1) cap, by omega, by go_num, by rw [List.length_append]; simp; omega, HEQ2.out, HX15.out, HG15.out, HK15.out, HT15.out, HR15.out⟩
                case measure => simp [intOf] <;> omega
              · have HFL : Hid (xflag true k i = true) := by unfold Hid xflag; simp [hin, hq8]
                have HCM : Hid (xcomma k i xi = xi) := by show xcomma _ _ _ = _; unfold xcomma; rw [if_neg (by omega)]
                clear hin hi0 hq6 hq8 hk8
                have HXC0 : Hid (XIn wr R (xcomma k i xi)) := by rw [HCM.out]; exact HXI.out
                have HGC0 := HGI
                have HKC0 := HKI
                have HTC0 := HTI0
                have HRC0 := HRI
                clear HGI HKI HTI0 HRI HXI
                have HXC : Hid (XIn wr.drew R (xcomma k i xi)) := HXC0.out.below (bel_1 _)
                have HGC : Hid (Grew R none w wr.drew) := HGC0.out.drew
                have HKC : Hid (Blk wr.drew w.heap.size 33 #[.int .i64 0, .string ⟨#[]⟩, .int .i64 0, .slice none 0 0]) := HKC0.out
                have HTC : Hid (Blk wr.drew tb 33 #[.int .i64 k, .string hs, .int .i64 hn, v]) := HTC0.out
                have HRC : Hid (RowY wr.drew (tb + 1) l v) := HRC0.out.keep (Nat.le_refl _) (fun _ _ _ => rfl)
                clear HXC0 HGC0 HKC0 HTC0 HRC0
                go_wp2_with fail
                refine Mx.wp_region_mix4 (fun w' => Blk w' tb 33 #[.int .i64 k, .string hs, .int .i64 hn, v]) 22 [(0, false), (1, false), (2, false), (3, false), (4, false), (5, false), (6, false), (7, false), (8, false), (9, false), (10, false), (11, false), (12, false), (13, false), (14, false), (15, false), (16, false), (17, false), (18, true), (19, true), (20, true), (21, true), (22, true)] (by kernel_rfl) (by kernel_rfl) HTC.out ?_ (by kernel_rfl)
                simp only [List.map_cons, List.map_nil, List.getD_cons_zero, List.getD_cons_succ]
                generalize hops : (#[_, _, _, _, _, _, _, _, _, _, _, _, _, _, _, _, _, _, _, _, _, _, _] : Array Oper) = ops
                have HD4 : Hid ((ops[4]?).bind (·.dst) = some 93) := by rw [← hops]; exact rfl
                have HD7 : Hid ((ops[7]?).bind (·.dst) = some 96) := by rw [← hops]; exact rfl
                have HD10 : Hid ((ops[10]?).bind (·.dst) = some 99) := by rw [← hops]; exact rfl
                clear hops
                refine Mx.l_pure (.pointer (some ⟨tb, 3, none⟩)) (by decide) (Mx.wanted_none rfl) (fun w' hw' => ?_) ?_
                · go_simp
                simp only [Act.put, List.setIfInBounds_toArray, List.set_cons_zero, List.set_cons_succ]
                refine Mx.l_pure (v) (by decide) (Mx.wanted_none rfl) (fun w' hw' => ?_) ?_
                · have hc3 : w'.cell? ⟨tb, 3, none⟩ = some v := hw'.cell 3
                  go_simp
                simp only [Act.put, List.setIfInBounds_toArray, List.set_cons_zero, List.set_cons_succ]
                refine Mx.l_pure (.pointer (some ⟨R, 0, none⟩)) (by decide) (Mx.wanted_none rfl) (fun w' hw' => ?_) ?_
                · go_simp
                simp only [Act.put, List.setIfInBounds_toArray, List.set_cons_zero, List.set_cons_succ]
                refine Mx.l_pure (.bool true) (by decide) (Mx.wanted_none rfl) (fun w' hw' => ?_) ?_
                · go_simp
                simp only [Act.put, List.setIfInBounds_toArray, List.set_cons_zero, List.set_cons_succ]
                refine Mx.l_pure (.bool true) (by decide) (Mx.wanted_none rfl) (fun w' hw' => ?_) ?_
                · go_simp
                simp only [Act.put, List.setIfInBounds_toArray, List.set_cons_zero, List.set_cons_succ]
                refine Mx.l_skip (by decide) (Mx.unwanted_met 4 93 false true rfl HD4.out rfl rfl) ?_
                simp only [Act.put, List.setIfInBounds_toArray, List.set_cons_zero, List.set_cons_succ]
                refine Mx.l_skip (by decide) (Mx.unwanted_met 4 93 false true rfl HD4.out rfl rfl) ?_
                simp only [Act.put, List.setIfInBounds_toArray, List.set_cons_zero, List.set_cons_succ]
                refine Mx.l_skip (by decide) (Mx.unwanted_met 4 93 false true rfl HD4.out rfl rfl) ?_
                simp only [Act.put, List.setIfInBounds_toArray, List.set_cons_zero, List.set_cons_succ]
                refine Mx.l_skip (by decide) (Mx.unwanted_undef 7 96 true rfl HD7.out rfl) ?_
                simp only [Act.put, List.setIfInBounds_toArray, List.set_cons_zero, List.set_cons_succ]
                refine Mx.l_skip (by decide) (Mx.unwanted_undef 7 96 true rfl HD7.out rfl) ?_
                simp only [Act.put, List.setIfInBounds_toArray, List.set_cons_zero, List.set_cons_succ]
                refine Mx.l_skip (by decide) (Mx.unwanted_undef 7 96 true rfl HD7.out rfl) ?_
                simp only [Act.put, List.setIfInBounds_toArray, List.set_cons_zero, List.set_cons_succ]
                refine Mx.l_skip (by decide) (Mx.unwanted_undef 10 99 false rfl HD10.out rfl) ?_
                simp only [Act.put, List.setIfInBounds_toArray, List.set_cons_zero, List.set_cons_succ]
                refine Mx.l_skip (by decide) (Mx.unwanted_undef 10 99 false rfl HD10.out rfl) ?_
                simp only [Act.put, List.setIfInBounds_toArray, List.set_cons_zero, List.set_cons_succ]
                refine Mx.l_skip (by decide) (Mx.unwanted_undef 7 96 true rfl HD7.out rfl) ?_
                simp only [Act.put, List.setIfInBounds_toArray, List.set_cons_zero, List.set_cons_succ]
                refine Mx.l_skip (by decide) (Mx.unwanted_met 4 93 false true rfl HD4.out rfl rfl) ?_
                simp only [Act.put, List.setIfInBounds_toArray, List.set_cons_zero, List.set_cons_succ]
                refine Mx.l_pure (.bool true) (by decide) (Mx.wanted_none rfl) (fun w' hw' => ?_) ?_
                · go_simp
                simp only [Act.put, List.setIfInBounds_toArray, List.set_cons_zero, List.set_cons_succ]
                refine Mx.l_pure (.int .i64 d) (by decide) (Mx.wanted_none rfl) (fun w' hw' => ?_) ?_
                · go_simp
                simp only [Act.put, List.setIfInBounds_toArray, List.set_cons_zero, List.set_cons_succ]
                refine Mx.l_pure (.int .i64 ((d : Int) + 1)) (by decide) (Mx.wanted_none rfl) (fun w' hw' => ?_) ?_
                · go_simp
                simp only [Act.put, List.setIfInBounds_toArray, List.set_cons_zero, List.set_cons_succ]
                refine Mx.l_call 22 #[.pointer (some ⟨R, 0, none⟩), .bool true, .int .i64 ((d : Int) + 1)] (Mx.wanted_none rfl) ?_ ?_
                · go_simp
                refine (HREC.out (xcomma k i xi) true _ HXC.out).mono ?_
                rintro e w12 ⟨tv, rfl, ht12, hx12, hg12⟩
                rw [← HFL.out] at ht12 hx12
                have htv := ht12
                obtain ⟨ka, kc, rfl, hz1, hz2, hz3⟩ := htv
                clear hz1 hz2 hz3
                have HX12 := hidIn hx12
                have HG12 := hidIn (HGC.out.tr hg12)
                have HK12 := hidIn (HKC.out.grew hg12 hne)
                have HT12 := hidIn (HTC.out.grew hg12 (by have := HRT.out; omega))
                have HR12 := hidIn (HRC.out.grew hg12 (by have := HRT.out; omega))
                have HTI := hidIn ht12
                have HWC := hidIn HTC.out.lt
                have HOWN := hidIn HRC.out.own
                refine ⟨_, rfl, HT12.out, ?_⟩
                clear ht12 hx12 hg12
                obtain ⟨tt, htt⟩ : ∃ tt, (xtree f (xcomma k i xi) (xflag true k i) (d + 1)).1 = tt := ⟨_, rfl⟩
                rw [htt] at HTI
                rw [htt]
                obtain ⟨xx, hxx⟩ : ∃ xx, (xtree f (xcomma k i xi) (xflag true k i) (d + 1)).2 = xx := ⟨_, rfl⟩
                rw [hxx] at HX12
                have HTT := hidIn htt
                have HXX := hidIn hxx
                clear htt hxx
                simp only [Act.put, List.setIfInBounds_toArray, List.set_cons_zero, List.set_cons_succ]
                refine Mx.l_run (.slice (some ⟨w12.heap.size, 0, none⟩) 1 1) (Mx.wanted_none rfl) (w' := w12.alloc (.cells #[.int .i64 tt.kind, .string tt.s, .int .i64 tt.n, .slice ka tt.k.length kc] 33)) ?_ (blk_k HT12.out _) ?_
                · go_simp
                simp only [Act.put, List.setIfInBounds_toArray, List.set_cons_zero, List.set_cons_succ]
                obtain ⟨v', w14, hrun, hrow, hgrow, ao, cap, hv'⟩ := RowY.append (ty := 31) (HR12.out.keep (w' := w12.alloc (.cells #[.int .i64 tt.kind, .string tt.s, .int .i64 tt.n, .slice ka tt.k.length kc] 33)) (by simp) (fun q _ h2 => Below.heap_alloc _ _ _ h2)) (by omega) (by have := HT12.out.lt; simp; omega) tt ka kc w12.heap.size (heap_alloc_new _ _) (tin_off (HTI.out.below (below_alloc (Below.refl _ _) _)) (by have := HWC.out; simp at this ⊢; omega) (fun q hq => by have := (HOWN.out q hq).2; simpa using this))
                have HB13 : Hid (Below w12.heap.size w12 (w12.alloc (.cells #[.int .i64 tt.kind, .string tt.s, .int .i64 tt.n, .slice ka tt.k.length kc] 33))) := below_alloc (Below.refl _ _) _
                have hv2 := hv'
                generalize w12.alloc (.cells #[.int .i64 tt.kind, .string tt.s, .int .i64 tt.n, .slice ka tt.k.length kc] 33) = w13 at *
                have HOW2 : Hid (∀ q, v.ownBlock = some q → tb + 1 ≤ q) := fun q hq => (HOWN.out q hq).1
                have HG14 : Hid (∀ q, q < w13.heap.size → q ≤ tb → w14.heap[q]? = w13.heap[q]?) := fun q h1 h2 => hgrow.block q h1 (fun e => by have := HOW2.out q e.symm; omega)
                have HT13 : Hid (Blk w13 tb 33 #[.int .i64 k, .string hs, .int .i64 hn, v]) := HT12.out.grew (Grew.of_below (M := R) HB13.out) (by have := HRT.out; omega)
                have HK13 : Hid (Blk w13 w.heap.size 33 #[.int .i64 0, .string ⟨#[]⟩, .int .i64 0, .slice none 0 0]) := HK12.out.grew (Grew.of_below (M := R) HB13.out) hne
                have HT14 : Hid (Blk w14 tb 33 #[.int .i64 k, .string hs, .int .i64 hn, v]) := (HG14.out tb HT13.out.lt (Nat.le_refl _)).trans HT13.out
                have HK14 : Hid (Blk w14 w.heap.size 33 #[.int .i64 0, .string ⟨#[]⟩, .int .i64 0, .slice none 0 0]) := (HG14.out w.heap.size HK13.out.lt HWL.out).trans HK13.out
                have HX14 : Hid (XIn w14 R xx) := (HX12.out.below HB13.out).upto hgrow.size (fun q hq => HG14.out q (by have := HT13.out.lt; have := HRT.out; omega) (by have := HRT.out; omega))
                have HG14b : Hid (Grew R none w w14) := (HG12.out.tr (Grew.of_below HB13.out)).trans (Grew.of_grown hgrow) (.inr (fun q hq => by have := HOW2.out q hq; have := HWL.out; omega))
                have HR14 := hidIn hrow
                clear hgrow hrow HB13 HG14 HT13 HK13 HX12 HG12 HK12 HT12 HR12 HTI HWC HOWN HOW2
                refine Mx.l_run v' (Mx.wanted_none rfl) (w' := w14) ?_ HT14.out ?_
                · simp [execOp, resolve, invoke, builtin, Act.eval, hrun]
                have c3 : w14.cell? ⟨tb, 3, none⟩ = some v := HT14.out.cell 3
                have f3 : w14.frozen? ⟨tb, 3, none⟩ = false := HT14.out.frozen 3
                clear hrun
                subst hv2
                simp only [Act.put, List.setIfInBounds_toArray, List.set_cons_zero, List.set_cons_succ]
                refine Mx.l_run (.pointer (some ⟨tb, 3, none⟩)) (Mx.wanted_none rfl) (w' := w14) ?_ HT14.out ?_
                · go_simp
                simp only [Act.put, List.setIfInBounds_toArray, List.set_cons_zero, List.set_cons_succ]
                refine Mx.l_last (w' := w14.setCell ⟨tb, 3, none⟩ (.slice ao (l.length + 1) cap)) (Mx.wanted_none rfl) ?_ ?_
                · go_simp
                simp only [Act.put]
                have HX15 := hidIn (HX14.out.other HRT.out 3 (.slice ao (l.length + 1) cap))
                have HG15 := hidIn (HG14b.out.setNew HWL.out 3 (.slice ao (l.length + 1) cap))
                have HK15 := hidIn (HK14.out.other HWT.out 3 (.slice ao (l.length + 1) cap))
                have HT15 : Hid (Blk (w14.setCell ⟨tb, 3, none⟩ (.slice ao (l.length + 1) cap)) tb 33 #[.int .i64 k, .string hs, .int .i64 hn, .slice ao (l.length + 1) cap]) := HT14.out.set 3 _
                have HR15 := hidIn (HR14.out.set (i := 3) (x := .slice ao (l.length + 1) cap) (Nat.lt_succ_self tb))
                have HEQ2 : Hid (xkids (fun y b => xtree f y b (d + 1)) k true (xparts k) 0 xh = ((l ++ [tt]) ++ (xkids (fun y b => xtree f y b (d + 1)) k true (xparts k - (i + 1)) (i + 1) xx).1, (xkids (fun y b => xtree f y b (d + 1)) k true (xparts k - (i + 1)) (i + 1) xx).2)) := by
                  unfold Hid
                  rw [HEQ.out, xkids_go _ _ _ _ _ _ hip HE0.out, HTT.out, HXX.out]
                  simp
                clear HX14 HG14b HK14 HT14 HR14 c3 f3 HTT HXX
                generalize w14.setCell ⟨tb, 3, none⟩ (.slice ao (l.length + 1) cap) = w15 at *
                clear hgt hiz
                go_wp2_with fail
                go_roundw
                case rel => exact ⟨i + 1, l ++ [tt], xx, .slice ao (l.length + 1) cap, by omega, by go_num, by rw [List.length_append]; simp; omega, HEQ2.out, HX15.out, HG15.out, HK15.out, HT15.out, HR15.out⟩
                case measure => simp [intOf] <;> omega
            have hkk5 : (k == 5) = false := by rw [beq_eq_false_iff_ne]; omega
            have hkk7 : (k == 7) = false := by rw [beq_eq_false_iff_ne]; omega
            have hkk6 : (k == 6) = false := by rw [beq_eq_false_iff_ne]; omega
            have hkk8 : (k == 8) = false := by rw [beq_eq_false_iff_ne]; omega
            cases number
            · have HFL : Hid (xflag false k i = false) := by unfold Hid xflag; simp [hin, hk6, hk8]
              have HCM : Hid (xcomma k i xi = xi) := by show xcomma _ _ _ = _; unfold xcomma; rw [if_neg (by omega)]
              clear hin hi0
              have HXC0 : Hid (XIn wr R (xcomma k i xi)) := by rw [HCM.out]; exact HXI.out
              have HGC0 := HGI
              have HKC0 := HKI
              have HTC0 := HTI0
              have HRC0 := HRI
              clear HGI HKI HTI0 HRI HXI
              have HXC : Hid (XIn wr.drew R (xcomma k i xi)) := HXC0.out.below (bel_1 _)
              have HGC : Hid (Grew R none w wr.drew) := HGC0.out.drew
              have HKC : Hid (Blk wr.drew w.heap.size 33 #[.int .i64 0, .string ⟨#[]⟩, .int .i64 0, .slice none 0 0]) := HKC0.out
              have HTC : Hid (Blk wr.drew tb 33 #[.int .i64 k, .string hs, .int .i64 hn, v]) := HTC0.out
              have HRC : Hid (RowY wr.drew (tb + 1) l v) := HRC0.out.keep (Nat.le_refl _) (fun _ _ _ => rfl)
              clear HXC0 HGC0 HKC0 HTC0 HRC0
              go_wp2_with fail
              refine Mx.wp_region_mix4 (fun w' => Blk w' tb 33 #[.int .i64 k, .string hs, .int .i64 hn, v]) 22 [(0, false), (1, false), (2, false), (3, false), (4, false), (5, false), (6, false), (7, false), (8, false), (9, false), (10, false), (11, false), (12, false), (13, false), (14, false), (15, false), (16, false), (17, false), (18, true), (19, true), (20, true), (21, true), (22, true)] (by kernel_rfl) (by kernel_rfl) HTC.out ?_ (by kernel_rfl)
              simp only [List.map_cons, List.map_nil, List.getD_cons_zero, List.getD_cons_succ]
              generalize hops : (#[_, _, _, _, _, _, _, _, _, _, _, _, _, _, _, _, _, _, _, _, _, _, _] : Array Oper) = ops
              have HD4 : Hid ((ops[4]?).bind (·.dst) = some 93) := by rw [← hops]; exact rfl
              have HD7 : Hid ((ops[7]?).bind (·.dst) = some 96) := by rw [← hops]; exact rfl
              have HD10 : Hid ((ops[10]?).bind (·.dst) = some 99) := by rw [← hops]; exact rfl
              clear hops
              refine Mx.l_pure (.pointer (some ⟨tb, 3, none⟩)) (by decide) (Mx.wanted_none rfl) (fun w' hw' => ?_) ?_
              · go_simp
              simp only [Act.put, List.setIfInBounds_toArray, List.set_cons_zero, List.set_cons_succ]
              refine Mx.l_pure (v) (by decide) (Mx.wanted_none rfl) (fun w' hw' => ?_) ?_
              · have hc3 : w'.cell? ⟨tb, 3, none⟩ = some v := hw'.cell 3
                go_simp
              simp only [Act.put, List.setIfInBounds_toArray, List.set_cons_zero, List.set_cons_succ]
              refine Mx.l_pure (.pointer (some ⟨R, 0, none⟩)) (by decide) (Mx.wanted_none rfl) (fun w' hw' => ?_) ?_
              · go_simp
              simp only [Act.put, List.setIfInBounds_toArray, List.set_cons_zero, List.set_cons_succ]
              refine Mx.l_pure (.bool false) (by decide) (Mx.wanted_none rfl) (fun w' hw' => ?_) ?_
              · go_simp
              simp only [Act.put, List.setIfInBounds_toArray, List.set_cons_zero, List.set_cons_succ]
              refine Mx.l_pure (.bool false) (by decide) (Mx.wanted_none rfl) (fun w' hw' => ?_) ?_
              · go_simp
              simp only [Act.put, List.setIfInBounds_toArray, List.set_cons_zero, List.set_cons_succ]
              refine Mx.l_pure (.int .i64 i) (by decide) (Mx.wanted_met 4 93 false rfl HD4.out rfl) (fun w' hw' => ?_) ?_
              · go_simp
              simp only [Act.put, List.setIfInBounds_toArray, List.set_cons_zero, List.set_cons_succ]
              refine Mx.l_pure (.bool true) (by decide) (Mx.wanted_met 4 93 false rfl HD4.out rfl) (fun w' hw' => ?_) ?_
              · go_simp
              simp only [Act.put, List.setIfInBounds_toArray, List.set_cons_zero, List.set_cons_succ]
              refine Mx.l_pure (.bool true) (by decide) (Mx.wanted_met 4 93 false rfl HD4.out rfl) (fun w' hw' => ?_) ?_
              · go_simp
              simp only [Act.put, List.setIfInBounds_toArray, List.set_cons_zero, List.set_cons_succ]
              refine Mx.l_pure (.int .i64 k) (by decide) (Mx.wanted_met 7 96 true rfl HD7.out rfl) (fun w' hw' => ?_) ?_
              · go_simp
              simp only [Act.put, List.setIfInBounds_toArray, List.set_cons_zero, List.set_cons_succ]
              refine Mx.l_pure (.bool false) (by decide) (Mx.wanted_met 7 96 true rfl HD7.out rfl) (fun w' hw' => ?_) ?_
              · go_simp
              simp only [Act.put, List.setIfInBounds_toArray, List.set_cons_zero, List.set_cons_succ]
              refine Mx.l_pure (.bool false) (by decide) (Mx.wanted_met 7 96 true rfl HD7.out rfl) (fun w' hw' => ?_) ?_
              · go_simp
              simp only [Act.put, List.setIfInBounds_toArray, List.set_cons_zero, List.set_cons_succ]
              refine Mx.l_pure (.int .i64 k) (by decide) (Mx.wanted_met 10 99 false rfl HD10.out rfl) (fun w' hw' => ?_) ?_
              · go_simp
              simp only [Act.put, List.setIfInBounds_toArray, List.set_cons_zero, List.set_cons_succ]
              refine Mx.l_pure (.bool false) (by decide) (Mx.wanted_met 10 99 false rfl HD10.out rfl) (fun w' hw' => ?_) ?_
              · go_simp
              simp only [Act.put, List.setIfInBounds_toArray, List.set_cons_zero, List.set_cons_succ]
              refine Mx.l_pure (.bool false) (by decide) (Mx.wanted_met 7 96 true rfl HD7.out rfl) (fun w' hw' => ?_) ?_
              · go_simp
              simp only [Act.put, List.setIfInBounds_toArray, List.set_cons_zero, List.set_cons_succ]
              refine Mx.l_pure (.bool false) (by decide) (Mx.wanted_met 4 93 false rfl HD4.out rfl) (fun w' hw' => ?_) ?_
              · go_simp
              simp only [Act.put, List.setIfInBounds_toArray, List.set_cons_zero, List.set_cons_succ]
              refine Mx.l_pure (.bool false) (by decide) (Mx.wanted_none rfl) (fun w' hw' => ?_) ?_
              · go_simp
              simp only [Act.put, List.setIfInBounds_toArray, List.set_cons_zero, List.set_cons_succ]
              refine Mx.l_pure (.int .i64 d) (by decide) (Mx.wanted_none rfl) (fun w' hw' => ?_) ?_
              · go_simp
              simp only [Act.put, List.setIfInBounds_toArray, List.set_cons_zero, List.set_cons_succ]
              refine Mx.l_pure (.int .i64 ((d : Int) + 1)) (by decide) (Mx.wanted_none rfl) (fun w' hw' => ?_) ?_
              · go_simp
              simp only [Act.put, List.setIfInBounds_toArray, List.set_cons_zero, List.set_cons_succ]
              refine Mx.l_call 22 #[.pointer (some ⟨R, 0, none⟩), .bool false, .int .i64 ((d : Int) + 1)] (Mx.wanted_none rfl) ?_ ?_
              · go_simp
              refine (HREC.out (xcomma k i xi) false _ HXC.out).mono ?_
              rintro e w12 ⟨tv, rfl, ht12, hx12, hg12⟩
              rw [← HFL.out] at ht12 hx12
              have htv := ht12
              obtain ⟨ka, kc, rfl, hz1, hz2, hz3⟩ := htv
              clear hz1 hz2 hz3
              have HX12 := hidIn hx12
              have HG12 := hidIn (HGC.out.tr hg12)
              have HK12 := hidIn (HKC.out.grew hg12 hne)
              have HT12 := hidIn (HTC.out.grew hg12 (by have := HRT.out; omega))
              have HR12 := hidIn (HRC.out.grew hg12 (by have := HRT.out; omega))
              have HTI := hidIn ht12
              have HWC := hidIn HTC.out.lt
              have HOWN := hidIn HRC.out.own
              refine ⟨_, rfl, HT12.out, ?_⟩
              clear ht12 hx12 hg12
              obtain ⟨tt, htt⟩ : ∃ tt, (xtree f (xcomma k i xi) (xflag false k i) (d + 1)).1 = tt := ⟨_, rfl⟩
              rw [htt] at HTI
              rw [htt]
              obtain ⟨xx, hxx⟩ : ∃ xx, (xtree f (xcomma k i xi) (xflag false k i) (d + 1)).2 = xx := ⟨_, rfl⟩
              rw [hxx] at HX12
              have HTT := hidIn htt
              have HXX := hidIn hxx
              clear htt hxx
              simp only [Act.put, List.setIfInBounds_toArray, List.set_cons_zero, List.set_cons_succ]
              refine Mx.l_run (.slice (some ⟨w12.heap.size, 0, none⟩) 1 1) (Mx.wanted_none rfl) (w' := w12.alloc (.cells #[.int .i64 tt.kind, .string tt.s, .int .i64 tt.n, .slice ka tt.k.length kc] 33)) ?_ (blk_k HT12.out _) ?_
              · go_simp
              simp only [Act.put, List.setIfInBounds_toArray, List.set_cons_zero, List.set_cons_succ]
              obtain ⟨v', w14, hrun, hrow, hgrow, ao, cap, hv'⟩ := RowY.append (ty := 31) (HR12.out.keep (w' := w12.alloc (.cells #[.int .i64 tt.kind, .string tt.s, .int .i64 tt.n, .slice ka tt.k.length kc] 33)) (by simp) (fun q _ h2 => Below.heap_alloc _ _ _ h2)) (by omega) (by have := HT12.out.lt; simp; omega) tt ka kc w12.heap.size (heap_alloc_new _ _) (tin_off (HTI.out.below (below_alloc (Below.refl _ _) _)) (by have := HWC.out; simp at this ⊢; omega) (fun q hq => by have := (HOWN.out q hq).2; simpa using this))
              have HB13 : Hid (Below w12.heap.size w12 (w12.alloc (.cells #[.int .i64 tt.kind, .string tt.s, .int .i64 tt.n, .slice ka tt.k.length kc] 33))) := below_alloc (Below.refl _ _) _
              have hv2 := hv'
              generalize w12.alloc (.cells #[.int .i64 tt.kind, .string tt.s, .int .i64 tt.n, .slice ka tt.k.length kc] 33) = w13 at *
              have HOW2 : Hid (∀ q, v.ownBlock = some q → tb + 1 ≤ q) := fun q hq => (HOWN.out q hq).1
              have HG14 : Hid (∀ q, q < w13.heap.size → q ≤ tb → w14.heap[q]? = w13.heap[q]?) := fun q h1 h2 => hgrow.block q h1 (fun e => by have := HOW2.out q e.symm; omega)
              have HT13 : Hid (Blk w13 tb 33 #[.int .i64 k, .string hs, .int .i64 hn, v]) := HT12.out.grew (Grew.of_below (M := R) HB13.out) (by have := HRT.out; omega)
              have HK13 : Hid (Blk w13 w.heap.size 33 #[.int .i64 0, .string ⟨#[]⟩, .int .i64 0, .slice none 0 0]) := HK12.out.grew (Grew.of_below (M := R) HB13.out) hne
              have HT14 : Hid (Blk w14 tb 33 #[.int .i64 k, .string hs, .int .i64 hn, v]) := (HG14.out tb HT13.out.lt (Nat.le_refl _)).trans HT13.out
              have HK14 : Hid (Blk w14 w.heap.size 33 #[.int .i64 0, .string ⟨#[]⟩, .int .i64 0, .slice none 0 0]) := (HG14.out w.heap.size HK13.out.lt HWL.out).trans HK13.out
              have HX14 : Hid (XIn w14 R xx) := (HX12.out.below HB13.out).upto hgrow.size (fun q hq => HG14.out q (by have := HT13.out.lt; have := HRT.out; omega) (by have := HRT.out; omega))
              have HG14b : Hid (Grew R none w w14) := (HG12.out.tr (Grew.of_below HB13.out)).trans (Grew.of_grown hgrow) (.inr (fun q hq => by have := HOW2.out q hq; have := HWL.out; omega))
              have HR14 := hidIn hrow
              clear hgrow hrow HB13 HG14 HT13 HK13 HX12 HG12 HK12 HT12 HR12 HTI HWC HOWN HOW2
              refine Mx.l_run v' (Mx.wanted_none rfl) (w' := w14) ?_ HT14.out ?_
              · simp [execOp, resolve, invoke, builtin, Act.eval, hrun]
              have c3 : w14.cell? ⟨tb, 3, none⟩ = some v := HT14.out.cell 3
              have f3 : w14.frozen? ⟨tb, 3, none⟩ = false := HT14.out.frozen 3
              clear hrun
              subst hv2
              simp only [Act.put, List.setIfInBounds_toArray, List.set_cons_zero, List.set_cons_succ]
              refine Mx.l_run (.pointer (some ⟨tb, 3, none⟩)) (Mx.wanted_none rfl) (w' := w14) ?_ HT14.out ?_
              · go_simp
              simp only [Act.put, List.setIfInBounds_toArray, List.set_cons_zero, List.set_cons_succ]
              refine Mx.l_last (w' := w14.setCell ⟨tb, 3, none⟩ (.slice ao (l.length + 1) cap)) (Mx.wanted_none rfl) ?_ ?_
              · go_simp
              simp only [Act.put]
              have HX15 := hidIn (HX14.out.other HRT.out 3 (.slice ao (l.length + 1) cap))
              have HG15 := hidIn (HG14b.out.setNew HWL.out 3 (.slice ao (l.length + 1) cap))
              have HK15 := hidIn (HK14.out.other HWT.out 3 (.slice ao (l.length + 1) cap))
              have HT15 : Hid (Blk (w14.setCell ⟨tb, 3, none⟩ (.slice ao (l.length + 1) cap)) tb 33 #[.int .i64 k, .string hs, .int .i64 hn, .slice ao (l.length + 1) cap]) := HT14.out.set 3 _
              have HR15 := hidIn (HR14.out.set (i := 3) (x := .slice ao (l.length + 1) cap) (Nat.lt_succ_self tb))
              have HEQ2 : Hid (xkids (fun y b => xtree f y b (d + 1)) k false (xparts k) 0 xh = ((l ++ [tt]) ++ (xkids (fun y b => xtree f y b (d + 1)) k false (xparts k - (i + 1)) (i + 1) xx).1, (xkids (fun y b => xtree f y b (d + 1)) k false (xparts k - (i + 1)) (i + 1) xx).2)) := by
                unfold Hid
                rw [HEQ.out, xkids_go _ _ _ _ _ _ hip HE0.out, HTT.out, HXX.out]
                simp
              clear HX14 HG14b HK14 HT14 HR14 c3 f3 HTT HXX
              generalize w14.setCell ⟨tb, 3, none⟩ (.slice ao (l.length + 1) cap) = w15 at *
              clear hgt hiz
              go_wp2_with fail
              go_roundw
              case rel => exact ⟨i + 1, l ++ [tt], xx, .slice ao (l.length + 1) cap, by omega, by go_num, by rw [List.length_append]; simp; omega, HEQ2.out, HX15.out, HG15.out, HK15.out, HT15.out, HR15.out⟩
              case measure => simp [intOf] <;> omega
            · have HFL : Hid (xflag true k i = true) := by unfold Hid xflag; simp [hin, hk6, hk8]
              have HCM : Hid (xcomma k i xi = xi) := by show xcomma _ _ _ = _; unfold xcomma; rw [if_neg (by omega)]
              clear hin hi0
              have HXC0 : Hid (XIn wr R (xcomma k i xi)) := by rw [HCM.out]; exact HXI.out
              have HGC0 := HGI
              have HKC0 := HKI
              have HTC0 := HTI0
              have HRC0 := HRI
              clear HGI HKI HTI0 HRI HXI
              have HXC : Hid (XIn wr.drew R (xcomma k i xi)) := HXC0.out.below (bel_1 _)
              have HGC : Hid (Grew R none w wr.drew) := HGC0.out.drew
              have HKC : Hid (Blk wr.drew w.heap.size 33 #[.int .i64 0, .string ⟨#[]⟩, .int .i64 0, .slice none 0 0]) := HKC0.out
              have HTC : Hid (Blk wr.drew tb 33 #[.int .i64 k, .string hs, .int .i64 hn, v]) := HTC0.out
              have HRC : Hid (RowY wr.drew (tb + 1) l v) := HRC0.out.keep (Nat.le_refl _) (fun _ _ _ => rfl)
              clear HXC0 HGC0 HKC0 HTC0 HRC0
              go_wp2_with fail
              refine Mx.wp_region_mix4 (fun w' => Blk w' tb 33 #[.int .i64 k, .string hs, .int .i64 hn, v]) 22 [(0, false), (1, false), (2, false), (3, false), (4, false), (5, false), (6, false), (7, false), (8, false), (9, false), (10, false), (11, false), (12, false), (13, false), (14, false), (15, false), (16, false), (17, false), (18, true), (19, true), (20, true), (21, true), (22, true)] (by kernel_rfl) (by kernel_rfl) HTC.out ?_ (by kernel_rfl)
              simp only [List.map_cons, List.map_nil, List.getD_cons_zero, List.getD_cons_succ]
              generalize hops : (#[_, _, _, _, _, _, _, _, _, _, _, _, _, _, _, _, _, _, _, _, _, _, _] : Array Oper) = ops
              have HD4 : Hid ((ops[4]?).bind (·.dst) = some 93) := by rw [← hops]; exact rfl
              have HD7 : Hid ((ops[7]?).bind (·.dst) = some 96) := by rw [← hops]; exact rfl
              have HD10 : Hid ((ops[10]?).bind (·.dst) = some 99) := by rw [← hops]; exact rfl
              clear hops
              refine Mx.l_pure (.pointer (some ⟨tb, 3, none⟩)) (by decide) (Mx.wanted_none rfl) (fun w' hw' => ?_) ?_
              · go_simp
              simp only [Act.put, List.setIfInBounds_toArray, List.set_cons_zero, List.set_cons_succ]
              refine Mx.l_pure (v) (by decide) (Mx.wanted_none rfl) (fun w' hw' => ?_) ?_
              · have hc3 : w'.cell? ⟨tb, 3, none⟩ = some v := hw'.cell 3
                go_simp
              simp only [Act.put, List.setIfInBounds_toArray, List.set_cons_zero, List.set_cons_succ]
              refine Mx.l_pure (.pointer (some ⟨R, 0, none⟩)) (by decide) (Mx.wanted_none rfl) (fun w' hw' => ?_) ?_
              · go_simp
              simp only [Act.put, List.setIfInBounds_toArray, List.set_cons_zero, List.set_cons_succ]
              refine Mx.l_pure (.bool true) (by decide) (Mx.wanted_none rfl) (fun w' hw' => ?_) ?_
              · go_simp
              simp only [Act.put, List.setIfInBounds_toArray, List.set_cons_zero, List.set_cons_succ]
              refine Mx.l_pure (.bool true) (by decide) (Mx.wanted_none rfl) (fun w' hw' => ?_) ?_
              · go_simp
              simp only [Act.put, List.setIfInBounds_toArray, List.set_cons_zero, List.set_cons_succ]
              refine Mx.l_skip (by decide) (Mx.unwanted_met 4 93 false true rfl HD4.out rfl rfl) ?_
              simp only [Act.put, List.setIfInBounds_toArray, List.set_cons_zero, List.set_cons_succ]
              refine Mx.l_skip (by decide) (Mx.unwanted_met 4 93 false true rfl HD4.out rfl rfl) ?_
              simp only [Act.put, List.setIfInBounds_toArray, List.set_cons_zero, List.set_cons_succ]
              refine Mx.l_skip (by decide) (Mx.unwanted_met 4 93 false true rfl HD4.out rfl rfl) ?_
              simp only [Act.put, List.setIfInBounds_toArray, List.set_cons_zero, List.set_cons_succ]
              refine Mx.l_skip (by decide) (Mx.unwanted_undef 7 96 true rfl HD7.out rfl) ?_
              simp only [Act.put, List.setIfInBounds_toArray, List.set_cons_zero, List.set_cons_succ]
              refine Mx.l_skip (by decide) (Mx.unwanted_undef 7 96 true rfl HD7.out rfl) ?_
              simp only [Act.put, List.setIfInBounds_toArray, List.set_cons_zero, List.set_cons_succ]
              refine Mx.l_skip (by decide) (Mx.unwanted_undef 7 96 true rfl HD7.out rfl) ?_
              simp only [Act.put, List.setIfInBounds_toArray, List.set_cons_zero, List.set_cons_succ]
              refine Mx.l_skip (by decide) (Mx.unwanted_undef 10 99 false rfl HD10.out rfl) ?_
              simp only [Act.put, List.setIfInBounds_toArray, List.set_cons_zero, List.set_cons_succ]
              refine Mx.l_skip (by decide) (Mx.unwanted_undef 10 99 false rfl HD10.out rfl) ?_
              simp only [Act.put, List.setIfInBounds_toArray, List.set_cons_zero, List.set_cons_succ]
              refine Mx.l_skip (by decide) (Mx.unwanted_undef 7 96 true rfl HD7.out rfl) ?_
              simp only [Act.put, List.setIfInBounds_toArray, List.set_cons_zero, List.set_cons_succ]
              refine Mx.l_skip (by decide) (Mx.unwanted_met 4 93 false true rfl HD4.out rfl rfl) ?_
              simp only [Act.put, List.setIfInBounds_toArray, List.set_cons_zero, List.set_cons_succ]
              refine Mx.l_pure (.bool true) (by decide) (Mx.wanted_none rfl) (fun w' hw' => ?_) ?_
              · go_simp
              simp only [Act.put, List.setIfInBounds_toArray, List.set_cons_zero, List.set_cons_succ]
              refine Mx.l_pure (.int .i64 d) (by decide) (Mx.wanted_none rfl) (fun w' hw' => ?_) ?_
              · go_simp
              simp only [Act.put, List.setIfInBounds_toArray, List.set_cons_zero, List.set_cons_succ]
              refine Mx.l_pure (.int .i64 ((d : Int) + 1)) (by decide) (Mx.wanted_none rfl) (fun w' hw' => ?_) ?_
              · go_simp
              simp only [Act.put, List.setIfInBounds_toArray, List.set_cons_zero, List.set_cons_succ]
              refine Mx.l_call 22 #[.pointer (some ⟨R, 0, none⟩), .bool true, .int .i64 ((d : Int) + 1)] (Mx.wanted_none rfl) ?_ ?_
              · go_simp
              refine (HREC.out (xcomma k i xi) true _ HXC.out).mono ?_
              rintro e w12 ⟨tv, rfl, ht12, hx12, hg12⟩
              rw [← HFL.out] at ht12 hx12
              have htv := ht12
              obtain ⟨ka, kc, rfl, hz1, hz2, hz3⟩ := htv
              clear hz1 hz2 hz3
              have HX12 := hidIn hx12
              have HG12 := hidIn (HGC.out.tr hg12)
              have HK12 := hidIn (HKC.out.grew hg12 hne)
              have HT12 := hidIn (HTC.out.grew hg12 (by have := HRT.out; omega))
              have HR12 := hidIn (HRC.out.grew hg12 (by have := HRT.out; omega))
              have HTI := hidIn ht12
              have HWC := hidIn HTC.out.lt
              have HOWN := hidIn HRC.out.own
              refine ⟨_, rfl, HT12.out, ?_⟩
              clear ht12 hx12 hg12
              obtain ⟨tt, htt⟩ : ∃ tt, (xtree f (xcomma k i xi) (xflag true k i) (d + 1)).1 = tt := ⟨_, rfl⟩
              rw [htt] at HTI
              rw [htt]
              obtain ⟨xx, hxx⟩ : ∃ xx, (xtree f (xcomma k i xi) (xflag true k i) (d + 1)).2 = xx := ⟨_, rfl⟩
              rw [hxx] at HX12
              have HTT := hidIn htt
              have HXX := hidIn hxx
              clear htt hxx
              simp only [Act.put, List.setIfInBounds_toArray, List.set_cons_zero, List.set_cons_succ]
              refine Mx.l_run (.slice (some ⟨w12.heap.size, 0, none⟩) 1 1) (Mx.wanted_none rfl) (w' := w12.alloc (.cells #[.int .i64 tt.kind, .string tt.s, .int .i64 tt.n, .slice ka tt.k.length kc] 33)) ?_ (blk_k HT12.out _) ?_
              · go_simp
              simp only [Act.put, List.setIfInBounds_toArray, List.set_cons_zero, List.set_cons_succ]
              obtain ⟨v', w14, hrun, hrow, hgrow, ao, cap, hv'⟩ := RowY.append (ty := 31) (HR12.out.keep (w' := w12.alloc (.cells #[.int .i64 tt.kind, .string tt.s, .int .i64 tt.n, .slice ka tt.k.length kc] 33)) (by simp) (fun q _ h2 => Below.heap_alloc _ _ _ h2)) (by omega) (by have := HT12.out.lt; simp; omega) tt ka kc w12.heap.size (heap_alloc_new _ _) (tin_off (HTI.out.below (below_alloc (Below.refl _ _) _)) (by have := HWC.out; simp at this ⊢; omega) (fun q hq => by have := (HOWN.out q hq).2; simpa using this))
              have HB13 : Hid (Below w12.heap.size w12 (w12.alloc (.cells #[.int .i64 tt.kind, .string tt.s, .int .i64 tt.n, .slice ka tt.k.length kc] 33))) := below_alloc (Below.refl _ _) _
              have hv2 := hv'
              generalize w12.alloc (.cells #[.int .i64 tt.kind, .string tt.s, .int .i64 tt.n, .slice ka tt.k.length kc] 33) = w13 at *
              have HOW2 : Hid (∀ q, v.ownBlock = some q → tb + 1 ≤ q) := fun q hq => (HOWN.out q hq).1
              have HG14 : Hid (∀ q, q < w13.heap.size → q ≤ tb → w14.heap[q]? = w13.heap[q]?) := fun q h1 h2 => hgrow.block q h1 (fun e => by have := HOW2.out q e.symm; omega)
              have HT13 : Hid (Blk w13 tb 33 #[.int .i64 k, .string hs, .int .i64 hn, v]) := HT12.out.grew (Grew.of_below (M := R) HB13.out) (by have := HRT.out; omega)
              have HK13 : Hid (Blk w13 w.heap.size 33 #[.int .i64 0, .string ⟨#[]⟩, .int .i64 0, .slice none 0 0]) := HK12.out.grew (Grew.of_below (M := R) HB13.out) hne
              have HT14 : Hid (Blk w14 tb 33 #[.int .i64 k, .string hs, .int .i64 hn, v]) := (HG14.out tb HT13.out.lt (Nat.le_refl _)).trans HT13.out
              have HK14 : Hid (Blk w14 w.heap.size 33 #[.int .i64 0, .string ⟨#[]⟩, .int .i64 0, .slice none 0 0]) := (HG14.out w.heap.size HK13.out.lt HWL.out).trans HK13.out
              have HX14 : Hid (XIn w14 R xx) := (HX12.out.below HB13.out).upto hgrow.size (fun q hq => HG14.out q (by have := HT13.out.lt; have := HRT.out; omega) (by have := HRT.out; omega))
              have HG14b : Hid (Grew R none w w14) := (HG12.out.tr (Grew.of_below HB13.out)).trans (Grew.of_grown hgrow) (.inr (fun q hq => by have := HOW2.out q hq; have := HWL.out; omega))
              have HR14 := hidIn hrow
              clear hgrow hrow HB13 HG14 HT13 HK13 HX12 HG12 HK12 HT12 HR12 HTI HWC HOWN HOW2
              refine Mx.l_run v' (Mx.wanted_none rfl) (w' := w14) ?_ HT14.out ?_
              · simp [execOp, resolve, invoke, builtin, Act.eval, hrun]
              have c3 : w14.cell? ⟨tb, 3, none⟩ = some v := HT14.out.cell 3
              have f3 : w14.frozen? ⟨tb, 3, none⟩ = false := HT14.out.frozen 3
              clear hrun
              subst hv2
              simp only [Act.put, List.setIfInBounds_toArray, List.set_cons_zero, List.set_cons_succ]
              refine Mx.l_run (.pointer (some ⟨tb, 3, none⟩)) (Mx.wanted_none rfl) (w' := w14) ?_ HT14.out ?_
              · go_simp
              simp only [Act.put, List.setIfInBounds_toArray, List.set_cons_zero, List.set_cons_succ]
              refine Mx.l_last (w' := w14.setCell ⟨tb, 3, none⟩ (.slice ao (l.length + 1) cap)) (Mx.wanted_none rfl) ?_ ?_
              · go_simp
              simp only [Act.put]
              have HX15 := hidIn (HX14.out.other HRT.out 3 (.slice ao (l.length + 1) cap))
              have HG15 := hidIn (HG14b.out.setNew HWL.out 3 (.slice ao (l.length + 1) cap))
              have HK15 := hidIn (HK14.out.other HWT.out 3 (.slice ao (l.length + 1) cap))
              have HT15 : Hid (Blk (w14.setCell ⟨tb, 3, none⟩ (.slice ao (l.length + 1) cap)) tb 33 #[.int .i64 k, .string hs, .int .i64 hn, .slice ao (l.length + 1) cap]) := HT14.out.set 3 _
              have HR15 := hidIn (HR14.out.set (i := 3) (x := .slice ao (l.length + 1) cap) (Nat.lt_succ_self tb))
              have HEQ2 : Hid (xkids (fun y b => xtree f y b (d + 1)) k true (xparts k) 0 xh = ((l ++ [tt]) ++ (xkids (fun y b => xtree f y b (d + 1)) k true (xparts k - (i + 1)) (i + 1) xx).1, (xkids (fun y b => xtree f y b (d + 1)) k true (xparts k - (i + 1)) (i + 1) xx).2)) := by
                unfold Hid
                rw [HEQ.out, xkids_go _ _ _ _ _ _ hip HE0.out, HTT.out, HXX.out]
                simp
              clear HX14 HG14b HK14 HT14 HR14 c3 f3 HTT HXX
              generalize w14.setCell ⟨tb, 3, none⟩ (.slice ao (l.length + 1) cap) = w15 at *
              clear hgt hiz
              go_wp2_with fail
              go_roundw
              case rel => exact ⟨i + 1, l ++ [tt], xx, .slice ao (l.length + 1) cap, by omega, by go_num, by rw [List.length_append]; simp; omega, HEQ2.out, HX15.out, HG15.out, HK15.out, HT15.out, HR15.out⟩
              case measure => simp [intOf] <;> omega
        · have hend : xparts k ≤ i ∨ xi.e ≠ 0 := by
            rcases Nat.lt_or_ge i (xparts k) with h | h
            · exact .inr (fun e => hgo ⟨h, e⟩)
            · exact .inl h
          have HEND : Hid (xtree (f + 1) x number d = (.mk k hs hn l, xi.sign rpB)) := by
            unfold Hid
            rw [HTR.out, HEQ.out, xkids_end _ _ _ _ _ _ hend]
            simp
          obtain ⟨ao, cap, rfl⟩ := HRI.out.shape
          have hst : ¬ (i : Int) < (xparts k : Int) ∨ ((i : Int) < (xparts k : Int) ∧ (xi.e == 0) = false) := by
            rcases Nat.lt_or_ge i (xparts k) with h | h
            · exact .inr ⟨by omega, by rw [beq_eq_false_iff_ne]; exact fun e => hgo ⟨h, e⟩⟩
            · exact .inl (by omega)
          clear hgo hend HEQ hli
          rcases hst with h1 | ⟨h1, h2⟩
          all_goals
            go_wp2_with fail
            refine (xsign_any wr R xi rpB mark_ne.2.2 HXI.out).mono ?_
            rintro e w9 ⟨rfl, hx9, hg9⟩
            have HX9 := hidIn hx9
            have HG9 := hidIn (HGI.out.tr hg9)
            have HK9 := hidIn (HKI.out.grew hg9 hne)
            have HT9 := hidIn (HTI0.out.grew hg9 (by have := HRT.out; omega))
            have HR9 := hidIn (HRI.out.grew hg9 (by have := HRT.out; omega))
            clear hx9 hg9 HXI HGI HKI HTI0 HRI hxe
            obtain ⟨⟨z0, z1, z2, z3⟩, f0, f1, f2, f3⟩ := blk_zero HK9.out
            have t0 : w9.cell? ⟨tb, 0, none⟩ = some (.int .i64 k) := HT9.out.cell 0
            have t1 : w9.cell? ⟨tb, 1, none⟩ = some (.string hs) := HT9.out.cell 1
            have t2 : w9.cell? ⟨tb, 2, none⟩ = some (.int .i64 hn) := HT9.out.cell 2
            have t3 : w9.cell? ⟨tb, 3, none⟩ = some (.slice ao l.length cap) := HT9.out.cell 3
            generalize xi.sign rpB = xz at *
            go_wp2_with fail
            refine bodyPost_ret (results_cell_row rfl _ _ w.heap.size 33 #[.int .i64 k, .string hs, .int .i64 hn, .slice ao l.length cap] (0, 0) _ rfl (set4_blk HK9.out _ _ _ _) Try.underlying33 rfl infoT) rfl ?_
            rw [HEND.out]
            have hlt : w.heap.size < tb + 1 := by have := HWL.out; omega
            exact ⟨_, rfl, (((((HR9.out.set hlt).set hlt).set hlt).set hlt).toX.tree k hs hn).low (by omega), (((HX9.out.other hRb 0 _).other hRb 1 _).other hRb 2 _).other hRb 3 _, set4_grew HG9.out (Nat.le_refl _) _ _ _ _⟩

end Go.Proofs.Ythhjcpmnekibnaa
namespace Go.Proofs.Ythhjcpmnekibnaa
open Go.RowKit
set_option linter.unusedVariables false

theorem xkind_range (s : ByteArray) (number : Bool) : 0 ≤ xkind s number ∧ xkind s number ≤ 16 := by
  unfold xkind
  repeat (first | omega | split)
theorem xkind_deep (x : XS) (d : Nat) (h : 12 < d) (number : Bool) : xkind (xfirst x d).next number = 0 := by
  rw [XS.next_fault (xfirst_e x d h)]
  exact xkind_emp number
/-- What the document's tree answers. -/
theorem tree_any : ∀ (n d f : Nat), d + n = 13 → n + 1 ≤ f → ∀ (x : XS) (number : Bool) (w : World) (R : Nat), XIn w R x →
    Calls Try.prog 22 #[.pointer (some ⟨R, 0, none⟩), .bool number, .int .i64 (d : Int)] w fun e w' => ∃ v, e = .returned v ∧ TIn w' w.heap.size (xtree f x number d).1 v ∧ XIn w' R (xtree f x number d).2 ∧ Grew R none w w' := by
  intro n
  induction n with
  | zero =>
    intro d f hd hf x number w R h
    obtain ⟨f, rfl⟩ : ∃ g, f = g + 1 := ⟨f - 1, by omega⟩
    exact tree_none f d (by omega) x number w R h (xkind_deep x d (by omega) number)
  | succ n ih =>
    intro d f hd hf x number w R h
    obtain ⟨f, rfl⟩ : ∃ g, f = g + 1 := ⟨f - 1, by omega⟩
    by_cases hk : xkind (xfirst x d).next number = 0
    · exact tree_none f d (by omega) x number w R h hk
    · have e : xfirst x d = x := xfirst_same x (by omega)
      rw [e] at hk
      refine tree_word f d (by omega) x number w R h (fun y b w' hy => ?_) _ rfl hk (xkind_range _ _)
      have := ih (d + 1) f (by omega) (by omega) y b w' R hy
      rwa [show ((d + 1 : Nat) : Int) = (d : Int) + 1 by omega] at this

end Go.Proofs.Ythhjcpmnekibnaa
namespace Go.Proofs.Ythhjcpmnekibnaa
open Go.RowKit
set_option linter.unusedVariables false

theorem enc_size (r : Int) : (Utf8.encode r).size ≤ 4 := by
  unfold Utf8.encode
  generalize (if Utf8.valid r = true then r.toNat else Utf8.runeError) = c
  simp only []
  split
  · show 1 ≤ 4; omega
  · split
    · show 2 ≤ 4; omega
    · split
      · show 3 ≤ 4; omega
      · show 4 ≤ 4; omega
theorem runesB_size (l : List Int) : (runesBytes l).size ≤ 4 * l.length := by
  have key : ∀ (l : List Int) (a : ByteArray), (l.foldl (fun r n => r ++ Utf8.encode n) a).size ≤ a.size + 4 * l.length := by
    intro l
    induction l with
    | nil => intro a; simp
    | cons x l ih =>
      intro a
      have h := ih (a ++ Utf8.encode x)
      have h2 := enc_size x
      rw [ByteArray.size_append] at h
      simp only [List.foldl_cons, List.length_cons]
      omega
  have h := key l ByteArray.empty
  simpa [runesBytes] using h
theorem endR_small (l : List Rn.Sg) (run : List Int) (e : Int) (N : Nat) (hl : ∀ x ∈ l, x.1.size ≤ 4 * N + 4) (hr : run.length ≤ N) : ∀ x ∈ Rn.endR l run e, x.1.size ≤ 4 * N + 4 := by
  unfold Rn.endR
  split
  · exact hl
  · intro x hx
    rcases List.mem_append.1 hx with h | h
    · exact hl x h
    · rw [List.mem_singleton] at h
      subst h
      have := runesB_size run
      show (runesBytes run).size ≤ _
      omega
theorem cut_small (rs : List Int) : ∀ (l : List Rn.Sg) (run : List Int) (p N : Nat), (∀ x ∈ l, x.1.size ≤ 4 * N + 4) → run.length + rs.length ≤ N → ∀ x ∈ Rn.cutGo l run p rs, x.1.size ≤ 4 * N + 4 := by
  induction rs with
  | nil => intro l run p N hl hr; exact endR_small l run _ N hl (by simpa using hr)
  | cons r rs ih =>
    intro l run p N hl hr
    simp only [List.length_cons] at hr
    unfold Rn.cutGo
    split
    · exact ih l (run ++ [r]) (p + 1) N hl (by simp; omega)
    · split
      · refine ih _ [] (p + 1) N ?_ (by simp; omega)
        intro x hx
        rcases List.mem_append.1 hx with h | h
        · exact endR_small l run _ N hl (by omega) x h
        · rw [List.mem_singleton] at h
          subst h
          have := enc_size r
          show (Utf8.encode r).size ≤ _
          omega
      · exact ih _ [] (p + 1) N (endR_small l run _ N hl (by omega)) (by simp; omega)
theorem sg_small (s : ByteArray) (hs : s.size ≤ 1000) : ∀ x ∈ Rn.sgOf s, x.1.size ≤ 2147483648 := by
  intro x hx
  have h1 := rest_length s 0
  have h2 := cut_small (runesOf s) [] [] 0 (runesOf s).length (by simp) (by simp) x hx
  have h3 : (runesOf s).length ≤ s.size := by unfold runesOf; omega
  omega
theorem sg_cell {w : World} {B : Nat} {e : TypeId} {v : Value} {l : List Rn.Sg} (h : w.ownsRow B e 2 v l.length (Rn.sgCells l)) : ∃ ao cap, v = .slice ao l.length cap ∧ l.length ≤ cap ∧ cap ≤ 9223372036854775807 ∧ ∀ k x, l[k]? = some x → ∃ g, ao = some ⟨g, 0, none⟩ ∧ g < w.heap.size ∧ w.cell? ⟨g, k * 2, none⟩ = some (.string x.1) ∧ w.cell? ⟨g, k * 2 + 1, none⟩ = some (.int .i64 x.2) := by
  have hcs : ∀ (l : List Rn.Sg) k x, l[k]? = some x → (Rn.sgCells l)[k * 2]? = some (.string x.1) ∧ (Rn.sgCells l)[k * 2 + 1]? = some (.int .i64 x.2) := by
    intro l
    induction l with
    | nil => intro k x hk; simp at hk
    | cons a l ih =>
      intro k x hk
      have e : Rn.sgCells (a :: l) = .string a.1 :: .int .i64 a.2 :: Rn.sgCells l := by simp [Rn.sgCells]
      rw [e]
      cases k with
      | zero => simp at hk; subst hk; exact ⟨rfl, rfl⟩
      | succ k =>
        have := ih k x (by simpa using hk)
        rw [show (k + 1) * 2 = k * 2 + 1 + 1 by omega]
        simpa using this
  have h' := h
  rcases h.2 with ⟨rfl, h0⟩ | ⟨g, cap, cur, rfl, hb, hg, hnc, hcm, _⟩
  · exact ⟨none, 0, by rw [h0], by omega, by omega, fun k x hk => by
      have := (List.getElem?_eq_some_iff.1 hk).1
      omega⟩
  · refine ⟨some ⟨g, 0, none⟩, cap, rfl, hnc, by unfold maxLen at hcm; omega, fun k x hk => ?_⟩
    have hlt := (List.getElem?_eq_some_iff.1 hk).1
    exact ⟨g, rfl, (Array.getElem?_eq_some_iff.1 hg).1, by rw [h'.cellAt _ (by omega)]; exact (hcs l k x hk).1, by rw [h'.cellAt _ (by omega)]; exact (hcs l k x hk).2⟩

theorem decode_fits (s : ByteArray) (i : Nat) (h : i < s.size) : i + (Utf8.decode s i).2 ≤ s.size := by
  unfold Utf8.decode
  simp only []
  split
  · show i + 1 ≤ _; omega
  · split
    · rename_i hc
      simp only [Bool.and_eq_true, decide_eq_true_eq, beq_iff_eq] at hc
      split
      · show i + 2 ≤ _; omega
      · show i + 1 ≤ _; omega
    · split
      · rename_i hc
        simp only [Bool.and_eq_true, decide_eq_true_eq, beq_iff_eq] at hc
        split
        · show i + 3 ≤ _; omega
        · show i + 1 ≤ _; omega
      · split
        · rename_i hc
          simp only [Bool.and_eq_true, decide_eq_true_eq, beq_iff_eq] at hc
          split
          · show i + 4 ≤ _; omega
          · show i + 1 ≤ _; omega
        · show i + 1 ≤ _; omega
set_option maxHeartbeats 1000000 in
set_option maxRecDepth 100000 in
theorem count_any (s : ByteArray) (w : World) (hs : s.size ≤ 1000) :
    Calls Try.prog 31 #[.string s] w fun e w' => e = .returned (.int .i64 ((runesOf s).length : Int)) ∧ ∃ pos, w' = w.iter s pos := by
  go_enter Try.func31, Try.ntmps31
  go_wp2
  go_loopw [3] (fun n w' => ∃ (pos p : Nat), p ≤ pos ∧ pos ≤ s.size ∧ w' = w.iter s pos ∧ n = .int .i64 p ∧ p + (rest s pos).length = (runesOf s).length) (fun _ w' => s.size - w'.iterPos w.heap.size)
  case atStart => exact ⟨0, 0, by omega, by omega, rfl, rfl, by show 0 + (rest s 0).length = (rest s 0).length; omega⟩
  case round =>
    obtain ⟨pos, p, hpp, hps, rfl, rfl, hc⟩ := hrel
    by_cases hp : pos < s.size
    · have hwd := width_pos s pos hp
      have hst := rest_step s pos hp
      have hle := decode_fits s pos hp
      have HC : Hid (p + 1 + (rest s (pos + (Utf8.decode s pos).2)).length = (runesOf s).length) := by rw [← hc, hst]; show _ = _; simp; omega
      clear hc hst
      have hnx : ∀ ty, (Instr.next (.pointer (some ⟨w.heap.size, 0, none⟩)) true ty).run Try.prog (w.iter s pos) = _ := fun ty => run_next_any w s pos ty hp
      generalize hr : ((Utf8.decode s pos).1 : Int) = r at *
      generalize hwi : (Utf8.decode s pos).2 = wi at *
      clear hr hwi
      go_wp2_with fail
      go_roundw
      case rel => exact ⟨pos + wi, p + 1, by omega, by omega, rfl, by go_num, HC.out⟩
      case measure => simp; omega
    · have hnx : ∀ ty, (Instr.next (.pointer (some ⟨w.heap.size, 0, none⟩)) true ty).run Try.prog (w.iter s pos) = _ := fun ty => run_next_end w s pos ty hp
      rw [rest_end s pos hp] at hc
      have HC2 : Hid (p = (runesOf s).length) := hc
      clear hc
      go_wp2
      go_ret
      refine ⟨ret_int ?_, _, rfl⟩
      rw [← HC2.out]
/-- A reader, opened on a text. -/
def openR (s : ByteArray) : RS :=
  if 1000 < s.size then ⟨[], 0, 0, 5⟩ else if Rn.badOf s ≠ 0 then ⟨[], 0, (Rn.badOf s : Int), 2⟩ else ⟨Rn.sgOf s, ((runesOf s).length : Int) + 1, 0, 0⟩
theorem rin_none {w : World} {R : Nat} {p a e : Int} (hb : Blk w R 54 #[.slice none 0 0, .int .i64 p, .int .i64 a, .int .i64 e]) : RIn w R ⟨[], p, a, e⟩ :=
  ⟨none, 0, hb, by simp, by omega, fun j x hj => by simp at hj⟩

set_option maxHeartbeats 2000000 in
set_option maxRecDepth 100000 in
theorem ropen_any (s : ByteArray) (w : World) (hs : s.size ≤ 140737488351232) :
    Calls Try.prog 16 #[.string s] w fun e w' => ∃ R, e = .returned (.pointer (some ⟨R, 0, none⟩)) ∧ w.heap.size ≤ R ∧ RIn w' R (openR s) ∧ Below w.heap.size w w' := by
  go_enter Try.func16, Try.ntmps16
  by_cases h1 : 1000 < s.size
  · have h1' : (1000 : Int) < (s.size : Int) := by omega
    have HO : Hid (openR s = ⟨[], 0, 0, 5⟩) := by show _ = _; unfold openR; rw [if_pos h1]
    go_wp2_with fail
    go_ret
    exact ⟨_, rfl, Nat.le_refl _, by rw [HO.out]; exact rin_none (blk_new rfl), below_alloc (Below.refl _ _) _⟩
  · have h1' : ¬ (1000 : Int) < (s.size : Int) := by omega
    by_cases h2 : Rn.badOf s = 0
    · have HO : Hid (openR s = ⟨Rn.sgOf s, ((runesOf s).length : Int) + 1, 0, 0⟩) := by show _ = _; unfold openR; rw [if_neg h1, if_neg (by simpa using h2)]
      have HSM := hidIn (sg_small s (by omega))
      have HRL : Hid ((runesOf s).length ≤ 1000) := by have := rest_length s 0; show (rest s 0).length ≤ _; omega
      go_wp2_with fail
      refine (Rn.signs_ok s w (by omega) h2).mono ?_
      rintro e w1 ⟨v, rfl, hown, hb1⟩
      obtain ⟨ao, cap, rfl, hc1, hc2, hcs⟩ := sg_cell hown
      have HCS := hidIn hcs
      have HB1 := hidIn hb1
      have HCC : Hid ((Rn.sgOf s).length ≤ cap ∧ cap ≤ 9223372036854775807) := ⟨hc1, hc2⟩
      clear hown hcs hb1 hc1 hc2
      go_wp2_with fail
      refine (count_any s w1 (by omega)).mono ?_
      rintro e w2 ⟨rfl, pos, rfl⟩
      have HB2 := hidIn (below_iter w1 s pos)
      have hrl := HRL.out
      generalize w1.iter s pos = w2 at *
      go_wp2_with fail
      go_ret
      refine ⟨_, rfl, Nat.le_trans HB1.out.size HB2.out.size, ?_, below_alloc (HB1.out.trans (HB2.out.mono HB1.out.size)) _⟩
      rw [HO.out]
      refine ⟨ao, cap, blk_new rfl, HCC.out.1, HCC.out.2, ?_⟩
      intro j x hj
      obtain ⟨g, rfl, hg, q0, q1⟩ := HCS.out j x hj
      have hb3 := below_alloc HB2.out (.cells #[.slice (some ⟨g, 0, none⟩) (Rn.sgOf s).length cap, .int .i64 (((runesOf s).length : Int) + 1), .int .i64 0, .int .i64 0] 54)
      refine ⟨g, 0, rfl, Nat.lt_of_lt_of_le hg HB2.out.size, by simp; have := HB2.out.size; omega, ?_, ?_, HSM.out x (List.mem_of_getElem? hj)⟩
      · rw [Nat.zero_add]; exact (hb3.cell (p := ⟨g, j * 2, none⟩) hg).trans q0
      · rw [Nat.zero_add]; exact (hb3.cell (p := ⟨g, j * 2 + 1, none⟩) hg).trans q1
    · have HO : Hid (openR s = ⟨[], 0, (Rn.badOf s : Int), 2⟩) := by show _ = _; unfold openR; rw [if_neg h1, if_pos h2]
      go_wp2_with fail
      refine (Rn.signs_bad s w (by unfold maxLen; omega) h2).mono ?_
      rintro e w1 ⟨rfl, hb1⟩
      have h2' : ((Rn.badOf s : Nat) : Int) ≠ 0 := by omega
      have h2n : (((Rn.badOf s : Nat) : Int) == 0) = false := beq_eq_false_iff_ne.2 h2'
      have HB1 := hidIn hb1
      clear hb1 h2
      generalize hbd : Rn.badOf s = bd at *
      go_wp2_with fail
      go_ret
      exact ⟨_, rfl, HB1.out.size, by rw [HO.out]; exact rin_none (blk_new rfl), below_alloc HB1.out _⟩

end Go.Proofs.Ythhjcpmnekibnaa
namespace Go.Proofs.Ythhjcpmnekibnaa
open Go.RowKit
set_option linter.unusedVariables false

theorem refuseR_left (r : RS) (p e : Int) : (refuseR r p e).left = r.left := by unfold refuseR; split <;> rfl
theorem fitR_left (r : RS) (s : Rn.Sg) (ok : Bool) : (fitR r s ok).left = r.left := by unfold fitR; split; rfl; exact refuseR_left _ _ _
theorem takeR_left (r : RS) : (takeR r).left.length ≤ r.left.length := by
  unfold takeR; split
  · simp
  · exact Nat.le_refl _
theorem fit_z {r : RS} {s : Rn.Sg} {ok : Bool} (h : (fitR r s ok).e = 0) : r.e = 0 := by
  by_cases h0 : r.e = 0
  · exact h0
  · exact absurd h (fitR_e r s ok h0)
theorem fit_zok {r : RS} {s : Rn.Sg} {ok : Bool} (h : (fitR r s ok).e = 0) : ok = true := by
  cases ok with
  | true => rfl
  | false =>
    exfalso
    have h0 := fit_z h
    unfold fitR refuseR at h
    rw [if_neg (by decide), if_pos h0] at h
    exact absurd h (by show ¬ (2 : Int) = 0; decide)
theorem mark_z {r : RS} {t : ByteArray} (h : (markR r t).e = 0) : r.e = 0 ∧ (markR r t).left.length ≤ r.left.length := by
  have h1 := fit_z h
  rw [takeR_e] at h1
  exact ⟨h1, by unfold markR; rw [fitR_left]; exact takeR_left r⟩
theorem name_z {r : RS} (h : (nameR r).e = 0) : r.e = 0 ∧ (nameR r).left.length ≤ r.left.length := by
  have h1 := fit_z h
  rw [takeR_e] at h1
  exact ⟨h1, by unfold nameR; rw [fitR_left]; exact takeR_left r⟩
theorem day_z {r : RS} (h : (dayR r).e = 0) : r.e = 0 ∧ (dayR r).left.length ≤ r.left.length := by
  have h1 := fit_z h
  rw [takeR_e] at h1
  exact ⟨h1, by unfold dayR; rw [fitR_left]; exact takeR_left r⟩
theorem end_z {r : RS} (h : (endRd r).e = 0) : r.e = 0 := by
  have h1 := fit_z h
  rwa [takeR_e] at h1
theorem first_z {r : RS} {d : Nat} (h : (firstR r d).e = 0) : r.e = 0 ∧ d ≤ 12 ∧ firstR r d = takeR r := by
  have hd : ¬ 12 < d := fun hd => firstR_deep r d hd h
  have h1 : firstR r d = takeR r := by unfold firstR; rw [if_neg hd]
  rw [h1, takeR_e] at h
  exact ⟨h, by omega, h1⟩
theorem take_some {r : RS} (h : r.e = 0) (hs : (takeS r).1 ≠ ⟨#[]⟩) : (takeR r).left.length + 1 = r.left.length := by
  unfold takeS noS at hs
  unfold takeR
  rw [if_pos h] at hs ⊢
  cases hl : r.left with
  | nil => rw [hl] at hs; exact absurd rfl hs
  | cons a l => simp
theorem pairF_sz (rec : RS → O × RS) (hr : ∀ q, (rec q).2.e = 0 → q.e = 0 ∧ (rec q).1.nodes + (rec q).2.left.length ≤ q.left.length) (r : RS) (h : (pairF rec r).2.2.e = 0) :
    r.e = 0 ∧ (pairF rec r).1.nodes + (pairF rec r).2.1.nodes + (pairF rec r).2.2.left.length ≤ r.left.length := by
  unfold pairF at h ⊢
  have h1 := mark_z h
  have h2 := hr _ h1.1
  have h3 := mark_z h2.1
  have h4 := hr _ h3.1
  have h5 := mark_z h4.1
  exact ⟨h5.1, by simp only; omega⟩
theorem obsR_sz (f : Nat) : ∀ r d, d + f = 15 → (14 ≤ d → r.e ≠ 0) → (obsR f r d).2.e = 0 → r.e = 0 ∧ (obsR f r d).1.nodes + (obsR f r d).2.left.length ≤ r.left.length := by
  induction f with
  | zero => intro r d hd he h; exact absurd h (he (by omega))
  | succ f ih =>
    intro r d hd he h
    have hfirst : ∀ x : RS, x.e = 0 → (∀ q : RS, q.e ≠ 0 → True) → True := fun _ _ _ => trivial
    have hfe : (firstR r d).e = 0 := by
      by_cases h0 : (firstR r d).e = 0
      · exact h0
      · exfalso
        have ih' : ∀ q, q.e ≠ 0 → ((fun q => obsR f q (d + 1)) q).2.e ≠ 0 := fun q hq => obsR_e f q (d + 1) hq
        unfold obsR at h
        revert h
        repeat' split
        · exact markR_e _ _ (nameR_e _ (markR_e _ _ h0))
        · exact pairF_e _ ih' _ h0
        · exact markR_e _ _ (obsR_e _ _ _ (markR_e _ _ h0))
        · exact pairF_e _ ih' _ h0
        · exact pairF_e _ ih' _ h0
        · exact fitR_e _ _ _ h0
    obtain ⟨he0, hd12, hft⟩ := first_z hfe
    have hrec : ∀ q, ((fun q => obsR f q (d + 1)) q).2.e = 0 → q.e = 0 ∧ ((fun q => obsR f q (d + 1)) q).1.nodes + ((fun q => obsR f q (d + 1)) q).2.left.length ≤ q.left.length := fun q hq => ih q (d + 1) (by omega) (fun hx => absurd hx (by omega)) hq
    have hts : (takeS r).1 ≠ ⟨#[]⟩ → (firstR r d).left.length + 1 = r.left.length := fun hs => by rw [hft]; exact take_some he0 hs
    refine ⟨he0, ?_⟩
    unfold obsR at h ⊢
    by_cases k0 : (takeS r).1 = wFix
    · rw [if_pos k0] at h ⊢
      have h1 := mark_z h
      have h2 := name_z h1.1
      have h3 := mark_z h2.1
      have h4 := hts (by rw [k0]; decide)
      simp only [O.nodes]; omega
    rw [if_neg k0] at h ⊢
    by_cases k1 : (takeS r).1 = wAdd
    · rw [if_pos k1] at h ⊢
      have h1 := pairF_sz _ hrec _ h
      have h4 := hts (by rw [k1]; decide)
      simp only [O.nodes]; omega
    rw [if_neg k1] at h ⊢
    by_cases k2 : (takeS r).1 = wNeg
    · rw [if_pos k2] at h ⊢
      have h1 := mark_z h
      have h2 := hrec _ h1.1
      have h3 := mark_z h2.1
      have h4 := hts (by rw [k2]; decide)
      simp only [O.nodes] at h2 ⊢; omega
    rw [if_neg k2] at h ⊢
    by_cases k3 : (takeS r).1 = wMul
    · rw [if_pos k3] at h ⊢
      have h1 := pairF_sz _ hrec _ h
      have h4 := hts (by rw [k3]; decide)
      simp only [O.nodes]; omega
    rw [if_neg k3] at h ⊢
    by_cases k4 : (takeS r).1 = wMax
    · rw [if_pos k4] at h ⊢
      have h1 := pairF_sz _ hrec _ h
      have h4 := hts (by rw [k4]; decide)
      simp only [O.nodes]; omega
    rw [if_neg k4] at h ⊢
    have h1 := fit_zok h
    have h4 := hts (fun e => by rw [e] at h1; exact absurd h1 (by decide))
    simp only [O.nodes]
    rw [fitR_left]
    omega
theorem lastF_sz (rec : RS → C × RS) (hr : ∀ q, (rec q).2.e = 0 → q.e = 0 ∧ (rec q).1.weight + (rec q).2.left.length ≤ q.left.length) (r : RS) (h : (lastF rec r).2.e = 0) :
    r.e = 0 ∧ (lastF rec r).1.weight + (lastF rec r).2.left.length ≤ r.left.length := by
  unfold lastF at h ⊢
  have h1 := mark_z h
  have h2 := hr _ h1.1
  exact ⟨h2.1, by simp only; omega⟩
theorem lastsF_sz (rec : RS → C × RS) (hr : ∀ q, (rec q).2.e = 0 → q.e = 0 ∧ (rec q).1.weight + (rec q).2.left.length ≤ q.left.length) (r : RS) (h : (lastsF rec r).2.2.e = 0) :
    r.e = 0 ∧ (lastsF rec r).1.weight + (lastsF rec r).2.1.weight + (lastsF rec r).2.2.left.length ≤ r.left.length := by
  unfold lastsF at h ⊢
  have h1 := lastF_sz rec hr _ h
  have h2 := mark_z h1.1
  have h3 := hr _ h2.1
  exact ⟨h3.1, by simp only; omega⟩
theorem termR_sz (f : Nat) : ∀ r d, d + f = 15 → (14 ≤ d → r.e ≠ 0) → (termR f r d).2.e = 0 → r.e = 0 ∧ (termR f r d).1.weight + (termR f r d).2.left.length ≤ r.left.length := by
  induction f with
  | zero => intro r d hd he h; exact absurd h (he (by omega))
  | succ f ih =>
    intro r d hd he h
    have hfe : (firstR r d).e = 0 := by
      by_cases h0 : (firstR r d).e = 0
      · exact h0
      · exfalso
        have h1 := h0
        have ih' : ∀ q, q.e ≠ 0 → ((fun q => termR f q (d + 1)) q).2.e ≠ 0 := fun q hq => termR_e f q (d + 1) hq
        unfold termR at h
        revert h
        repeat' split
        · exact h1
        · exact markR_e _ _ (nameR_e _ (markR_e _ _ h1))
        · exact lastF_e _ ih' _ (markR_e _ _ h1)
        · exact lastsF_e _ ih' _ (markR_e _ _ h1)
        · exact lastsF_e _ ih' _ (markR_e _ _ (nameR_e _ (markR_e _ _ h1)))
        · exact lastF_e _ ih' _ (markR_e _ _ (obsR_e _ _ _ (markR_e _ _ h1)))
        · exact lastF_e _ ih' _ (markR_e _ _ (dayR_e _ (markR_e _ _ h1)))
        · exact lastsF_e _ ih' _ (markR_e _ _ (obsR_e _ _ _ (markR_e _ _ h1)))
        · exact fitR_e _ _ _ h1
    obtain ⟨he0, hd12, hft⟩ := first_z hfe
    have hrec : ∀ q, ((fun q => termR f q (d + 1)) q).2.e = 0 → q.e = 0 ∧ ((fun q => termR f q (d + 1)) q).1.weight + ((fun q => termR f q (d + 1)) q).2.left.length ≤ q.left.length := fun q hq => ih q (d + 1) (by omega) (fun hx => absurd hx (by omega)) hq
    have hobs : ∀ q, (obsR f q (d + 1)).2.e = 0 → q.e = 0 ∧ (obsR f q (d + 1)).1.nodes + (obsR f q (d + 1)).2.left.length ≤ q.left.length := fun q hq => obsR_sz f q (d + 1) (by omega) (fun hx => absurd hx (by omega)) hq
    have hts : (takeS r).1 ≠ ⟨#[]⟩ → (firstR r d).left.length + 1 = r.left.length := fun hs => by rw [hft]; exact take_some he0 hs
    refine ⟨he0, ?_⟩
    unfold termR at h ⊢
    by_cases k0 : (takeS r).1 = wZero
    · rw [if_pos k0] at h ⊢
      have h4 := hts (by rw [k0]; decide)
      simp only [C.weight]; omega
    rw [if_neg k0] at h ⊢
    by_cases k1 : (takeS r).1 = wOne
    · rw [if_pos k1] at h ⊢
      have h1 := mark_z h
      have h2 := name_z h1.1
      have h3 := mark_z h2.1
      have h4 := hts (by rw [k1]; decide)
      simp only [C.weight]; omega
    rw [if_neg k1] at h ⊢
    by_cases k2 : (takeS r).1 = wGive
    · rw [if_pos k2] at h ⊢
      have h1 := lastF_sz _ hrec _ h
      have h2 := mark_z h1.1
      have h4 := hts (by rw [k2]; decide)
      simp only [C.weight]; omega
    rw [if_neg k2] at h ⊢
    by_cases k3 : (takeS r).1 = wAnd
    · rw [if_pos k3] at h ⊢
      have h1 := lastsF_sz _ hrec _ h
      have h2 := mark_z h1.1
      have h4 := hts (by rw [k3]; decide)
      simp only [C.weight]; omega
    rw [if_neg k3] at h ⊢
    by_cases k4 : (takeS r).1 = wOr
    · rw [if_pos k4] at h ⊢
      have h1 := lastsF_sz _ hrec _ h
      have h2 := mark_z h1.1
      have h3 := name_z h2.1
      have h5 := mark_z h3.1
      have h4 := hts (by rw [k4]; decide)
      simp only [C.weight]; omega
    rw [if_neg k4] at h ⊢
    by_cases k5 : (takeS r).1 = wScale
    · rw [if_pos k5] at h ⊢
      have h1 := lastF_sz _ hrec _ h
      have h2 := mark_z h1.1
      have h3 := hobs _ h2.1
      have h5 := mark_z h3.1
      have h4 := hts (by rw [k5]; decide)
      simp only [C.weight]; omega
    rw [if_neg k5] at h ⊢
    by_cases k6 : (takeS r).1 = wWhen
    · rw [if_pos k6] at h ⊢
      have h1 := lastF_sz _ hrec _ h
      have h2 := mark_z h1.1
      have h3 := day_z h2.1
      have h5 := mark_z h3.1
      have h4 := hts (by rw [k6]; decide)
      simp only [C.weight]; omega
    rw [if_neg k6] at h ⊢
    by_cases k7 : (takeS r).1 = wIf
    · rw [if_pos k7] at h ⊢
      have h1 := lastsF_sz _ hrec _ h
      have h2 := mark_z h1.1
      have h3 := hobs _ h2.1
      have h5 := mark_z h3.1
      have h4 := hts (by rw [k7]; decide)
      simp only [C.weight]; omega
    rw [if_neg k7] at h ⊢
    have h1 := fit_zok h
    cases h1
theorem cut_len (rs : List Int) : ∀ (l : List Rn.Sg) (run : List Int) (p : Nat), (Rn.cutGo l run p rs).length ≤ l.length + 1 + 2 * rs.length := by
  induction rs with
  | nil => intro l run p; have := Rn.endR_len l run (p + 1 : Nat); show (Rn.endR l run (p + 1 : Nat)).length ≤ _; simp only [List.length_nil]; omega
  | cons r rs ih =>
    intro l run p
    have he := Rn.endR_len l run (p + 1 : Nat)
    unfold Rn.cutGo
    simp only [List.length_cons]
    split
    · have := ih l (run ++ [r]) (p + 1); omega
    · split
      · have := ih (Rn.endR l run (p + 1 : Nat) ++ [(Utf8.encode r, ((p + 1 : Nat) : Int))]) [] (p + 1)
        rw [List.length_append] at this
        simp only [List.length_cons, List.length_nil] at this
        omega
      · have := ih (Rn.endR l run (p + 1 : Nat)) [] (p + 1); omega
theorem open_len (s : ByteArray) : (openR s).left.length ≤ 2001 := by
  unfold openR
  split
  · simp
  · split
    · simp
    · rename_i h1 _
      have h := cut_len (runesOf s) [] [] 0
      have h2 := rest_length s 0
      have h3 : (runesOf s).length ≤ s.size := by unfold runesOf; omega
      show (Rn.cutGo [] [] 0 (runesOf s)).length ≤ _
      simp at h
      omega
/-- What read.Term answers: the contract, the place, the error. -/
def rdT (s : ByteArray) : C × Int × Int :=
  if (endRd (termR 14 (openR s) 1).2).e = 0 then
    (if chkC (termR 14 (openR s) 1).1 = 0 then ((termR 14 (openR s) 1).1, 0, 0) else (.odd .nilIface, (endRd (termR 14 (openR s) 1).2).pl, chkC (termR 14 (openR s) 1).1))
  else (.odd .nilIface, (endRd (termR 14 (openR s) 1).2).pl, (endRd (termR 14 (openR s) 1).2).e)
def rdO (s : ByteArray) : O × Int × Int :=
  if (endRd (obsR 14 (openR s) 1).2).e = 0 then
    (if chk (obsR 14 (openR s) 1).1 = 0 then ((obsR 14 (openR s) 1).1, 0, 0) else (.odd .nilIface, (endRd (obsR 14 (openR s) 1).2).pl, chk (obsR 14 (openR s) 1).1))
  else (.odd .nilIface, (endRd (obsR 14 (openR s) 1).2).pl, (endRd (obsR 14 (openR s) 1).2).e)
theorem RIn.cells {w : World} {R : Nat} {r : RS} (h : RIn w R r) : w.cell? ⟨R, 2, none⟩ = some (.int .i64 r.pl) ∧ w.cell? ⟨R, 3, none⟩ = some (.int .i64 r.e) ∧ w.frozen? ⟨R, 3, none⟩ = false := by
  obtain ⟨a, c, hb, _⟩ := h.has
  exact ⟨hb.cell 2, hb.cell 3, hb.frozen 3⟩
theorem bel_drewN {B : Nat} {w w' : World} (h : Below B w w') (n : Nat) : Below B w (w'.drewN n) := ⟨h.os, h.tape, h.output, h.size, h.block⟩
theorem bel_set {B : Nat} {w w' : World} (h : Below B w w') {R : Nat} (hR : B ≤ R) (i : Nat) (x : Value) (n : Nat) : Below B w ((w'.setCell ⟨R, i, none⟩ x).drewN n) := bel_drewN (h.setCell hR x) n
theorem Grew.low {M : Nat} {u w w' : World} (h : Grew M none w w') (hb : Below u.heap.size u w) (hM : u.heap.size ≤ M) : Below u.heap.size u w' :=
  hb.trans (h.below hb.size hM (fun k hk => by cases hk))

set_option maxHeartbeats 4000000 in
set_option maxRecDepth 100000 in
theorem readT_any (s : ByteArray) (w : World) (hs : s.size ≤ 140737488351232) :
    Calls Try.prog 5 #[.string s] w fun e w' => e = .returned (.tuple #[(rdT s).1.val, .int .i64 (rdT s).2.1, .int .i64 (rdT s).2.2]) ∧ (rdT s).1.Ok ∧ Below w.heap.size w w' := by
  have HRD : Hid (rdT s = if (endRd (termR 14 (openR s) 1).2).e = 0 then (if chkC (termR 14 (openR s) 1).1 = 0 then ((termR 14 (openR s) 1).1, 0, 0) else (.odd .nilIface, (endRd (termR 14 (openR s) 1).2).pl, chkC (termR 14 (openR s) 1).1)) else (.odd .nilIface, (endRd (termR 14 (openR s) 1).2).pl, (endRd (termR 14 (openR s) 1).2).e)) := rfl
  have HSZ : Hid ((endRd (termR 14 (openR s) 1).2).e = 0 → (termR 14 (openR s) 1).1.weight ≤ 2001) := fun h => by
    have h1 := (termR_sz 14 (openR s) 1 rfl (fun hx => absurd hx (by omega)) (end_z h)).2
    have h2 := open_len s
    omega
  go_enter Try.func5, Try.ntmps5
  go_wp2_with fail
  refine (ropen_any s w hs).mono ?_
  rintro e w1 ⟨R, rfl, hR, h1, hb1⟩
  have HR := hidIn hR
  have HB1 := hidIn hb1
  have H1 := hidIn h1
  clear hR h1 hb1
  go_wp2_with fail
  refine (term_all 14 1 rfl (openR s) w1 R (fun hx => absurd hx (by omega)) H1.out).mono ?_
  rintro e w2 ⟨rfl, hok, h2, hg2⟩
  have HOK := hidIn hok
  have H2 := hidIn h2
  have HB2 := hidIn (hg2.low HB1.out HR.out)
  clear hok h2 hg2
  go_wp2_with fail
  refine (end_any w2 R _ H2.out).mono ?_
  rintro e w3 ⟨rfl, h3, hg3⟩
  have H3 := hidIn h3
  have HB3 := hidIn (hg3.low HB2.out HR.out)
  obtain ⟨q2, q3, qf⟩ := h3.cells
  clear h3 hg3
  generalize (termR 14 (openR s) 1).1 = c at *
  generalize endRd (termR 14 (openR s) 1).2 = r9 at *
  obtain ⟨en, hen⟩ : ∃ en, r9.e = en := ⟨_, rfl⟩
  obtain ⟨pl, hpl⟩ : ∃ pl, r9.pl = pl := ⟨_, rfl⟩
  rw [hen, hpl] at HRD
  rw [hen] at HSZ q3
  rw [hpl] at q2
  obtain ⟨ra, rc, hblk, _, _, _⟩ := H3.out.has
  have HBLK := hidIn hblk
  have HEN := hidIn hen
  have HPL := hidIn hpl
  clear hblk hen hpl
  by_cases h0 : en = 0
  · rw [if_pos h0] at HRD
    have HW := hidIn (HSZ.out h0)
    subst h0
    go_wp2_with fail
    refine (checkT_any c HOK.out (by have := HW.out; omega) w3).mono ?_
    rintro e w4 ⟨rfl, hb4⟩
    have hk4 := HBLK.out.below hb4 HBLK.out.lt
    have z2 : w4.cell? ⟨R, 2, none⟩ = some (.int .i64 pl) := by rw [← HPL.out]; exact hk4.cell 2
    have z3 : w4.cell? ⟨R, 3, none⟩ = some (.int .i64 0) := by rw [← HEN.out]; exact hk4.cell 3
    have f3 : w4.frozen? ⟨R, 3, none⟩ = false := hk4.frozen 3
    have HB4 := hidIn (HB3.out.trans (hb4.mono HB3.out.size))
    clear hb4 hk4 q2 q3 qf
    by_cases hc : chkC c = 0
    · rw [if_pos hc] at HRD
      rw [hc]
      go_wp2_with fail
      go_ret3
      rw [HRD.out]
      exact ⟨rfl, HOK.out, HB4.out.setCell HR.out _⟩
    · rw [if_neg hc] at HRD
      obtain ⟨k, hk⟩ : ∃ k, chkC c = k := ⟨_, rfl⟩
      rw [hk] at hc HRD
      rw [hk]
      have hcn : (k == 0) = false := beq_eq_false_iff_ne.2 hc
      go_wp2_with fail
      go_quiet (fail)
      go_wp2_with fail
      go_ret3
      rw [HRD.out]
      exact ⟨rfl, .inl rfl, bel_set HB4.out HR.out 3 _ _⟩
  · rw [if_neg h0] at HRD
    have hcn : (en == 0) = false := beq_eq_false_iff_ne.2 h0
    go_wp2_with fail
    go_quiet (fail)
    go_wp2_with fail
    go_ret3
    rw [HRD.out]
    exact ⟨rfl, .inl rfl, bel_drewN HB3.out _⟩

set_option maxHeartbeats 4000000 in
set_option maxRecDepth 100000 in
theorem readO_any (s : ByteArray) (w : World) (hs : s.size ≤ 140737488351232) :
    Calls Try.prog 7 #[.string s] w fun e w' => e = .returned (.tuple #[(rdO s).1.val, .int .i64 (rdO s).2.1, .int .i64 (rdO s).2.2]) ∧ (rdO s).1.Ok ∧ Below w.heap.size w w' := by
  have HRD : Hid (rdO s = if (endRd (obsR 14 (openR s) 1).2).e = 0 then (if chk (obsR 14 (openR s) 1).1 = 0 then ((obsR 14 (openR s) 1).1, 0, 0) else (.odd .nilIface, (endRd (obsR 14 (openR s) 1).2).pl, chk (obsR 14 (openR s) 1).1)) else (.odd .nilIface, (endRd (obsR 14 (openR s) 1).2).pl, (endRd (obsR 14 (openR s) 1).2).e)) := rfl
  have HSZ : Hid ((endRd (obsR 14 (openR s) 1).2).e = 0 → (obsR 14 (openR s) 1).1.nodes ≤ 2001) := fun h => by
    have h1 := (obsR_sz 14 (openR s) 1 rfl (fun hx => absurd hx (by omega)) (end_z h)).2
    have h2 := open_len s
    omega
  go_enter Try.func7, Try.ntmps7
  go_wp2_with fail
  refine (ropen_any s w hs).mono ?_
  rintro e w1 ⟨R, rfl, hR, h1, hb1⟩
  have HR := hidIn hR
  have HB1 := hidIn hb1
  have H1 := hidIn h1
  clear hR h1 hb1
  go_wp2_with fail
  refine (obs_all 14 1 rfl (openR s) w1 R (fun hx => absurd hx (by omega)) H1.out).mono ?_
  rintro e w2 ⟨rfl, hok, h2, hg2⟩
  have HOK := hidIn hok
  have H2 := hidIn h2
  have HB2 := hidIn (hg2.low HB1.out HR.out)
  clear hok h2 hg2
  go_wp2_with fail
  refine (end_any w2 R _ H2.out).mono ?_
  rintro e w3 ⟨rfl, h3, hg3⟩
  have H3 := hidIn h3
  have HB3 := hidIn (hg3.low HB2.out HR.out)
  obtain ⟨q2, q3, qf⟩ := h3.cells
  clear h3 hg3
  generalize (obsR 14 (openR s) 1).1 = c at *
  generalize endRd (obsR 14 (openR s) 1).2 = r9 at *
  obtain ⟨en, hen⟩ : ∃ en, r9.e = en := ⟨_, rfl⟩
  obtain ⟨pl, hpl⟩ : ∃ pl, r9.pl = pl := ⟨_, rfl⟩
  rw [hen, hpl] at HRD
  rw [hen] at HSZ q3
  rw [hpl] at q2
  obtain ⟨ra, rc, hblk, _, _, _⟩ := H3.out.has
  have HBLK := hidIn hblk
  have HEN := hidIn hen
  have HPL := hidIn hpl
  clear hblk hen hpl
  by_cases h0 : en = 0
  · rw [if_pos h0] at HRD
    have HW := hidIn (HSZ.out h0)
    subst h0
    go_wp2_with fail
    refine (check_any c HOK.out (by have := HW.out; omega) w3).mono ?_
    rintro e w4 ⟨rfl, hb4⟩
    have hk4 := HBLK.out.below hb4 HBLK.out.lt
    have z2 : w4.cell? ⟨R, 2, none⟩ = some (.int .i64 pl) := by rw [← HPL.out]; exact hk4.cell 2
    have z3 : w4.cell? ⟨R, 3, none⟩ = some (.int .i64 0) := by rw [← HEN.out]; exact hk4.cell 3
    have f3 : w4.frozen? ⟨R, 3, none⟩ = false := hk4.frozen 3
    have HB4 := hidIn (HB3.out.trans (hb4.mono HB3.out.size))
    clear hb4 hk4 q2 q3 qf
    by_cases hc : chk c = 0
    · rw [if_pos hc] at HRD
      rw [hc]
      go_wp2_with fail
      go_ret3
      rw [HRD.out]
      exact ⟨rfl, HOK.out, HB4.out.setCell HR.out _⟩
    · rw [if_neg hc] at HRD
      obtain ⟨k, hk⟩ : ∃ k, chk c = k := ⟨_, rfl⟩
      rw [hk] at hc HRD
      rw [hk]
      have hcn : (k == 0) = false := beq_eq_false_iff_ne.2 hc
      go_wp2_with fail
      go_quiet (fail)
      go_wp2_with fail
      go_ret3
      rw [HRD.out]
      exact ⟨rfl, .inl rfl, bel_set HB4.out HR.out 3 _ _⟩
  · rw [if_neg h0] at HRD
    have hcn : (en == 0) = false := beq_eq_false_iff_ne.2 h0
    go_wp2_with fail
    go_quiet (fail)
    go_wp2_with fail
    go_ret3
    rw [HRD.out]
    exact ⟨rfl, .inl rfl, bel_drewN HB3.out _⟩

end Go.Proofs.Ythhjcpmnekibnaa
namespace Go.Proofs.Ythhjcpmnekibnaa
open Go.RowKit
set_option linter.unusedVariables false

theorem plain_labs (o : O) : (plain o).labs = [] := by
  induction o <;> simp_all [plain, T.labs, labsL]
theorem plain_cnt (o : O) : (plain o).cnt ≤ 2 * o.nodes + 1 := by
  induction o <;> simp only [plain, T.cnt, cntL, O.nodes] at * <;> omega
theorem plain_sized (o : O) (h : o.Ok) : (plain o).Sized := by
  have he : (⟨#[]⟩ : ByteArray).size ≤ 2147483648 := by decide
  induction o with
  | const n => simp only [plain, T.Sized, SizedL]; exact ⟨he, trivial⟩
  | fix s => simp only [plain, T.Sized, SizedL]; exact ⟨h, trivial⟩
  | odd v => simp only [plain, T.Sized, SizedL]; exact ⟨he, trivial⟩
  | neg o h1 => simp only [plain, T.Sized, SizedL]; exact ⟨he, h1 h, trivial⟩
  | add l r h1 h2 => simp only [plain, T.Sized, SizedL]; exact ⟨he, h1 h.1, h2 h.2, trivial⟩
  | mul l r h1 h2 => simp only [plain, T.Sized, SizedL]; exact ⟨he, h1 h.1, h2 h.2, trivial⟩
  | max l r h1 h2 => simp only [plain, T.Sized, SizedL]; exact ⟨he, h1 h.1, h2 h.2, trivial⟩
theorem plain_form (o : O) : formT (plain o) true = formB o := by
  induction o <;> simp_all [plain, formT, formTL, headOk, partB, formB]

end Go.Proofs.Ythhjcpmnekibnaa
namespace Go.Proofs.Ythhjcpmnekibnaa
open Go.RowKit
set_option linter.unusedVariables false

/-- How far a contract goes. -/
def rC : Nat → Nat
  | 0 => 40
  | d + 1 => 4 * rC d + 40
theorem rC_pos : ∀ d, 40 ≤ rC d
  | 0 => Nat.le_refl _
  | d + 1 => by have := rC_pos d; simp only [rC]; omega
theorem rC_le (d : Nat) (h : d ≤ 5) : rC d ≤ 60000 := by
  have : d = 0 ∨ d = 1 ∨ d = 2 ∨ d = 3 ∨ d = 4 ∨ d = 5 := by omega
  rcases this with rfl | rfl | rfl | rfl | rfl | rfl <;> decide
theorem reach_min (d : Nat) : reach (min d 2) ≤ 11 := by
  have : min d 2 = 0 ∨ min d 2 = 1 ∨ min d 2 = 2 := by omega
  rcases this with h | h | h <;> rw [h] <;> decide
theorem conO_reach (p : Pl) : ∀ d i left label, (conO p d i left label).2.1 ≤ i + rC d ∧ left - rC d ≤ (conO p d i left label).2.2.1 ∧ (conO p d i left label).2.2.1 ≤ left ∧ (conO p d i left label).2.2.2 ≤ label + rC d := by
  intro d
  induction d with
  | zero =>
    intro i left label
    unfold conO
    simp only [rC]
    split <;> simp only <;> omega
  | succ d ih =>
    intro i left label
    have hr := rC_pos d
    have h1 := ih (i + 1) (left - 1) label
    have h2 := ih (conO p d (i + 1) (left - 1) label).2.1 (conO p d (i + 1) (left - 1) label).2.2.1 (conO p d (i + 1) (left - 1) label).2.2.2
    have h3 := ih (i + 2) (left - 1) (label + 1)
    have h4 := ih (conO p d (i + 2) (left - 1) (label + 1)).2.1 (conO p d (i + 2) (left - 1) (label + 1)).2.2.1 (conO p d (i + 2) (left - 1) (label + 1)).2.2.2
    have h5 := ih (i + 2) (left - 1) label
    have ho := numO_reach p (min d 2) (i + 1) (left - 1)
    have hm := reach_min d
    have h6 := ih (numO p (min d 2) (i + 1) (left - 1)).2.1 (numO p (min d 2) (i + 1) (left - 1)).2.2 label
    have h7 := ih (conO p d (numO p (min d 2) (i + 1) (left - 1)).2.1 (numO p (min d 2) (i + 1) (left - 1)).2.2 label).2.1 (conO p d (numO p (min d 2) (i + 1) (left - 1)).2.1 (numO p (min d 2) (i + 1) (left - 1)).2.2 label).2.2.1 (conO p d (numO p (min d 2) (i + 1) (left - 1)).2.1 (numO p (min d 2) (i + 1) (left - 1)).2.2 label).2.2.2
    unfold conO
    simp only [rC]
    split
    · simp only; omega
    · split
      · simp only; omega
      · split
        · simp only; omega
        · split
          · simp only; omega
          · split
            · simp only; omega
            · split
              · simp only; omega
              · split
                · simp only; omega
                · simp only; omega

theorem mterm_any (w0 : World) (M : Nat) (p : Pl) : ∀ d, d ≤ 5 → LessC w0 M p d (rC d) := by
  intro d
  induction d with
  | zero =>
    intro _ w i left label h hi hl1 hl2 hlb
    have hk := kT_zero p i left
    simp only [rC] at hi hl1 hlb
    exact mterm_leaf w0 w M p 0 i left label h (by omega) (by omega) hl2 (by omega) hk _ rfl
  | succ d ih =>
    intro hd w i left label h hi hl1 hl2 hlb
    have hr := rC_pos d
    have hr2 := rC_le d (by omega)
    have ih' := ih (by omega)
    have hb1 := conO_reach p d
    simp only [rC] at hi hl1 hlb
    have hk := kT_lt p (d + 1) i left
    by_cases h2 : kT p (d + 1) i left ≤ 2
    · have := mterm_leaf w0 w M p (d + 1) i left label h (by omega) (by omega) hl2 (by omega) h2 _ rfl
      have e : conO p (d + 1) i left label = if kT p (d + 1) i left ≤ 1 then (.one (curOf p (i + 1)), i + 2, left - 1, label) else (.zero, i + 1, left - 1, label) := by
        rw [conO]
        split
        · rfl
        · rw [if_pos (by omega)]
      rw [e]
      exact this
    · by_cases h4 : kT p (d + 1) i left ≤ 4
      · exact mterm_give w0 w M p d i left label (rC d) ih' h (by omega) (by omega) (by omega) hl2 (by omega) (by omega) hb1 (by omega) _ rfl
      by_cases h6 : kT p (d + 1) i left ≤ 6
      · exact mterm_and w0 w M p d i left label (rC d) ih' h (by omega) (by omega) (by omega) hl2 (by omega) (by omega) hb1 (by omega) _ rfl
      by_cases h8 : kT p (d + 1) i left ≤ 8
      · exact mterm_or w0 w M p d i left label (rC d) ih' h (by omega) (by omega) (by omega) hl2 (by omega) (by omega) hb1 (by omega) _ rfl
      by_cases h10 : kT p (d + 1) i left ≤ 10
      · exact mterm_scale w0 w M p d i left label (rC d) ih' h (by omega) (by omega) (by omega) hl2 (by omega) (by omega) hb1 (by omega) _ rfl
      by_cases h11 : kT p (d + 1) i left = 11
      · exact mterm_when w0 w M p d i left label (rC d) ih' h (by omega) (by omega) (by omega) hl2 (by omega) (by omega) hb1 h11 _ rfl
      · exact mterm_iff w0 w M p d i left label (rC d) ih' h (by omega) (by omega) (by omega) hl2 (by omega) (by omega) hb1 (by omega) _ rfl

/-- A contract in which nothing is none. -/
def C.whole : C → Prop
  | .zero => True
  | .one s => s.size ≤ 2147483648
  | .give c => c.whole
  | .and l r => l.whole ∧ r.whole
  | .or s l r => s.size ≤ 2147483648 ∧ l.whole ∧ r.whole
  | .scale o c => o.whole ∧ c.whole
  | .when d c => (-9223372036854775808 ≤ d ∧ d ≤ 9223372036854775807) ∧ c.whole
  | .iff o l r => o.whole ∧ l.whole ∧ r.whole
  | .odd _ => False
theorem cwhole_ok (c : C) (h : c.whole) : c.Ok := by
  induction c with
  | zero => trivial
  | one s => exact h
  | give c h1 => exact h1 h
  | and l r h1 h2 => exact ⟨h1 h.1, h2 h.2⟩
  | or s l r h1 h2 => exact ⟨h.1, h1 h.2.1, h2 h.2.2⟩
  | scale o c h1 => exact ⟨whole_ok o h.1, h1 h.2⟩
  | when d c h1 => exact ⟨h.1, h1 h.2⟩
  | iff o l r h1 h2 => exact ⟨whole_ok o h.1, h1 h.2.1, h2 h.2.2⟩
  | odd v => exact absurd h id
theorem conO_whole (p : Pl) : ∀ d i left label, (conO p d i left label).1.whole ∧ (conO p d i left label).1.weight + 10 ≤ 20 * 2 ^ d := by
  have hn : ∀ d i left, (numO p (min d 2) i left).1.whole ∧ (numO p (min d 2) i left).1.nodes ≤ 7 := fun d i left => by
    have h := numO_whole p (min d 2) i left
    refine ⟨h.1, ?_⟩
    have h2 : 2 ^ (min d 2 + 1) ≤ 8 := by
      have : min d 2 = 0 ∨ min d 2 = 1 ∨ min d 2 = 2 := by omega
      rcases this with e | e | e <;> rw [e] <;> decide
    have := h.2.1
    omega
  intro d
  induction d with
  | zero =>
    intro i left label
    unfold conO
    split
    · exact ⟨by show (curOf p (i + 1)).size ≤ _; have := curOf_size p (i + 1); omega, by simp [C.weight]⟩
    · exact ⟨trivial, by simp [C.weight]⟩
  | succ d ih =>
    intro i left label
    have hp : 1 ≤ 2 ^ d := Nat.one_le_two_pow
    have hp2 : 2 ^ (d + 1) = 2 * 2 ^ d := by rw [Nat.pow_succ]; omega
    have h1 := ih (i + 1) (left - 1) label
    have h2 := ih (conO p d (i + 1) (left - 1) label).2.1 (conO p d (i + 1) (left - 1) label).2.2.1 (conO p d (i + 1) (left - 1) label).2.2.2
    have h3 := ih (i + 2) (left - 1) (label + 1)
    have h4 := ih (conO p d (i + 2) (left - 1) (label + 1)).2.1 (conO p d (i + 2) (left - 1) (label + 1)).2.2.1 (conO p d (i + 2) (left - 1) (label + 1)).2.2.2
    have h5 := ih (i + 2) (left - 1) label
    have ho := hn d (i + 1) (left - 1)
    have h6 := ih (numO p (min d 2) (i + 1) (left - 1)).2.1 (numO p (min d 2) (i + 1) (left - 1)).2.2 label
    have h7 := ih (conO p d (numO p (min d 2) (i + 1) (left - 1)).2.1 (numO p (min d 2) (i + 1) (left - 1)).2.2 label).2.1 (conO p d (numO p (min d 2) (i + 1) (left - 1)).2.1 (numO p (min d 2) (i + 1) (left - 1)).2.2 label).2.2.1 (conO p d (numO p (min d 2) (i + 1) (left - 1)).2.1 (numO p (min d 2) (i + 1) (left - 1)).2.2 label).2.2.2
    unfold conO
    rw [hp2]
    split
    · exact ⟨by show (curOf p (i + 1)).size ≤ _; have := curOf_size p (i + 1); omega, by simp only [C.weight]; omega⟩
    · split
      · exact ⟨trivial, by simp only [C.weight]; omega⟩
      · split
        · exact ⟨h1.1, by simp only [C.weight]; omega⟩
        · split
          · exact ⟨⟨h1.1, h2.1⟩, by simp only [C.weight]; omega⟩
          · split
            · refine ⟨⟨?_, h3.1, h4.1⟩, by simp only [C.weight]; omega⟩
              split
              · decide
              · have := chT_size (label + 1); omega
            · split
              · exact ⟨⟨ho.1, h6.1⟩, by simp only [C.weight]; omega⟩
              · split
                · exact ⟨⟨⟨by omega, by omega⟩, h5.1⟩, by simp only [C.weight]; omega⟩
                · exact ⟨⟨ho.1, h6.1, h7.1⟩, by simp only [C.weight]; omega⟩
/-- The contract of a plan. -/
def conP (p : Pl) : C := (conO p 5 0 24 0).1
theorem conP_whole (p : Pl) : (conP p).whole := (conO_whole p 5 0 24 0).1
theorem conP_weight (p : Pl) : (conP p).weight ≤ 630 := by have := (conO_whole p 5 0 24 0).2; simp at this; unfold conP; omega

set_option maxHeartbeats 1000000 in
set_option maxRecDepth 100000 in
theorem contract_any (p : Pl) (w : World) (h : PlanIn w p) : Calls Try.prog 29 #[planV p] w fun e w' => ∃ v, e = .returned v ∧ TIn w' w.heap.size (plainC (conP p)) v ∧ Below w.heap.size w w' := by
  unfold planV
  have HP : Hid (PlanIn w p) := h
  clear h
  go_enter Try.func29, Try.ntmps29
  go_wp2_with fail
  obtain ⟨W, hW⟩ : ∃ W, W = ((w.alloc (.cells #[.slice p.na p.nl p.nc, .slice p.wa p.wl p.wc] 25)).alloc (.cells #[.int .i64 0, .string ⟨#[]⟩, .int .i64 0, .slice none 0 0] 33)).alloc (.cells #[.slice p.na p.nl p.nc, .slice p.wa p.wl p.wc, .int .i64 0, .int .i64 24, .int .i64 0] 133) := ⟨_, rfl⟩
  have hWs : W.heap.size = w.heap.size + 3 := by rw [hW]; simp
  have HB : Hid (Below w.heap.size w W) := by rw [hW]; exact below_alloc (below_alloc (below_alloc (Below.refl _ _) _) _) _
  have HMI : Hid (MIn w W (w.heap.size + 1 + 1) p 0 24 (0 : Nat)) := by
    refine ⟨HP.out, by omega, HB.out, ?_⟩
    rw [hW]
    exact blk_new (by simp)
  have HZ : Hid (Blk W (w.heap.size + 1) 33 zeroT) := by
    rw [hW]
    exact (Below.heap_alloc _ _ _ (by simp)).trans (blk_new (by simp))
  rw [← hW]
  clear hW
  have hr5 := rC_le 5 (by omega)
  have HC := mterm_any w (w.heap.size + 1 + 1) p 5 (by omega) W 0 24 0 HMI.out (by omega) (by omega) (by omega) (by omega)
  refine HC.mono ?_
  rintro e w5 ⟨v, rfl, ht5, hm5, hg5⟩
  clear HC
  have ht5' := ht5
  obtain ⟨la, lc, rfl, _, _, _⟩ := ht5'
  have HZ5 : Hid (Blk w5 (w.heap.size + 1) 33 zeroT) := HZ.out.grew hg5 (by omega)
  obtain ⟨⟨z0, z1, z2, z3⟩, f0, f1, f2, f3⟩ := blk_zero HZ5.out
  have HB5 : Hid (Below w.heap.size w w5) := HB.out.trans (hg5.below (by omega) (by omega) (fun k hk => by cases hk))
  have HT5 : Hid (TIn w5 W.heap.size (plainC (conP p)) (.agg #[.int .i64 (plainC (conP p)).kind, .string (plainC (conP p)).s, .int .i64 (plainC (conP p)).n, .slice la (plainC (conP p)).k.length lc])) := ht5
  have HWS : Hid (W.heap.size = w.heap.size + 3) := hWs
  clear ht5 hm5 hg5 HZ HMI hWs HB
  rw [show (conO p 5 0 24 0).1 = conP p from rfl]
  go_wp2_with fail
  refine bodyPost_ret (results_cell_row rfl _ _ (w.heap.size + 1) 33 #[.int .i64 (plainC (conP p)).kind, .string (plainC (conP p)).s, .int .i64 (plainC (conP p)).n, .slice la (plainC (conP p)).k.length lc] (0, 0) _ rfl (set4_blk HZ5.out _ _ _ _) Try.underlying33 rfl infoT) rfl ?_
  have hs := HWS.out
  refine ⟨_, rfl, (HT5.out.set4 (R := w.heap.size + 1) (by omega) _ _ _ _).low (by omega), ?_⟩
  exact (((HB5.out.setCell (Nat.le_succ _) _).setCell (Nat.le_succ _) _).setCell (Nat.le_succ _) _).setCell (Nat.le_succ _) _

end Go.Proofs.Ythhjcpmnekibnaa
namespace Go.Proofs.Ythhjcpmnekibnaa
open Go.RowKit
set_option linter.unusedVariables false

theorem part_class {W w' : World} {t : T} {v r : Value} {f : Nat} (ih : ∀ w v, TIn w 0 t v → Calls Try.prog f #[v] w fun e w' => e = .returned r ∧ Below w.heap.size w w') (ht : TIn W 0 t v) (hw : Below W.heap.size W w') :
    Calls Try.prog f #[v] w' (fun e w'' => e = .returned r ∧ Below W.heap.size W w'') :=
  (ih w' v (ht.below hw)).mono (fun e w'' ⟨he, hb⟩ => ⟨he, hw.trans (hb.mono hw.size)⟩)


end Go.Proofs.Ythhjcpmnekibnaa
namespace Go.Proofs.Ythhjcpmnekibnaa
open Go.RowKit
set_option linter.unusedVariables false

end Go.Proofs.Ythhjcpmnekibnaa
namespace Go.Proofs.Ythhjcpmnekibnaa
open Go.RowKit
set_option linter.unusedVariables false

end Go.Proofs.Ythhjcpmnekibnaa
namespace Go.Proofs.Ythhjcpmnekibnaa
open Go.RowKit
set_option linter.unusedVariables false

end Go.Proofs.Ythhjcpmnekibnaa
namespace Go.Proofs.Ythhjcpmnekibnaa
open Go.RowKit
set_option linter.unusedVariables false

mutual
/-- The contract that a tree stands for. -/
def termOf : T → C
  | .mk kind s n k => if kind = 1 then .zero else if kind = 2 then .one s else match kind, k with
    | 3, [a] => .give (termOf a)
    | 4, [a, b] => .and (termOf a) (termOf b)
    | 5, [a, b] => .or s (termOf a) (termOf b)
    | 6, [o, a] => .scale (obsOf o) (termOf a)
    | 7, [a] => .when n (termOf a)
    | 8, [o, a, b] => .iff (obsOf o) (termOf a) (termOf b)
    | _, _ => .odd .nilIface
end
/-- A tree whose contracts have as many parts as they need. -/
inductive SC : T → Prop
  | leaf (kind : Int) (s : ByteArray) (n : Int) (k : List T) (h : kind = 0 ∨ kind = 1 ∨ kind = 2 ∨ 8 < kind) (hs : s.size ≤ 2147483648) : SC (.mk kind s n k)
  | give (s : ByteArray) (n : Int) (a : T) (ha : SC a) : SC (.mk 3 s n [a])
  | and (s : ByteArray) (n : Int) (a b : T) (ha : SC a) (hb : SC b) : SC (.mk 4 s n [a, b])
  | or (s : ByteArray) (n : Int) (a b : T) (hs : s.size ≤ 2147483648) (ha : SC a) (hb : SC b) : SC (.mk 5 s n [a, b])
  | scale (s : ByteArray) (n : Int) (o a : T) (ho : o.Shaped) (ha : SC a) : SC (.mk 6 s n [o, a])
  | when (s : ByteArray) (n : Int) (a : T) (hn : -9223372036854775808 ≤ n ∧ n ≤ 9223372036854775807) (ha : SC a) : SC (.mk 7 s n [a])
  | iff (s : ByteArray) (n : Int) (o a b : T) (ho : o.Shaped) (ha : SC a) (hb : SC b) : SC (.mk 8 s n [o, a, b])
theorem termOf_ok {t : T} (h : SC t) : (termOf t).Ok := by
  induction h with
  | leaf kind s n k h hs =>
    unfold termOf
    split
    · trivial
    · split
      · exact hs
      · rcases h with rfl | rfl | rfl | h
        · exact .inl rfl
        · contradiction
        · contradiction
        · split <;> first | omega | exact .inl rfl
  | give s n a ha iha => exact iha
  | and s n a b ha hb iha ihb => exact ⟨iha, ihb⟩
  | or s n a b hs ha hb iha ihb => exact ⟨hs, iha, ihb⟩
  | scale s n o a ho ha iha => exact ⟨obsOf_ok o ho, iha⟩
  | when s n a hn ha iha => exact ⟨hn, iha⟩
  | iff s n o a b ho ha hb iha ihb => exact ⟨obsOf_ok o ho, iha, ihb⟩
def TermPost (w : World) (c : C) (e : Ending) (w' : World) : Prop := e = .returned c.val ∧ Below w.heap.size w w'

end Go.Proofs.Ythhjcpmnekibnaa
namespace Go.Proofs.Ythhjcpmnekibnaa
open Go.RowKit
set_option linter.unusedVariables false

def sameC : C → C → Bool
  | .zero, .zero => true
  | .one s, .one t => decide (s = t)
  | .give a, .give b => sameC a b
  | .and l r, .and x y => sameC l x && sameC r y
  | .or s l r, .or t x y => decide (s = t) && (sameC l x && sameC r y)
  | .scale o a, .scale p b => sameO o p && sameC a b
  | .when d a, .when e b => decide (d = e) && sameC a b
  | .iff o l r, .iff p x y => sameO o p && (sameC l x && sameC r y)
  | _, _ => false
def sameCL : List C → List C → Bool
  | a :: l, b :: m => sameC a b && sameCL l m
  | _, _ => true
theorem sameC_head (a b : C) (h : ¬ (a.kind = b.kind ∧ a.text = b.text ∧ a.day = b.day)) : sameC a b = false := by
  cases a <;> cases b <;> simp [sameC, C.kind, C.text, C.day] at h ⊢ <;> simp [h]
theorem sameC_none (a b : C) (h : a.kind = 0) : sameC a b = false := by
  cases a <;> simp [C.kind] at h
  cases b <;> rfl
theorem sameC_kids (a b : C) (h0 : a.kind ≠ 0) (h : a.kind = b.kind ∧ a.text = b.text ∧ a.day = b.day) : a.nums.length = b.nums.length ∧ a.kids.length = b.kids.length ∧ sameC a b = (sameL a.nums b.nums && sameCL a.kids b.kids) := by
  cases a <;> cases b <;> simp [sameC, sameL, sameCL, C.kids, C.nums, C.kind, C.text, C.day] at h h0 ⊢ <;> simp [h]
theorem sameCL_take (l m : List C) (i : Nat) (a b : C) (h1 : l[i]? = some a) (h2 : m[i]? = some b) : sameCL (l.take (i + 1)) (m.take (i + 1)) = (sameCL (l.take i) (m.take i) && sameC a b) := by
  induction l generalizing m i with
  | nil => simp at h1
  | cons x l ih =>
    cases m with
    | nil => simp at h2
    | cons y m =>
      cases i with
      | zero => simp at h1 h2; subst h1 h2; simp [sameCL]
      | succ i =>
        simp at h1 h2
        simp only [List.take_succ_cons, sameCL]
        rw [ih m i h1 h2, Bool.and_assoc]
theorem sameCL_no (l m : List C) (i : Nat) (a b : C) (h1 : l[i]? = some a) (h2 : m[i]? = some b) (h : sameC a b = false) : sameCL l m = false := by
  induction l generalizing m i with
  | nil => simp at h1
  | cons x l ih =>
    cases m with
    | nil => simp at h2
    | cons y m =>
      cases i with
      | zero => simp at h1 h2; subst h1 h2; simp [sameCL, h]
      | succ i =>
        simp at h1 h2
        simp [sameCL, ih m i h1 h2]
end Go.Proofs.Ythhjcpmnekibnaa
namespace Go.Proofs.Ythhjcpmnekibnaa
open Go.RowKit
set_option linter.unusedVariables false

theorem sc_plain (c : C) (h : c.Ok) : SC (plainC c) := by
  induction c with
  | zero => exact .leaf _ _ _ _ (by omega) (by decide)
  | one s => exact .leaf _ _ _ _ (by omega) h
  | give c h1 => exact .give _ _ _ (h1 h)
  | and l r h1 h2 => exact .and _ _ _ _ (h1 h.1) (h2 h.2)
  | or s l r h1 h2 => exact .or _ _ _ _ h.1 (h1 h.2.1) (h2 h.2.2)
  | scale o c h1 => exact .scale _ _ _ _ (shaped_plain o h.1) (h1 h.2)
  | when d c h1 => exact .when _ _ _ h.1 (h1 h.2)
  | iff o l r h1 h2 => exact .iff _ _ _ _ _ (shaped_plain o h.1) (h1 h.2.1) (h2 h.2.2)
  | odd v => exact .leaf _ _ _ _ (by omega) (by decide)
theorem termOf_whole (c : C) (h : c.whole) : termOf (plainC c) = c := by
  induction c with
  | zero => rfl
  | one s => rfl
  | give c h1 => show C.give (termOf (plainC c)) = _; rw [h1 h]
  | and l r h1 h2 => show C.and (termOf (plainC l)) (termOf (plainC r)) = _; rw [h1 h.1, h2 h.2]
  | or s l r h1 h2 => show C.or s (termOf (plainC l)) (termOf (plainC r)) = _; rw [h1 h.2.1, h2 h.2.2]
  | scale o c h1 => show C.scale (obsOf (plain o)) (termOf (plainC c)) = _; rw [obsOf_whole o h.1, h1 h.2]
  | when d c h1 => show C.when d (termOf (plainC c)) = _; rw [h1 h.2]
  | iff o l r h1 h2 => show C.iff (obsOf (plain o)) (termOf (plainC l)) (termOf (plainC r)) = _; rw [obsOf_whole o h.1, h1 h.2.1, h2 h.2.2]
  | odd v => exact absurd h id
theorem whole_sameC (c : C) (h : c.whole) : sameC c c = true := by
  induction c with
  | zero => rfl
  | one s => simp [sameC]
  | give c h1 => simp [sameC, h1 h]
  | and l r h1 h2 => simp [sameC, h1 h.1, h2 h.2]
  | or s l r h1 h2 => simp [sameC, h1 h.2.1, h2 h.2.2]
  | scale o c h1 => simp [sameC, whole_same o h.1, h1 h.2]
  | when d c h1 => simp [sameC, h1 h.2]
  | iff o l r h1 h2 => simp [sameC, whole_same o h.1, h1 h.2.1, h2 h.2.2]
  | odd v => exact absurd h id
theorem same_give (c : C) : sameC (.give c) c = false := by
  induction c with
  | give c ih => simp only [sameC]; exact ih
  | _ => rfl
theorem same_give' (c : C) : sameC c (.give c) = false := by
  induction c with
  | give c ih => simp only [sameC]; exact ih
  | _ => rfl
/-- A plan's contract, made by two calls in one statement: whatever the order. -/
theorem con_made {p : Pl} {W X : World} (hP : PlanIn W p) (hX : Below W.heap.size W X) : Calls Try.prog 29 #[.agg #[.slice p.na p.nl p.nc, .slice p.wa p.wl p.wc]] X (fun e w' => ∃ v, e = .returned v ∧ Below W.heap.size W w' ∧ TIn w' 0 (plainC (conP p)) v) :=
  (contract_any p X (hP.below hX)).mono (fun e w' ⟨v, he, ht, hb⟩ => ⟨v, he, hX.trans (hb.mono hX.size), ht.low (Nat.zero_le _)⟩)
end Go.Proofs.Ythhjcpmnekibnaa
