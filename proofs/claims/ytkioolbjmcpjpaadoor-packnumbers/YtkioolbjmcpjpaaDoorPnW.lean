/- The walk of PackNumbers. -/
import Derived.Test.YtkioolbjmcpjpaaDoorPkN
namespace Go.Proofs.YtkioolbjmcpjpaaDoor.Ev
open Go.RowKit
set_option linter.unusedVariables false

theorem gfL_numL (l : List UInt8) : gfL (numL l) l.length = l := by
  have h : ∀ r : List UInt8, gfL (numL r.reverse) r.length = r.reverse := by
    intro r
    induction r with
    | nil => rfl
    | cons c r ih =>
      have hc := c.toNat_lt
      rw [List.reverse_cons, numL_snoc, List.length_cons, gfL_succ, show (numL r.reverse * 256 + c.toNat) / 256 = numL r.reverse by omega, ih]
      congr 2
      apply UInt8.toNat_inj.1
      simp
  have := h l.reverse
  simpa using this
theorem tnN_back (l : List UInt8) (h : l.length = 8) : gfL (nat64 (tnN l)) 8 = l := by
  have e : nat64 (tnN l) = numL l := by
    have := numL_lt l
    rw [h] at this
    unfold tnN
    rw [if_pos h]
    unfold int64 nat64
    split <;> omega
  rw [e, ← h]
  exact gfL_numL l
set_option maxHeartbeats 4000000 in
set_option maxRecDepth 100000 in
theorem numbers_walk (n : Int) (a : Option Addr) (c : Nat) (l : List UInt8) (w : World) (h1 : -9223372036854775808 ≤ n) (h2 : n ≤ 9223372036854775807) (hb : BIn w (.slice a l.length c) l) (hs : SlOk a l.length c) (hl : l.length ≤ 140737488351232) (htab : TabW w) :
    Calls Tryd.prog 3 #[.int .i64 n, .slice a l.length c] w fun e w' => e = .returned (.bool true) ∧ Below w.heap.size w w' := by
  have HB := hidIn hb
  have HT := hidIn htab
  have HN := hidIn (number8_any n w)
  have HTN := hidIn (fun W h => takeN_any (.slice a l.length c) l W h (by omega))
  have HK := hidIn (fun W => number8_any (tnN l) W)
  have HW : Hid (IntKind.u64.wrap n = (nat64 n : Int)) := wrap64 n
  have HM := hidIn (numL_gfL 8 (nat64 n) (nat64_lt n))
  have HMS := hidIn (fun k x hx => numL_take (gfL (nat64 n) 8) k x hx)
  have HSM := hidIn (fun k hk => numL_small (gfL (nat64 n) 8) k hk)
  have HLN : Hid ((gfL (nat64 n) 8).length = 8) := gfL_length _ _
  have HMT : Hid (numL ((gfL (nat64 n) 8).take 8) = numL (gfL (nat64 n) 8)) := by unfold Hid; rw [List.take_of_length_le (by rw [gfL_length]; omega)]
  have HTB := hidIn (tnN_back l)
  have HTZ : Hid (l.length ≠ 8 → tnN l = 0) := fun h => by unfold tnN; rw [if_neg h]
  generalize gfL (nat64 n) 8 = L at *
  generalize nat64 n = m at *
  generalize tnN l = k at *
  clear hb hs htab
  go_enter Tryd.func3, Tryd.ntmps3
  go_wp2_with fail
  refine HN.out.mono ?_
  rintro e w1 ⟨v, rfl, hv, hb1⟩
  obtain ⟨ao, cc, rfl, hcell⟩ := own_bin hv
  have HC := hidIn hcell
  have HB1 := hidIn hb1
  have HL1 := hidIn (HB.out.below hb1)
  clear hv hb1 hcell HN
  rw [HLN.out]
  go_wp2_with fail
  go_loop [6, 7] (fun s6 s7 => ∃ k : Nat, k ≤ 8 ∧ s7 = .int .i64 k ∧ s6 = .int .u64 (numL (L.take k))) (fun _ s7 => 8 - (intOf s7).toNat)
  case atStart => exact ⟨0, by omega, rfl, rfl⟩
  case round =>
    obtain ⟨j, hj, rfl, rfl⟩ := hrel
    by_cases hlt : j < 8
    · have hlt' : (j : Int) < 8 := by omega
      obtain ⟨x, hx⟩ := lt_of_get (show j < L.length by rw [HLN.out]; exact hlt)
      obtain ⟨b, off, rfl, hc⟩ := HC.out j x hx
      have HS := hidIn (HMS.out j x hx)
      have hn : numL (L.take j) < 72057594037927936 := by
        have h1 := HSM.out j (by omega)
        have h2 : 256 ^ j ≤ 256 ^ 7 := Nat.pow_le_pow_right (by omega) (by omega)
        omega
      have hxb := x.toNat_lt
      have h2 : IntKind.u64.wrap (x.toNat : Int) = (x.toNat : Int) := by rw [wrap64]; unfold nat64; omega
      generalize numL (L.take j) = N at *
      have h1 : IntKind.u64.wrap ((N : Int) * 256) = (N : Int) * 256 := by rw [wrap64]; unfold nat64; omega
      have h3 : IntKind.u64.wrap ((N : Int) * 256 + (x.toNat : Int)) = (N : Int) * 256 + (x.toNat : Int) := by rw [wrap64]; unfold nat64; omega
      clear hx hn hxb
      go_wp2_with fail
      go_round
      case rel => exact ⟨j + 1, by omega, by go_num, by rw [HS.out, Int.natCast_add, Int.natCast_mul]; rfl⟩
      case measure => simp [intOf]; omega
    · have hlt' : ¬ (j : Int) < 8 := by omega
      have hj8 : j = 8 := by omega
      subst hj8
      rw [HMT.out, HM.out]
      have hw := HW.out
      clear hlt hj
      by_cases h8 : l.length = 8
      · have h8b : ((l.length : Int) == 8) = true := by rw [beq_iff_eq]; omega
        have HTB8 := hidIn (HTB.out h8)
        rw [decide_eq_true h8] at HTN
        clear h8 HTZ HTB
        go_wp2_with fail
        refine calls_same (HTN.out w1 HL1.out) ?_
        go_wp2_with fail
        refine (HK.out w1).mono ?_
        rintro e w2 ⟨v2, rfl, hv2, hb2⟩
        rw [HTB8.out] at hv2
        have HV2 := hidIn (own_bin hv2)
        have HB2 := hidIn (HB1.out.trans (hb2.mono HB1.out.size))
        have HL2 := hidIn (HL1.out.below hb2)
        clear hv2 hb2
        go_wp2_with fail
        refine (sameB_any v2 _ l l w2 HV2.out HL2.out (by omega) (by omega)).mono ?_
        rintro e w3 ⟨rfl, hb3⟩
        rw [decide_eq_true rfl]
        have HB3 := hidIn (HB2.out.trans (hb3.mono HB2.out.size))
        clear hb3
        go_wp2_with fail
        refine (wakes12_any w3 (tabW_below HT.out HB3.out)).mono ?_
        rintro e w4 ⟨rfl, hb4⟩
        have HB4 := hidIn (HB3.out.trans (hb4.mono HB3.out.size))
        clear hb4
        go_wp2_with fail
        go_ret
        exact ⟨rfl, HB4.out⟩
      · have h8b : ((l.length : Int) == 8) = false := by rw [beq_eq_false_iff_ne]; omega
        have hk0 := HTZ.out h8
        subst hk0
        rw [decide_eq_false h8] at HTN
        clear h8 HTZ HTB
        go_wp2_with fail
        refine calls_same (HTN.out w1 HL1.out) ?_
        go_wp2_with fail
        refine (wakes12_any w1 (tabW_below HT.out HB1.out)).mono ?_
        rintro e w4 ⟨rfl, hb4⟩
        have HB4 := hidIn (HB1.out.trans (hb4.mono HB1.out.size))
        clear hb4
        go_wp2_with fail
        go_ret
        exact ⟨rfl, HB4.out⟩

end Go.Proofs.YtkioolbjmcpjpaaDoor.Ev
