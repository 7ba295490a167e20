/- The document's own answer: numbers, walked. -/
import Derived.Test.YtpopboanflnphaaRefB
import Derived.Deep.DeepCutAuto
namespace Go.Proofs.Ytpopboanflnphaa
open Go.RowKit
set_option linter.unusedVariables false

def refNum (neg : Bool) (t : List UInt8) : Int × Bool :=
  if t = [] ∨ 13 < t.length ∨ (t.head? = some 48 ∧ (1 < t.length ∨ neg = true)) then (0, false)
  else if t.all isDig = true then (if 1000000000000 < valB t then (0, false) else (if neg = true then - valB t else valB t, true)) else (0, false)

theorem refNum_short (neg : Bool) (t : List UInt8) (h : t = [] ∨ 13 < t.length ∨ (t.head? = some 48 ∧ (1 < t.length ∨ neg = true))) : refNum neg t = (0, false) := by rw [refNum, if_pos h]
theorem refNum_nodig (neg : Bool) (t : List UInt8) (h : t.all isDig = false) : refNum neg t = (0, false) := by
  rw [refNum]; simp [h]
theorem refNum_dig (neg : Bool) (t : List UInt8) (h : ¬ (t = [] ∨ 13 < t.length ∨ (t.head? = some 48 ∧ (1 < t.length ∨ neg = true)))) (hd : t.all isDig = true) :
    refNum neg t = if 1000000000000 < valB t then (0, false) else (if neg = true then - valB t else valB t, true) := by rw [refNum, if_neg h, if_pos hd]

theorem valB_pos (t : List UInt8) : ∀ a : Int, 0 ≤ a → t.all isDig = true → 0 < a ∨ (t ≠ [] ∧ t.head? ≠ some 48) → 0 < t.foldl (fun a c => a * 10 + ((c.toNat : Int) - 48)) a := by
  induction t with
  | nil =>
    intro a h0 _ h
    rcases h with h | h
    · exact h
    · exact absurd rfl h.1
  | cons c t ih =>
    intro a h0 ha h
    simp only [List.all_cons, Bool.and_eq_true] at ha
    have hc : 48 ≤ (c.toNat : Int) ∧ (c.toNat : Int) ≤ 57 := by simpa [isDig, digB] using ha.1
    rw [List.foldl_cons]
    refine ih _ (by omega) ha.2 (.inl ?_)
    rcases h with h | h
    · omega
    · have : ¬ c = 48 := by intro e; apply h.2; rw [e]; rfl
      have : c.toNat ≠ 48 := by intro e; apply this; apply UInt8.toNat_inj.1; exact e
      omega

theorem numOf_ref (l : List UInt8) : numOf l = if l.head? = some 45 then refNum true l.tail else refNum false l := by
  cases l with
  | nil => rfl
  | cons c t =>
    by_cases hc : c = 45
    · subst hc
      rw [numOf_neg]
      simp only [List.head?_cons, if_true, List.tail_cons]
      by_cases h1 : t = [] ∨ 13 < t.length ∨ (1 < t.length ∧ t.head? = some 48)
      · rw [natOf_short t h1]
        have : t = [] ∨ 13 < t.length ∨ (t.head? = some 48 ∧ (1 < t.length ∨ true = true)) := by
          rcases h1 with h | h | h
          · exact .inl h
          · exact .inr (.inl h)
          · exact .inr (.inr ⟨h.2, .inl h.1⟩)
        rw [refNum_short _ _ this]
        simp
      · by_cases hd : t.all isDig = true
        · rw [natOf_dig t h1 hd]
          by_cases h48 : t.head? = some 48
          · have hl : t.length = 1 := by
              have h2 : ¬ t = [] := fun e => h1 (.inl e)
              have h3 : ¬ 1 < t.length := fun e => h1 (.inr (.inr ⟨e, h48⟩))
              have := List.length_pos_iff.2 h2
              omega
            have ht : t = [48] := by
              cases t with
              | nil => simp at hl
              | cons a u =>
                simp at h48 hl
                subst h48 hl
                rfl
            rw [refNum_short _ _ (.inr (.inr ⟨h48, .inr rfl⟩)), ht]
            decide
          · have hne : ¬ t = [] := fun e => h1 (.inl e)
            have hpos := valB_pos t 0 (by omega) hd (.inr ⟨hne, h48⟩)
            change 0 < valB t at hpos
            rw [refNum_dig _ _ (by
              rintro (h | h | h)
              · exact hne h
              · exact h1 (.inr (.inl h))
              · exact h48 h.1) hd]
            by_cases hb : 1000000000000 < valB t
            · simp [hb]
            · simp [hb]; omega
        · have hd' : t.all isDig = false := by simpa using hd
          rw [natOf_nodig t hd', refNum_nodig _ _ hd']
          simp
    · rw [numOf_pos _ (by simpa using hc), if_neg (by simpa using hc)]
      unfold natOf refNum
      have e : (c :: t = [] ∨ 13 < (c :: t).length ∨ (1 < (c :: t).length ∧ (c :: t).head? = some 48)) ↔ (c :: t = [] ∨ 13 < (c :: t).length ∨ ((c :: t).head? = some 48 ∧ (1 < (c :: t).length ∨ false = true))) := by
        constructor
        · rintro (h | h | h)
          · exact .inl h
          · exact .inr (.inl h)
          · exact .inr (.inr ⟨h.2, .inl h.1⟩)
        · rintro (h | h | h)
          · exact .inl h
          · exact .inr (.inl h)
          · exact .inr (.inr ⟨h.2.resolve_right (by simp), h.1⟩)
      by_cases hc1 : (c :: t = [] ∨ 13 < (c :: t).length ∨ (1 < (c :: t).length ∧ (c :: t).head? = some 48))
      · rw [if_pos hc1, if_pos (e.1 hc1)]
      · rw [if_neg hc1, if_neg (fun h => hc1 (e.2 h))]
        simp

set_option maxHeartbeats 2000000 in
set_option maxRecDepth 100000 in
theorem refNumber_any (s : ByteArray) (w : World) (hs : s.size ≤ maxLen) :
    Calls Try.prog 16 #[.string s] w fun e w' => e = .returned (.tuple #[.int .i64 (numOf s.data.toList).1, .bool (numOf s.data.toList).2]) ∧ w' = w := by
  unfold maxLen at hs
  have hN := numOf_ref s.data.toList
  obtain ⟨neg, hneg⟩ : ∃ neg : Bool, neg = decide (s.data.toList.head? = some 45) := ⟨_, rfl⟩
  cases neg
  · have hh : ¬ s.data.toList.head? = some 45 := by simpa using hneg.symm
    rw [if_neg hh] at hN
    have HN : Hid (numOf s.data.toList = refNum false s.data.toList) := hN
    have e1 : ∀ h : 0 < s.size, (((s[0]'h).toNat : Int) == 45) = false := by
      intro h
      rw [beq_eq_false_iff_ne]
      intro e
      apply hh
      rw [head_eq s h]
      congr 1
      apply UInt8.toNat_inj.1
      show _ = 45
      omega
    clear hN hneg hh
    by_cases hq : 0 < s.size
    · have e1' := e1 hq
      clear e1
      go_enter Try.func16, Try.ntmps16
      go_upto_if 15 with fail
      go_cut [0] (fun s0 wx => wx = w ∧ ∃ t : ByteArray, s0 = .string t ∧ t.size ≤ 9223372036854775807 ∧ Hid (numOf s.data.toList = refNum false t.data.toList))
      case first =>
        go_wp2_with fail
        go_meet
        case rel => exact ⟨rfl, s, rfl, hs, HN⟩
      case rest =>
        clear HN
        obtain ⟨rfl, t, rfl, ht, HN⟩ := hcut
        clear e1' hq hs
        have hlen : t.data.toList.length = t.size := by simp
        by_cases h0 : t.size = 0
        · have h0' : (t.size : Int) < 1 := by omega
          have HF : Hid (refNum false t.data.toList = (0, false)) := refNum_short _ _ (.inl (List.eq_nil_of_length_eq_zero (by omega)))
          clear hlen
          go_wp2_with fail
          go_ret2
          rw [HN.out, HF.out]
          exact ⟨rfl, rfl⟩
        have hp : 0 < t.size := by omega
        have h0' : ¬ (t.size : Int) < 1 := by omega
        have h0d : decide ((t.size : Int) < 1) = false := by simpa using h0'
        by_cases h13 : 13 < t.size
        · have HF : Hid (refNum false t.data.toList = (0, false)) := refNum_short _ _ (.inr (.inl (by omega)))
          have h13' : (13 : Int) < (t.size : Int) := by omega
          clear hlen h13
          go_wp2_with fail
          go_ret2
          rw [HN.out, HF.out]
          exact ⟨rfl, rfl⟩
        have h13' : ¬ (13 : Int) < (t.size : Int) := by omega
        have h13d : decide ((13 : Int) < (t.size : Int)) = false := by simpa using h13'
        by_cases hz : t.data.toList.head? = some 48 ∧ (1 < t.size ∨ false = true)
        · have HF : Hid (refNum false t.data.toList = (0, false)) := refNum_short _ _ (.inr (.inr (by rw [hlen]; exact hz)))
          have ez : (((t[0]'hp).toNat : Int) == 48) = true := by
            have h2 := hz.1
            rw [head_eq t hp] at h2
            rw [Option.some.inj h2]; rfl
          have hz2 := hz.2
          clear hz hlen
          by_cases h1 : 1 < t.size
          · have h1' : (1 : Int) < (t.size : Int) := by omega
            clear hz2
            go_wp2_with fail
            go_ret2
            rw [HN.out, HF.out]
            exact ⟨rfl, rfl⟩
          · have h1' : ¬ (1 : Int) < (t.size : Int) := by omega
            have h1d : decide ((1 : Int) < (t.size : Int)) = false := by simpa using h1'
            exfalso
            rcases hz2 with h | h
            · exact h1 h
            · cases h
        have hne : ¬ (t.data.toList = [] ∨ 13 < t.data.toList.length ∨ (t.data.toList.head? = some 48 ∧ (1 < t.data.toList.length ∨ false = true))) := by
          rw [hlen]
          rintro (h | h | h)
          · rw [h] at hlen; simp at hlen; omega
          · omega
          · exact hz h
        have HD : Hid (t.data.toList.all isDig = true → refNum false t.data.toList = if 1000000000000 < valB t.data.toList then (0, false) else (if false = true then - valB t.data.toList else valB t.data.toList, true)) := refNum_dig false _ hne
        have HL : Hid (t.data.toList.length = t.size) := hlen
        have hzz : ((((t[0]'hp).toNat : Int) == 48) = false) ∨ ((((t[0]'hp).toNat : Int) == 48) = true ∧ ¬ 1 < t.size ∧ false = false) := by
          by_cases e : (t[0]'hp) = 48
          · right
            have hh : t.data.toList.head? = some 48 := by rw [head_eq t hp, e]
            refine ⟨by rw [e]; rfl, fun h => hz ⟨hh, .inl h⟩, ?_⟩
            cases hq : false
            · rfl
            · exact absurd ⟨hh, .inr hq⟩ hz
          · left
            rw [beq_eq_false_iff_ne]
            intro h
            apply e
            apply UInt8.toNat_inj.1
            show _ = 48
            omega
        clear hne hlen hz h0 h0'
        rcases hzz with ez | ⟨ez, hz1, hz2⟩
        · go_wp2_with fail
          go_loop [5, 6] (fun n i => ∃ k : Nat, k ≤ t.size ∧ i = .int .i64 k ∧ n = .int .i64 (valB (t.data.toList.take k)) ∧ Hid ((t.data.toList.take k).all isDig = true)) (fun _ i => t.size - (intOf i).toNat)
          case atStart => exact ⟨0, by omega, rfl, rfl, rfl⟩
          case round =>
            obtain ⟨k, hk, rfl, rfl, HA⟩ := hrel
            have hb := valB_bd _ HA.out
            have hl : (t.data.toList.take k).length ≤ 13 := by rw [List.length_take]; omega
            have hp13 := pow13 _ hl
            have hbd : valB (t.data.toList.take k) < 10000000000000 := by omega
            have hbd0 := hb.1
            clear hb hp13 hl
            by_cases hlt : k < t.size
            · have hlt' : (k : Int) < (t.size : Int) := by omega
              have hsn := valB_snoc (t.data.toList.take k) t[k]
              have hts := take_snoc t k hlt
              have HV : Hid (valB (t.data.toList.take (k + 1)) = valB (t.data.toList.take k) * 10 + ((t[k].toNat : Int) - 48)) := by rw [hts]; exact hsn
              have HT : Hid (t.data.toList.take (k + 1) = t.data.toList.take k ++ [t[k]]) := hts
              clear hsn hts
              have hbyte : (t[k].toNat : Int) < 256 := by have := t[k].toNat_lt; omega
              have hbyte0 : (0 : Int) ≤ (t[k].toNat : Int) := by omega
              by_cases hd1 : (t[k].toNat : Int) < 48
              · go_wp2_with fail
                go_ret2
                have hno := refNum_nodig false _ (all_of_getElem t.data.toList k (by rw [HL.out]; exact hlt) (by show digB (t[k].toNat : Int) = false; simp [digB]; omega))
                rw [HN.out, hno]
                exact ⟨rfl, rfl⟩
              · by_cases hd2 : (57 : Int) < (t[k].toNat : Int)
                · go_wp2_with fail
                  go_ret2
                  have hno := refNum_nodig false _ (all_of_getElem t.data.toList k (by rw [HL.out]; exact hlt) (by show digB (t[k].toNat : Int) = false; simp [digB]; omega))
                  rw [HN.out, hno]
                  exact ⟨rfl, rfl⟩
                · have hd : isDig t[k] = true := by unfold isDig digB; simp; omega
                  have HDk : Hid (isDig t[k] = true) := hd
                  clear hd
                  go_wp2_with fail
                  go_round
                  case rel => exact ⟨k + 1, by omega, by go_num, by rw [HV.out]; first | rfl | go_num, by unfold Hid; rw [HT.out, List.all_append, HA.out]; simpa using HDk.out⟩
                  case measure => simp [intOf]; omega
            · have hlt' : ¬ (k : Int) < (t.size : Int) := by omega
              have hks : t.data.toList.take k = t.data.toList := List.take_of_length_le (by rw [HL.out]; omega)
              rw [hks] at hbd hbd0
              have hall2 := HA.out
              rw [hks] at hall2
              have HF : Hid (refNum false t.data.toList = if 1000000000000 < valB t.data.toList then (0, false) else (if false = true then - valB t.data.toList else valB t.data.toList, true)) := HD.out hall2
              clear hall2
              rw [hks]
              clear hks
              by_cases hbig : 1000000000000 < valB t.data.toList
              · go_wp2_with fail
                go_ret2
                rw [HN.out, HF.out, if_pos hbig]
                exact ⟨rfl, rfl⟩
              · go_wp2_with fail
                go_ret2
                rw [HN.out, HF.out, if_neg (by omega)]
                exact ⟨rfl, rfl⟩
        · have hz1d : decide ((1 : Int) < (t.size : Int)) = false := by simp; omega
          go_wp2_with fail
          go_loop [5, 6] (fun n i => ∃ k : Nat, k ≤ t.size ∧ i = .int .i64 k ∧ n = .int .i64 (valB (t.data.toList.take k)) ∧ Hid ((t.data.toList.take k).all isDig = true)) (fun _ i => t.size - (intOf i).toNat)
          case atStart => exact ⟨0, by omega, rfl, rfl, rfl⟩
          case round =>
            obtain ⟨k, hk, rfl, rfl, HA⟩ := hrel
            have hb := valB_bd _ HA.out
            have hl : (t.data.toList.take k).length ≤ 13 := by rw [List.length_take]; omega
            have hp13 := pow13 _ hl
            have hbd : valB (t.data.toList.take k) < 10000000000000 := by omega
            have hbd0 := hb.1
            clear hb hp13 hl
            by_cases hlt : k < t.size
            · have hlt' : (k : Int) < (t.size : Int) := by omega
              have hsn := valB_snoc (t.data.toList.take k) t[k]
              have hts := take_snoc t k hlt
              have HV : Hid (valB (t.data.toList.take (k + 1)) = valB (t.data.toList.take k) * 10 + ((t[k].toNat : Int) - 48)) := by rw [hts]; exact hsn
              have HT : Hid (t.data.toList.take (k + 1) = t.data.toList.take k ++ [t[k]]) := hts
              clear hsn hts
              have hbyte : (t[k].toNat : Int) < 256 := by have := t[k].toNat_lt; omega
              have hbyte0 : (0 : Int) ≤ (t[k].toNat : Int) := by omega
              by_cases hd1 : (t[k].toNat : Int) < 48
              · go_wp2_with fail
                go_ret2
                have hno := refNum_nodig false _ (all_of_getElem t.data.toList k (by rw [HL.out]; exact hlt) (by show digB (t[k].toNat : Int) = false; simp [digB]; omega))
                rw [HN.out, hno]
                exact ⟨rfl, rfl⟩
              · by_cases hd2 : (57 : Int) < (t[k].toNat : Int)
                · go_wp2_with fail
                  go_ret2
                  have hno := refNum_nodig false _ (all_of_getElem t.data.toList k (by rw [HL.out]; exact hlt) (by show digB (t[k].toNat : Int) = false; simp [digB]; omega))
                  rw [HN.out, hno]
                  exact ⟨rfl, rfl⟩
                · have hd : isDig t[k] = true := by unfold isDig digB; simp; omega
                  have HDk : Hid (isDig t[k] = true) := hd
                  clear hd
                  go_wp2_with fail
                  go_round
                  case rel => exact ⟨k + 1, by omega, by go_num, by rw [HV.out]; first | rfl | go_num, by unfold Hid; rw [HT.out, List.all_append, HA.out]; simpa using HDk.out⟩
                  case measure => simp [intOf]; omega
            · have hlt' : ¬ (k : Int) < (t.size : Int) := by omega
              have hks : t.data.toList.take k = t.data.toList := List.take_of_length_le (by rw [HL.out]; omega)
              rw [hks] at hbd hbd0
              have hall2 := HA.out
              rw [hks] at hall2
              have HF : Hid (refNum false t.data.toList = if 1000000000000 < valB t.data.toList then (0, false) else (if false = true then - valB t.data.toList else valB t.data.toList, true)) := HD.out hall2
              clear hall2
              rw [hks]
              clear hks
              by_cases hbig : 1000000000000 < valB t.data.toList
              · go_wp2_with fail
                go_ret2
                rw [HN.out, HF.out, if_pos hbig]
                exact ⟨rfl, rfl⟩
              · go_wp2_with fail
                go_ret2
                rw [HN.out, HF.out, if_neg (by omega)]
                exact ⟨rfl, rfl⟩
    · have hq' : ¬ (0 : Int) < (s.size : Int) := by omega
      have hqd : decide ((0 : Int) < (s.size : Int)) = false := by simpa using hq'
      have h0 : (s.size : Int) < 1 := by omega
      have HF : Hid (refNum false s.data.toList = (0, false)) := refNum_short _ _ (.inl (List.eq_nil_of_length_eq_zero (by rw [show s.data.toList.length = s.size from by simp]; omega)))
      clear e1 hq
      go_enter Try.func16, Try.ntmps16
      go_wp2_with fail
      go_ret2
      rw [HN.out, HF.out]
      exact ⟨rfl, rfl⟩
  · have hh : s.data.toList.head? = some 45 := by simpa using hneg.symm
    rw [if_pos hh] at hN
    have hq : 0 < s.size := by
      cases hl : s.data.toList with
      | nil => rw [hl] at hh; simp at hh
      | cons c u => have : s.data.toList.length = s.size := by simp
                    rw [hl] at this; simp at this; omega
    have e1' : (((s[0]'hq).toNat : Int) == 45) = true := by
      rw [head_eq s hq] at hh
      rw [Option.some.inj hh]; rfl
    have HN : Hid (numOf s.data.toList = refNum true (s.extract 1 s.size).data.toList) := by
      unfold Hid; rw [hN, toList_cut1, List.drop_one]
    clear hN hneg hh
    go_enter Try.func16, Try.ntmps16
    go_upto_if 15 with fail
    go_cut [0] (fun s0 wx => wx = w ∧ ∃ t : ByteArray, s0 = .string t ∧ t.size ≤ 9223372036854775807 ∧ Hid (numOf s.data.toList = refNum true t.data.toList))
    case first =>
      go_wp2_with fail
      go_meet
      case rel => exact ⟨rfl, _, rfl, by rw [ByteArray.size_extract]; omega, HN⟩
    case rest =>
      clear HN
      obtain ⟨rfl, t, rfl, ht, HN⟩ := hcut
      clear e1' hq hs
      have hlen : t.data.toList.length = t.size := by simp
      by_cases h0 : t.size = 0
      · have h0' : (t.size : Int) < 1 := by omega
        have HF : Hid (refNum true t.data.toList = (0, false)) := refNum_short _ _ (.inl (List.eq_nil_of_length_eq_zero (by omega)))
        clear hlen
        go_wp2_with fail
        go_ret2
        rw [HN.out, HF.out]
        exact ⟨rfl, rfl⟩
      have hp : 0 < t.size := by omega
      have h0' : ¬ (t.size : Int) < 1 := by omega
      have h0d : decide ((t.size : Int) < 1) = false := by simpa using h0'
      by_cases h13 : 13 < t.size
      · have HF : Hid (refNum true t.data.toList = (0, false)) := refNum_short _ _ (.inr (.inl (by omega)))
        have h13' : (13 : Int) < (t.size : Int) := by omega
        clear hlen h13
        go_wp2_with fail
        go_ret2
        rw [HN.out, HF.out]
        exact ⟨rfl, rfl⟩
      have h13' : ¬ (13 : Int) < (t.size : Int) := by omega
      have h13d : decide ((13 : Int) < (t.size : Int)) = false := by simpa using h13'
      by_cases hz : t.data.toList.head? = some 48 ∧ (1 < t.size ∨ true = true)
      · have HF : Hid (refNum true t.data.toList = (0, false)) := refNum_short _ _ (.inr (.inr (by rw [hlen]; exact hz)))
        have ez : (((t[0]'hp).toNat : Int) == 48) = true := by
          have h2 := hz.1
          rw [head_eq t hp] at h2
          rw [Option.some.inj h2]; rfl
        have hz2 := hz.2
        clear hz hlen
        by_cases h1 : 1 < t.size
        · have h1' : (1 : Int) < (t.size : Int) := by omega
          clear hz2
          go_wp2_with fail
          go_ret2
          rw [HN.out, HF.out]
          exact ⟨rfl, rfl⟩
        · have h1' : ¬ (1 : Int) < (t.size : Int) := by omega
          have h1d : decide ((1 : Int) < (t.size : Int)) = false := by simpa using h1'
          go_wp2_with fail
          go_ret2
          rw [HN.out, HF.out]
          exact ⟨rfl, rfl⟩
      have hne : ¬ (t.data.toList = [] ∨ 13 < t.data.toList.length ∨ (t.data.toList.head? = some 48 ∧ (1 < t.data.toList.length ∨ true = true))) := by
        rw [hlen]
        rintro (h | h | h)
        · rw [h] at hlen; simp at hlen; omega
        · omega
        · exact hz h
      have HD : Hid (t.data.toList.all isDig = true → refNum true t.data.toList = if 1000000000000 < valB t.data.toList then (0, false) else (if true = true then - valB t.data.toList else valB t.data.toList, true)) := refNum_dig true _ hne
      have HL : Hid (t.data.toList.length = t.size) := hlen
      have hzz : ((((t[0]'hp).toNat : Int) == 48) = false) ∨ ((((t[0]'hp).toNat : Int) == 48) = true ∧ ¬ 1 < t.size ∧ true = false) := by
        by_cases e : (t[0]'hp) = 48
        · right
          have hh : t.data.toList.head? = some 48 := by rw [head_eq t hp, e]
          refine ⟨by rw [e]; rfl, fun h => hz ⟨hh, .inl h⟩, ?_⟩
          cases hq : true
          · rfl
          · exact absurd ⟨hh, .inr hq⟩ hz
        · left
          rw [beq_eq_false_iff_ne]
          intro h
          apply e
          apply UInt8.toNat_inj.1
          show _ = 48
          omega
      clear hne hlen hz h0 h0'
      rcases hzz with ez | ⟨ez, hz1, hz2⟩
      · go_wp2_with fail
        go_loop [5, 6] (fun n i => ∃ k : Nat, k ≤ t.size ∧ i = .int .i64 k ∧ n = .int .i64 (valB (t.data.toList.take k)) ∧ Hid ((t.data.toList.take k).all isDig = true)) (fun _ i => t.size - (intOf i).toNat)
        case atStart => exact ⟨0, by omega, rfl, rfl, rfl⟩
        case round =>
          obtain ⟨k, hk, rfl, rfl, HA⟩ := hrel
          have hb := valB_bd _ HA.out
          have hl : (t.data.toList.take k).length ≤ 13 := by rw [List.length_take]; omega
          have hp13 := pow13 _ hl
          have hbd : valB (t.data.toList.take k) < 10000000000000 := by omega
          have hbd0 := hb.1
          clear hb hp13 hl
          by_cases hlt : k < t.size
          · have hlt' : (k : Int) < (t.size : Int) := by omega
            have hsn := valB_snoc (t.data.toList.take k) t[k]
            have hts := take_snoc t k hlt
            have HV : Hid (valB (t.data.toList.take (k + 1)) = valB (t.data.toList.take k) * 10 + ((t[k].toNat : Int) - 48)) := by rw [hts]; exact hsn
            have HT : Hid (t.data.toList.take (k + 1) = t.data.toList.take k ++ [t[k]]) := hts
            clear hsn hts
            have hbyte : (t[k].toNat : Int) < 256 := by have := t[k].toNat_lt; omega
            have hbyte0 : (0 : Int) ≤ (t[k].toNat : Int) := by omega
            by_cases hd1 : (t[k].toNat : Int) < 48
            · go_wp2_with fail
              go_ret2
              have hno := refNum_nodig true _ (all_of_getElem t.data.toList k (by rw [HL.out]; exact hlt) (by show digB (t[k].toNat : Int) = false; simp [digB]; omega))
              rw [HN.out, hno]
              exact ⟨rfl, rfl⟩
            · by_cases hd2 : (57 : Int) < (t[k].toNat : Int)
              · go_wp2_with fail
                go_ret2
                have hno := refNum_nodig true _ (all_of_getElem t.data.toList k (by rw [HL.out]; exact hlt) (by show digB (t[k].toNat : Int) = false; simp [digB]; omega))
                rw [HN.out, hno]
                exact ⟨rfl, rfl⟩
              · have hd : isDig t[k] = true := by unfold isDig digB; simp; omega
                have HDk : Hid (isDig t[k] = true) := hd
                clear hd
                go_wp2_with fail
                go_round
                case rel => exact ⟨k + 1, by omega, by go_num, by rw [HV.out]; first | rfl | go_num, by unfold Hid; rw [HT.out, List.all_append, HA.out]; simpa using HDk.out⟩
                case measure => simp [intOf]; omega
          · have hlt' : ¬ (k : Int) < (t.size : Int) := by omega
            have hks : t.data.toList.take k = t.data.toList := List.take_of_length_le (by rw [HL.out]; omega)
            rw [hks] at hbd hbd0
            have hall2 := HA.out
            rw [hks] at hall2
            have HF : Hid (refNum true t.data.toList = if 1000000000000 < valB t.data.toList then (0, false) else (if true = true then - valB t.data.toList else valB t.data.toList, true)) := HD.out hall2
            clear hall2
            rw [hks]
            clear hks
            by_cases hbig : 1000000000000 < valB t.data.toList
            · go_wp2_with fail
              go_ret2
              rw [HN.out, HF.out, if_pos hbig]
              exact ⟨rfl, rfl⟩
            · go_wp2_with fail
              go_ret2
              rw [HN.out, HF.out, if_neg (by omega)]
              exact ⟨rfl, rfl⟩
      · cases hz2

end Go.Proofs.Ytpopboanflnphaa
