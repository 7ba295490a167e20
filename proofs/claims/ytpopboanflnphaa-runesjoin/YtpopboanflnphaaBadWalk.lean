/- The walk of the statement RunesBad. -/
import Derived.Test.YtpopboanflnphaaWord
namespace Go.Proofs.Ytpopboanflnphaa
open Go.RowKit
set_option linter.unusedVariables false

theorem badGo_ok (rs : List Int) : ∀ (p : Nat) (tail : List Int), (∀ r ∈ rs, okR r = true) → badGo p (rs ++ tail) = badGo (p + rs.length) tail := by
  induction rs with
  | nil => intro p tail _; rfl
  | cons r rs ih =>
    intro p tail h
    rw [List.cons_append, badGo_yes p r _ (h r (by simp)), ih _ _ (fun x hx => h x (by simp [hx]))]
    simp only [List.length_cons]
    congr 1
    omega

/-- The seven texts that open with what is no sign. -/
def IsBad (b : ByteArray) : Prop := b = ⟨#[65]⟩ ∨ b = ⟨#[46]⟩ ∨ b = ⟨#[9]⟩ ∨ b = ⟨#[255]⟩ ∨ b = ⟨#[43]⟩ ∨ b = ⟨#[0]⟩ ∨ b = ⟨#[39]⟩

theorem bad_ascii (c : UInt8) (hc : c.toNat < 128) (t : ByteArray) (p : Nat) (h : okR (c.toNat : Int) = false) : badGo p (runesOf (⟨#[c]⟩ ++ t)) = p + 1 := by
  have he : (ByteArray.mk #[c]) = Utf8.encode (c.toNat : Int) := by
    have hv : Utf8.valid (c.toNat : Int) = true := by simp [Utf8.valid]; omega
    unfold Utf8.encode
    simp only [hv, if_true, Int.toNat_natCast, hc]
    simp
  rw [he, runesOf_encode _ _ (by simp [Utf8.valid]; omega), badGo_no _ _ _ h]

theorem decode_255 (t : ByteArray) : Utf8.decode (⟨#[255]⟩ ++ t) 0 = (65533, 1) := by
  rw [show (#[255] : Array UInt8) = [255].toArray from rfl, append_mk]
  simp only [Utf8.decode, get_mk]
  simp only [Nat.add_zero, List.cons_append, List.getD_cons_zero]
  rfl

theorem bad_any (b t : ByteArray) (p : Nat) (hb : IsBad b) : badGo p (runesOf (b ++ t)) = p + 1 := by
  rcases hb with rfl | rfl | rfl | rfl | rfl | rfl | rfl
  · exact bad_ascii _ (by decide) t p (by decide)
  · exact bad_ascii _ (by decide) t p (by decide)
  · exact bad_ascii _ (by decide) t p (by decide)
  · have h : runesOf (⟨#[255]⟩ ++ t) = 65533 :: rest (⟨#[255]⟩ ++ t) 1 := by
      unfold runesOf
      rw [rest_step _ 0 (by rw [ByteArray.size_append]; show 0 < 1 + t.size; omega), decode_255]
      rfl
    rw [h, badGo_no _ _ _ (by decide)]
  · exact bad_ascii _ (by decide) t p (by decide)
  · exact bad_ascii _ (by decide) t p (by decide)
  · exact bad_ascii _ (by decide) t p (by decide)

theorem okR_let (r : Int) (h : letB r = true) : okR r = true := by simp [okR, joinB, h]

theorem bad_one (ws : List Int) (hw : Lets ws) (b t : ByteArray) (hb : IsBad b) : badOf (runesBytes ws ++ b ++ t) = ws.length + 1 := by
  unfold badOf
  rw [ByteArray.append_assoc, runesOf_bytes ws _ (fun r hr => (hw r hr).1), badGo_ok ws 0 _ (fun r hr => okR_let r (hw r hr).2), bad_any b t _ hb]
  omega

theorem bad_two (ws : List Int) (hw : Lets ws) (b t : ByteArray) (hb : IsBad b) : badOf (⟨#[40]⟩ ++ runesBytes ws ++ ⟨#[41, 32]⟩ ++ b ++ t) = ws.length + 4 := by
  have e1 : (⟨#[40]⟩ : ByteArray) ++ runesBytes ws ++ ⟨#[41, 32]⟩ = runesBytes (40 :: ws ++ [41, 32]) := by
    rw [runesBytes_append, runesBytes_cons]; rfl
  unfold badOf
  rw [e1, ByteArray.append_assoc, runesOf_bytes _ _ (by
    intro r hr
    simp at hr
    rcases hr with rfl | hr | rfl | rfl
    · decide
    · exact (hw r hr).1
    · decide
    · decide), badGo_ok _ 0 _ (by
    intro r hr
    simp at hr
    rcases hr with rfl | hr | rfl | rfl
    · decide
    · exact okR_let r (hw r hr).2
    · decide
    · decide), bad_any b t _ hb]
  simp

theorem lets_head (ws : List Int) (h : Lets ws) : Lets (27700 :: 233 :: 119 :: ws) := by
  intro r hr
  simp at hr
  rcases hr with rfl | rfl | rfl | hr
  · decide
  · decide
  · decide
  · exact h r hr

theorem bad_below {w wa w2 w3 w4 : World} {o : Obj} (ha : Below w.heap.size w wa) (h2 : Below (wa.alloc o).heap.size (wa.alloc o) w2) (h3 : Below w2.heap.size w2 w3) (h4 : Below w3.heap.size w3 w4) : Below w.heap.size w w4 := by
  have s1 := ha.size
  have s2 := h2.size
  have s3 := h3.size
  have e : (wa.alloc o).heap.size = wa.heap.size + 1 := by simp
  exact (((ha.alloc s1 o).trans (h2.mono (by omega))).trans (h3.mono (by omega))).trans (h4.mono (by omega))

set_option maxHeartbeats 4000000 in
set_option maxRecDepth 100000 in
theorem bad_walk (s : ByteArray) (which : Int) (t : ByteArray) (w : World) (hs0 : s.size ≤ 140737488351232) (h1 : -9223372036854775808 ≤ which) (h2 : which ≤ 9223372036854775807) (ht : t.size ≤ 140737488351232) :
    Calls Try.prog 4 #[.string s, .int .i64 which, .string t] w fun e w' => e = .returned (.bool true) ∧ Below w.heap.size w w' := by
  have hs : s.size ≤ maxLen := by unfold maxLen; omega
  clear hs0
  go_enter Try.func4, Try.ntmps4
  go_wp2_with fail
  refine (word_any s _ hs).mono ?_
  rintro e w1 ⟨ws, rfl, hl, hls, hb1⟩
  have HW : Hid ((⟨#[230, 176, 180, 195, 169]⟩ : ByteArray) ++ runesBytes (119 :: ws) = runesBytes (27700 :: 233 :: 119 :: ws)) := by
    unfold Hid
    rw [runesBytes_cons 27700, runesBytes_cons 233, ← ByteArray.append_assoc]; rfl
  have hsz := runesBytes_size_le (119 :: ws)
  simp only [List.length_cons] at hsz
  go_wp2
  rw [HW.out]
  have HL : Hid (runesOf (runesBytes (27700 :: 233 :: 119 :: ws)) = 27700 :: 233 :: 119 :: ws) := runesOf_all _ (fun r hr => (lets_head ws hls r hr).1)
  have HB1 : Hid (∀ b, IsBad b → badOf (runesBytes (27700 :: 233 :: 119 :: ws) ++ b ++ t) = (ws.length + 3) + 1) := fun b hb => bad_one _ (lets_head ws hls) b t hb
  have HB2 : Hid (∀ b, IsBad b → badOf (⟨#[40]⟩ ++ runesBytes (27700 :: 233 :: 119 :: ws) ++ ⟨#[41, 32]⟩ ++ b ++ t) = (ws.length + 3) + 4) := fun b hb => bad_two _ (lets_head ws hls) b t hb
  have hsz2 : (runesBytes (27700 :: 233 :: 119 :: ws)).size ≤ 44 := by
    have := runesBytes_size_le (27700 :: 233 :: 119 :: ws)
    simp only [List.length_cons] at this; omega
  have HM : Hid ((runesOf (runesBytes (27700 :: 233 :: 119 :: ws))).length = ws.length + 3) := by unfold Hid; rw [HL.out]; simp
  clear HW HL hls hsz hs
  generalize runesBytes (27700 :: 233 :: 119 :: ws) = W at *
  generalize hm : ws.length + 3 = m at *
  have hm11 : m ≤ 11 := by omega
  clear hm hl
  go_loopw [8] (fun n w' => ∃ pos c : Nat, w' = w1.iter W pos ∧ n = .int .i64 c ∧ c + (rest W pos).length = m) (fun _ w' => W.size - w'.iterPos w1.heap.size)
  case atStart => exact ⟨0, 0, rfl, rfl, by have := HM.out; unfold runesOf at this; omega⟩
  case round =>
    obtain ⟨pos, c, rfl, rfl, hc⟩ := hrel
    by_cases hp : pos < W.size
    · have hwd := width_pos W pos hp
      have hnx : ∀ ty, (Instr.next (.pointer (some ⟨w1.heap.size, 0, none⟩)) true ty).run Try.prog (w1.iter W pos) = _ := fun ty => run_next_any w1 W pos ty hp
      rw [rest_step W pos hp, List.length_cons] at hc
      have HC : Hid (c + ((rest W (pos + (Utf8.decode W pos).2)).length + 1) = m) := hc
      have hcm : c ≤ 11 := by omega
      clear hc
      go_wp2
      go_roundw
      case rel => exact ⟨_, c + 1, rfl, by go_num, by have := HC.out; omega⟩
      case measure => simp; omega
    · have hnx : ∀ ty, (Instr.next (.pointer (some ⟨w1.heap.size, 0, none⟩)) true ty).run Try.prog (w1.iter W pos) = _ := fun ty => run_next_end w1 W pos ty hp
      rw [rest_end W pos hp] at hc
      simp only [List.length_nil, Nat.add_zero] at hc
      subst hc
      have hk : which % 7 = 0 ∨ which % 7 = 1 ∨ which % 7 = 2 ∨ which % 7 = 3 ∨ which % 7 = 4 ∨ which % 7 = 5 ∨ which % 7 = 6 := by omega
      have hbw := hb1.trans ((below_iter w1 W pos).mono hb1.size)
      rcases hk with hk | hk | hk | hk | hk | hk | hk
      · have hbad : IsBad ⟨#[65]⟩ := .inl rfl
        have HE1 : Hid (badOf (W ++ ⟨#[65]⟩ ++ t) = c + 1) := HB1.out _ hbad
        have HE2 : Hid (badOf (⟨#[40]⟩ ++ W ++ ⟨#[41, 32]⟩ ++ ⟨#[65]⟩ ++ t) = c + 4) := HB2.out _ hbad
        have hz1 : Hid ((W ++ ⟨#[65]⟩ ++ t).size ≤ maxLen) := by unfold Hid; rw [ByteArray.size_append, ByteArray.size_append]; show W.size + 1 + t.size ≤ maxLen; unfold maxLen; omega
        have hz2 : Hid ((⟨#[40]⟩ ++ W ++ ⟨#[41, 32]⟩ ++ ⟨#[65]⟩ ++ t).size ≤ maxLen) := by unfold Hid; rw [ByteArray.size_append, ByteArray.size_append, ByteArray.size_append, ByteArray.size_append]; show 1 + W.size + 2 + 1 + t.size ≤ maxLen; unfold maxLen; omega
        go_wp2_with fail
        refine calls_same (within_any which 7 _ (by omega) (by omega) h1 h2) ?_
        rw [hk]
        clear hk hbad hp
        go_wp2_with fail
        refine (signs_bad _ _ ?_ ?_).mono ?_
        · exact hz1.out
        · have := HE1.out
          omega
        rintro e w2 ⟨rfl, hb2⟩
        rw [HE1.out]
        go_wp2_with fail
        refine (signs_bad _ _ ?_ ?_).mono ?_
        · exact hz2.out
        · have := HE2.out
          omega
        rintro e w3 ⟨rfl, hb3⟩
        rw [HE2.out]
        go_wp2_with fail
        refine (wakes_any _).mono ?_
        rintro e w4 ⟨rfl, hb4⟩
        go_wp2
        go_ret
        refine ⟨rfl, ?_⟩
        exact bad_below hbw hb2 hb3 hb4
      · have hbad : IsBad ⟨#[46]⟩ := .inr (.inl rfl)
        have HE1 : Hid (badOf (W ++ ⟨#[46]⟩ ++ t) = c + 1) := HB1.out _ hbad
        have HE2 : Hid (badOf (⟨#[40]⟩ ++ W ++ ⟨#[41, 32]⟩ ++ ⟨#[46]⟩ ++ t) = c + 4) := HB2.out _ hbad
        have hz1 : Hid ((W ++ ⟨#[46]⟩ ++ t).size ≤ maxLen) := by unfold Hid; rw [ByteArray.size_append, ByteArray.size_append]; show W.size + 1 + t.size ≤ maxLen; unfold maxLen; omega
        have hz2 : Hid ((⟨#[40]⟩ ++ W ++ ⟨#[41, 32]⟩ ++ ⟨#[46]⟩ ++ t).size ≤ maxLen) := by unfold Hid; rw [ByteArray.size_append, ByteArray.size_append, ByteArray.size_append, ByteArray.size_append]; show 1 + W.size + 2 + 1 + t.size ≤ maxLen; unfold maxLen; omega
        go_wp2_with fail
        refine calls_same (within_any which 7 _ (by omega) (by omega) h1 h2) ?_
        rw [hk]
        clear hk hbad hp
        go_wp2_with fail
        refine (signs_bad _ _ ?_ ?_).mono ?_
        · exact hz1.out
        · have := HE1.out
          omega
        rintro e w2 ⟨rfl, hb2⟩
        rw [HE1.out]
        go_wp2_with fail
        refine (signs_bad _ _ ?_ ?_).mono ?_
        · exact hz2.out
        · have := HE2.out
          omega
        rintro e w3 ⟨rfl, hb3⟩
        rw [HE2.out]
        go_wp2_with fail
        refine (wakes_any _).mono ?_
        rintro e w4 ⟨rfl, hb4⟩
        go_wp2
        go_ret
        refine ⟨rfl, ?_⟩
        exact bad_below hbw hb2 hb3 hb4
      · have hbad : IsBad ⟨#[9]⟩ := .inr (.inr (.inl rfl))
        have HE1 : Hid (badOf (W ++ ⟨#[9]⟩ ++ t) = c + 1) := HB1.out _ hbad
        have HE2 : Hid (badOf (⟨#[40]⟩ ++ W ++ ⟨#[41, 32]⟩ ++ ⟨#[9]⟩ ++ t) = c + 4) := HB2.out _ hbad
        have hz1 : Hid ((W ++ ⟨#[9]⟩ ++ t).size ≤ maxLen) := by unfold Hid; rw [ByteArray.size_append, ByteArray.size_append]; show W.size + 1 + t.size ≤ maxLen; unfold maxLen; omega
        have hz2 : Hid ((⟨#[40]⟩ ++ W ++ ⟨#[41, 32]⟩ ++ ⟨#[9]⟩ ++ t).size ≤ maxLen) := by unfold Hid; rw [ByteArray.size_append, ByteArray.size_append, ByteArray.size_append, ByteArray.size_append]; show 1 + W.size + 2 + 1 + t.size ≤ maxLen; unfold maxLen; omega
        go_wp2_with fail
        refine calls_same (within_any which 7 _ (by omega) (by omega) h1 h2) ?_
        rw [hk]
        clear hk hbad hp
        go_wp2_with fail
        refine (signs_bad _ _ ?_ ?_).mono ?_
        · exact hz1.out
        · have := HE1.out
          omega
        rintro e w2 ⟨rfl, hb2⟩
        rw [HE1.out]
        go_wp2_with fail
        refine (signs_bad _ _ ?_ ?_).mono ?_
        · exact hz2.out
        · have := HE2.out
          omega
        rintro e w3 ⟨rfl, hb3⟩
        rw [HE2.out]
        go_wp2_with fail
        refine (wakes_any _).mono ?_
        rintro e w4 ⟨rfl, hb4⟩
        go_wp2
        go_ret
        refine ⟨rfl, ?_⟩
        exact bad_below hbw hb2 hb3 hb4
      · have hbad : IsBad ⟨#[255]⟩ := .inr (.inr (.inr (.inl rfl)))
        have HE1 : Hid (badOf (W ++ ⟨#[255]⟩ ++ t) = c + 1) := HB1.out _ hbad
        have HE2 : Hid (badOf (⟨#[40]⟩ ++ W ++ ⟨#[41, 32]⟩ ++ ⟨#[255]⟩ ++ t) = c + 4) := HB2.out _ hbad
        have hz1 : Hid ((W ++ ⟨#[255]⟩ ++ t).size ≤ maxLen) := by unfold Hid; rw [ByteArray.size_append, ByteArray.size_append]; show W.size + 1 + t.size ≤ maxLen; unfold maxLen; omega
        have hz2 : Hid ((⟨#[40]⟩ ++ W ++ ⟨#[41, 32]⟩ ++ ⟨#[255]⟩ ++ t).size ≤ maxLen) := by unfold Hid; rw [ByteArray.size_append, ByteArray.size_append, ByteArray.size_append, ByteArray.size_append]; show 1 + W.size + 2 + 1 + t.size ≤ maxLen; unfold maxLen; omega
        go_wp2_with fail
        refine calls_same (within_any which 7 _ (by omega) (by omega) h1 h2) ?_
        rw [hk]
        clear hk hbad hp
        go_wp2_with fail
        refine (signs_bad _ _ ?_ ?_).mono ?_
        · exact hz1.out
        · have := HE1.out
          omega
        rintro e w2 ⟨rfl, hb2⟩
        rw [HE1.out]
        go_wp2_with fail
        refine (signs_bad _ _ ?_ ?_).mono ?_
        · exact hz2.out
        · have := HE2.out
          omega
        rintro e w3 ⟨rfl, hb3⟩
        rw [HE2.out]
        go_wp2_with fail
        refine (wakes_any _).mono ?_
        rintro e w4 ⟨rfl, hb4⟩
        go_wp2
        go_ret
        refine ⟨rfl, ?_⟩
        exact bad_below hbw hb2 hb3 hb4
      · have hbad : IsBad ⟨#[43]⟩ := .inr (.inr (.inr (.inr (.inl rfl))))
        have HE1 : Hid (badOf (W ++ ⟨#[43]⟩ ++ t) = c + 1) := HB1.out _ hbad
        have HE2 : Hid (badOf (⟨#[40]⟩ ++ W ++ ⟨#[41, 32]⟩ ++ ⟨#[43]⟩ ++ t) = c + 4) := HB2.out _ hbad
        have hz1 : Hid ((W ++ ⟨#[43]⟩ ++ t).size ≤ maxLen) := by unfold Hid; rw [ByteArray.size_append, ByteArray.size_append]; show W.size + 1 + t.size ≤ maxLen; unfold maxLen; omega
        have hz2 : Hid ((⟨#[40]⟩ ++ W ++ ⟨#[41, 32]⟩ ++ ⟨#[43]⟩ ++ t).size ≤ maxLen) := by unfold Hid; rw [ByteArray.size_append, ByteArray.size_append, ByteArray.size_append, ByteArray.size_append]; show 1 + W.size + 2 + 1 + t.size ≤ maxLen; unfold maxLen; omega
        go_wp2_with fail
        refine calls_same (within_any which 7 _ (by omega) (by omega) h1 h2) ?_
        rw [hk]
        clear hk hbad hp
        go_wp2_with fail
        refine (signs_bad _ _ ?_ ?_).mono ?_
        · exact hz1.out
        · have := HE1.out
          omega
        rintro e w2 ⟨rfl, hb2⟩
        rw [HE1.out]
        go_wp2_with fail
        refine (signs_bad _ _ ?_ ?_).mono ?_
        · exact hz2.out
        · have := HE2.out
          omega
        rintro e w3 ⟨rfl, hb3⟩
        rw [HE2.out]
        go_wp2_with fail
        refine (wakes_any _).mono ?_
        rintro e w4 ⟨rfl, hb4⟩
        go_wp2
        go_ret
        refine ⟨rfl, ?_⟩
        exact bad_below hbw hb2 hb3 hb4
      · have hbad : IsBad ⟨#[0]⟩ := .inr (.inr (.inr (.inr (.inr (.inl rfl)))))
        have HE1 : Hid (badOf (W ++ ⟨#[0]⟩ ++ t) = c + 1) := HB1.out _ hbad
        have HE2 : Hid (badOf (⟨#[40]⟩ ++ W ++ ⟨#[41, 32]⟩ ++ ⟨#[0]⟩ ++ t) = c + 4) := HB2.out _ hbad
        have hz1 : Hid ((W ++ ⟨#[0]⟩ ++ t).size ≤ maxLen) := by unfold Hid; rw [ByteArray.size_append, ByteArray.size_append]; show W.size + 1 + t.size ≤ maxLen; unfold maxLen; omega
        have hz2 : Hid ((⟨#[40]⟩ ++ W ++ ⟨#[41, 32]⟩ ++ ⟨#[0]⟩ ++ t).size ≤ maxLen) := by unfold Hid; rw [ByteArray.size_append, ByteArray.size_append, ByteArray.size_append, ByteArray.size_append]; show 1 + W.size + 2 + 1 + t.size ≤ maxLen; unfold maxLen; omega
        go_wp2_with fail
        refine calls_same (within_any which 7 _ (by omega) (by omega) h1 h2) ?_
        rw [hk]
        clear hk hbad hp
        go_wp2_with fail
        refine (signs_bad _ _ ?_ ?_).mono ?_
        · exact hz1.out
        · have := HE1.out
          omega
        rintro e w2 ⟨rfl, hb2⟩
        rw [HE1.out]
        go_wp2_with fail
        refine (signs_bad _ _ ?_ ?_).mono ?_
        · exact hz2.out
        · have := HE2.out
          omega
        rintro e w3 ⟨rfl, hb3⟩
        rw [HE2.out]
        go_wp2_with fail
        refine (wakes_any _).mono ?_
        rintro e w4 ⟨rfl, hb4⟩
        go_wp2
        go_ret
        refine ⟨rfl, ?_⟩
        exact bad_below hbw hb2 hb3 hb4
      · have hbad : IsBad ⟨#[39]⟩ := .inr (.inr (.inr (.inr (.inr (.inr (rfl))))))
        have HE1 : Hid (badOf (W ++ ⟨#[39]⟩ ++ t) = c + 1) := HB1.out _ hbad
        have HE2 : Hid (badOf (⟨#[40]⟩ ++ W ++ ⟨#[41, 32]⟩ ++ ⟨#[39]⟩ ++ t) = c + 4) := HB2.out _ hbad
        have hz1 : Hid ((W ++ ⟨#[39]⟩ ++ t).size ≤ maxLen) := by unfold Hid; rw [ByteArray.size_append, ByteArray.size_append]; show W.size + 1 + t.size ≤ maxLen; unfold maxLen; omega
        have hz2 : Hid ((⟨#[40]⟩ ++ W ++ ⟨#[41, 32]⟩ ++ ⟨#[39]⟩ ++ t).size ≤ maxLen) := by unfold Hid; rw [ByteArray.size_append, ByteArray.size_append, ByteArray.size_append, ByteArray.size_append]; show 1 + W.size + 2 + 1 + t.size ≤ maxLen; unfold maxLen; omega
        go_wp2_with fail
        refine calls_same (within_any which 7 _ (by omega) (by omega) h1 h2) ?_
        rw [hk]
        clear hk hbad hp
        go_wp2_with fail
        refine (signs_bad _ _ ?_ ?_).mono ?_
        · exact hz1.out
        · have := HE1.out
          omega
        rintro e w2 ⟨rfl, hb2⟩
        rw [HE1.out]
        go_wp2_with fail
        refine (signs_bad _ _ ?_ ?_).mono ?_
        · exact hz2.out
        · have := HE2.out
          omega
        rintro e w3 ⟨rfl, hb3⟩
        rw [HE2.out]
        go_wp2_with fail
        refine (wakes_any _).mono ?_
        rintro e w4 ⟨rfl, hb4⟩
        go_wp2
        go_ret
        refine ⟨rfl, ?_⟩
        exact bad_below hbw hb2 hb3 hb4

end Go.Proofs.Ytpopboanflnphaa
