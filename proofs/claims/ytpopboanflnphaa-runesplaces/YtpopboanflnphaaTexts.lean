/- The functions of package runes that read a text and make no memory but the reader's place: Name, natural, Number, firstBad. -/
import Derived.Test.YtpopboanflnphaaPlain
import Derived.WalkSmall
namespace Go.Proofs.Ytpopboanflnphaa
open Go.RowKit
set_option linter.unusedVariables false

theorem nameGo_yes (c : Nat) (r : Int) (rs : List Int) (h1 : letB r = true) (h2 : ((c == 0) && digB r) = false) (h3 : (c == 12) = false) : nameGo c (r :: rs) = nameGo (c + 1) rs := by
  simp only [nameGo, h1, h2, h3]; simp
theorem nameGo_no (c : Nat) (r : Int) (rs : List Int) (h : (!letB r || ((c == 0) && digB r) || (c == 12)) = true) : nameGo c (r :: rs) = false := by
  simp only [nameGo, h]; simp

set_option maxHeartbeats 1000000 in
set_option maxRecDepth 100000 in
theorem name_any (s : ByteArray) (w : World) :
    Calls Try.prog 19 #[.string s] w fun e w' => e = .returned (.bool (nameGo 0 (runesOf s))) ∧ ∃ pos, w' = w.iter s pos := by
  go_enter Try.func19, Try.ntmps19
  go_wp2
  go_loopw [3] (fun n w' => ∃ (pos c : Nat), c ≤ 12 ∧ w' = w.iter s pos ∧ n = .int .i64 c ∧ nameGo c (rest s pos) = nameGo 0 (runesOf s)) (fun _ w' => s.size - w'.iterPos w.heap.size)
  case atStart => exact ⟨0, 0, by omega, rfl, rfl, rfl⟩
  case round =>
    obtain ⟨pos, c, hc12, rfl, rfl, hc⟩ := hrel
    by_cases hp : pos < s.size
    · have hwd := width_pos s pos hp
      have hst := rest_step s pos hp
      have HC : Hid (nameGo c (((Utf8.decode s pos).1 : Int) :: rest s (pos + (Utf8.decode s pos).2)) = nameGo 0 (runesOf s)) := by rw [← hst]; exact hc
      clear hc hst
      have hnx : ∀ ty, (Instr.next (.pointer (some ⟨w.heap.size, 0, none⟩)) true ty).run Try.prog (w.iter s pos) = _ := fun ty => run_next_any w s pos ty hp
      generalize hr : ((Utf8.decode s pos).1 : Int) = r at *
      generalize hwi : (Utf8.decode s pos).2 = wi at *
      clear hr hwi
      cases h1 : letB r
      · go_wp2_with (first | (go_at_call 17; refine (let_any _ _).mono ?_; rintro e w' ⟨rfl, rfl⟩) | (go_at_call 26; refine (dig_any _ _).mono ?_; rintro e w' ⟨rfl, rfl⟩))
        go_ret
        refine ⟨ret_bool ?_, _, rfl⟩
        rw [← HC.out, nameGo_no]
        simp [h1]
      · have arm : True := trivial
        by_cases h2 : c = 0
        · subst h2
          cases h3 : digB r
          · go_wp2_with (first | (go_at_call 17; refine (let_any _ _).mono ?_; rintro e w' ⟨rfl, rfl⟩) | (go_at_call 26; refine (dig_any _ _).mono ?_; rintro e w' ⟨rfl, rfl⟩))
            go_roundw
            case rel => exact ⟨pos + wi, 1, by omega, rfl, by go_num, by rw [← HC.out, nameGo_yes 0 r _ h1 (by simp [h3]) rfl]⟩
            case measure => simp; omega
          · go_wp2_with (first | (go_at_call 17; refine (let_any _ _).mono ?_; rintro e w' ⟨rfl, rfl⟩) | (go_at_call 26; refine (dig_any _ _).mono ?_; rintro e w' ⟨rfl, rfl⟩))
            go_ret
            refine ⟨ret_bool ?_, _, rfl⟩
            rw [← HC.out, nameGo_no]
            simp [h3]
        · have e2 : ((c : Int) == 0) = false := by rw [beq_eq_false_iff_ne]; omega
          by_cases h4 : c = 12
          · subst h4
            go_wp2_with (first | (go_at_call 17; refine (let_any _ _).mono ?_; rintro e w' ⟨rfl, rfl⟩) | (go_at_call 26; refine (dig_any _ _).mono ?_; rintro e w' ⟨rfl, rfl⟩))
            go_ret
            refine ⟨ret_bool ?_, _, rfl⟩
            rw [← HC.out, nameGo_no]
            simp
          · have e4 : ((c : Int) == 12) = false := by rw [beq_eq_false_iff_ne]; omega
            go_wp2_with (first | (go_at_call 17; refine (let_any _ _).mono ?_; rintro e w' ⟨rfl, rfl⟩) | (go_at_call 26; refine (dig_any _ _).mono ?_; rintro e w' ⟨rfl, rfl⟩))
            go_roundw
            case rel => exact ⟨pos + wi, c + 1, by omega, rfl, by go_num, by rw [← HC.out, nameGo_yes c r _ h1 (by simp [h2]) (by simp [h4])]⟩
            case measure => simp; omega
    · have hnx : ∀ ty, (Instr.next (.pointer (some ⟨w.heap.size, 0, none⟩)) true ty).run Try.prog (w.iter s pos) = _ := fun ty => run_next_end w s pos ty hp
      rw [rest_end s pos hp] at hc
      have HC := hc
      have HC2 : Hid (decide (0 < c) = nameGo 0 (runesOf s)) := hc
      clear hc HC
      go_wp2
      go_ret
      refine ⟨ret_bool ?_, _, rfl⟩
      rw [← HC2.out]

theorem badGo_yes (p : Nat) (r : Int) (rs : List Int) (h : okR r = true) : badGo p (r :: rs) = badGo (p + 1) rs := by simp [badGo, h]
theorem badGo_no (p : Nat) (r : Int) (rs : List Int) (h : okR r = false) : badGo p (r :: rs) = p + 1 := by simp [badGo, h]

set_option maxHeartbeats 1000000 in
set_option maxRecDepth 100000 in
theorem firstBad_any (s : ByteArray) (w : World) (hs : s.size ≤ maxLen) :
    Calls Try.prog 23 #[.string s] w fun e w' => e = .returned (.int .i64 (badGo 0 (runesOf s) : Nat)) ∧ ∃ pos, w' = w.iter s pos := by
  unfold maxLen at hs
  go_enter Try.func23, Try.ntmps23
  go_wp2
  go_loopw [3] (fun n w' => ∃ (pos p : Nat), p ≤ pos ∧ w' = w.iter s pos ∧ n = .int .i64 p ∧ badGo p (rest s pos) = badGo 0 (runesOf s)) (fun _ w' => s.size - w'.iterPos w.heap.size)
  case atStart => exact ⟨0, 0, by omega, rfl, rfl, rfl⟩
  case round =>
    obtain ⟨pos, p, hpp, rfl, rfl, hc⟩ := hrel
    by_cases hp : pos < s.size
    · have hwd := width_pos s pos hp
      have hst := rest_step s pos hp
      have HC : Hid (badGo p (((Utf8.decode s pos).1 : Int) :: rest s (pos + (Utf8.decode s pos).2)) = badGo 0 (runesOf s)) := by rw [← hst]; exact hc
      clear hc hst
      have hnx : ∀ ty, (Instr.next (.pointer (some ⟨w.heap.size, 0, none⟩)) true ty).run Try.prog (w.iter s pos) = _ := fun ty => run_next_any w s pos ty hp
      generalize hr : ((Utf8.decode s pos).1 : Int) = r at *
      generalize hwi : (Utf8.decode s pos).2 = wi at *
      clear hr hwi
      cases h1 : (r == 32)
      · have n1 : (r != 32) = true := by simp only [bne, h1]; rfl
        cases h2 : markB r
        · cases h3 : joinB r
          · go_wp2_with (first | (go_at_call 28; refine (mark_any _ _).mono ?_; rintro e w' ⟨rfl, rfl⟩) | (go_at_call 29; refine (joins_any _ _).mono ?_; rintro e w' ⟨rfl, rfl⟩))
            go_ret
            refine ⟨ret_int ?_, _, rfl⟩
            rw [← HC.out, badGo_no p r _ (by simp only [okR, h1, h2, h3]; rfl)]
            omega
          · go_wp2_with (first | (go_at_call 28; refine (mark_any _ _).mono ?_; rintro e w' ⟨rfl, rfl⟩) | (go_at_call 29; refine (joins_any _ _).mono ?_; rintro e w' ⟨rfl, rfl⟩))
            go_roundw
            case rel => exact ⟨pos + wi, p + 1, by omega, rfl, by go_num, by rw [← HC.out, badGo_yes p r _ (by simp only [okR, h3]; simp)]⟩
            case measure => simp; omega
        · go_wp2_with (first | (go_at_call 28; refine (mark_any _ _).mono ?_; rintro e w' ⟨rfl, rfl⟩) | (go_at_call 29; refine (joins_any _ _).mono ?_; rintro e w' ⟨rfl, rfl⟩))
          go_roundw
          case rel => exact ⟨pos + wi, p + 1, by omega, rfl, by go_num, by rw [← HC.out, badGo_yes p r _ (by simp only [okR, h2]; simp)]⟩
          case measure => simp; omega
      · have n1 : (r != 32) = false := by simp only [bne, h1]; rfl
        go_wp2_with (first | (go_at_call 28; refine (mark_any _ _).mono ?_; rintro e w' ⟨rfl, rfl⟩) | (go_at_call 29; refine (joins_any _ _).mono ?_; rintro e w' ⟨rfl, rfl⟩))
        go_roundw
        case rel => exact ⟨pos + wi, p + 1, by omega, rfl, by go_num, by rw [← HC.out, badGo_yes p r _ (by simp only [okR, h1]; simp)]⟩
        case measure => simp; omega
    · have hnx : ∀ ty, (Instr.next (.pointer (some ⟨w.heap.size, 0, none⟩)) true ty).run Try.prog (w.iter s pos) = _ := fun ty => run_next_end w s pos ty hp
      rw [rest_end s pos hp] at hc
      have HC2 : Hid (0 = badGo 0 (runesOf s)) := hc
      clear hc
      go_wp2
      go_ret
      refine ⟨ret_int ?_, _, rfl⟩
      rw [← HC2.out]
      rfl

end Go.Proofs.Ytpopboanflnphaa
