/- The statements' helpers Text and word. -/
import Derived.Test.YtpopboanflnphaaWakes
import Derived.Test.YtpopboanflnphaaUtf
namespace Go.Proofs.Ytpopboanflnphaa
open Go.RowKit
set_option linter.unusedVariables false

def cutTo (s : ByteArray) (n : Nat) : ByteArray := s.extract 0 (min s.size n)
theorem cutTo_size (s : ByteArray) (n : Nat) : (cutTo s n).size ≤ n := by unfold cutTo; rw [ByteArray.size_extract]; omega

set_option maxHeartbeats 1000000 in
set_option maxRecDepth 100000 in
theorem text_any (s : ByteArray) (n : Nat) (w : World) (hs : s.size ≤ maxLen) (hn : n ≤ 1000000) :
    Calls Try.prog 14 #[.string s, .int .i64 n] w fun e w' => e = .returned (.string (cutTo s n)) ∧ w' = w := by
  unfold maxLen at hs
  by_cases h : s.size ≤ n
  · have HC : Hid (cutTo s n = s.extract 0 s.size) := by unfold Hid cutTo; rw [Nat.min_eq_left h]
    have h' : (s.size : Int) ≤ (n : Int) := by omega
    go_enter Try.func14, Try.ntmps14
    go_wp2
    go_ret
    rw [HC.out]
    exact ⟨by simp, rfl⟩
  · have HC : Hid (cutTo s n = s.extract 0 n) := by unfold Hid cutTo; rw [Nat.min_eq_right (by omega)]
    have h' : (n : Int) < (s.size : Int) := by omega
    go_enter Try.func14, Try.ntmps14
    go_wp2
    go_ret
    rw [HC.out]
    exact ⟨by simp, rfl⟩

/-- Runes that may stand in a name. -/
def Lets (rs : List Int) : Prop := ∀ r ∈ rs, Utf8.valid r = true ∧ letB r = true

theorem runesBytes_snoc (rs : List Int) (r : Int) : runesBytes (rs ++ [r]) = runesBytes rs ++ Utf8.encode r := by rw [runesBytes_append, runesBytes_one]

set_option maxHeartbeats 1000000 in
set_option maxRecDepth 100000 in
theorem word_any (s : ByteArray) (w : World) (hs : s.size ≤ maxLen) :
    Calls Try.prog 10 #[.string s] w fun e w' => ∃ ws : List Int, e = .returned (.string (runesBytes (119 :: ws))) ∧ ws.length ≤ 8 ∧ Lets ws ∧ Below w.heap.size w w' := by
  go_enter Try.func10, Try.ntmps10
  go_wp2_with fail
  refine calls_same (text_any s 30 w hs (by omega)) ?_
  generalize hs2 : cutTo s 30 = t
  clear hs2
  go_wp2
  go_loopw [3, 4] (fun x n w' => ∃ (pos : Nat) (ws : List Int), w' = w.iter t pos ∧ x = .string (runesBytes (119 :: ws)) ∧ n = .int .i64 ws.length ∧ ws.length ≤ 8 ∧ Lets ws) (fun _ _ w' => t.size - w'.iterPos w.heap.size)
  case atStart => exact ⟨0, [], rfl, rfl, rfl, by simp, by intro r hr; simp at hr⟩
  case round =>
    obtain ⟨pos, ws, rfl, rfl, rfl, hl, hls⟩ := hrel
    by_cases hp : pos < t.size
    · have hwd := width_pos t pos hp
      have hval := decode_valid t pos
      have hnx : ∀ ty, (Instr.next (.pointer (some ⟨w.heap.size, 0, none⟩)) true ty).run Try.prog (w.iter t pos) = _ := fun ty => run_next_any w t pos ty hp
      generalize hr : ((Utf8.decode t pos).1 : Int) = r at *
      generalize hwi : (Utf8.decode t pos).2 = wi at *
      clear hr hwi
      have HV : Hid (Utf8.valid r = true) := hval
      clear hval
      have hsz := runesBytes_size_le (119 :: ws)
      have hesz := (encode_size r).2
      simp only [List.length_cons] at hsz
      have HX : Hid (runesBytes (119 :: (ws ++ [r])) = runesBytes (119 :: ws) ++ Utf8.encode r) := runesBytes_snoc (119 :: ws) r
      generalize hx : runesBytes (119 :: ws) = x at *
      have HX2 : Hid (runesBytes (119 :: ws) = x) := hx
      clear hx
      cases h1 : letB r
      · go_wp2_with (go_at_call 17; refine calls_same (let_any _ _) ?_)
        go_roundw
        case rel => exact ⟨pos + wi, ws, rfl, by rw [HX2.out], rfl, hl, hls⟩
        case measure => simp; omega
      · by_cases h8 : ws.length < 8
        · have h8' : (ws.length : Int) < 8 := by omega
          go_wp2_with (go_at_call 17; refine calls_same (let_any _ _) ?_)
          go_roundw
          case rel =>
            refine ⟨pos + wi, ws ++ [r], rfl, by rw [HX.out], by simp, by simp; omega, ?_⟩
            intro q hq
            rcases List.mem_append.1 hq with h | h
            · exact hls q h
            · simp at h; subst h; exact ⟨HV.out, h1⟩
          case measure => simp; omega
        · have h8' : ¬ (ws.length : Int) < 8 := by omega
          have h8d : decide ((ws.length : Int) < 8) = false := by simpa using h8'
          go_wp2_with (go_at_call 17; refine calls_same (let_any _ _) ?_)
          go_roundw
          case rel => exact ⟨pos + wi, ws, rfl, by rw [HX2.out], rfl, hl, hls⟩
          case measure => simp; omega
    · have hnx : ∀ ty, (Instr.next (.pointer (some ⟨w.heap.size, 0, none⟩)) true ty).run Try.prog (w.iter t pos) = _ := fun ty => run_next_end w t pos ty hp
      go_wp2
      go_ret
      exact ⟨ws, rfl, hl, hls, below_iter _ _ _⟩

end Go.Proofs.Ytpopboanflnphaa
