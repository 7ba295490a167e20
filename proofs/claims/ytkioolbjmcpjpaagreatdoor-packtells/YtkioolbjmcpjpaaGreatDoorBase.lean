/- The plain functions that chapter 4 stands on: letters, names, amounts, and the helpers of the statements on whole numbers: what each answers. -/
import Derived.Test.YtkioolbjmcpjpaaGreatDoorRows
import Derived.WalkKit
import Derived.WalkSpells
import Derived.WalkLawsBesides
import Derived.Deep.QuietTactic
import Derived.BigQuiet
import Derived.Laws.Cover4
import Derived.WalkSmall
import Derived.Deep.RegionWith
import Derived.Deep.DeepCutAuto
namespace Go.Proofs.YtkioolbjmcpjpaaGreatDoor
open Go.RowKit
set_option linter.unusedVariables false

def digB (r : Int) : Bool := decide (48 ≤ r) && decide (r ≤ 57)
def letB (r : Int) : Bool := (decide (97 ≤ r) && decide (r ≤ 122)) || digB r || (r == 95) || (decide (128 ≤ r) && !(r == 65533))
theorem calls_same {P : Program} {f : Nat} {args : Array Value} {w : World} {e0 : Ending} {Q : Ending → World → Prop} (h : Calls P f args w fun e w' => e = e0 ∧ w' = w) (k : Q e0 w) : Calls P f args w Q :=
  h.mono (by rintro e w' ⟨rfl, rfl⟩; exact k)
theorem ret_bool {a b : Bool} (h : a = b) : Ending.returned (.bool a) = .returned (.bool b) := by rw [h]
theorem ret_int {k : IntKind} {a b : Int} (h : a = b) : Ending.returned (.int k a) = .returned (.int k b) := by rw [h]

set_option maxHeartbeats 400000 in
theorem dig_any (r : Int) (w : World) :
    Calls Tryz.prog 115 #[.int .i32 r] w fun e w' => e = .returned (.bool (digB r)) ∧ w' = w := by
  by_cases h1 : (48 : Int) ≤ r <;> by_cases h2 : r ≤ (57 : Int)
  all_goals
    go_enter Tryz.func115, Tryz.ntmps115
    go_wp2
    go_ret
    exact ⟨by simp [digB, h1, h2], rfl⟩

set_option maxHeartbeats 400000 in
theorem let_any (r : Int) (w : World) :
    Calls Tryz.prog 114 #[.int .i32 r] w fun e w' => e = .returned (.bool (letB r)) ∧ w' = w := by
  by_cases h1 : (97 : Int) ≤ r <;> by_cases h2 : r ≤ (122 : Int)
  · go_enter Tryz.func114, Tryz.ntmps114
    go_wp2
    go_ret
    exact ⟨by simp [letB, h1, h2], rfl⟩
  rotate_right; · exfalso; omega
  all_goals
    cases hd : digB r
    · cases e3 : (r == 95)
      · by_cases h4 : (128 : Int) ≤ r
        all_goals
          go_enter Tryz.func114, Tryz.ntmps114
          go_wp2_with (go_at_call 115; refine (dig_any _ _).mono ?_; rintro e w' ⟨rfl, rfl⟩)
          go_ret
          refine ⟨ret_bool ?_, rfl⟩
          have e4 : ¬ r = 95 := by simpa using e3
          rw [Bool.eq_iff_iff]
          simp [letB, hd, e4]
          try omega
      · go_enter Tryz.func114, Tryz.ntmps114
        go_wp2_with (go_at_call 115; refine (dig_any _ _).mono ?_; rintro e w' ⟨rfl, rfl⟩)
        go_ret
        exact ⟨by simp [letB, e3], rfl⟩
    · go_enter Tryz.func114, Tryz.ntmps114
      go_wp2_with (go_at_call 115; refine (dig_any _ _).mono ?_; rintro e w' ⟨rfl, rfl⟩)
      go_ret
      exact ⟨by simp [letB, hd], rfl⟩

set_option maxHeartbeats 400000 in
theorem refLet_any (r : Int) (w : World) :
    Calls Tryz.prog 117 #[.int .i32 r] w fun e w' => e = .returned (.bool (letB r)) ∧ w' = w := by
  by_cases h1 : (97 : Int) ≤ r <;> by_cases h2 : r ≤ (122 : Int) <;> by_cases h3 : (48 : Int) ≤ r <;> by_cases h4 : r ≤ (57 : Int) <;> cases e3 : (r == 95) <;> by_cases h5 : (128 : Int) ≤ r
  all_goals first
    | (exfalso; have := beq_iff_eq.1 e3; omega)
    | (exfalso; omega)
    | (go_enter Tryz.func117, Tryz.ntmps117
       go_wp2
       go_ret
       refine ⟨ret_bool ?_, rfl⟩
       simp only [beq_eq_false_iff_ne, beq_iff_eq] at e3
       rw [Bool.eq_iff_iff]
       simp [letB, digB]
       omega)

theorem emod_of_tmod (v n : Int) (hn : 1 ≤ n) : v % n = if Int.tmod v n < 0 then Int.tmod v n + n else Int.tmod v n := by
  have h1 := Int.emod_nonneg v (show n ≠ 0 by omega)
  have h2 := Int.emod_lt_of_pos v (show 0 < n by omega)
  rw [Int.tmod_eq_emod]
  split <;> split <;> omega

set_option maxHeartbeats 400000 in
theorem within_any (v n : Int) (w : World) (hn : 1 ≤ n) (hn2 : n ≤ 4611686018427387904) (hv : -9223372036854775808 ≤ v) (hv2 : v ≤ 9223372036854775807) :
    Calls Tryz.prog 9 #[.int .i64 v, .int .i64 n] w fun e w' => e = .returned (.int .i64 (v % n)) ∧ w' = w := by
  have hm1 := Int.tmod_lt_of_pos v (show 0 < n by omega)
  have hm2 : -n < Int.tmod v n := by
    have := Int.tmod_lt_of_pos (-v) (show 0 < n by omega)
    rw [Int.neg_tmod] at this; omega
  have H : Hid (v % n = if Int.tmod v n < 0 then Int.tmod v n + n else Int.tmod v n) := emod_of_tmod v n hn
  by_cases hc : Int.tmod v n < 0
  · go_enter Tryz.func9, Tryz.ntmps9
    go_wp2
    go_ret
    exact ⟨ret_int (by rw [H.out, if_pos hc]), rfl⟩
  · go_enter Tryz.func9, Tryz.ntmps9
    go_wp2
    go_ret
    exact ⟨ret_int (by rw [H.out, if_neg (by omega)]), rfl⟩

def vB (n : Int) : Bool := decide (-1000000000000 ≤ n) && decide (n ≤ 1000000000000)
theorem vB_iff (n : Int) : vB n = true ↔ -1000000000000 ≤ n ∧ n ≤ 1000000000000 := by simp [vB]
theorem vB_not (n : Int) : vB n = false ↔ n < -1000000000000 ∨ 1000000000000 < n := by
  rw [← Bool.not_eq_true, vB_iff]; omega

set_option maxHeartbeats 400000 in
theorem valid_any (n : Int) (w : World) :
    Calls Tryz.prog 79 #[.int .i64 n] w fun e w' => e = .returned (.bool (vB n)) ∧ w' = w := by
  by_cases h1 : (-1000000000000 : Int) ≤ n <;> by_cases h2 : n ≤ (1000000000000 : Int)
  all_goals
    go_enter Tryz.func79, Tryz.ntmps79
    go_wp2
    go_ret
    exact ⟨by simp [vB, h1, h2], rfl⟩

set_option maxHeartbeats 400000 in
theorem refValid_any (n : Int) (w : World) :
    Calls Tryz.prog 45 #[.int .i64 n] w fun e w' => e = .returned (.bool (vB n)) ∧ w' = w := by
  by_cases h1 : (-1000000000000 : Int) ≤ n <;> by_cases h2 : n ≤ (1000000000000 : Int)
  all_goals
    go_enter Tryz.func45, Tryz.ntmps45
    go_wp2
    go_ret
    exact ⟨by simp [vB, h1, h2], rfl⟩

/-- The runes from byte pos on, at most f of them. -/
def decs (s : ByteArray) : Nat → Nat → List Int
  | 0, _ => []
  | f + 1, pos => if pos < s.size then ((Utf8.decode s pos).1 : Int) :: decs s f (pos + (Utf8.decode s pos).2) else []

/-- The runes from byte pos on. -/
def rest (s : ByteArray) (pos : Nat) : List Int := decs s (s.size - pos) pos

theorem width_pos (s : ByteArray) (pos : Nat) (h : pos < s.size) : 1 ≤ (Utf8.decode s pos).2 := by
  by_cases ha : (s[pos]'h).toNat < 128
  · rw [decode_ascii s pos h ha]
    exact Nat.le_refl _
  · exact (decode_high s pos h (by omega)).2

theorem decs_fuel (s : ByteArray) : ∀ (f g pos : Nat), s.size ≤ pos + f → s.size ≤ pos + g → decs s f pos = decs s g pos
  | 0, 0, _, _, _ => rfl
  | 0, g + 1, pos, h, _ => by simp [decs, show ¬ pos < s.size by omega]
  | f + 1, 0, pos, _, h => by simp [decs, show ¬ pos < s.size by omega]
  | f + 1, g + 1, pos, h1, h2 => by
    by_cases hp : pos < s.size
    · have := width_pos s pos hp
      simp only [decs, hp, if_true]
      rw [decs_fuel s f g _ (by omega) (by omega)]
    · simp [decs, hp]

theorem rest_end (s : ByteArray) (pos : Nat) (h : ¬ pos < s.size) : rest s pos = [] := by
  unfold rest
  rw [show s.size - pos = 0 by omega]; rfl

theorem rest_step (s : ByteArray) (pos : Nat) (h : pos < s.size) : rest s pos = ((Utf8.decode s pos).1 : Int) :: rest s (pos + (Utf8.decode s pos).2) := by
  have hw := width_pos s pos h
  unfold rest
  obtain ⟨f, hf⟩ : ∃ f, s.size - pos = f + 1 := ⟨s.size - pos - 1, by omega⟩
  rw [hf]
  simp only [decs, h, if_true]
  rw [decs_fuel s f (s.size - (pos + (Utf8.decode s pos).2)) _ (by omega) (by omega)]

def runesOf (s : ByteArray) : List Int := rest s 0

/-- A rune fits in 32 bits. -/
theorem rune_bd (s : ByteArray) (pos : Nat) : (0 : Int) ≤ ((Utf8.decode s pos).1 : Int) ∧ ((Utf8.decode s pos).1 : Int) ≤ 2147483647 := by
  have := decode_le s pos
  omega

theorem rest_length (s : ByteArray) (pos : Nat) : (rest s pos).length ≤ s.size - pos := by
  have h : ∀ f p, (decs s f p).length ≤ f := by
    intro f
    induction f with
    | zero => intro p; simp [decs]
    | succ f ih =>
      intro p
      unfold decs
      split
      · simp; exact ih _
      · simp
  exact h _ _

/-! ### names -/
def nameGo : Nat → List Int → Bool
  | c, [] => decide (0 < c)
  | c, r :: rs => if (!letB r || ((c == 0) && digB r) || (c == 12)) = true then false else nameGo (c + 1) rs

theorem nameGo_yes (c : Nat) (r : Int) (rs : List Int) (h1 : letB r = true) (h2 : ((c == 0) && digB r) = false) (h3 : (c == 12) = false) : nameGo c (r :: rs) = nameGo (c + 1) rs := by
  simp only [nameGo, h1, h2, h3]; simp
theorem nameGo_no (c : Nat) (r : Int) (rs : List Int) (h : (!letB r || ((c == 0) && digB r) || (c == 12)) = true) : nameGo c (r :: rs) = false := by
  simp only [nameGo, h]; simp

set_option maxHeartbeats 1000000 in
set_option maxRecDepth 100000 in
theorem name_any (s : ByteArray) (w : World) :
    Calls Tryz.prog 76 #[.string s] w fun e w' => e = .returned (.bool (nameGo 0 (runesOf s))) ∧ ∃ pos, w' = w.iter s pos := by
  go_enter Tryz.func76, Tryz.ntmps76
  go_wp2
  go_loopw [3] (fun n w' => ∃ (pos c : Nat), c ≤ 12 ∧ w' = w.iter s pos ∧ n = .int .i64 c ∧ nameGo c (rest s pos) = nameGo 0 (runesOf s)) (fun _ w' => s.size - w'.iterPos w.heap.size)
  case atStart => exact ⟨0, 0, by omega, rfl, rfl, rfl⟩
  case round =>
    obtain ⟨pos, c, hc12, rfl, rfl, hc⟩ := hrel
    by_cases hp : pos < s.size
    · have hwd := width_pos s pos hp
      have hst := rest_step s pos hp
      have HC : Hid (nameGo c (((Utf8.decode s pos).1 : Int) :: rest s (pos + (Utf8.decode s pos).2)) = nameGo 0 (runesOf s)) := by rw [← hst]; exact hc
      clear hc hst
      have hnx : ∀ ty, (Instr.next (.pointer (some ⟨w.heap.size, 0, none⟩)) true ty).run Tryz.prog (w.iter s pos) = _ := fun ty => run_next_any w s pos ty hp
      generalize hr : ((Utf8.decode s pos).1 : Int) = r at *
      generalize hwi : (Utf8.decode s pos).2 = wi at *
      clear hr hwi
      cases h1 : letB r
      · go_wp2_with (first | (go_at_call 114; refine (let_any _ _).mono ?_; rintro e w' ⟨rfl, rfl⟩) | (go_at_call 115; refine (dig_any _ _).mono ?_; rintro e w' ⟨rfl, rfl⟩))
        go_ret
        refine ⟨ret_bool ?_, _, rfl⟩
        rw [← HC.out, nameGo_no]
        simp [h1]
      · have arm : True := trivial
        by_cases h2 : c = 0
        · subst h2
          cases h3 : digB r
          · go_wp2_with (first | (go_at_call 114; refine (let_any _ _).mono ?_; rintro e w' ⟨rfl, rfl⟩) | (go_at_call 115; refine (dig_any _ _).mono ?_; rintro e w' ⟨rfl, rfl⟩))
            go_roundw
            case rel => exact ⟨pos + wi, 1, by omega, rfl, by go_num, by rw [← HC.out, nameGo_yes 0 r _ h1 (by simp [h3]) rfl]⟩
            case measure => simp; omega
          · go_wp2_with (first | (go_at_call 114; refine (let_any _ _).mono ?_; rintro e w' ⟨rfl, rfl⟩) | (go_at_call 115; refine (dig_any _ _).mono ?_; rintro e w' ⟨rfl, rfl⟩))
            go_ret
            refine ⟨ret_bool ?_, _, rfl⟩
            rw [← HC.out, nameGo_no]
            simp [h3]
        · have e2 : ((c : Int) == 0) = false := by rw [beq_eq_false_iff_ne]; omega
          by_cases h4 : c = 12
          · subst h4
            go_wp2_with (first | (go_at_call 114; refine (let_any _ _).mono ?_; rintro e w' ⟨rfl, rfl⟩) | (go_at_call 115; refine (dig_any _ _).mono ?_; rintro e w' ⟨rfl, rfl⟩))
            go_ret
            refine ⟨ret_bool ?_, _, rfl⟩
            rw [← HC.out, nameGo_no]
            simp
          · have e4 : ((c : Int) == 12) = false := by rw [beq_eq_false_iff_ne]; omega
            go_wp2_with (first | (go_at_call 114; refine (let_any _ _).mono ?_; rintro e w' ⟨rfl, rfl⟩) | (go_at_call 115; refine (dig_any _ _).mono ?_; rintro e w' ⟨rfl, rfl⟩))
            go_roundw
            case rel => exact ⟨pos + wi, c + 1, by omega, rfl, by go_num, by rw [← HC.out, nameGo_yes c r _ h1 (by simp [h2]) (by simp [h4])]⟩
            case measure => simp; omega
    · have hnx : ∀ ty, (Instr.next (.pointer (some ⟨w.heap.size, 0, none⟩)) true ty).run Tryz.prog (w.iter s pos) = _ := fun ty => run_next_end w s pos ty hp
      rw [rest_end s pos hp] at hc
      have HC := hc
      have HC2 : Hid (decide (0 < c) = nameGo 0 (runesOf s)) := hc
      clear hc HC
      go_wp2
      go_ret
      refine ⟨ret_bool ?_, _, rfl⟩
      rw [← HC2.out]

theorem below_iter (w : World) (s : ByteArray) (pos : Nat) : Below w.heap.size w (w.iter s pos) := by
  unfold World.iter
  exact (Below.refl _ _).alloc (Nat.le_refl _) _

end Go.Proofs.YtkioolbjmcpjpaaGreatDoor
