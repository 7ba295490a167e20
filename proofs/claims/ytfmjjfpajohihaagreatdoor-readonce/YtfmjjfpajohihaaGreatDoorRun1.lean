/- Names, numbers and the first rune that is no sign: what package runes answers. -/
import Derived.Test.YtfmjjfpajohihaaGreatDoorBase
namespace Go.Proofs.YtfmjjfpajohihaaGreatDoor.Rn
open Go.RowKit
set_option linter.unusedVariables false

def markB (r : Int) : Bool := (r == 40) || (r == 41) || (r == 44)
def joinB (r : Int) : Bool := (r == 45) || letB r
set_option maxHeartbeats 400000 in
theorem mark_any (r : Int) (w : World) :
    Calls Tryz.prog 80 #[.int .i32 r] w fun e w' => e = .returned (.bool (markB r)) ∧ w' = w := by
  cases e1 : (r == 40) <;> cases e2 : (r == 41)
  all_goals
    go_enter Tryz.func80, Tryz.ntmps80
    go_wp2
    go_ret
    exact ⟨by simp [markB, e1, e2], rfl⟩
set_option maxHeartbeats 400000 in
theorem joins_any (r : Int) (w : World) :
    Calls Tryz.prog 81 #[.int .i32 r] w fun e w' => e = .returned (.bool (joinB r)) ∧ w' = w := by
  cases e1 : (r == 45)
  all_goals
    go_enter Tryz.func81, Tryz.ntmps81
    go_wp2_with (go_at_call 83; refine (let_any _ _).mono ?_; rintro e w' ⟨rfl, rfl⟩)
    go_ret
    exact ⟨by simp [joinB, e1], rfl⟩
def okR (r : Int) : Bool := (r == 32) || markB r || joinB r
def badGo : Nat → List Int → Nat
  | _, [] => 0
  | p, r :: rs => if okR r = true then badGo (p + 1) rs else p + 1
abbrev Sg := ByteArray × Int
def endR (l : List Sg) (run : List Int) (e : Int) : List Sg := if run = [] then l else l ++ [(runesBytes run, e - run.length)]
def cutGo : List Sg → List Int → Nat → List Int → List Sg
  | l, run, p, [] => endR l run (p + 1 : Nat)
  | l, run, p, r :: rs =>
    if joinB r = true then cutGo l (run ++ [r]) (p + 1) rs
    else if markB r = true then cutGo (endR l run (p + 1 : Nat) ++ [(Utf8.encode r, ((p + 1 : Nat) : Int))]) [] (p + 1) rs
    else cutGo (endR l run (p + 1 : Nat)) [] (p + 1) rs
/-- The cells of a list of signs. -/
def sgCells (l : List Sg) : List Value := l.flatMap fun x => [.string x.1, .int .i64 x.2]
theorem sgCells_length (l : List Sg) : (sgCells l).length = l.length * 2 := by
  induction l with
  | nil => rfl
  | cons a l ih => simp [sgCells] at ih ⊢; omega
theorem sgCells_append (a b : List Sg) : sgCells (a ++ b) = sgCells a ++ sgCells b := by simp [sgCells]
def isDig (c : UInt8) : Bool := digB (c.toNat : Int)
def valB (l : List UInt8) : Int := l.foldl (fun a c => a * 10 + ((c.toNat : Int) - 48)) 0
theorem valB_snoc (l : List UInt8) (c : UInt8) : valB (l ++ [c]) = valB l * 10 + ((c.toNat : Int) - 48) := by simp [valB]
/-- What natural answers. -/
def natOf (l : List UInt8) : Int × Bool :=
  if l = [] ∨ 13 < l.length ∨ (1 < l.length ∧ l.head? = some 48) then (0, false)
  else if l.all isDig = true then (if 1000000000000 < valB l then (0, false) else (valB l, true)) else (0, false)
/-- What Number answers. -/
def numOf (l : List UInt8) : Int × Bool :=
  match l with
  | [] => (0, false)
  | c :: t => if c = 45 then (if (natOf t).2 = true ∧ (natOf t).1 ≠ 0 then (- (natOf t).1, true) else (0, false)) else natOf (c :: t)
theorem valB_bd (l : List UInt8) (h : l.all isDig = true) : 0 ≤ valB l ∧ valB l < 10 ^ l.length := by
  have key : ∀ n (l : List UInt8), l.length = n → l.all isDig = true → 0 ≤ valB l ∧ valB l < 10 ^ l.length := by
    intro n
    induction n with
    | zero => intro l hl _; cases l with
      | nil => simp [valB]
      | cons a l => simp at hl
    | succ n ih =>
      intro l hl h
      obtain ⟨t, c, rfl⟩ : ∃ t c, l = t ++ [c] := by
        refine ⟨l.dropLast, l.getLast (by intro e; rw [e] at hl; simp at hl), ?_⟩
        rw [List.dropLast_concat_getLast]
      simp at hl
      simp only [List.all_append, List.all_cons, List.all_nil, Bool.and_true, Bool.and_eq_true] at h
      have := ih t hl h.1
      have hc := h.2
      simp [isDig, digB] at hc
      rw [valB_snoc, List.length_append, List.length_singleton, Int.pow_succ]
      omega
  exact key _ l rfl h
theorem natOf_bd (l : List UInt8) : 0 ≤ (natOf l).1 ∧ (natOf l).1 ≤ 1000000000000 := by
  unfold natOf
  split
  · simp
  · split
    · rename_i h
      have := valB_bd l h
      split <;> simp <;> omega
    · simp
theorem take_snoc (s : ByteArray) (k : Nat) (h : k < s.size) : s.data.toList.take (k + 1) = s.data.toList.take k ++ [s[k]] := by
  rw [List.take_succ_eq_append_getElem (by simpa using h)]; rfl
theorem badGo_yes (p : Nat) (r : Int) (rs : List Int) (h : okR r = true) : badGo p (r :: rs) = badGo (p + 1) rs := by simp [badGo, h]
theorem badGo_no (p : Nat) (r : Int) (rs : List Int) (h : okR r = false) : badGo p (r :: rs) = p + 1 := by simp [badGo, h]
set_option maxHeartbeats 1000000 in
set_option maxRecDepth 100000 in
theorem firstBad_any (s : ByteArray) (w : World) (hs : s.size ≤ maxLen) :
    Calls Tryz.prog 63 #[.string s] w fun e w' => e = .returned (.int .i64 (badGo 0 (runesOf s) : Nat)) ∧ ∃ pos, w' = w.iter s pos := by
  unfold maxLen at hs
  go_enter Tryz.func63, Tryz.ntmps63
  go_wp2
  go_loopw [3] (fun n w' => ∃ (pos p : Nat), p ≤ pos ∧ w' = w.iter s pos ∧ n = .int .i64 p ∧ badGo p (rest s pos) = badGo 0 (runesOf s)) (fun _ w' => s.size - w'.iterPos w.heap.size)
  case atStart => exact ⟨0, 0, by omega, rfl, rfl, rfl⟩
  case round =>
    obtain ⟨pos, p, hpp, rfl, rfl, hc⟩ := hrel
    by_cases hp : pos < s.size
    · have hwd := width_pos s pos hp
      have hst := rest_step s pos hp
      have HC : Hid (badGo p (((Utf8.decode s pos).1 : Int) :: rest s (pos + (Utf8.decode s pos).2)) = badGo 0 (runesOf s)) := by rw [← hst]; exact hc
      clear hc hst
      have hnx : ∀ ty, (Instr.next (.pointer (some ⟨w.heap.size, 0, none⟩)) true ty).run Tryz.prog (w.iter s pos) = _ := fun ty => run_next_any w s pos ty hp
      generalize hr : ((Utf8.decode s pos).1 : Int) = r at *
      generalize hwi : (Utf8.decode s pos).2 = wi at *
      clear hr hwi
      cases h1 : (r == 32)
      · have n1 : (r != 32) = true := by simp only [bne, h1]; rfl
        cases h2 : markB r
        · cases h3 : joinB r
          · go_wp2_with (first | (go_at_call 80; refine (mark_any _ _).mono ?_; rintro e w' ⟨rfl, rfl⟩) | (go_at_call 81; refine (joins_any _ _).mono ?_; rintro e w' ⟨rfl, rfl⟩))
            go_ret
            refine ⟨ret_int ?_, _, rfl⟩
            rw [← HC.out, badGo_no p r _ (by simp only [okR, h1, h2, h3]; rfl)]
            omega
          · go_wp2_with (first | (go_at_call 80; refine (mark_any _ _).mono ?_; rintro e w' ⟨rfl, rfl⟩) | (go_at_call 81; refine (joins_any _ _).mono ?_; rintro e w' ⟨rfl, rfl⟩))
            go_roundw
            case rel => exact ⟨pos + wi, p + 1, by omega, rfl, by go_num, by rw [← HC.out, badGo_yes p r _ (by simp only [okR, h3]; simp)]⟩
            case measure => simp; omega
        · go_wp2_with (first | (go_at_call 80; refine (mark_any _ _).mono ?_; rintro e w' ⟨rfl, rfl⟩) | (go_at_call 81; refine (joins_any _ _).mono ?_; rintro e w' ⟨rfl, rfl⟩))
          go_roundw
          case rel => exact ⟨pos + wi, p + 1, by omega, rfl, by go_num, by rw [← HC.out, badGo_yes p r _ (by simp only [okR, h2]; simp)]⟩
          case measure => simp; omega
      · have n1 : (r != 32) = false := by simp only [bne, h1]; rfl
        go_wp2_with (first | (go_at_call 80; refine (mark_any _ _).mono ?_; rintro e w' ⟨rfl, rfl⟩) | (go_at_call 81; refine (joins_any _ _).mono ?_; rintro e w' ⟨rfl, rfl⟩))
        go_roundw
        case rel => exact ⟨pos + wi, p + 1, by omega, rfl, by go_num, by rw [← HC.out, badGo_yes p r _ (by simp only [okR, h1]; simp)]⟩
        case measure => simp; omega
    · have hnx : ∀ ty, (Instr.next (.pointer (some ⟨w.heap.size, 0, none⟩)) true ty).run Tryz.prog (w.iter s pos) = _ := fun ty => run_next_end w s pos ty hp
      rw [rest_end s pos hp] at hc
      have HC2 : Hid (0 = badGo 0 (runesOf s)) := hc
      clear hc
      go_wp2
      go_ret
      refine ⟨ret_int ?_, _, rfl⟩
      rw [← HC2.out]
      rfl
theorem ret_ib {k : IntKind} {a b : Int} {x y : Bool} (h : a = b) (g : x = y) : Ending.returned (.tuple #[.int k a, .bool x]) = .returned (.tuple #[.int k b, .bool y]) := by rw [h, g]
theorem natOf_short (l : List UInt8) (h : l = [] ∨ 13 < l.length ∨ (1 < l.length ∧ l.head? = some 48)) : natOf l = (0, false) := by
  unfold natOf; rw [if_pos h]
theorem natOf_nodig (l : List UInt8) (h : l.all isDig = false) : natOf l = (0, false) := by
  unfold natOf; split
  · rfl
  · rw [if_neg (by rw [h]; simp)]
theorem natOf_dig (l : List UInt8) (h : ¬ (l = [] ∨ 13 < l.length ∨ (1 < l.length ∧ l.head? = some 48))) (hd : l.all isDig = true) : natOf l = if 1000000000000 < valB l then (0, false) else (valB l, true) := by
  unfold natOf; rw [if_neg h, if_pos hd]
theorem all_of_getElem (l : List UInt8) (k : Nat) (h : k < l.length) (hc : isDig l[k] = false) : l.all isDig = false := by
  rw [List.all_eq_false]
  exact ⟨l[k], List.getElem_mem h, by rw [hc]; simp⟩
theorem pow13 (n : Nat) (h : n ≤ 13) : (10 : Int) ^ n ≤ 10000000000000 := by
  have h2 : (10 : Nat) ^ n ≤ 10 ^ 13 := Nat.pow_le_pow_right (by omega) h
  have h3 : ((10 ^ n : Nat) : Int) = (10 : Int) ^ n := by rw [Int.natCast_pow]; rfl
  rw [← h3]
  have h4 : (10 : Nat) ^ 13 = 10000000000000 := by decide
  omega
set_option maxHeartbeats 1000000 in
set_option maxRecDepth 100000 in
theorem natural_loop (s : ByteArray) (w : World) (h0 : 0 < s.size) (h13 : s.size ≤ 13) (hz : ¬ (1 < s.size ∧ s.data.toList.head? = some 48)) :
    Calls Tryz.prog 76 #[.string s] w fun e w' => e = .returned (.tuple #[.int .i64 (natOf s.data.toList).1, .bool (natOf s.data.toList).2]) ∧ Below w.heap.size w w' := by
  have hlen : s.data.toList.length = s.size := by simp
  have hne : ¬ (s.data.toList = [] ∨ 13 < s.data.toList.length ∨ (1 < s.data.toList.length ∧ s.data.toList.head? = some 48)) := by
    rw [hlen]
    rintro (h | h | h)
    · rw [h] at hlen; simp at hlen; omega
    · omega
    · exact hz h
  have HN : Hid (s.data.toList.all isDig = true → natOf s.data.toList = if 1000000000000 < valB s.data.toList then (0, false) else (valB s.data.toList, true)) := natOf_dig _ hne
  have HL : Hid (s.data.toList.length = s.size) := hlen
  have e0 : (s.toList == []) = false := by
    rw [ByteArray.toList_eq, beq_eq_false_iff_ne]; intro h; rw [h] at hlen; simp at hlen; omega
  have ez : 1 < s.size → (((s[0]'h0).toNat : Int) == 48) = false := by
    intro h1
    rw [beq_eq_false_iff_ne]
    intro h2
    apply hz
    refine ⟨h1, ?_⟩
    have : s.data.toList.head? = some (s[0]'h0) := by
      rw [List.head?_eq_getElem?]
      rw [List.getElem?_eq_getElem (by omega)]; rfl
    rw [this]
    congr 1
    apply UInt8.toNat_inj.1
    show _ = 48
    omega
  clear hne hlen hz
  by_cases h1 : 1 < s.size
  all_goals
    try (have ez1 := ez h1)
    clear ez
    go_enter Tryz.func76, Tryz.ntmps76
    go_wp2
    go_loopw [4] (fun n w' => ∃ k : Nat, k ≤ s.size ∧ w' = w.iter s k ∧ n = .int .i64 (valB (s.data.toList.take k)) ∧ (s.data.toList.take k).all isDig = true) (fun _ w' => s.size - w'.iterPos w.heap.size)
    case atStart => exact ⟨0, by omega, rfl, rfl, rfl⟩
    case round =>
      obtain ⟨k, hk, rfl, rfl, hall⟩ := hrel
      have hb := valB_bd _ hall
      have hl : (s.data.toList.take k).length ≤ 13 := by rw [List.length_take]; omega
      have hp13 := pow13 _ hl
      have hbd : valB (s.data.toList.take k) < 10000000000000 := by omega
      have hbd0 := hb.1
      clear hb hp13 hl
      have HA : Hid ((s.data.toList.take k).all isDig = true) := hall
      clear hall
      by_cases hp : k < s.size
      · have hsn := valB_snoc (s.data.toList.take k) s[k]
        have hts := take_snoc s k hp
        have HV : Hid (valB (s.data.toList.take (k + 1)) = valB (s.data.toList.take k) * 10 + ((s[k].toNat : Int) - 48)) := by rw [hts]; exact hsn
        have HT : Hid (s.data.toList.take (k + 1) = s.data.toList.take k ++ [s[k]]) := hts
        clear hsn hts
        have hbyte : (s[k].toNat : Int) < 256 := by have := s[k].toNat_lt; omega
        have hbyte0 : (0 : Int) ≤ (s[k].toNat : Int) := by omega
        by_cases ha : (s[k]'hp).toNat < 128
        · have hnx : ∀ ty, (Instr.next (.pointer (some ⟨w.heap.size, 0, none⟩)) true ty).run Tryz.prog (w.iter s k) = _ := fun ty => run_next_ascii w s k ty hp ha
          cases hd : digB (s[k].toNat : Int)
          · go_wp2_with (go_at_call 84; refine (dig_any _ _).mono ?_; rintro e w' ⟨rfl, rfl⟩)
            go_ret2
            have hno := natOf_nodig _ (all_of_getElem s.data.toList k (by rw [HL.out]; exact hp) hd)
            rw [hno]
            exact ⟨rfl, below_iter _ _ _⟩
          · have hd48 : (48 : Int) ≤ (s[k].toNat : Int) ∧ (s[k].toNat : Int) ≤ 57 := by simpa [digB] using hd
            obtain ⟨hd1, hd2⟩ := hd48
            go_wp2_with (go_at_call 84; refine (dig_any _ _).mono ?_; rintro e w' ⟨rfl, rfl⟩)
            go_roundw
            case rel => exact ⟨k + 1, by omega, rfl, by rw [HV.out], by rw [HT.out, List.all_append, HA.out]; simpa [isDig] using hd⟩
            case measure => simp; omega
        · have hnx : ∀ ty, (Instr.next (.pointer (some ⟨w.heap.size, 0, none⟩)) true ty).run Tryz.prog (w.iter s k) = _ := fun ty => run_next_any w s k ty hp
          have hhi := (decode_high s k hp (by omega)).1
          have hd : digB (((Utf8.decode s k).1 : Nat) : Int) = false := by
            simp [digB]; omega
          go_wp2_with (go_at_call 84; refine (dig_any _ _).mono ?_; rintro e w' ⟨rfl, rfl⟩)
          go_ret2
          have hno := natOf_nodig _ (all_of_getElem s.data.toList k (by rw [HL.out]; exact hp) (by show digB (s[k].toNat : Int) = false; simp [digB]; omega))
          rw [hno]
          exact ⟨rfl, below_iter _ _ _⟩
      · have hnx : ∀ ty, (Instr.next (.pointer (some ⟨w.heap.size, 0, none⟩)) true ty).run Tryz.prog (w.iter s k) = _ := fun ty => run_next_end w s k ty hp
        have hks : s.data.toList.take k = s.data.toList := List.take_of_length_le (by rw [HL.out]; omega)
        rw [hks] at hbd hbd0
        have HK : Hid (s.data.toList.take k = s.data.toList) := hks
        have hall2 := HA.out
        rw [hks] at hall2
        have HF : Hid (natOf s.data.toList = if 1000000000000 < valB s.data.toList then (0, false) else (valB s.data.toList, true)) := HN.out hall2
        clear hall2
        rw [hks]
        clear hks
        by_cases hbig : 1000000000000 < valB s.data.toList
        · go_wp2
          go_ret2
          rw [HF.out, if_pos hbig]
          exact ⟨rfl, below_iter _ _ _⟩
        · go_wp2
          go_ret2
          rw [HF.out, if_neg (by omega)]
          exact ⟨rfl, below_iter _ _ _⟩
theorem head_eq (s : ByteArray) (h0 : 0 < s.size) : s.data.toList.head? = some (s[0]'h0) := by
  rw [List.head?_eq_getElem?, List.getElem?_eq_getElem (by simpa using h0)]; rfl
set_option maxHeartbeats 1000000 in
set_option maxRecDepth 100000 in
theorem natural_any (s : ByteArray) (w : World) (hs : s.size ≤ maxLen) :
    Calls Tryz.prog 76 #[.string s] w fun e w' => e = .returned (.tuple #[.int .i64 (natOf s.data.toList).1, .bool (natOf s.data.toList).2]) ∧ Below w.heap.size w w' := by
  unfold maxLen at hs
  have hlen : s.data.toList.length = s.size := by simp
  by_cases h0 : s.size = 0
  · have e0 : (s.toList == []) = true := by
      rw [ByteArray.toList_eq, beq_iff_eq]; exact List.eq_nil_of_length_eq_zero (by omega)
    have HF : Hid (natOf s.data.toList = (0, false)) := natOf_short _ (.inl (List.eq_nil_of_length_eq_zero (by omega)))
    clear hlen
    go_enter Tryz.func76, Tryz.ntmps76
    go_wp2
    go_ret2
    rw [HF.out]
    exact ⟨rfl, Below.refl _ _⟩
  have e0 : (s.toList == []) = false := by
    rw [ByteArray.toList_eq, beq_eq_false_iff_ne]; intro h; rw [h] at hlen; simp at hlen; omega
  by_cases h13 : 13 < s.size
  · have HF : Hid (natOf s.data.toList = (0, false)) := natOf_short _ (.inr (.inl (by omega)))
    have h13' : (13 : Int) < (s.size : Int) := by omega
    clear hlen h13
    go_enter Tryz.func76, Tryz.ntmps76
    go_wp2
    go_ret2
    rw [HF.out]
    exact ⟨rfl, Below.refl _ _⟩
  by_cases hz : 1 < s.size ∧ s.data.toList.head? = some 48
  · have hp : 0 < s.size := by omega
    have HF : Hid (natOf s.data.toList = (0, false)) := natOf_short _ (.inr (.inr ⟨by omega, hz.2⟩))
    have h1 : 1 < s.size := hz.1
    have ez : (((s[0]'hp).toNat : Int) == 48) = true := by
      have h2 := hz.2
      rw [head_eq s hp] at h2
      rw [Option.some.inj h2]; rfl
    clear hz hlen
    go_enter Tryz.func76, Tryz.ntmps76
    go_wp2
    go_ret2
    rw [HF.out]
    exact ⟨rfl, Below.refl _ _⟩
  · exact natural_loop s w (by omega) (by omega) hz
theorem numOf_nil : numOf [] = (0, false) := rfl
theorem numOf_pos (l : List UInt8) (h : l.head? ≠ some 45) : numOf l = natOf l := by
  cases l with
  | nil => rfl
  | cons c t =>
    have : ¬ c = 45 := by intro e; apply h; rw [e]; rfl
    simp [numOf, this]
theorem numOf_neg (t : List UInt8) : numOf (45 :: t) = if (natOf t).2 = true ∧ (natOf t).1 ≠ 0 then (- (natOf t).1, true) else (0, false) := by simp [numOf]
theorem toList_cut1 (s : ByteArray) : (s.extract 1 s.size).data.toList = s.data.toList.drop 1 := by
  simp [ByteArray.data_extract]
  rw [List.take_of_length_le]
  simp
set_option maxHeartbeats 1000000 in
set_option maxRecDepth 100000 in
theorem number_any (s : ByteArray) (w : World) (hs : s.size ≤ maxLen) :
    Calls Tryz.prog 52 #[.string s] w fun e w' => e = .returned (.tuple #[.int .i64 (numOf s.data.toList).1, .bool (numOf s.data.toList).2]) ∧ Below w.heap.size w w' := by
  have hs' := hs
  unfold maxLen at hs'
  have hlen : s.data.toList.length = s.size := by simp
  by_cases h0 : s.size = 0
  · have e0 : (s.toList == []) = true := by
      rw [ByteArray.toList_eq, beq_iff_eq]; exact List.eq_nil_of_length_eq_zero (by omega)
    have hnil : s.data.toList = [] := List.eq_nil_of_length_eq_zero (by omega)
    have HF : Hid (numOf s.data.toList = natOf s.data.toList) := by rw [hnil]; rfl
    clear hlen hnil
    go_enter Tryz.func52, Tryz.ntmps52
    go_wp2_with fail
    refine (natural_any _ _ hs).mono ?_
    rintro e w' ⟨rfl, hb⟩
    go_wp2
    go_ret2
    rw [HF.out]
    exact ⟨rfl, hb⟩
  have hp : 0 < s.size := by omega
  have e0 : (s.toList == []) = false := by
    rw [ByteArray.toList_eq, beq_eq_false_iff_ne]; intro h; rw [h] at hlen; simp at hlen; omega
  by_cases hm : s[0]'hp = 45
  · have e1 : (((s[0]'hp).toNat : Int) != 45) = false := by rw [hm]; rfl
    have hcons : s.data.toList = 45 :: s.data.toList.drop 1 := by
      have h2 := head_eq s hp
      rw [hm] at h2
      cases hl : s.data.toList with
      | nil => rw [hl] at hlen; simp at hlen; omega
      | cons c t => rw [hl] at h2; simp at h2; rw [h2]; rfl
    have HF : Hid (numOf s.data.toList = if (natOf (s.data.toList.drop 1)).2 = true ∧ (natOf (s.data.toList.drop 1)).1 ≠ 0 then (- (natOf (s.data.toList.drop 1)).1, true) else (0, false)) := by
      have := numOf_neg (s.data.toList.drop 1)
      rw [← hcons] at this; exact this
    have hbd := natOf_bd (s.data.toList.drop 1)
    clear hcons hlen
    go_enter Tryz.func52, Tryz.ntmps52
    go_wp2_with fail
    refine (natural_any _ _ ?_).mono ?_
    · show (s.extract 1 s.size).size ≤ maxLen
      rw [ByteArray.size_extract]; omega
    rintro e w' ⟨rfl, hb⟩
    rw [toList_cut1]
    generalize natOf (s.data.toList.drop 1) = q at *
    obtain ⟨n, ok⟩ := q
    simp only at hbd
    obtain ⟨hn0, hn1⟩ := hbd
    cases ok
    · go_wp2
      go_ret2
      rw [HF.out]
      exact ⟨rfl, hb⟩
    · by_cases hn : n = 0
      · subst hn
        go_wp2
        go_ret2
        rw [HF.out]
        exact ⟨rfl, hb⟩
      · have en : (n == 0) = false := by simpa using hn
        go_wp2
        go_ret2
        rw [HF.out]
        refine ⟨?_, hb⟩
        simp [hn]
  · have e1 : (((s[0]'hp).toNat : Int) != 45) = true := by
      rw [bne_iff_ne]; intro h; apply hm; apply UInt8.toNat_inj.1; show _ = 45; omega
    have HF : Hid (numOf s.data.toList = natOf s.data.toList) := by
      apply numOf_pos
      rw [head_eq s hp]
      intro h
      exact hm (Option.some.inj h)
    clear hlen
    go_enter Tryz.func52, Tryz.ntmps52
    go_wp2_with fail
    refine (natural_any _ _ hs).mono ?_
    rintro e w' ⟨rfl, hb⟩
    go_wp2
    go_ret2
    rw [HF.out]
    exact ⟨rfl, hb⟩

end Go.Proofs.YtfmjjfpajohihaaGreatDoor.Rn
