/- Names, numbers and the first rune that is no sign: what package runes answers. -/
import Derived.Test.YthhjcpmnekibnaaBase
import Derived.Test.YthhjcpmnekibnaaNames
import Derived.Test.YthhjcpmnekibnaaTermForm
import Derived.Test.YthhjcpmnekibnaaMakerObs
import Derived.Test.YthhjcpmnekibnaaMakerC0
import Derived.Deep.DeepCutAuto
namespace Go.Proofs.Ythhjcpmnekibnaa.Rn
open Go.RowKit
set_option linter.unusedVariables false

def markB (r : Int) : Bool := (r == 40) || (r == 41) || (r == 44)
def joinB (r : Int) : Bool := (r == 45) || letB r
set_option maxHeartbeats 400000 in
theorem mark_any (r : Int) (w : World) :
    Calls Try.prog 83 #[.int .i32 r] w fun e w' => e = .returned (.bool (markB r)) ∧ w' = w := by
  cases e1 : (r == 40) <;> cases e2 : (r == 41)
  all_goals
    go_enter Try.func83, Try.ntmps83
    go_wp2
    go_ret
    exact ⟨by simp [markB, e1, e2], rfl⟩
set_option maxHeartbeats 400000 in
theorem joins_any (r : Int) (w : World) :
    Calls Try.prog 84 #[.int .i32 r] w fun e w' => e = .returned (.bool (joinB r)) ∧ w' = w := by
  cases e1 : (r == 45)
  all_goals
    go_enter Try.func84, Try.ntmps84
    go_wp2_with (go_at_call 86; refine (let_any _ _).mono ?_; rintro e w' ⟨rfl, rfl⟩)
    go_ret
    exact ⟨by simp [joinB, e1], rfl⟩
def okR (r : Int) : Bool := (r == 32) || markB r || joinB r
def badGo : Nat → List Int → Nat
  | _, [] => 0
  | p, r :: rs => if okR r = true then badGo (p + 1) rs else p + 1
abbrev Sg := ByteArray × Int
def endR (l : List Sg) (run : List Int) (e : Int) : List Sg := if run = [] then l else l ++ [(runesBytes run, e - run.length)]
def cutGo : List Sg → List Int → Nat → List Int → List Sg
  | l, run, p, [] => endR l run (p + 1 : Nat)
  | l, run, p, r :: rs =>
    if joinB r = true then cutGo l (run ++ [r]) (p + 1) rs
    else if markB r = true then cutGo (endR l run (p + 1 : Nat) ++ [(Utf8.encode r, ((p + 1 : Nat) : Int))]) [] (p + 1) rs
    else cutGo (endR l run (p + 1 : Nat)) [] (p + 1) rs
/-- The cells of a list of signs. -/
def sgCells (l : List Sg) : List Value := l.flatMap fun x => [.string x.1, .int .i64 x.2]
theorem sgCells_length (l : List Sg) : (sgCells l).length = l.length * 2 := by
  induction l with
  | nil => rfl
  | cons a l ih => simp [sgCells] at ih ⊢; omega
theorem sgCells_append (a b : List Sg) : sgCells (a ++ b) = sgCells a ++ sgCells b := by simp [sgCells]
def isDig (c : UInt8) : Bool := digB (c.toNat : Int)
def valB (l : List UInt8) : Int := l.foldl (fun a c => a * 10 + ((c.toNat : Int) - 48)) 0
theorem valB_snoc (l : List UInt8) (c : UInt8) : valB (l ++ [c]) = valB l * 10 + ((c.toNat : Int) - 48) := by simp [valB]
/-- What natural answers. -/
def natOf (l : List UInt8) : Int × Bool :=
  if l = [] ∨ 13 < l.length ∨ (1 < l.length ∧ l.head? = some 48) then (0, false)
  else if l.all isDig = true then (if 1000000000000 < valB l then (0, false) else (valB l, true)) else (0, false)
/-- What Number answers. -/
def numOf (l : List UInt8) : Int × Bool :=
  match l with
  | [] => (0, false)
  | c :: t => if c = 45 then (if (natOf t).2 = true ∧ (natOf t).1 ≠ 0 then (- (natOf t).1, true) else (0, false)) else natOf (c :: t)
theorem valB_bd (l : List UInt8) (h : l.all isDig = true) : 0 ≤ valB l ∧ valB l < 10 ^ l.length := by
  have key : ∀ n (l : List UInt8), l.length = n → l.all isDig = true → 0 ≤ valB l ∧ valB l < 10 ^ l.length := by
    intro n
    induction n with
    | zero => intro l hl _; cases l with
      | nil => simp [valB]
      | cons a l => simp at hl
    | succ n ih =>
      intro l hl h
      obtain ⟨t, c, rfl⟩ : ∃ t c, l = t ++ [c] := by
        refine ⟨l.dropLast, l.getLast (by intro e; rw [e] at hl; simp at hl), ?_⟩
        rw [List.dropLast_concat_getLast]
      simp at hl
      simp only [List.all_append, List.all_cons, List.all_nil, Bool.and_true, Bool.and_eq_true] at h
      have := ih t hl h.1
      have hc := h.2
      simp [isDig, digB] at hc
      rw [valB_snoc, List.length_append, List.length_singleton, Int.pow_succ]
      omega
  exact key _ l rfl h
theorem natOf_bd (l : List UInt8) : 0 ≤ (natOf l).1 ∧ (natOf l).1 ≤ 1000000000000 := by
  unfold natOf
  split
  · simp
  · split
    · rename_i h
      have := valB_bd l h
      split <;> simp <;> omega
    · simp
theorem take_snoc (s : ByteArray) (k : Nat) (h : k < s.size) : s.data.toList.take (k + 1) = s.data.toList.take k ++ [s[k]] := by
  rw [List.take_succ_eq_append_getElem (by simpa using h)]; rfl
theorem badGo_yes (p : Nat) (r : Int) (rs : List Int) (h : okR r = true) : badGo p (r :: rs) = badGo (p + 1) rs := by simp [badGo, h]
theorem badGo_no (p : Nat) (r : Int) (rs : List Int) (h : okR r = false) : badGo p (r :: rs) = p + 1 := by simp [badGo, h]
set_option maxHeartbeats 1000000 in
set_option maxRecDepth 100000 in
theorem firstBad_any (s : ByteArray) (w : World) (hs : s.size ≤ maxLen) :
    Calls Try.prog 62 #[.string s] w fun e w' => e = .returned (.int .i64 (badGo 0 (runesOf s) : Nat)) ∧ ∃ pos, w' = w.iter s pos := by
  unfold maxLen at hs
  go_enter Try.func62, Try.ntmps62
  go_wp2
  go_loopw [3] (fun n w' => ∃ (pos p : Nat), p ≤ pos ∧ w' = w.iter s pos ∧ n = .int .i64 p ∧ badGo p (rest s pos) = badGo 0 (runesOf s)) (fun _ w' => s.size - w'.iterPos w.heap.size)
  case atStart => exact ⟨0, 0, by omega, rfl, rfl, rfl⟩
  case round =>
    obtain ⟨pos, p, hpp, rfl, rfl, hc⟩ := hrel
    by_cases hp : pos < s.size
    · have hwd := width_pos s pos hp
      have hst := rest_step s pos hp
      have HC : Hid (badGo p (((Utf8.decode s pos).1 : Int) :: rest s (pos + (Utf8.decode s pos).2)) = badGo 0 (runesOf s)) := by rw [← hst]; exact hc
      clear hc hst
      have hnx : ∀ ty, (Instr.next (.pointer (some ⟨w.heap.size, 0, none⟩)) true ty).run Try.prog (w.iter s pos) = _ := fun ty => run_next_any w s pos ty hp
      generalize hr : ((Utf8.decode s pos).1 : Int) = r at *
      generalize hwi : (Utf8.decode s pos).2 = wi at *
      clear hr hwi
      cases h1 : (r == 32)
      · have n1 : (r != 32) = true := by simp only [bne, h1]; rfl
        cases h2 : markB r
        · cases h3 : joinB r
          · go_wp2_with (first | (go_at_call 83; refine (mark_any _ _).mono ?_; rintro e w' ⟨rfl, rfl⟩) | (go_at_call 84; refine (joins_any _ _).mono ?_; rintro e w' ⟨rfl, rfl⟩))
            go_ret
            refine ⟨ret_int ?_, _, rfl⟩
            rw [← HC.out, badGo_no p r _ (by simp only [okR, h1, h2, h3]; rfl)]
            omega
          · go_wp2_with (first | (go_at_call 83; refine (mark_any _ _).mono ?_; rintro e w' ⟨rfl, rfl⟩) | (go_at_call 84; refine (joins_any _ _).mono ?_; rintro e w' ⟨rfl, rfl⟩))
            go_roundw
            case rel => exact ⟨pos + wi, p + 1, by omega, rfl, by go_num, by rw [← HC.out, badGo_yes p r _ (by simp only [okR, h3]; simp)]⟩
            case measure => simp; omega
        · go_wp2_with (first | (go_at_call 83; refine (mark_any _ _).mono ?_; rintro e w' ⟨rfl, rfl⟩) | (go_at_call 84; refine (joins_any _ _).mono ?_; rintro e w' ⟨rfl, rfl⟩))
          go_roundw
          case rel => exact ⟨pos + wi, p + 1, by omega, rfl, by go_num, by rw [← HC.out, badGo_yes p r _ (by simp only [okR, h2]; simp)]⟩
          case measure => simp; omega
      · have n1 : (r != 32) = false := by simp only [bne, h1]; rfl
        go_wp2_with (first | (go_at_call 83; refine (mark_any _ _).mono ?_; rintro e w' ⟨rfl, rfl⟩) | (go_at_call 84; refine (joins_any _ _).mono ?_; rintro e w' ⟨rfl, rfl⟩))
        go_roundw
        case rel => exact ⟨pos + wi, p + 1, by omega, rfl, by go_num, by rw [← HC.out, badGo_yes p r _ (by simp only [okR, h1]; simp)]⟩
        case measure => simp; omega
    · have hnx : ∀ ty, (Instr.next (.pointer (some ⟨w.heap.size, 0, none⟩)) true ty).run Try.prog (w.iter s pos) = _ := fun ty => run_next_end w s pos ty hp
      rw [rest_end s pos hp] at hc
      have HC2 : Hid (0 = badGo 0 (runesOf s)) := hc
      clear hc
      go_wp2
      go_ret
      refine ⟨ret_int ?_, _, rfl⟩
      rw [← HC2.out]
      rfl
theorem ret_ib {k : IntKind} {a b : Int} {x y : Bool} (h : a = b) (g : x = y) : Ending.returned (.tuple #[.int k a, .bool x]) = .returned (.tuple #[.int k b, .bool y]) := by rw [h, g]
theorem natOf_short (l : List UInt8) (h : l = [] ∨ 13 < l.length ∨ (1 < l.length ∧ l.head? = some 48)) : natOf l = (0, false) := by
  unfold natOf; rw [if_pos h]
theorem natOf_nodig (l : List UInt8) (h : l.all isDig = false) : natOf l = (0, false) := by
  unfold natOf; split
  · rfl
  · rw [if_neg (by rw [h]; simp)]
theorem natOf_dig (l : List UInt8) (h : ¬ (l = [] ∨ 13 < l.length ∨ (1 < l.length ∧ l.head? = some 48))) (hd : l.all isDig = true) : natOf l = if 1000000000000 < valB l then (0, false) else (valB l, true) := by
  unfold natOf; rw [if_neg h, if_pos hd]
theorem all_of_getElem (l : List UInt8) (k : Nat) (h : k < l.length) (hc : isDig l[k] = false) : l.all isDig = false := by
  rw [List.all_eq_false]
  exact ⟨l[k], List.getElem_mem h, by rw [hc]; simp⟩
theorem pow13 (n : Nat) (h : n ≤ 13) : (10 : Int) ^ n ≤ 10000000000000 := by
  have h2 : (10 : Nat) ^ n ≤ 10 ^ 13 := Nat.pow_le_pow_right (by omega) h
  have h3 : ((10 ^ n : Nat) : Int) = (10 : Int) ^ n := by rw [Int.natCast_pow]; rfl
  rw [← h3]
  have h4 : (10 : Nat) ^ 13 = 10000000000000 := by decide
  omega
set_option maxHeartbeats 1000000 in
set_option maxRecDepth 100000 in
theorem natural_loop (s : ByteArray) (w : World) (h0 : 0 < s.size) (h13 : s.size ≤ 13) (hz : ¬ (1 < s.size ∧ s.data.toList.head? = some 48)) :
    Calls Try.prog 77 #[.string s] w fun e w' => e = .returned (.tuple #[.int .i64 (natOf s.data.toList).1, .bool (natOf s.data.toList).2]) ∧ Below w.heap.size w w' := by
  have hlen : s.data.toList.length = s.size := by simp
  have hne : ¬ (s.data.toList = [] ∨ 13 < s.data.toList.length ∨ (1 < s.data.toList.length ∧ s.data.toList.head? = some 48)) := by
    rw [hlen]
    rintro (h | h | h)
    · rw [h] at hlen; simp at hlen; omega
    · omega
    · exact hz h
  have HN : Hid (s.data.toList.all isDig = true → natOf s.data.toList = if 1000000000000 < valB s.data.toList then (0, false) else (valB s.data.toList, true)) := natOf_dig _ hne
  have HL : Hid (s.data.toList.length = s.size) := hlen
  have e0 : (s.toList == []) = false := by
    rw [ByteArray.toList_eq, beq_eq_false_iff_ne]; intro h; rw [h] at hlen; simp at hlen; omega
  have ez : 1 < s.size → (((s[0]'h0).toNat : Int) == 48) = false := by
    intro h1
    rw [beq_eq_false_iff_ne]
    intro h2
    apply hz
    refine ⟨h1, ?_⟩
    have : s.data.toList.head? = some (s[0]'h0) := by
      rw [List.head?_eq_getElem?]
      rw [List.getElem?_eq_getElem (by omega)]; rfl
    rw [this]
    congr 1
    apply UInt8.toNat_inj.1
    show _ = 48
    omega
  clear hne hlen hz
  by_cases h1 : 1 < s.size
  all_goals
    try (have ez1 := ez h1)
    clear ez
    go_enter Try.func77, Try.ntmps77
    go_wp2
    go_loopw [4] (fun n w' => ∃ k : Nat, k ≤ s.size ∧ w' = w.iter s k ∧ n = .int .i64 (valB (s.data.toList.take k)) ∧ (s.data.toList.take k).all isDig = true) (fun _ w' => s.size - w'.iterPos w.heap.size)
    case atStart => exact ⟨0, by omega, rfl, rfl, rfl⟩
    case round =>
      obtain ⟨k, hk, rfl, rfl, hall⟩ := hrel
      have hb := valB_bd _ hall
      have hl : (s.data.toList.take k).length ≤ 13 := by rw [List.length_take]; omega
      have hp13 := pow13 _ hl
      have hbd : valB (s.data.toList.take k) < 10000000000000 := by omega
      have hbd0 := hb.1
      clear hb hp13 hl
      have HA : Hid ((s.data.toList.take k).all isDig = true) := hall
      clear hall
      by_cases hp : k < s.size
      · have hsn := valB_snoc (s.data.toList.take k) s[k]
        have hts := take_snoc s k hp
        have HV : Hid (valB (s.data.toList.take (k + 1)) = valB (s.data.toList.take k) * 10 + ((s[k].toNat : Int) - 48)) := by rw [hts]; exact hsn
        have HT : Hid (s.data.toList.take (k + 1) = s.data.toList.take k ++ [s[k]]) := hts
        clear hsn hts
        have hbyte : (s[k].toNat : Int) < 256 := by have := s[k].toNat_lt; omega
        have hbyte0 : (0 : Int) ≤ (s[k].toNat : Int) := by omega
        by_cases ha : (s[k]'hp).toNat < 128
        · have hnx : ∀ ty, (Instr.next (.pointer (some ⟨w.heap.size, 0, none⟩)) true ty).run Try.prog (w.iter s k) = _ := fun ty => run_next_ascii w s k ty hp ha
          cases hd : digB (s[k].toNat : Int)
          · go_wp2_with (go_at_call 87; refine (dig_any _ _).mono ?_; rintro e w' ⟨rfl, rfl⟩)
            go_ret2
            have hno := natOf_nodig _ (all_of_getElem s.data.toList k (by rw [HL.out]; exact hp) hd)
            rw [hno]
            exact ⟨rfl, below_iter _ _ _⟩
          · have hd48 : (48 : Int) ≤ (s[k].toNat : Int) ∧ (s[k].toNat : Int) ≤ 57 := by simpa [digB] using hd
            obtain ⟨hd1, hd2⟩ := hd48
            go_wp2_with (go_at_call 87; refine (dig_any _ _).mono ?_; rintro e w' ⟨rfl, rfl⟩)
            go_roundw
            case rel => exact ⟨k + 1, by omega, rfl, by rw [HV.out], by rw [HT.out, List.all_append, HA.out]; simpa [isDig] using hd⟩
            case measure => simp; omega
        · have hnx : ∀ ty, (Instr.next (.pointer (some ⟨w.heap.size, 0, none⟩)) true ty).run Try.prog (w.iter s k) = _ := fun ty => run_next_any w s k ty hp
          have hhi := (decode_high s k hp (by omega)).1
          have hd : digB (((Utf8.decode s k).1 : Nat) : Int) = false := by
            simp [digB]; omega
          go_wp2_with (go_at_call 87; refine (dig_any _ _).mono ?_; rintro e w' ⟨rfl, rfl⟩)
          go_ret2
          have hno := natOf_nodig _ (all_of_getElem s.data.toList k (by rw [HL.out]; exact hp) (by show digB (s[k].toNat : Int) = false; simp [digB]; omega))
          rw [hno]
          exact ⟨rfl, below_iter _ _ _⟩
      · have hnx : ∀ ty, (Instr.next (.pointer (some ⟨w.heap.size, 0, none⟩)) true ty).run Try.prog (w.iter s k) = _ := fun ty => run_next_end w s k ty hp
        have hks : s.data.toList.take k = s.data.toList := List.take_of_length_le (by rw [HL.out]; omega)
        rw [hks] at hbd hbd0
        have HK : Hid (s.data.toList.take k = s.data.toList) := hks
        have hall2 := HA.out
        rw [hks] at hall2
        have HF : Hid (natOf s.data.toList = if 1000000000000 < valB s.data.toList then (0, false) else (valB s.data.toList, true)) := HN.out hall2
        clear hall2
        rw [hks]
        clear hks
        by_cases hbig : 1000000000000 < valB s.data.toList
        · go_wp2
          go_ret2
          rw [HF.out, if_pos hbig]
          exact ⟨rfl, below_iter _ _ _⟩
        · go_wp2
          go_ret2
          rw [HF.out, if_neg (by omega)]
          exact ⟨rfl, below_iter _ _ _⟩
theorem head_eq (s : ByteArray) (h0 : 0 < s.size) : s.data.toList.head? = some (s[0]'h0) := by
  rw [List.head?_eq_getElem?, List.getElem?_eq_getElem (by simpa using h0)]; rfl
set_option maxHeartbeats 1000000 in
set_option maxRecDepth 100000 in
theorem natural_any (s : ByteArray) (w : World) (hs : s.size ≤ maxLen) :
    Calls Try.prog 77 #[.string s] w fun e w' => e = .returned (.tuple #[.int .i64 (natOf s.data.toList).1, .bool (natOf s.data.toList).2]) ∧ Below w.heap.size w w' := by
  unfold maxLen at hs
  have hlen : s.data.toList.length = s.size := by simp
  by_cases h0 : s.size = 0
  · have e0 : (s.toList == []) = true := by
      rw [ByteArray.toList_eq, beq_iff_eq]; exact List.eq_nil_of_length_eq_zero (by omega)
    have HF : Hid (natOf s.data.toList = (0, false)) := natOf_short _ (.inl (List.eq_nil_of_length_eq_zero (by omega)))
    clear hlen
    go_enter Try.func77, Try.ntmps77
    go_wp2
    go_ret2
    rw [HF.out]
    exact ⟨rfl, Below.refl _ _⟩
  have e0 : (s.toList == []) = false := by
    rw [ByteArray.toList_eq, beq_eq_false_iff_ne]; intro h; rw [h] at hlen; simp at hlen; omega
  by_cases h13 : 13 < s.size
  · have HF : Hid (natOf s.data.toList = (0, false)) := natOf_short _ (.inr (.inl (by omega)))
    have h13' : (13 : Int) < (s.size : Int) := by omega
    clear hlen h13
    go_enter Try.func77, Try.ntmps77
    go_wp2
    go_ret2
    rw [HF.out]
    exact ⟨rfl, Below.refl _ _⟩
  by_cases hz : 1 < s.size ∧ s.data.toList.head? = some 48
  · have hp : 0 < s.size := by omega
    have HF : Hid (natOf s.data.toList = (0, false)) := natOf_short _ (.inr (.inr ⟨by omega, hz.2⟩))
    have h1 : 1 < s.size := hz.1
    have ez : (((s[0]'hp).toNat : Int) == 48) = true := by
      have h2 := hz.2
      rw [head_eq s hp] at h2
      rw [Option.some.inj h2]; rfl
    clear hz hlen
    go_enter Try.func77, Try.ntmps77
    go_wp2
    go_ret2
    rw [HF.out]
    exact ⟨rfl, Below.refl _ _⟩
  · exact natural_loop s w (by omega) (by omega) hz
theorem numOf_nil : numOf [] = (0, false) := rfl
theorem numOf_pos (l : List UInt8) (h : l.head? ≠ some 45) : numOf l = natOf l := by
  cases l with
  | nil => rfl
  | cons c t =>
    have : ¬ c = 45 := by intro e; apply h; rw [e]; rfl
    simp [numOf, this]
theorem numOf_neg (t : List UInt8) : numOf (45 :: t) = if (natOf t).2 = true ∧ (natOf t).1 ≠ 0 then (- (natOf t).1, true) else (0, false) := by simp [numOf]
theorem toList_cut1 (s : ByteArray) : (s.extract 1 s.size).data.toList = s.data.toList.drop 1 := by
  simp [ByteArray.data_extract]
  rw [List.take_of_length_le]
  simp
set_option maxHeartbeats 1000000 in
set_option maxRecDepth 100000 in
theorem number_any (s : ByteArray) (w : World) (hs : s.size ≤ maxLen) :
    Calls Try.prog 56 #[.string s] w fun e w' => e = .returned (.tuple #[.int .i64 (numOf s.data.toList).1, .bool (numOf s.data.toList).2]) ∧ Below w.heap.size w w' := by
  have hs' := hs
  unfold maxLen at hs'
  have hlen : s.data.toList.length = s.size := by simp
  by_cases h0 : s.size = 0
  · have e0 : (s.toList == []) = true := by
      rw [ByteArray.toList_eq, beq_iff_eq]; exact List.eq_nil_of_length_eq_zero (by omega)
    have hnil : s.data.toList = [] := List.eq_nil_of_length_eq_zero (by omega)
    have HF : Hid (numOf s.data.toList = natOf s.data.toList) := by rw [hnil]; rfl
    clear hlen hnil
    go_enter Try.func56, Try.ntmps56
    go_wp2_with fail
    refine (natural_any _ _ hs).mono ?_
    rintro e w' ⟨rfl, hb⟩
    go_wp2
    go_ret2
    rw [HF.out]
    exact ⟨rfl, hb⟩
  have hp : 0 < s.size := by omega
  have e0 : (s.toList == []) = false := by
    rw [ByteArray.toList_eq, beq_eq_false_iff_ne]; intro h; rw [h] at hlen; simp at hlen; omega
  by_cases hm : s[0]'hp = 45
  · have e1 : (((s[0]'hp).toNat : Int) != 45) = false := by rw [hm]; rfl
    have hcons : s.data.toList = 45 :: s.data.toList.drop 1 := by
      have h2 := head_eq s hp
      rw [hm] at h2
      cases hl : s.data.toList with
      | nil => rw [hl] at hlen; simp at hlen; omega
      | cons c t => rw [hl] at h2; simp at h2; rw [h2]; rfl
    have HF : Hid (numOf s.data.toList = if (natOf (s.data.toList.drop 1)).2 = true ∧ (natOf (s.data.toList.drop 1)).1 ≠ 0 then (- (natOf (s.data.toList.drop 1)).1, true) else (0, false)) := by
      have := numOf_neg (s.data.toList.drop 1)
      rw [← hcons] at this; exact this
    have hbd := natOf_bd (s.data.toList.drop 1)
    clear hcons hlen
    go_enter Try.func56, Try.ntmps56
    go_wp2_with fail
    refine (natural_any _ _ ?_).mono ?_
    · show (s.extract 1 s.size).size ≤ maxLen
      rw [ByteArray.size_extract]; omega
    rintro e w' ⟨rfl, hb⟩
    rw [toList_cut1]
    generalize natOf (s.data.toList.drop 1) = q at *
    obtain ⟨n, ok⟩ := q
    simp only at hbd
    obtain ⟨hn0, hn1⟩ := hbd
    cases ok
    · go_wp2
      go_ret2
      rw [HF.out]
      exact ⟨rfl, hb⟩
    · by_cases hn : n = 0
      · subst hn
        go_wp2
        go_ret2
        rw [HF.out]
        exact ⟨rfl, hb⟩
      · have en : (n == 0) = false := by simpa using hn
        go_wp2
        go_ret2
        rw [HF.out]
        refine ⟨?_, hb⟩
        simp [hn]
  · have e1 : (((s[0]'hp).toNat : Int) != 45) = true := by
      rw [bne_iff_ne]; intro h; apply hm; apply UInt8.toNat_inj.1; show _ = 45; omega
    have HF : Hid (numOf s.data.toList = natOf s.data.toList) := by
      apply numOf_pos
      rw [head_eq s hp]
      intro h
      exact hm (Option.some.inj h)
    clear hlen
    go_enter Try.func56, Try.ntmps56
    go_wp2_with fail
    refine (natural_any _ _ hs).mono ?_
    rintro e w' ⟨rfl, hb⟩
    go_wp2
    go_ret2
    rw [HF.out]
    exact ⟨rfl, hb⟩

end Go.Proofs.Ythhjcpmnekibnaa.Rn
namespace Go.Proofs.Ythhjcpmnekibnaa.Rn
open Go.RowKit
set_option linter.unusedVariables false

theorem Try.info100 : (Try.prog.info? 100).map (fun i => (i.zero, i.size, i.bytes)) = some (some (.agg #[.string ByteArray.empty, .int .i64 0]), 2, 24) := by kernel_rfl
theorem Try.info21 : (Try.prog.info? 21).map (fun i => (i.zero, i.size, i.bytes)) = some (some (.int .i32 0), 1, 4) := by kernel_rfl
def runCells (run : List Int) : List Value := run.map (Value.int .i32)
theorem runCells_length (run : List Int) : (runCells run).length = run.length * 1 := by simp [runCells]
theorem grownBy_refl (w : World) (row : Option Nat) : w.grownBy w row := ⟨rfl, rfl, rfl, Nat.le_refl _, fun _ _ _ => rfl⟩
set_option maxHeartbeats 1000000 in
set_option maxRecDepth 100000 in
theorem endRun_none (B : Nat) (v u : Value) (n cap : Nat) (ao : Option Addr) (e : Int) (w : World) :
    Calls Try.prog 85 #[v, .slice ao 0 cap, .int .i64 e] w fun e' w' => e' = .returned v ∧ w' = w := by
  go_enter Try.func85, Try.ntmps85
  go_wp2
  go_ret
  exact ⟨rfl, rfl⟩
set_option maxHeartbeats 1000000 in
set_option maxRecDepth 100000 in
theorem endRun_some (B : Nat) (l : List Sg) (run : List Int) (e : Int) (v : Value) (g cap : Nat) (w : World)
    (hv : w.ownsRow B 100 2 v l.length (sgCells l)) (hu : w.ownsRow B 21 1 (.slice (some ⟨g, 0, none⟩) run.length cap) run.length (runCells run))
    (hB : B ≤ w.heap.size) (hne : run ≠ []) (hl : l.length ≤ 1000000000000) (hr : run.length ≤ 140737488355328) (he0 : 0 ≤ e) (he1 : e ≤ 281474976710656) :
    Calls Try.prog 85 #[v, .slice (some ⟨g, 0, none⟩) run.length cap, .int .i64 e] w fun e' w' => ∃ v', e' = .returned v' ∧
      w'.ownsRow B 100 2 v' (endR l run e).length (sgCells (endR l run e)) ∧ w.grownBy w' v.ownBlock := by
  obtain ⟨i0, hi, hz0, hz1, hz2⟩ := info_parts Try.info100
  have hcv : (convert 114 9 (.slice (some ⟨g, 0, none⟩) run.length cap)).run Try.prog w = .ok (.string (runesBytes run)) w := by
    have := run_convert_runes (P := Try.prog) w 114 9 21 ⟨g, 0, none⟩ run.length cap run (Nat.le_refl _) Try.underlying114 Try.underlying21 Try.underlying9 (by
      intro j hj
      have := hu.cells (g := g) rfl j (.int .i32 (run.getD j 0)) (by simp [runCells, hj])
      exact this)
    simpa using this
  have hrl : 0 < run.length := List.length_pos_iff.2 hne
  have hq : ((run.length : Int) == 0) = false := by rw [beq_eq_false_iff_ne]; omega
  have HE : Hid (endR l run e = l ++ [(runesBytes run, e - run.length)]) := by unfold Hid endR; rw [if_neg hne]
  generalize hm : run.length = m at *
  generalize htx : runesBytes run = tx at *
  clear hu hne
  go_enter Try.func85, Try.ntmps85
  go_wp2_with (at_builtin; refine wpList_append_own _ rfl _ _ 52 rfl B 100 i0 (.agg #[.string ByteArray.empty, .int .i64 0]) 2 24 Try.underlying52 hi hz0 hz1 hz2 rfl (by decide) _ _ _ rfl (hv.alloc _) ⟨w.heap.size, 0, none⟩ 1 1 [.string tx, .int .i64 (e - m)] rfl rfl (cell_two_new w _ _ _) (by intro u hu; simp at hu; rcases hu with rfl | rfl <;> rfl) (by unfold maxLen; omega) (by omega) (by simp; omega) ?_; intro v' w1 hown' hgrow _)
  go_ret
  refine ⟨_, rfl, ?_, ?_⟩
  · rw [HE.out, sgCells_append]
    simpa [sgCells] using hown'
  · exact ⟨hgrow.os, hgrow.tape, hgrow.output, by have := hgrow.size; simp at this; omega, fun k hk hne => (hgrow.block k (by simp; omega) hne).trans (heap_alloc_old w _ hk)⟩
theorem endRun_any (B : Nat) (l : List Sg) (run : List Int) (e : Int) (v u : Value) (w : World)
    (hv : w.ownsRow B 100 2 v l.length (sgCells l)) (hu : w.ownsRow B 21 1 u run.length (runCells run))
    (hB : B ≤ w.heap.size) (hl : l.length ≤ 1000000000000) (hr : run.length ≤ 140737488355328) (he0 : 0 ≤ e) (he1 : e ≤ 281474976710656) :
    Calls Try.prog 85 #[v, u, .int .i64 e] w fun e' w' => ∃ v', e' = .returned v' ∧
      w'.ownsRow B 100 2 v' (endR l run e).length (sgCells (endR l run e)) ∧ w.grownBy w' v.ownBlock := by
  by_cases hne : run = []
  · subst hne
    have hcase : ∃ ao cap, u = .slice ao 0 cap := by
      rcases hu.2 with ⟨rfl, _⟩ | ⟨g, cap, cur, rfl, _⟩
      · exact ⟨_, _, rfl⟩
      · exact ⟨_, _, rfl⟩
    obtain ⟨ao, cap, rfl⟩ := hcase
    refine (endRun_none B v v 0 cap ao e w).mono ?_
    rintro e' w' ⟨rfl, rfl⟩
    exact ⟨_, rfl, by simpa [endR] using hv, grownBy_refl _ _⟩
  · rcases hu.2 with ⟨rfl, h0⟩ | ⟨g, cap, cur, rfl, _⟩
    · exact absurd (List.eq_nil_of_length_eq_zero h0) hne
    · exact endRun_some B l run e v g cap w hv hu hB hne hl hr he0 he1
def Inv (K : Nat) (w : World) (s : ByteArray) (pos : Nat) (l : List Sg) (run : List Int) (v u : Value) (wr : World) : Prop :=
  wr.heap[K]? = some (.stringIter s pos) ∧ wr.ownsRow (K + 1) 100 2 v l.length (sgCells l) ∧ wr.ownsRow (K + 1) 21 1 u run.length (runCells run) ∧ Below K w wr ∧ K + 1 ≤ wr.heap.size
theorem own_ne {w : World} {B B' : Nat} {e e' : TypeId} {size size' : Nat} {v u : Value} {n n' : Nat} {xs ys : List Value}
    (hv : w.ownsRow B e size v n xs) (hu : w.ownsRow B' e' size' u n' ys) (hne : e ≠ e') : v.ownBlock = none ∨ v.ownBlock ≠ u.ownBlock := by
  rcases hv.2 with ⟨rfl, _⟩ | ⟨g, cap, cur, rfl, _, hg, _⟩
  · exact .inl rfl
  · rcases hu.2 with ⟨rfl, _⟩ | ⟨g', cap', cur', rfl, _, hg', _⟩
    · right; simp [Value.ownBlock]
    · right
      simp only [Value.ownBlock]
      intro h
      have h2 : g = g' := Option.some.inj h
      subst h2
      rw [hg] at hg'
      injection hg' with h3
      injection h3 with h4 h5
      exact hne h5
theorem Inv.iter {K : Nat} {w : World} {s : ByteArray} {pos : Nat} {l : List Sg} {run : List Int} {v u : Value} {wr : World} (h : Inv K w s pos l run v u wr) (pos' : Nat) : Inv K w s pos' l run v u (wr.iterAt K s pos') := by
  obtain ⟨h1, h2, h3, h4, h5⟩ := h
  exact ⟨Lib.iterAt_heap wr K s pos pos' h1, ownsRow_iterAt h2 (by omega) s pos', ownsRow_iterAt h3 (by omega) s pos', Lib.below_iterAt h4 (Nat.le_refl _) s pos', by rw [Lib.iterAt_size]; exact h5⟩
theorem iter_kept {K : Nat} {s : ByteArray} {pos : Nat} {wr w1 : World} {B : Nat} {e : TypeId} {size : Nat} {v : Value} {n : Nat} {xs : List Value}
    (h1 : wr.heap[K]? = some (.stringIter s pos)) (hv : wr.ownsRow B e size v n xs) (hB : K < B) (hg : wr.grownBy w1 v.ownBlock) : w1.heap[K]? = some (.stringIter s pos) := by
  rw [hg.block K (Array.getElem?_eq_some_iff.1 h1).1 (by
    intro h
    have := (hv.lt K h.symm).1
    omega)]
  exact h1
theorem below_kept {K : Nat} {w wr w1 : World} {B : Nat} {e : TypeId} {size : Nat} {v : Value} {n : Nat} {xs : List Value}
    (h4 : Below K w wr) (h5 : K + 1 ≤ wr.heap.size) (hv : wr.ownsRow B e size v n xs) (hB : K < B) (hg : wr.grownBy w1 v.ownBlock) : Below K w w1 :=
  h4.grown hg (by omega) (fun k hk => by have := (hv.lt k hk).1; omega)
theorem Inv.alloc {K : Nat} {w : World} {s : ByteArray} {pos : Nat} {l : List Sg} {run : List Int} {v u : Value} {wr : World} (h : Inv K w s pos l run v u wr) (o : Obj) : Inv K w s pos l run v u (wr.alloc o) := by
  obtain ⟨h1, h2, h3, h4, h5⟩ := h
  exact ⟨(heap_alloc_old wr o (by omega)).trans h1, h2.alloc o, h3.alloc o, h4.alloc (by omega) o, by simp; omega⟩
/-- The list has grown. -/
theorem Inv.list {K : Nat} {w : World} {s : ByteArray} {pos : Nat} {l l' : List Sg} {run : List Int} {v v' u : Value} {wr w1 : World} (h : Inv K w s pos l run v u wr)
    (hv' : w1.ownsRow (K + 1) 100 2 v' l'.length (sgCells l')) (hg : wr.grownBy w1 v.ownBlock) : Inv K w s pos l' run v' u w1 := by
  obtain ⟨h1, h2, h3, h4, h5⟩ := h
  exact ⟨iter_kept h1 h2 (by omega) hg, hv', h3.kept hg (own_ne h3 h2 (by decide)), below_kept h4 h5 h2 (by omega) hg, by have := hg.size; omega⟩
/-- The run has grown. -/
theorem Inv.run {K : Nat} {w : World} {s : ByteArray} {pos : Nat} {l : List Sg} {run run' : List Int} {v u u' : Value} {wr w1 : World} (h : Inv K w s pos l run v u wr)
    (hu' : w1.ownsRow (K + 1) 21 1 u' run'.length (runCells run')) (hg : wr.grownBy w1 u.ownBlock) : Inv K w s pos l run' v u' w1 := by
  obtain ⟨h1, h2, h3, h4, h5⟩ := h
  exact ⟨iter_kept h1 h3 (by omega) hg, h2.kept hg (own_ne h2 h3 (by decide)), hu', below_kept h4 h5 h3 (by omega) hg, by have := hg.size; omega⟩
theorem Inv.clear {K : Nat} {w : World} {s : ByteArray} {pos : Nat} {l : List Sg} {run : List Int} {v : Value} {g n cap : Nat} {wr : World} (h : Inv K w s pos l run v (.slice (some ⟨g, 0, none⟩) n cap) wr) : Inv K w s pos l [] v (.slice (some ⟨g, 0, none⟩) 0 cap) wr := by
  obtain ⟨h1, h2, h3, h4, h5⟩ := h
  refine ⟨h1, h2, ?_, h4, h5⟩
  rcases h3.2 with ⟨h, _⟩ | ⟨g', cap', cur, hv, hg, hh, hn, hcap, hsz, htake⟩
  · cases h
  · cases hv
    exact ⟨rfl, .inr ⟨g, cap, cur, rfl, hg, hh, by simp, hcap, hsz, by simp [runCells]⟩⟩
theorem Inv.clear_nil {K : Nat} {w : World} {s : ByteArray} {pos : Nat} {l : List Sg} {run : List Int} {v : Value} {wr : World} (h : Inv K w s pos l run v (.slice none 0 0) wr) : Inv K w s pos l [] v (.slice none 0 0) wr := by
  obtain ⟨h1, h2, h3, h4, h5⟩ := h
  exact ⟨h1, h2, ⟨rfl, .inl ⟨rfl, rfl⟩⟩, h4, h5⟩
theorem cutGo_join (l : List Sg) (run : List Int) (p : Nat) (r : Int) (rs : List Int) (h : joinB r = true) : cutGo l run p (r :: rs) = cutGo l (run ++ [r]) (p + 1) rs := by simp [cutGo, h]
theorem cutGo_mark (l : List Sg) (run : List Int) (p : Nat) (r : Int) (rs : List Int) (h : joinB r = false) (h2 : markB r = true) : cutGo l run p (r :: rs) = cutGo (endR l run (p + 1 : Nat) ++ [(Utf8.encode r, ((p + 1 : Nat) : Int))]) [] (p + 1) rs := by simp [cutGo, h, h2]
theorem cutGo_skip (l : List Sg) (run : List Int) (p : Nat) (r : Int) (rs : List Int) (h : joinB r = false) (h2 : markB r = false) : cutGo l run p (r :: rs) = cutGo (endR l run (p + 1 : Nat)) [] (p + 1) rs := by simp [cutGo, h, h2]
theorem endR_len (l : List Sg) (run : List Int) (e : Int) : (endR l run e).length ≤ l.length + 1 := by unfold endR; split <;> simp
theorem cell_one_at (w : World) (x : Value) (t : TypeId) : ∀ j u, [x][j]? = some u → (w.alloc (.cells #[x] t)).cell? ((⟨w.heap.size, 0, none⟩ : Addr).add j) = some u := by
  intro j u hj
  match j, hj with
  | 0, hj => simp at hj; subst hj; simp [Addr.add]
  | j + 1, hj => simp at hj
theorem Inv.shape {K : Nat} {w : World} {s : ByteArray} {pos : Nat} {l : List Sg} {run : List Int} {v u : Value} {wr : World} (h : Inv K w s pos l run v u wr) : (u = .slice none 0 0 ∧ run.length = 0) ∨ ∃ g cap, u = .slice (some ⟨g, 0, none⟩) run.length cap := by
  rcases h.2.2.1.2 with h | ⟨g, cap, cur, h, _⟩
  · exact .inl h
  · exact .inr ⟨g, cap, h⟩
set_option maxHeartbeats 4000000 in
set_option maxRecDepth 100000 in
theorem cut_any (s : ByteArray) (w : World) (hs : s.size ≤ 2147483648) :
    Calls Try.prog 63 #[.string s] w fun e w' => ∃ v, e = .returned v ∧ w'.ownsRow (w.heap.size + 1) 100 2 v (cutGo [] [] 0 (runesOf s)).length (sgCells (cutGo [] [] 0 (runesOf s))) ∧ Below w.heap.size w w' := by
  obtain ⟨i0, hi, hz0, hz1, hz2⟩ := info_parts Try.info100
  obtain ⟨i1, gi, gz0, gz1, gz2⟩ := info_parts Try.info21
  go_enter Try.func63, Try.ntmps63
  go_wp2
  go_loopw [3, 4, 5] (fun v u n wr => ∃ (pos p : Nat) (l : List Sg) (run : List Int), Inv w.heap.size w s pos l run v u wr ∧ n = .int .i64 p ∧ p + (rest s pos).length ≤ s.size ∧ run.length ≤ p ∧ l.length ≤ 2 * p ∧ cutGo l run p (rest s pos) = cutGo [] [] 0 (runesOf s)) (fun _ _ _ w' => s.size - w'.iterPos w.heap.size)
  case atStart =>
    refine ⟨0, 0, [], [], ⟨?_, World.ownsRow_nil _ _ _ _, World.ownsRow_nil _ _ _ _, below_iter _ _ _, ?_⟩, rfl, by have := rest_length s 0; omega, by simp, by simp, rfl⟩
    · exact World.iter_heap w s 0
    · simp [World.iter]
  case round =>
    obtain ⟨pos, p, l, run, hinv, rfl, hps, hrl, hll, hc⟩ := hrel
    by_cases hp : pos < s.size
    · have hwd := width_pos s pos hp
      have hst := rest_step s pos hp
      rw [hst] at hps hc
      simp only [List.length_cons] at hps
      have HC : Hid (cutGo l run p (((Utf8.decode s pos).1 : Int) :: rest s (pos + (Utf8.decode s pos).2)) = cutGo [] [] 0 (runesOf s)) := hc
      have HS : Hid (p + ((rest s (pos + (Utf8.decode s pos).2)).length + 1) ≤ s.size) := hps
      have hp1 : p + 1 ≤ s.size := by omega
      obtain ⟨wr2, hw2⟩ : ∃ x, x = wr.iterAt w.heap.size s (pos + (Utf8.decode s pos).2) := ⟨_, rfl⟩
      have hnx : ∀ ty, (Instr.next (.pointer (some ⟨w.heap.size, 0, none⟩)) true ty).run Try.prog wr = .ok (.tuple #[.bool true, .int .i64 pos, .int .i32 (Utf8.decode s pos).1]) wr2 := fun ty => by rw [hw2]; exact Lib.run_next_any_at wr w.heap.size s pos ty hinv.1 hp
      have hinv2 := hinv.iter (pos + (Utf8.decode s pos).2)
      rw [← hw2] at hinv2
      have hpos : Hid (wr.iterPos w.heap.size = pos) := iterPos_of hinv.1
      clear hc hst hps hw2 hinv
      generalize hr : ((Utf8.decode s pos).1 : Int) = r at *
      generalize hwi : (Utf8.decode s pos).2 = wi at *
      clear hr hwi
      cases h1 : joinB r
      · have hel := endR_len l run ((p : Int) + 1)
        have hq := hinv2.shape
        cases h2 : markB r
        · rcases hq with ⟨rfl, _⟩ | ⟨g, cap, rfl⟩
          · go_wp2_with (first
            | (go_at_call 84; refine calls_same (joins_any _ _) ?_)
            | (go_at_call 83; refine calls_same (mark_any _ _) ?_)
            | (go_at_call 85; refine (endRun_any (w.heap.size + 1) l run ((p : Int) + 1) _ _ _ hinv2.2.1 hinv2.2.2.1 hinv2.2.2.2.2 (by omega) (by omega) (by omega) (by omega)).mono ?_; rintro e w1 ⟨v', rfl, hv', hg⟩; have hinv3 := hinv2.list hv' hg))
            have hinv4 := hinv3.clear_nil
            go_roundw
            case rel => exact ⟨pos + wi, p + 1, endR l run ((p : Int) + 1), [], hinv4, by go_num, by have := HS.out; omega, by simp, by omega, by rw [← HC.out, cutGo_skip _ _ _ _ _ h1 h2]; rfl⟩
            case measure => have := iterPos_of hinv4.1; have := hpos.out; omega
          · go_wp2_with (first
            | (go_at_call 84; refine calls_same (joins_any _ _) ?_)
            | (go_at_call 83; refine calls_same (mark_any _ _) ?_)
            | (go_at_call 85; refine (endRun_any (w.heap.size + 1) l run ((p : Int) + 1) _ _ _ hinv2.2.1 hinv2.2.2.1 hinv2.2.2.2.2 (by omega) (by omega) (by omega) (by omega)).mono ?_; rintro e w1 ⟨v', rfl, hv', hg⟩; have hinv3 := hinv2.list hv' hg))
            have hinv4 := hinv3.clear
            go_roundw
            case rel => exact ⟨pos + wi, p + 1, endR l run ((p : Int) + 1), [], hinv4, by go_num, by have := HS.out; omega, by simp, by omega, by rw [← HC.out, cutGo_skip _ _ _ _ _ h1 h2]; rfl⟩
            case measure => have := iterPos_of hinv4.1; have := hpos.out; omega
        · rcases hq with ⟨rfl, _⟩ | ⟨g, cap, rfl⟩
          · go_wp2_with (first
            | (go_at_call 84; refine calls_same (joins_any _ _) ?_)
            | (go_at_call 83; refine calls_same (mark_any _ _) ?_)
            | (go_at_call 85; refine (endRun_any (w.heap.size + 1) l run ((p : Int) + 1) _ _ _ hinv2.2.1 hinv2.2.2.1 hinv2.2.2.2.2 (by omega) (by omega) (by omega) (by omega)).mono ?_; rintro e w1 ⟨v', rfl, hv', hg⟩; have hinv3 := hinv2.list hv' hg)
            | (at_builtin; refine wpList_append_own _ rfl _ _ 52 rfl (w.heap.size + 1) 100 i0 (.agg #[.string ByteArray.empty, .int .i64 0]) 2 24 Try.underlying52 hi hz0 hz1 hz2 rfl (by decide) _ _ _ rfl (hinv3.2.1.alloc _) ⟨w1.heap.size, 0, none⟩ 1 1 [.string (Utf8.encode r), .int .i64 ((p : Int) + 1)] rfl rfl (cell_two_new w1 _ _ _) (by intro u hu; simp at hu; rcases hu with rfl | rfl <;> rfl) (by unfold maxLen; omega) (by omega) (by have := hinv3.2.2.2.2; simp; omega) ?_; intro v2 w2 hown' hgrow _))
            have hown2 : w2.ownsRow (w.heap.size + 1) 100 2 v2 (endR l run ((p : Int) + 1) ++ [(Utf8.encode r, (p : Int) + 1)]).length (sgCells (endR l run ((p : Int) + 1) ++ [(Utf8.encode r, (p : Int) + 1)])) := by rw [sgCells_append]; simpa [sgCells] using hown'
            have hinv4 := (hinv3.clear_nil.alloc _).list hown2 hgrow
            go_roundw
            case rel => exact ⟨pos + wi, p + 1, _, [], hinv4, by go_num, by have := HS.out; omega, by simp, by simp; omega, by rw [← HC.out, cutGo_mark _ _ _ _ _ h1 h2]; rfl⟩
            case measure => have := iterPos_of hinv4.1; have := hpos.out; omega
          · go_wp2_with (first
            | (go_at_call 84; refine calls_same (joins_any _ _) ?_)
            | (go_at_call 83; refine calls_same (mark_any _ _) ?_)
            | (go_at_call 85; refine (endRun_any (w.heap.size + 1) l run ((p : Int) + 1) _ _ _ hinv2.2.1 hinv2.2.2.1 hinv2.2.2.2.2 (by omega) (by omega) (by omega) (by omega)).mono ?_; rintro e w1 ⟨v', rfl, hv', hg⟩; have hinv3 := hinv2.list hv' hg)
            | (at_builtin; refine wpList_append_own _ rfl _ _ 52 rfl (w.heap.size + 1) 100 i0 (.agg #[.string ByteArray.empty, .int .i64 0]) 2 24 Try.underlying52 hi hz0 hz1 hz2 rfl (by decide) _ _ _ rfl (hinv3.2.1.alloc _) ⟨w1.heap.size, 0, none⟩ 1 1 [.string (Utf8.encode r), .int .i64 ((p : Int) + 1)] rfl rfl (cell_two_new w1 _ _ _) (by intro u hu; simp at hu; rcases hu with rfl | rfl <;> rfl) (by unfold maxLen; omega) (by omega) (by have := hinv3.2.2.2.2; simp; omega) ?_; intro v2 w2 hown' hgrow _))
            have hown2 : w2.ownsRow (w.heap.size + 1) 100 2 v2 (endR l run ((p : Int) + 1) ++ [(Utf8.encode r, (p : Int) + 1)]).length (sgCells (endR l run ((p : Int) + 1) ++ [(Utf8.encode r, (p : Int) + 1)])) := by rw [sgCells_append]; simpa [sgCells] using hown'
            have hinv4 := (hinv3.clear.alloc _).list hown2 hgrow
            go_roundw
            case rel => exact ⟨pos + wi, p + 1, _, [], hinv4, by go_num, by have := HS.out; omega, by simp, by simp; omega, by rw [← HC.out, cutGo_mark _ _ _ _ _ h1 h2]; rfl⟩
            case measure => have := iterPos_of hinv4.1; have := hpos.out; omega
      · go_wp2_with (first
          | (go_at_call 84; refine calls_same (joins_any _ _) ?_)
          | (at_builtin; refine wpList_append_own _ rfl _ _ 114 rfl (w.heap.size + 1) 21 i1 (.int .i32 0) 1 4 Try.underlying114 gi gz0 gz1 gz2 rfl (by decide) _ _ _ rfl (hinv2.2.2.1.alloc _) ⟨wr2.heap.size, 0, none⟩ 1 1 [.int .i32 r] rfl rfl (cell_one_at wr2 _ _) (by intro u hu; simp at hu; subst hu; rfl) (by unfold maxLen; omega) (by omega) (by have := hinv2.2.2.2.2; simp; omega) ?_; intro u' w1 hown' hgrow _))
        have hown2 : w1.ownsRow (w.heap.size + 1) 21 1 u' (run ++ [r]).length (runCells (run ++ [r])) := by simpa [runCells] using hown'
        have hinv3 := (hinv2.alloc _).run hown2 hgrow
        go_roundw
        case rel => exact ⟨pos + wi, p + 1, l, run ++ [r], hinv3, by go_num, by have := HS.out; omega, by simp; omega, by omega, by rw [← HC.out, cutGo_join _ _ _ _ _ h1]⟩
        case measure => have := iterPos_of hinv3.1; have := hpos.out; omega
    · have hnx : ∀ ty, (Instr.next (.pointer (some ⟨w.heap.size, 0, none⟩)) true ty).run Try.prog wr = _ := fun ty => Lib.run_next_end_at wr w.heap.size s pos ty hinv.1 hp
      rw [rest_end s pos hp] at hc
      have HC : Hid (endR l run (p + 1 : Nat) = cutGo [] [] 0 (runesOf s)) := hc
      clear hc
      go_wp2_with fail
      rw [show ((p : Int) + 1) = ((p + 1 : Nat) : Int) from by omega]
      refine (endRun_any (w.heap.size + 1) l run (p + 1 : Nat) _ _ _ hinv.2.1 hinv.2.2.1 hinv.2.2.2.2 (by omega) (by omega) (by omega) (by omega)).mono ?_
      rintro e w' ⟨v', rfl, hv', hg⟩
      rw [HC.out] at hv'
      have hb := below_kept hinv.2.2.2.1 hinv.2.2.2.2 hinv.2.1 (by omega) hg
      go_wp2
      go_ret
      exact ⟨_, rfl, hv', hb⟩
/-- The signs of a text. -/
def sgOf (s : ByteArray) : List Sg := cutGo [] [] 0 (runesOf s)
def badOf (s : ByteArray) : Nat := badGo 0 (runesOf s)
set_option maxHeartbeats 1000000 in
set_option maxRecDepth 100000 in
theorem signs_bad (s : ByteArray) (w : World) (hs : s.size ≤ maxLen) (hb : badOf s ≠ 0) :
    Calls Try.prog 30 #[.string s] w fun e w' => e = .returned (.tuple #[.slice none 0 0, .int .i64 (badOf s : Nat)]) ∧ Below w.heap.size w w' := by
  have hn : (((badOf s : Nat) : Int) != 0) = true := by rw [bne_iff_ne]; omega
  go_enter Try.func30, Try.ntmps30
  go_wp2_with fail
  refine (firstBad_any s _ hs).mono ?_
  rintro e w' ⟨rfl, pos, rfl⟩
  change (((badGo 0 (runesOf s) : Nat) : Int) != 0) = true at hn
  go_wp2
  go_ret2
  exact ⟨rfl, below_iter _ _ _⟩
set_option maxHeartbeats 1000000 in
set_option maxRecDepth 100000 in
theorem signs_ok (s : ByteArray) (w : World) (hs : s.size ≤ 2147483648) (hb : badOf s = 0) :
    Calls Try.prog 30 #[.string s] w fun e w' => ∃ v, e = .returned (.tuple #[v, .int .i64 0]) ∧ w'.ownsRow w.heap.size 100 2 v (sgOf s).length (sgCells (sgOf s)) ∧ Below w.heap.size w w' := by
  go_enter Try.func30, Try.ntmps30
  go_wp2_with fail
  refine (firstBad_any s _ (by unfold maxLen; omega)).mono ?_
  rintro e w' ⟨rfl, pos, rfl⟩
  rw [show badGo 0 (runesOf s) = 0 from hb]
  have hbw := below_iter w s pos
  generalize w.iter s pos = w1 at *
  go_wp2_with fail
  refine (cut_any s _ hs).mono ?_
  rintro e w2 ⟨v, rfl, hown, hb2⟩
  have hsz := hbw.size
  go_wp2
  go_ret2
  refine ⟨_, rfl, ⟨hown.1, ?_⟩, hbw.trans (hb2.mono hsz)⟩
  rcases hown.2 with h | ⟨g, cap, cur, h1, h2, h3⟩
  · exact .inl h
  · exact .inr ⟨g, cap, cur, h1, by omega, h3⟩

end Go.Proofs.Ythhjcpmnekibnaa.Rn
namespace Go.Proofs.Ythhjcpmnekibnaa
open Go.RowKit
set_option linter.unusedVariables false

theorem below_drewN {B : Nat} {w w' : World} (h : Below B w w') (n : Nat) : Below B w (w'.drewN n) := ⟨h.os, h.tape, h.output, h.size, h.block⟩
theorem own_str {w : World} {B : Nat} {v : Value} {l : List ByteArray} (h : w.ownsRow B 9 1 v l.length (strCells l)) : ∃ ao cap, v = .slice ao l.length cap ∧ (∀ k (hk : k < l.length), ∃ g, ao = some ⟨g, 0, none⟩ ∧ g < w.heap.size ∧ w.cell? ⟨g, k, none⟩ = some (.string l[k])) ∧ l.length ≤ 9223372036854775807 := by
  rcases h.2 with ⟨rfl, h0⟩ | ⟨g, cap, cur, rfl, hb, hg, hnc, hcm, _⟩
  · exact ⟨none, 0, by rw [h0], fun k hk => by omega, by omega⟩
  · refine ⟨some ⟨g, 0, none⟩, cap, rfl, fun k hk => ⟨g, rfl, (Array.getElem?_eq_some_iff.1 hg).1, ?_⟩, by unfold maxLen at hcm; omega⟩
    rw [h.cellAt k (by omega)]
    simp [strCells, hk]

end Go.Proofs.Ythhjcpmnekibnaa
namespace Go.Proofs.Ythhjcpmnekibnaa
open Go.RowKit Go.Maps
set_option linter.unusedVariables false

def labStep (st : List ByteArray) (c : C) : List ByteArray := if c.kind = 5 then st ++ [c.text] else st
/-- The labels of a contract's Ors, in the order of a walk. -/
def C.labels : C → List ByteArray
  | .give c => c.labels
  | .and l r => l.labels ++ r.labels
  | .or s l r => s :: (l.labels ++ r.labels)
  | .scale _ c => c.labels
  | .when _ c => c.labels
  | .iff _ l r => l.labels ++ r.labels
  | _ => []
theorem labels_fold (c : C) : ∀ st, c.pre.foldl labStep st = st ++ c.labels := by
  induction c <;> intro st <;> simp_all [C.pre, labStep, C.kind, C.text, C.labels]
theorem labels_ok (c : C) (h : c.Ok) : ∀ s ∈ c.labels, s.size ≤ 2147483648 := by
  induction c with
  | give c ih => exact ih h
  | and l r h1 h2 => intro s hs; simp only [C.labels, List.mem_append] at hs; rcases hs with hs | hs; exact h1 h.1 s hs; exact h2 h.2 s hs
  | or t l r h1 h2 =>
    intro s hs
    simp only [C.labels, List.mem_cons, List.mem_append] at hs
    rcases hs with rfl | hs | hs
    · exact h.1
    · exact h1 h.2.1 s hs
    · exact h2 h.2.2 s hs
  | scale o c ih => exact ih h.2
  | when d c ih => exact ih h.2
  | iff o l r h1 h2 => intro s hs; simp only [C.labels, List.mem_append] at hs; rcases hs with hs | hs; exact h1 h.2.1 s hs; exact h2 h.2.2 s hs
  | _ => intro s hs; simp [C.labels] at hs
theorem labels_weight (c : C) : c.labels.length ≤ c.weight := by
  induction c <;> simp [C.labels, C.weight] <;> omega

/-- What is kept while labels are gathered. -/
def LabInv (V : Nat) (own : Nat → Prop) (st : List ByteArray) (w : World) : Prop :=
  ∃ v, own = (fun k => k = V ∨ v.ownBlock = some k) ∧ w.heap[V]? = some (.cells #[v] 23 (0, 0)) ∧ w.ownsRow (V + 1) 9 1 v st.length (strCells st)
theorem cell_one_in {w : World} {b : Nat} (hb : b = w.heap.size) (x : Value) (t : TypeId) : ∀ j u, [x][j]? = some u → (w.alloc (.cells #[x] t)).cell? ((⟨b, 0, none⟩ : Addr).add j) = some u := by
  subst hb
  exact cell_one_at w x t
theorem own_shape {w : World} {B e size n : Nat} {v : Value} {xs : List Value} (h : w.ownsRow B e size v n xs) : ∃ ao cap, v = .slice ao n cap := by
  rcases h.2 with ⟨rfl, h0⟩ | ⟨g, cap, cur, rfl, _⟩
  · exact ⟨none, 0, by rw [h0]⟩
  · exact ⟨_, _, rfl⟩
theorem own_slice {w : World} {B : Nat} {v : Value} {l : List ByteArray} (h : w.ownsRow B 9 1 v l.length (strCells l)) : ∃ ao cap, v = .slice ao l.length cap := by
  obtain ⟨ao, cap, e, _⟩ := own_str h
  exact ⟨ao, cap, e⟩

set_option maxHeartbeats 1000000 in
set_option maxRecDepth 100000 in
theorem labels1_any (V : Nat) : Shows 73 #[.pointer (some ⟨V, 0, none⟩)] (LabInv V) labStep List.length := by
  refine ⟨enters_of Try.func73 (by kernel_rfl) rfl, ?_, ?_, ?_, ?_⟩
  · rintro own st w w' ⟨v, h1, h2, h3⟩ hb
    exact ⟨v, h1, (hb.block V (Array.getElem?_eq_some_iff.1 h2).1).trans h2, h3.kept (grown_of_below hb none) (by cases hv : v.ownBlock <;> simp)⟩
  · rintro own st w ⟨v, h1, h2, h3⟩ b hb
    subst h1
    rcases hb with rfl | hb
    · exact (Array.getElem?_eq_some_iff.1 h2).1
    · exact (h3.lt b hb).2
  · intro st c
    unfold labStep
    split <;> simp [C.own]
  · rintro own st w c a ⟨v, rfl, h2, h3⟩ hok hn hna hsz
    obtain ⟨i0, gi, gz0, gz1, gz2⟩ := info_parts infoStr
    have HLT := hidIn (Array.getElem?_eq_some_iff.1 h2).1
    have HV := hidIn h2
    show Calls Try.prog 73 #[headT c, .slice a c.nums.length c.nums.length, .pointer (some ⟨V, 0, none⟩)] w _
    clear hn hna
    unfold headT
    by_cases hk : c.kind = 5
    · have HST : Hid (labStep st c = st ++ [c.text]) := by unfold Hid labStep; rw [if_pos hk]
      have hsl : st.length ≤ 1000000 := by omega
      obtain ⟨ao, cap, rfl⟩ := own_slice h3
      have c0 : ∀ o, (w.alloc o).cell? ⟨V, 0, none⟩ = some (.slice ao st.length cap) := fun o => (cell_of_row _ _ _ _ _ _ (heap_keeps h2 o)).trans rfl
      rw [hk]
      obtain ⟨W, hW⟩ : ∃ W, W = (w.alloc (.cells #[.int .i64 5, .string c.text, .int .i64 c.day] 140)) := ⟨_, rfl⟩
      have hVW : W.heap.size = w.heap.size + 1 := by rw [hW]; simp
      have hrow : W.ownsRow (V + 1) 9 1 (.slice ao st.length cap) st.length (strCells st) := by rw [hW]; exact h3.alloc _
      have HBW : Hid (Below w.heap.size w W) := by rw [hW]; exact below_alloc (Below.refl _ _) _
      have HVW : Hid (W.heap[V]? = some (.cells #[.slice ao st.length cap] 23 (0, 0))) := by rw [hW]; exact heap_keeps h2 _
      have HFIN : Hid (∀ v2 w2, w2.ownsRow (V + 1) 9 1 v2 (st.length + 1) (strCells st ++ [.string c.text]) → (W.alloc (.cells #[.string c.text] 9)).grownBy w2 (Value.slice ao st.length cap).ownBlock → (v2.ownBlock = (Value.slice ao st.length cap).ownBlock ∨ v2.ownBlock = some (W.alloc (.cells #[.string c.text] 9)).heap.size) → w2.heap[V]? = some (.cells #[.slice ao st.length cap] 23 (0, 0)) ∧ ∃ own', LabInv V own' (labStep st c) (w2.setCell ⟨V, 0, none⟩ v2) ∧ Dyn (fun k => k = V ∨ (Value.slice ao st.length cap).ownBlock = some k) w own' (w2.setCell ⟨V, 0, none⟩ v2)) := by
        intro v2 w2 hown2 hgrow2 hloc
        have hVne : some V ≠ (Value.slice ao st.length cap).ownBlock := fun e => by have := (hrow.lt V e.symm).1; omega
        have hs2 := hgrow2.size
        rw [World.size_alloc] at hs2
        have hVlt : V < (W.alloc (.cells #[.string c.text] 9)).heap.size := by rw [World.size_alloc]; have := HLT.out; omega
        have hV2 : w2.heap[V]? = some (.cells #[.slice ao st.length cap] 23 (0, 0)) := (hgrow2.block V hVlt hVne).trans (heap_keeps HVW.out _)
        refine ⟨hV2, fun k => k = V ∨ v2.ownBlock = some k, ⟨v2, rfl, heap_setCell_same w2 V 0 _ _ _ hV2, ?_⟩, ?_⟩
        · rw [HST.out]
          have := ownsRow_setCell_below hown2 (a := ⟨V, 0, none⟩) (by show V < V + 1; omega) v2
          simpa [strCells] using this
        · refine ⟨hgrow2.os.trans HBW.out.os, hgrow2.tape.trans HBW.out.tape, hgrow2.output.trans HBW.out.output, by rw [World.size_setCell]; omega, fun k hk hno => ?_, fun k hk => ?_⟩
          · have hkV : k ≠ V := fun e => hno (.inl e)
            have hkb : some k ≠ (Value.slice ao st.length cap).ownBlock := fun e => hno (.inr e.symm)
            rw [heap_setCell_other w2 ⟨V, 0, none⟩ k _ hkV, hgrow2.block k (by rw [World.size_alloc]; omega) hkb, Below.heap_alloc _ _ _ (by omega)]
            exact HBW.out.block k hk
          · rcases hk with hk | hk
            · exact .inl (.inl hk)
            · rcases hloc with h | h
              · rw [h] at hk; exact .inl (.inr hk)
              · rw [h] at hk
                injection hk with hk
                rw [World.size_alloc] at hk
                exact .inr (by omega)
      have hVs : V + 1 ≤ w.heap.size := HLT.out
      have HVs := hidIn hVs
      subst hW
      have HROW := hidIn hrow
      clear hVs h2 h3 hk hrow hVW HVW HBW HV
      go_enter Try.func73, Try.ntmps73
      go_wp2_with (first
        | (at_builtin; refine wpList_append_own_at _ rfl _ _ 23 rfl (V + 1) 9 i0 (.string ByteArray.empty) 1 16 Try.underlying23 gi gz0 gz1 gz2 rfl (by decide) _ _ _ rfl (HROW.out.alloc _) ⟨w.heap.size + 1, 0, none⟩ 1 1 [.string c.text] rfl rfl (cell_one_in (by simp) _ _) (by intro u hu; simp at hu; subst hu; rfl) (by unfold maxLen; omega) (by omega) (by have := HVs.out; simp; omega) ?_; intro v2 w2 hown2 hgrow2 _ hloc; have hF := hidIn (HFIN.out v2 w2 hown2 hgrow2 hloc); obtain ⟨ao2, cap2, rfl⟩ := own_shape hown2; have k0 := cell_of_row _ _ 0 _ _ _ hF.out.1; have k1 := frozen_of_row _ _ 0 _ _ hF.out.1; clear hown2 hgrow2 hloc HFIN HROW c0)
        | go_in)
      go_end0
      exact ⟨rfl, hF.out.2⟩
    · have HST : Hid (labStep st c = st) := by unfold Hid labStep; rw [if_neg hk]
      have hk' : (c.kind == 5) = false := by simpa using hk
      have HIN : Hid (LabInv V (fun k => k = V ∨ v.ownBlock = some k) st w) := ⟨v, rfl, h2, h3⟩
      clear h2 h3
      go_enter Try.func73, Try.ntmps73
      go_wp2_with fail
      go_end0
      have hb : Below w.heap.size w (w.alloc (.cells #[.int .i64 c.kind, .string c.text, .int .i64 c.day] 140)) := below_alloc (Below.refl _ _) _
      obtain ⟨v, h1, h2, h3⟩ := HIN.out
      refine ⟨rfl, _, ?_, Dyn.of_below hb⟩
      rw [HST.out]
      exact ⟨v, h1, heap_keeps h2 _, h3.alloc _⟩

end Go.Proofs.Ythhjcpmnekibnaa
namespace Go.Proofs.Ythhjcpmnekibnaa
open Go.RowKit Go.Maps
set_option linter.unusedVariables false

theorem ownsRow_base {w : World} {B B' e size n : Nat} {v : Value} {xs : List Value} (h : w.ownsRow B e size v n xs) (hB : B' ≤ B) : w.ownsRow B' e size v n xs := by
  refine ⟨h.1, ?_⟩
  rcases h.2 with h | ⟨g, cap, cur, h1, h2, h3⟩
  · exact .inl h
  · exact .inr ⟨g, cap, cur, h1, by omega, h3⟩

set_option maxHeartbeats 1000000 in
set_option maxRecDepth 100000 in
theorem labelsT_any (c : C) (hok : c.Ok) (hsz : c.weight ≤ 1000000) (w : World) : Calls Try.prog 43 #[c.val] w fun e w' => ∃ v, e = .returned v ∧ w'.ownsRow w.heap.size 9 1 v c.labels.length (strCells c.labels) ∧ Below w.heap.size w w' := by
  have hmf : ∀ (fn : Fn) (first cap : Array Value) (w : World), (Instr.makeFunc fn first cap).run Try.prog w = .ok (.func fn first cap) w := fun _ _ _ _ => rfl
  go_enter Try.func43, Try.ntmps43
  go_wp2_with fail
  refine (walk_any (labels1_any w.heap.size) c hok (fun k => k = w.heap.size ∨ (Value.slice none 0 0).ownBlock = some k) [] _ ⟨.slice none 0 0, rfl, heap_alloc_new _ _, World.ownsRow_nil _ _ _ _⟩ (by simpa using hsz)).mono ?_
  rintro e w1 ⟨rfl, own1, ⟨v, rfl, hv, hrow⟩, hd⟩
  rw [labels_fold, List.nil_append] at hrow
  have hc : w1.cell? ⟨w.heap.size, 0, none⟩ = some v := (cell_of_row _ _ _ _ _ _ hv).trans rfl
  have HROW := hidIn hrow
  obtain ⟨ao, cap, rfl⟩ := own_shape hrow
  clear hrow hv
  go_wp2_with fail
  go_ret
  have hb : Below w.heap.size w (w.alloc (.cells #[.slice none 0 0] 23)) := below_alloc (Below.refl _ _) _
  refine ⟨_, rfl, ownsRow_base HROW.out (by omega), hb.trans (hd.below (by simp) (fun k hk => ?_))⟩
  rcases hk with rfl | hk
  · exact Nat.le_refl _
  · cases hk

/-- What is known of a list of texts in memory. -/
def HasTxt (w : World) (a : Option Addr) (l : List ByteArray) : Prop := ∀ (i : Nat) (s : ByteArray), l[i]? = some s → ∃ g, a = some ⟨g, 0, none⟩ ∧ w.cell? ⟨g, i, none⟩ = some (.string s)
theorem HasTxt.below {w w' : World} {a : Option Addr} {l : List ByteArray} (h : HasTxt w a l) (hb : Below w.heap.size w w') : HasTxt w' a l := by
  intro i o hi
  obtain ⟨b, e, hc⟩ := h i o hi
  exact ⟨b, e, (hb.cell (World.block_lt_of_cell? w _ hc)).trans hc⟩
theorem own_txt {w : World} {B : Nat} {v : Value} {l : List ByteArray} (h : w.ownsRow B 9 1 v l.length (strCells l)) : ∃ ao cap, v = .slice ao l.length cap ∧ HasTxt w ao l ∧ l.length ≤ 9223372036854775807 ∧ (∀ g, ao = some ⟨g, 0, none⟩ → v.ownBlock = some g) := by
  have h' := own_str h
  obtain ⟨ao, cap, rfl, hc, hl⟩ := h'
  refine ⟨ao, cap, rfl, fun i s hi => ?_, hl, fun g e => by subst e; rfl⟩
  obtain ⟨hlt, rfl⟩ := List.getElem?_eq_some_iff.1 hi
  obtain ⟨g, e, _, hcc⟩ := hc i hlt
  exact ⟨g, e, hcc⟩
theorem HasTxt.grew {w w' : World} {a : Option Addr} {l : List ByteArray} {M : Nat} {row : Option Nat} (h : HasTxt w a l) (hg : Grew M row w w') (hM : ∀ b, a = some ⟨b, 0, none⟩ → b ≠ M ∧ row ≠ some b) : HasTxt w' a l := by
  intro i o hi
  obtain ⟨b, e, hc⟩ := h i o hi
  obtain ⟨h1, h2⟩ := hM b e
  refine ⟨b, e, ?_⟩
  have hb := hg.block b (World.block_lt_of_cell? w _ hc) h1 h2
  simp only [World.cell?, hb] at hc ⊢
  exact hc
theorem addAll_snoc (acc l : List ByteArray) (s : ByteArray) : addAll acc (l ++ [s]) = addN (addAll acc l) s := by simp [addAll]

set_option maxHeartbeats 2000000 in
set_option maxRecDepth 100000 in
theorem addNew_any (more : List ByteArray) (hok : ∀ s ∈ more, s.size ≤ 2147483648) (M : Nat) (v : Value) (acc : List ByteArray) (w : World) (h : NIn w M v acc) (hl : acc.length + more.length ≤ 1000000) (ao : Option Addr) (cap : Nat) (hm : HasTxt w ao more) (hne : ∀ g, ao = some ⟨g, 0, none⟩ → g ≠ M ∧ v.ownBlock ≠ some g) :
    Calls Try.prog 72 #[v, .map (some M), .slice ao more.length cap] w (NPost w M v (addAll acc more)) := by
  obtain ⟨i0, gi, gz0, gz1, gz2⟩ := info_parts infoStr
  have HIN : Hid (NIn w M v acc) := h
  have HM := hidIn hm
  have HNE := hidIn hne
  have HOK := hidIn hok
  have hml : more.length ≤ 1000000 := by omega
  have HL := hidIn hl
  clear h hm hne hok hl
  go_enter Try.func72, Try.ntmps72
  go_wp2_with fail
  go_loopw [13, 0] (fun s13 s0 wr => ∃ i : Nat, i ≤ more.length ∧ s13 = .int .i64 i ∧ NIn wr M s0 (addAll acc (more.take i)) ∧ Grew M v.ownBlock w wr ∧ (s0.ownBlock = v.ownBlock ∨ ∀ k, s0.ownBlock = some k → w.heap.size ≤ k)) (fun s13 _ _ => more.length - (intOf s13).toNat)
  case atStart => exact ⟨0, by omega, rfl, HIN.out, Grew.refl _ _ _, .inl rfl⟩
  case round =>
    obtain ⟨i, hi, rfl, hinr, hgr, hlocr⟩ := hrel
    have HGR : Hid (Grew M v.ownBlock w wr) := hgr
    have HLOC := hidIn hlocr
    have HINR := hidIn hinr
    clear hgr hlocr
    by_cases hlt : i < more.length
    · have hlt' : (i : Int) < (more.length : Int) := by omega
      obtain ⟨s, hsi⟩ : ∃ s, more[i]? = some s := ⟨_, List.getElem?_eq_getElem hlt⟩
      have hs := HOK.out s (List.mem_of_getElem? hsi)
      have hkey : keyOf Try.prog 9 (.string s) = some (.string s.data.toList) := Go.WideMaps.keyOf_string_mk Try.underlying9 (by unfold maxLen; omega)
      obtain ⟨g, rfl, hc⟩ := (HM.out.grew HGR.out HNE.out) i s hsi
      have ht := take_more _ _ _ hsi
      have HT : Hid (addAll acc (more.take (i + 1)) = addN (addAll acc (more.take i)) s) := by unfold Hid; rw [ht, addAll_snoc]
      have hal : (addAll acc (more.take i)).length ≤ 1000000 := by
        have h1 := addAll_length (more.take i) acc
        have h3 : (more.take i).length ≤ more.length := by rw [List.length_take]; omega
        have := HL.out
        omega
      clear hsi ht
      generalize addAll acc (more.take i) = ac at *
      obtain ⟨hrow, hmap, hsz⟩ := hinr
      by_cases hm : inN ac s = true
      · have hhas : Maps.has (setN ac) (.string s.data.toList) = true := by rw [has_setN]; simpa using hm
        have HA : Hid (addN ac s = ac) := by unfold Hid addN; rw [if_pos hm]
        clear hm
        go_wp2_with (at_lookup; refine wpList_lookup_own_unit _ rfl _ _ 147 rfl 9 68 lawS Try.underlying147 (zeroUnit _) M ac.length _ rfl hmap _ _ rfl hkey ?_)
        go_roundw
        case rel =>
          refine ⟨i + 1, by omega, by go_num, ?_, HGR.out.trans (Grew.of_below (below_alloc (Below.refl _ _) _)) (.inl rfl), HLOC.out⟩
          rw [HT.out, HA.out]
          exact HINR.out.below (below_alloc (Below.refl _ _) _)
        case measure => simp [intOf]; omega
      · have hhas : Maps.has (setN ac) (.string s.data.toList) = false := by rw [has_setN]; simpa using hm
        have HA : Hid (addN ac s = ac ++ [s]) := by unfold Hid addN; rw [if_neg hm]
        have HNEB : Hid (u0.ownBlock = none ∨ u0.ownBlock ≠ some M) := .inr (fun e => by have := hrow.lt M e; omega)
        clear hm
        go_wp2_with (first
          | (at_lookup; refine wpList_lookup_own_unit _ rfl _ _ 147 rfl 9 68 lawS Try.underlying147 (zeroUnit _) M ac.length _ rfl hmap _ _ rfl hkey ?_)
          | (at_mapUpdate; refine wpList_mapUpdate_own _ rfl _ _ _ 147 rfl 9 68 lawS Try.underlying147 (unitElem (H := Unit)) M ac.length _ rfl (hmap.alloc _) (by unfold maxLen; omega) _ _ _ rfl rfl hkey _ [] unitElem_mk ?_; intro w1 hmap1 hgrow1)
          | (at_builtin; refine wpList_append_own_at _ rfl _ _ 23 rfl (M + 1) 9 i0 (.string ByteArray.empty) 1 16 Try.underlying23 gi gz0 gz1 gz2 rfl (by decide) _ _ _ rfl (((hrow.alloc _).kept hgrow1 HNEB.out).alloc _) ⟨w1.heap.size, 0, none⟩ 1 1 [.string s] rfl rfl (cell_one_at w1 _ _) (by intro u hu; simp at hu; subst hu; rfl) (by unfold maxLen; omega) (by omega) (by have := hgrow1.size; simp at this ⊢; omega) ?_; intro v2 w2 hown2 hgrow2 _ hloc)
          | go_in)
        have s1 := hgrow1.size
        have s2 := hgrow2.size
        simp at s1 s2
        have HR : Hid (NIn w2 M v2 (ac ++ [s]) ∧ Grew M v.ownBlock w w2 ∧ (v2.ownBlock = v.ownBlock ∨ ∀ k, v2.ownBlock = some k → w.heap.size ≤ k)) := by
          have g0 : Grew M u0.ownBlock wr w2 := by
            have a1 : Grew M u0.ownBlock wr (wr.alloc (.cells #[] 68)) := Grew.of_below (below_alloc (Below.refl _ _) _)
            have a2 : Grew M u0.ownBlock (wr.alloc (.cells #[] 68)) w1 := Grew.of_map hgrow1
            have a3 : Grew M u0.ownBlock w1 (w1.alloc (.cells #[.string s] 9)) := Grew.of_below (below_alloc (Below.refl _ _) _)
            exact ((a1.trans a2 (.inl rfl)).trans a3 (.inl rfl)).trans (Grew.of_grown hgrow2) (.inl rfl)
          refine ⟨⟨?_, ?_, by omega⟩, HGR.out.trans g0 HLOC.out, ?_⟩
          · simpa [strCells] using hown2
          · rw [setN_snoc]
            have := (hmap1.alloc (.cells #[.string s] 9)).kept hgrow2 (fun e => by have := hrow.lt M e.symm; omega)
            simpa using this
          · rcases hloc with h | h
            · rw [h]; exact HLOC.out
            · refine .inr (fun k hk => ?_)
              rw [h] at hk
              injection hk with hk
              simp at hk
              have := HGR.out.size
              omega
        clear hown2 hgrow2 hloc hmap1 hgrow1 hmap hrow
        go_wp2_with fail
        go_roundw
        case rel => exact ⟨i + 1, by omega, by go_num, by rw [HT.out, HA.out]; exact HR.out.1, HR.out.2.1, HR.out.2.2⟩
        case measure => simp [intOf]; omega
    · have hle : i = more.length := by omega
      subst hle
      have HE : Hid (NIn wr M u0 (addAll acc more)) := by have h := HINR.out; rw [List.take_length] at h; exact h
      clear HINR hinr
      go_wp2_with fail
      go_ret
      exact ⟨_, rfl, HE.out, HGR.out, HLOC.out⟩

/-- Whether one is there twice. -/
def twice (l : List ByteArray) : Bool := decide ((addAll [] l).length < l.length)

set_option maxHeartbeats 1000000 in
set_option maxRecDepth 100000 in
theorem anyTwice_any (l : List ByteArray) (hok : ∀ s ∈ l, s.size ≤ 2147483648) (hl : l.length ≤ 1000000) (ao : Option Addr) (cap : Nat) (w : World) (hm : HasTxt w ao l) (hao : ∀ g, ao = some ⟨g, 0, none⟩ → g < w.heap.size) :
    Calls Try.prog 42 #[.slice ao l.length cap] w fun e w' => e = .returned (.bool (twice l)) ∧ Below w.heap.size w w' := by
  have hmm := @run_makeMap Try.prog
  have hal := addAll_length l []
  simp only [List.length_nil, Nat.zero_add] at hal
  have HM := hidIn hm
  have HAO := hidIn hao
  have HOK := hidIn hok
  clear hm hao hok
  have HC := hidIn (addNew_any l HOK.out w.heap.size (.slice none 0 0) [] (w.alloc (.map #[] 0)) ⟨World.ownsRow_nil _ _ _ _, World.ownsMap_made _ _ _ _, by simp⟩ (by simpa using hl) ao cap (HM.out.below (below_alloc (Below.refl _ _) _)) (fun g e => ⟨by have := HAO.out g e; omega, by simp [Value.ownBlock]⟩))
  go_enter Try.func42, Try.ntmps42
  go_wp2_with fail
  refine HC.out.mono ?_
  rintro e w2 ⟨v2, rfl, hin2, hg2, hloc2⟩
  have hb2 : Below w.heap.size w w2 := by
    have h1 : Below w.heap.size w (w.alloc (.map #[] 0)) := below_alloc (Below.refl _ _) _
    exact h1.trans (hg2.below (by simp) (Nat.le_refl _) (fun k hk => by cases hk))
  obtain ⟨ao2, cap2, rfl⟩ := own_shape hin2.1
  have HB2 := hidIn hb2
  by_cases hlt : (addAll [] l).length < l.length
  · have HT : Hid (twice l = true) := decide_eq_true hlt
    have hlt' : ((addAll [] l).length : Int) < (l.length : Int) := by omega
    clear hin2 hg2 hloc2 HC hb2
    generalize addAll [] l = X at *
    go_wp2_with fail
    go_ret
    exact ⟨by rw [HT.out]; rfl, HB2.out⟩
  · have HT : Hid (twice l = false) := decide_eq_false hlt
    have hlt' : ¬ ((addAll [] l).length : Int) < (l.length : Int) := by omega
    clear hin2 hg2 hloc2 HC hb2
    generalize addAll [] l = X at *
    go_wp2_with fail
    go_ret
    exact ⟨by rw [HT.out]; rfl, HB2.out⟩

/-- What Check answers. -/
def chkC (c : C) : Int := if formC c = true then (if 60 < c.nodes ∨ 12 < c.depth then 5 else if twice c.labels = true then 4 else 0) else 2
theorem weight_nodes (c : C) : c.nodes ≤ c.weight := by
  induction c <;> simp [C.nodes, C.weight] <;> omega

set_option maxHeartbeats 1000000 in
set_option maxRecDepth 100000 in
theorem checkT_any (c : C) (hok : c.Ok) (hsz : c.weight ≤ 1000000) (w : World) : Calls Try.prog 19 #[c.val] w fun e w' => e = .returned (.int .i64 (chkC c)) ∧ Below w.heap.size w w' := by
  have hwn := weight_nodes c
  have HOK := hidIn hok
  have HSZ := hidIn hsz
  have HLO := hidIn (labels_ok c hok)
  have hlw := labels_weight c
  go_enter Try.func19, Try.ntmps19
  go_wp2_with fail
  refine (formedT_any c hok hsz w).mono ?_
  rintro e w1 ⟨rfl, hb1⟩
  have hd := cdepth_nodes c
  cases hf : formC c
  · go_wp2_with fail
    go_ret
    exact ⟨by unfold chkC; rw [if_neg (by rw [hf]; simp)]; rfl, hb1⟩
  · go_wp2_with fail
    refine (sizeT_any c hok (by omega) w1).mono ?_
    rintro e w2 ⟨rfl, hb2⟩
    have HC : Hid (chkC c = if 60 < c.nodes ∨ 12 < c.depth then 5 else if twice c.labels = true then 4 else 0) := by unfold Hid chkC; rw [if_pos hf]
    have HB2 := hidIn (hb1.trans (hb2.mono hb1.size))
    clear hb1 hb2
    by_cases h1 : 60 < c.nodes
    · have h1' : (60 : Int) < (c.nodes : Int) := by omega
      go_wp2_with fail
      go_ret
      exact ⟨by rw [HC.out, if_pos (.inl h1)]; rfl, HB2.out⟩
    · have h1' : ¬ (60 : Int) < (c.nodes : Int) := by omega
      have h1d : decide ((60 : Int) < (c.nodes : Int)) = false := by simpa using h1'
      by_cases h2 : 12 < c.depth
      · have h2' : (12 : Int) < (c.depth : Int) := by omega
        go_wp2_with fail
        go_ret
        exact ⟨by rw [HC.out, if_pos (.inr h2)]; rfl, HB2.out⟩
      · have h2' : ¬ (12 : Int) < (c.depth : Int) := by omega
        have HC2 : Hid (chkC c = if twice c.labels = true then 4 else 0) := by unfold Hid; rw [HC.out, if_neg (by omega)]
        go_wp2_with fail
        refine (labelsT_any c HOK.out HSZ.out w2).mono ?_
        rintro e w3 ⟨v3, rfl, hrow3, hb3⟩
        have hlt3 := hrow3.lt
        obtain ⟨ao, cap, rfl, htx, _, hob⟩ := own_txt hrow3
        have HTX := hidIn htx
        have HAO : Hid (∀ g, ao = some ⟨g, 0, none⟩ → g < w3.heap.size) := fun g e => (hlt3 g (hob g e)).2
        have HB3 := hidIn (HB2.out.trans (hb3.mono HB2.out.size))
        clear hrow3 hlt3 htx hob hb3
        go_wp2_with fail
        refine (anyTwice_any c.labels HLO.out (by omega) ao cap w3 HTX.out HAO.out).mono ?_
        rintro e w4 ⟨rfl, hb4⟩
        have HB4 := hidIn (HB3.out.trans (hb4.mono HB3.out.size))
        clear hb4
        cases ht : twice c.labels
        · go_wp2_with fail
          go_ret
          exact ⟨by rw [HC2.out, ht]; rfl, HB4.out⟩
        · go_wp2_with fail
          go_ret
          exact ⟨by rw [HC2.out, ht]; rfl, HB4.out⟩

theorem chkC_nil : chkC (.odd .nilIface) = 2 := rfl
end Go.Proofs.Ythhjcpmnekibnaa
namespace Go.Proofs.Ythhjcpmnekibnaa
open Go.RowKit
set_option linter.unusedVariables false

/-- A reader: the signs that are left, the place behind the last, the first fault's place and kind. -/
structure RS where
  left : List Rn.Sg
  past : Int
  pl : Int
  e : Int
/-- No sign. -/
def noS (r : RS) : Rn.Sg := (⟨#[]⟩, r.past)
def takeS (r : RS) : Rn.Sg := if r.e = 0 then r.left.headD (noS r) else noS r
def takeR (r : RS) : RS := if r.e = 0 then { r with left := r.left.tail } else r
def refuseR (r : RS) (p e : Int) : RS := if r.e = 0 then { r with pl := p, e := e } else r
def fitR (r : RS) (s : Rn.Sg) (ok : Bool) : RS := if ok = true then r else refuseR r s.2 2
def markR (r : RS) (t : ByteArray) : RS := fitR (takeR r) (takeS r) (decide ((takeS r).1 = t))
def nameR (r : RS) : RS := fitR (takeR r) (takeS r) (nameGo 0 (runesOf (takeS r).1))
def dayV (r : RS) : Int := (Rn.numOf (takeS r).1.data.toList).1
def dayOkR (r : RS) : Bool := (Rn.numOf (takeS r).1.data.toList).2 && (decide (0 ≤ dayV r) && decide (dayV r ≤ 10000))
def dayR (r : RS) : RS := fitR (takeR r) (takeS r) (dayOkR r)
def firstR (r : RS) (d : Nat) : RS := if 12 < d then refuseR (takeR r) (takeS r).2 5 else takeR r

/-- The signs that are left, in memory. -/
def SgAt (w : World) (R : Nat) (a : Option Addr) (l : List Rn.Sg) : Prop :=
  ∀ (j : Nat) x, l[j]? = some x → ∃ b o, a = some ⟨b, o, none⟩ ∧ b < R ∧ b < w.heap.size ∧ w.cell? ⟨b, o + j * 2, none⟩ = some (.string x.1) ∧ w.cell? ⟨b, o + j * 2 + 1, none⟩ = some (.int .i64 x.2) ∧ x.1.size ≤ 2147483648
def rCells (r : RS) (a : Option Addr) (c : Nat) : Array Value := #[.slice a r.left.length c, .int .i64 r.past, .int .i64 r.pl, .int .i64 r.e]
structure RIn (w : World) (R : Nat) (r : RS) : Prop where
  has : ∃ a c, Blk w R 54 (rCells r a c) ∧ r.left.length ≤ c ∧ c ≤ 9223372036854775807 ∧ SgAt w R a r.left
theorem SgAt.grew {w w' : World} {R : Nat} {a : Option Addr} {l : List Rn.Sg} (h : SgAt w R a l) (hg : Grew R none w w') : SgAt w' R a l := by
  intro j x hj
  obtain ⟨b, o, rfl, hb, hlt, h1, h2, h3⟩ := h j x hj
  have hk := hg.block b hlt (by omega) (by simp)
  refine ⟨b, o, rfl, hb, Nat.lt_of_lt_of_le hlt hg.size, ?_, ?_, h3⟩
  · rw [← h1]; simp only [World.cell?, hk]
  · rw [← h2]; simp only [World.cell?, hk]
theorem RIn.below {w w' : World} {R : Nat} {r : RS} (h : RIn w R r) (hb : Below w.heap.size w w') : RIn w' R r := by
  obtain ⟨a, c, h1, h2, h3, h4⟩ := h.has
  exact ⟨a, c, h1.below hb h1.lt, h2, h3, h4.grew (Grew.of_below hb)⟩
theorem RIn.lt {w : World} {R : Nat} {r : RS} (h : RIn w R r) : R < w.heap.size := by
  obtain ⟨a, c, h1, _⟩ := h.has
  exact h1.lt
theorem RIn.set {w : World} {R b : Nat} {r : RS} (h : RIn w R r) (hb : R < b) (i : Nat) (x : Value) : RIn (w.setCell ⟨b, i, none⟩ x) R r := by
  obtain ⟨a, c, h1, h2, h3, h4⟩ := h.has
  refine ⟨a, c, h1.other (by omega) i x, h2, h3, ?_⟩
  intro j y hj
  obtain ⟨b', o, rfl, hb', hlt, q1, q2, q3⟩ := h4 j y hj
  have hk : (w.setCell ⟨b, i, none⟩ x).heap[b']? = w.heap[b']? := heap_setCell_other w ⟨b, i, none⟩ b' x (by show b' ≠ b; omega)
  refine ⟨b', o, rfl, hb', by rw [World.size_setCell]; exact hlt, ?_, ?_, q3⟩
  · rw [← q1]; simp only [World.cell?, hk]
  · rw [← q2]; simp only [World.cell?, hk]
theorem infoS : (Try.prog.info? 100).map (·.size) = some 2 := by kernel_rfl
def sgV (s : Rn.Sg) : Value := .agg #[.string s.1, .int .i64 s.2]

theorem blk_k {W : World} {b t : Nat} {cs : Array Value} (h : Blk W b t cs) (o : Obj) : Blk (W.alloc o) b t cs := (Below.heap_alloc _ _ _ h.lt).trans h
theorem SgAt.tail {w : World} {R b o : Nat} {s : Rn.Sg} {l : List Rn.Sg} (h : SgAt w R (some ⟨b, o, none⟩) (s :: l)) : SgAt w R (some ⟨b, o + 2, none⟩) l := by
  intro j x hj
  obtain ⟨b', o', e, h1, h2, h3, h4, h5⟩ := h (j + 1) x (by simpa using hj)
  cases e
  refine ⟨b, o + 2, rfl, h1, h2, ?_, ?_, h5⟩
  · rw [show o + 2 + j * 2 = o + (j + 1) * 2 by omega]; exact h3
  · rw [show o + 2 + j * 2 + 1 = o + (j + 1) * 2 + 1 by omega]; exact h4

set_option maxHeartbeats 2000000 in
set_option maxRecDepth 100000 in
theorem take_any (w : World) (R : Nat) (r : RS) (h : RIn w R r) :
    Calls Try.prog 39 #[.pointer (some ⟨R, 0, none⟩)] w fun e w' => e = .returned (sgV (takeS r)) ∧ RIn w' R (takeR r) ∧ Grew R none w w' := by
  have HH := hidIn h
  obtain ⟨a, c, hb, hc1, hc2, hs⟩ := h.has
  have HB := hidIn hb
  have HS := hidIn hs
  have hlt := hb.lt
  have g0 : w.cell? ⟨R, 0, none⟩ = some (.slice a r.left.length c) := hb.cell 0
  have g1 : w.cell? ⟨R, 1, none⟩ = some (.int .i64 r.past) := hb.cell 1
  have g3 : w.cell? ⟨R, 3, none⟩ = some (.int .i64 r.e) := hb.cell 3
  have gf : w.frozen? ⟨R, 0, none⟩ = false := hb.frozen 0
  clear hb hs h
  obtain ⟨l, past, pl, en⟩ := r
  simp only at g0 g1 g3 hc1
  go_enter Try.func39, Try.ntmps39
  by_cases he : en = 0
  · subst he
    cases l with
    | nil =>
      simp only [List.length_nil] at g0
      go_wp2_with fail
      have hbl : Below w.heap.size w (w.alloc (.cells #[.string ⟨#[]⟩, .int .i64 past] 100)) := below_alloc (Below.refl _ _) _
      refine bodyPost_ret (results_cell_row rfl _ _ w.heap.size 100 #[.string ⟨#[]⟩, .int .i64 past] (0, 0) _ rfl (heap_alloc_new _ _) Try.underlying100 rfl infoS) rfl ?_
      exact ⟨rfl, HH.out.below hbl, Grew.of_below hbl⟩
    | cons s l =>
      obtain ⟨b, o, rfl, hbR, hblt, q0, q1, _⟩ := HS.out 0 s rfl
      simp only [Nat.zero_mul, Nat.add_zero] at q0 q1
      simp only [List.length_cons] at g0 hc1
      go_wp2_with fail
      case inl =>
        obtain rfl : l = [] := by
          cases l with
          | nil => rfl
          | cons _ _ => exfalso; simp only [List.length_cons] at hc1; omega
        refine bodyPost_ret (results_cell_row rfl _ _ w.heap.size 100 #[.string s.1, .int .i64 s.2] (0, 0) _ rfl (blk_k (blk_new (by simp)) _) Try.underlying100 rfl infoS) rfl ?_
        refine ⟨rfl, ⟨some ⟨b, o, none⟩, 0, blk_k (blk_k (HB.out.set 0 _) _) _, Nat.le_refl 0, by omega, ?_⟩, (((Grew.refl _ _ _).set 0 _).alloc _).alloc _⟩
        intro j x hj
        simp [takeR] at hj
      case inr =>
        refine bodyPost_ret (results_cell_row rfl _ _ w.heap.size 100 #[.string s.1, .int .i64 s.2] (0, 0) _ rfl (blk_k (blk_new (by simp)) _) Try.underlying100 rfl infoS) rfl ?_
        have hg : Grew R none w (((w.setCell ⟨R, 0, none⟩ (.slice (some ⟨b, o + 2, none⟩) l.length (c - 1))).alloc (.cells #[.string s.1, .int .i64 s.2] 100)).alloc (.cells #[.string s.1, .int .i64 s.2] 100)) := (((Grew.refl _ _ _).set 0 _).alloc _).alloc _
        exact ⟨rfl, ⟨some ⟨b, o + 2, none⟩, c - 1, blk_k (blk_k (HB.out.set 0 _) _) _, by show l.length ≤ c - 1; omega, by omega, HS.out.tail.grew hg⟩, hg⟩
  · have HT : Hid (takeS ⟨l, past, pl, en⟩ = (⟨#[]⟩, past) ∧ takeR ⟨l, past, pl, en⟩ = ⟨l, past, pl, en⟩) := by
      unfold takeS takeR noS
      exact ⟨if_neg he, if_neg he⟩
    go_wp2_with fail
    have hbl : Below w.heap.size w (w.alloc (.cells #[.string ⟨#[]⟩, .int .i64 past] 100)) := below_alloc (Below.refl _ _) _
    refine bodyPost_ret (results_cell_row rfl _ _ w.heap.size 100 #[.string ⟨#[]⟩, .int .i64 past] (0, 0) _ rfl (heap_alloc_new _ _) Try.underlying100 rfl infoS) rfl ?_
    rw [HT.out.1, HT.out.2]
    exact ⟨rfl, HH.out.below hbl, Grew.of_below hbl⟩

set_option maxHeartbeats 1000000 in
set_option maxRecDepth 100000 in
theorem refuse_any (w : World) (R : Nat) (r : RS) (p en : Int) (h : RIn w R r) :
    Calls Try.prog 64 #[.pointer (some ⟨R, 0, none⟩), .int .i64 p, .int .i64 en] w fun e w' => e = .returned (.tuple #[]) ∧ RIn w' R (refuseR r p en) ∧ Grew R none w w' := by
  have HH := hidIn h
  obtain ⟨a, c, hb, hc1, hc2, hs⟩ := h.has
  have HB := hidIn hb
  have HS := hidIn hs
  have HC : Hid (r.left.length ≤ c ∧ c ≤ 9223372036854775807) := ⟨hc1, hc2⟩
  have g3 : w.cell? ⟨R, 3, none⟩ = some (.int .i64 r.e) := hb.cell 3
  have f2 : w.frozen? ⟨R, 2, none⟩ = false := hb.frozen 2
  have f3 : w.frozen? ⟨R, 3, none⟩ = false := hb.frozen 3
  have g2 : w.cell? ⟨R, 2, none⟩ = some (.int .i64 r.pl) := hb.cell 2
  clear hb hs h hc1 hc2
  obtain ⟨l, past, pl, e0⟩ := r
  simp only at g2 g3
  go_enter Try.func64, Try.ntmps64
  by_cases he : e0 = 0
  · subst he
    go_wp2_with fail
    go_end0
    have hg : Grew R none w ((w.setCell ⟨R, 2, none⟩ (.int .i64 p)).setCell ⟨R, 3, none⟩ (.int .i64 en)) := ((Grew.refl _ _ _).set 2 _).set 3 _
    exact ⟨rfl, ⟨a, c, (HB.out.set 2 _).set 3 _, HC.out.1, HC.out.2, HS.out.grew hg⟩, hg⟩
  · have HT : Hid (refuseR ⟨l, past, pl, e0⟩ p en = ⟨l, past, pl, e0⟩) := if_neg he
    go_wp2_with fail
    go_end0
    rw [HT.out]
    exact ⟨rfl, HH.out, Grew.refl _ _ _⟩
set_option maxHeartbeats 1000000 in
set_option maxRecDepth 100000 in
theorem fit_any (w : World) (R : Nat) (r : RS) (s : Rn.Sg) (ok : Bool) (h : RIn w R r) :
    Calls Try.prog 38 #[.pointer (some ⟨R, 0, none⟩), .agg #[.string s.1, .int .i64 s.2], .bool ok] w fun e w' => e = .returned (.tuple #[]) ∧ RIn w' R (fitR r s ok) ∧ Grew R none w w' := by
  have HH := hidIn h
  clear h
  go_enter Try.func38, Try.ntmps38
  cases ok with
  | true =>
    go_wp2_with fail
    go_end0
    have hbl : Below w.heap.size w (w.alloc (.cells #[.string s.1, .int .i64 s.2] 100)) := below_alloc (Below.refl _ _) _
    exact ⟨rfl, HH.out.below hbl, Grew.of_below hbl⟩
  | false =>
    go_wp2_with fail
    have HBL : Hid (Below w.heap.size w (w.alloc (.cells #[.string s.1, .int .i64 s.2] 100))) := below_alloc (Below.refl _ _) _
    refine (refuse_any _ R r s.2 2 (HH.out.below HBL.out)).mono ?_
    rintro e w1 ⟨rfl, h1, hg1⟩
    go_wp2_with fail
    go_end0
    exact ⟨rfl, h1, (Grew.of_below HBL.out).trans hg1 (.inl rfl)⟩
theorem Grew.tr {M : Nat} {u v w : World} (h : Grew M none u v) (g : Grew M none v w) : Grew M none u w := h.trans g (.inl rfl)
/-- A new block of a sign, kept. -/
theorem sg_blk {w w1 : World} {R : Nat} {s : Rn.Sg} (hR : R < w.heap.size) (hg : Grew R none (w.alloc (.cells #[.string s.1, .int .i64 s.2] 100)) w1) : Blk w1 w.heap.size 100 #[.string s.1, .int .i64 s.2] :=
  (blk_new rfl).grew hg (by omega)

set_option maxHeartbeats 1000000 in
set_option maxRecDepth 100000 in
theorem mark_any (w : World) (R : Nat) (r : RS) (t : ByteArray) (h : RIn w R r) :
    Calls Try.prog 33 #[.pointer (some ⟨R, 0, none⟩), .string t] w fun e w' => e = .returned (.tuple #[]) ∧ RIn w' R (markR r t) ∧ Grew R none w w' := by
  have HH := hidIn h
  clear h
  go_enter Try.func33, Try.ntmps33
  go_wp2_with fail
  refine (take_any w R r HH.out).mono ?_
  rintro e w1 ⟨rfl, h1, hg1⟩
  have HM : Hid (markR r t = fitR (takeR r) (takeS r) (decide ((takeS r).1 = t))) := rfl
  generalize takeR r = r1 at *
  generalize takeS r = s at *
  have HR1 := hidIn h1
  have HG1 := hidIn hg1
  clear h1 hg1
  unfold sgV
  by_cases hst : s.1.toList = t.toList
  · have hd : decide (s.1 = t) = true := by rw [toList_inj hst]; simp
    rw [hd] at HM
    clear hd
    go_wp2_with fail
    have HBL : Hid (Below w1.heap.size w1 (w1.alloc (.cells #[.string s.1, .int .i64 s.2] 100))) := below_alloc (Below.refl _ _) _
    refine (fit_any _ R r1 s true (HR1.out.below HBL.out)).mono ?_
    rintro e w2 ⟨rfl, h2, hg2⟩
    go_wp2_with fail
    go_end0
    rw [HM.out]
    exact ⟨rfl, h2, HG1.out.tr ((Grew.of_below HBL.out).tr hg2)⟩
  · have hd : decide (s.1 = t) = false := by simp; intro e; exact hst (by rw [e])
    have hst2 : (s.1.toList == t.toList) = false := by simpa using hst
    rw [hd] at HM
    clear hd
    go_wp2_with fail
    have HBL : Hid (Below w1.heap.size w1 (w1.alloc (.cells #[.string s.1, .int .i64 s.2] 100))) := below_alloc (Below.refl _ _) _
    refine (fit_any _ R r1 s false (HR1.out.below HBL.out)).mono ?_
    rintro e w2 ⟨rfl, h2, hg2⟩
    go_wp2_with fail
    go_end0
    rw [HM.out]
    exact ⟨rfl, h2, HG1.out.tr ((Grew.of_below HBL.out).tr hg2)⟩
theorem emp_dec (s : ByteArray) : s.toList.isEmpty = decide (s = ⟨#[]⟩) := by
  have he : (⟨#[]⟩ : ByteArray).toList = [] := by decide +kernel
  by_cases h : s = ⟨#[]⟩
  · subst h; rw [he]; rfl
  · rw [decide_eq_false h]
    cases hl : s.toList with
    | nil => exact absurd (toList_inj (hl.trans he.symm)) h
    | cons a l => rfl
def endRd (r : RS) : RS := fitR (takeR r) (takeS r) (decide ((takeS r).1 = ⟨#[]⟩))
set_option maxHeartbeats 1000000 in
set_option maxRecDepth 100000 in
theorem end_any (w : World) (R : Nat) (r : RS) (h : RIn w R r) :
    Calls Try.prog 18 #[.pointer (some ⟨R, 0, none⟩)] w fun e w' => e = .returned (.tuple #[]) ∧ RIn w' R (endRd r) ∧ Grew R none w w' := by
  have HH := hidIn h
  clear h
  go_enter Try.func18, Try.ntmps18
  go_wp2_with fail
  refine (take_any w R r HH.out).mono ?_
  rintro e w1 ⟨rfl, h1, hg1⟩
  have HM : Hid (endRd r = fitR (takeR r) (takeS r) (decide ((takeS r).1 = ⟨#[]⟩))) := rfl
  generalize takeR r = r1 at *
  generalize takeS r = s at *
  have HR1 := hidIn h1
  have HG1 := hidIn hg1
  clear h1 hg1
  unfold sgV
  go_wp2_with fail
  rw [emp_dec]
  have HBL : Hid (Below w1.heap.size w1 (w1.alloc (.cells #[.string s.1, .int .i64 s.2] 100))) := below_alloc (Below.refl _ _) _
  refine (fit_any _ R r1 s (decide (s.1 = ⟨#[]⟩)) (HR1.out.below HBL.out)).mono ?_
  rintro e w2 ⟨rfl, h2, hg2⟩
  go_wp2_with fail
  go_end0
  rw [HM.out]
  exact ⟨rfl, h2, HG1.out.tr ((Grew.of_below HBL.out).tr hg2)⟩

set_option maxHeartbeats 2000000 in
set_option maxRecDepth 100000 in
theorem rname_any (w : World) (R : Nat) (r : RS) (h : RIn w R r) :
    Calls Try.prog 34 #[.pointer (some ⟨R, 0, none⟩)] w fun e w' => e = .returned (.string (takeS r).1) ∧ RIn w' R (nameR r) ∧ Grew R none w w' := by
  have HH := hidIn h
  clear h
  go_enter Try.func34, Try.ntmps34
  go_wp2_with fail
  refine (take_any w R r HH.out).mono ?_
  rintro e w1 ⟨rfl, h1, hg1⟩
  have HM : Hid (nameR r = fitR (takeR r) (takeS r) (nameGo 0 (runesOf (takeS r).1))) := rfl
  have HSE0 : Hid (∃ s, takeS r = s) := ⟨_, rfl⟩
  generalize takeR r = r1 at *
  obtain ⟨s, hse⟩ := HSE0.out
  have HSE := hidIn hse
  rw [hse] at HM
  rw [hse]
  clear hse HSE0
  have HR1 := hidIn h1
  have HG1 := hidIn hg1
  have HLT := hidIn h1.lt
  clear h1 hg1
  unfold sgV
  go_wp2_with fail
  obtain ⟨W, hW⟩ : ∃ W, W = w1.alloc (.cells #[.string s.1, .int .i64 s.2] 100) := ⟨_, rfl⟩
  have HBL : Hid (Below w1.heap.size w1 W) := by rw [hW]; exact below_alloc (Below.refl _ _) _
  have HBK : Hid (Blk W w1.heap.size 100 #[.string s.1, .int .i64 s.2]) := by rw [hW]; exact blk_new rfl
  have HNE : Hid (w1.heap.size ≠ R) := by have := HLT.out; show _ ≠ _; omega
  have HF : Hid (∀ X, Grew R none W X → X.cell? ⟨w1.heap.size, 0, none⟩ = some (.string s.1) ∧ X.cell? ⟨w1.heap.size, 1, none⟩ = some (.int .i64 s.2)) := fun X hX => by
    have h := HBK.out.grew hX HNE.out
    exact ⟨h.cell 0, h.cell 1⟩
  have HRW := hidIn (HR1.out.below HBL.out)
  rw [← hW]
  clear hW
  obtain ⟨c0, c1⟩ := HF.out W (Grew.refl _ _ _)
  go_region_with (first
    | (go_at_call 65; refine (name_any _ _).mono ?_; rintro e wA ⟨rfl, posA, rfl⟩; have hA := Grew.of_below (M := R) (row := none) (below_iter W.drew s.1 posA); obtain ⟨d0, d1⟩ := HF.out _ ((Grew.refl R none W).drew.tr hA))
    | (go_at_call 38; refine (fit_any _ R r1 s _ (HRW.out.below ((below_drew (Below.refl _ _)).trans (below_iter W.drew s.1 posA)))).mono ?_; rintro e wB ⟨rfl, hB, hgB⟩))
  all_goals
    have hgx := (Grew.refl R none W).drew.tr (hA.tr hgB)
    obtain ⟨d2, d3⟩ := HF.out _ hgx
    have HRX := hidIn hB
    have HGX := hidIn hgx
    clear hB hgx hgB hA d0 d1 c0 c1
    go_wp2_with fail
    go_ret
    exact ⟨by rw [HSE.out]; rfl, by rw [HM.out]; exact HRX.out, HG1.out.tr ((Grew.of_below HBL.out).tr HGX.out)⟩
theorem takeS_size {w : World} {R : Nat} {r : RS} (h : RIn w R r) : (takeS r).1.size ≤ 2147483648 := by
  obtain ⟨a, c, _, _, _, hs⟩ := h.has
  unfold takeS noS
  split
  · cases hl : r.left with
    | nil => show (⟨#[]⟩ : ByteArray).size ≤ _; decide
    | cons x l =>
      obtain ⟨_, _, _, _, _, _, _, h6⟩ := hs 0 x (by rw [hl]; rfl)
      exact h6
  · show (⟨#[]⟩ : ByteArray).size ≤ _; decide

set_option maxHeartbeats 2000000 in
set_option maxRecDepth 100000 in
theorem rday_any (w : World) (R : Nat) (r : RS) (h : RIn w R r) :
    Calls Try.prog 37 #[.pointer (some ⟨R, 0, none⟩)] w fun e w' => e = .returned (.int .i64 (dayV r)) ∧ RIn w' R (dayR r) ∧ Grew R none w w' := by
  have HH := hidIn h
  have HSZ := hidIn (takeS_size h)
  clear h
  go_enter Try.func37, Try.ntmps37
  go_wp2_with fail
  refine (take_any w R r HH.out).mono ?_
  rintro e w1 ⟨rfl, h1, hg1⟩
  have HM : Hid (dayR r = fitR (takeR r) (takeS r) ((Rn.numOf (takeS r).1.data.toList).2 && (decide (0 ≤ (Rn.numOf (takeS r).1.data.toList).1) && decide ((Rn.numOf (takeS r).1.data.toList).1 ≤ 10000)))) := rfl
  have HV : Hid (dayV r = (Rn.numOf (takeS r).1.data.toList).1) := rfl
  generalize takeR r = r1 at *
  generalize takeS r = s at *
  have HR1 := hidIn h1
  have HG1 := hidIn hg1
  have HLT := hidIn h1.lt
  clear h1 hg1
  unfold sgV
  go_wp2_with fail
  obtain ⟨W, hW⟩ : ∃ W, W = w1.alloc (.cells #[.string s.1, .int .i64 s.2] 100) := ⟨_, rfl⟩
  have HBL : Hid (Below w1.heap.size w1 W) := by rw [hW]; exact below_alloc (Below.refl _ _) _
  have HBK : Hid (Blk W w1.heap.size 100 #[.string s.1, .int .i64 s.2]) := by rw [hW]; exact blk_new rfl
  have HRW := hidIn (HR1.out.below HBL.out)
  rw [← hW]
  clear hW
  refine (Rn.number_any s.1 W (by have := HSZ.out; unfold maxLen; omega)).mono ?_
  rintro e w2 ⟨rfl, hb2⟩
  have hk := HBK.out.below hb2 HBK.out.lt
  have c0 : w2.cell? ⟨w1.heap.size, 0, none⟩ = some (.string s.1) := hk.cell 0
  have c1 : w2.cell? ⟨w1.heap.size, 1, none⟩ = some (.int .i64 s.2) := hk.cell 1
  have HB2 := hidIn hb2
  clear hb2 hk
  generalize (Rn.numOf s.1.data.toList).1 = n at *
  generalize (Rn.numOf s.1.data.toList).2 = ok at *
  have hcase : (ok = false) ∨ (ok = true ∧ ¬ 0 ≤ n) ∨ (ok = true ∧ 0 ≤ n ∧ ¬ n ≤ 10000) ∨ (ok = true ∧ 0 ≤ n ∧ n ≤ 10000) := by
    cases ok <;> by_cases a : 0 ≤ n <;> by_cases b : n ≤ 10000 <;> simp [a, b]
  have HRX := hidIn (HRW.out.below HB2.out)
  have HGX : Hid (Grew R none w w2) := HG1.out.tr ((Grew.of_below HBL.out).tr (Grew.of_below HB2.out))
  rcases hcase with rfl | ⟨rfl, q1⟩ | ⟨rfl, q1, q2⟩ | ⟨rfl, q1, q2⟩
  · go_wp2_with fail
    refine (fit_any _ R r1 s _ HRX.out).mono ?_
    rintro e w3 ⟨rfl, h3, hg3⟩
    go_wp2_with fail
    go_ret
    exact ⟨by rw [HV.out]; rfl, by rw [HM.out]; exact h3, HGX.out.tr hg3⟩
  · have HD : Hid ((true && (decide (0 ≤ n) && decide (n ≤ 10000))) = false) := by show _ = _; rw [decide_eq_false q1]; rfl
    go_wp2_with fail
    refine (fit_any _ R r1 s _ HRX.out).mono ?_
    rintro e w3 ⟨rfl, h3, hg3⟩
    go_wp2_with fail
    go_ret
    exact ⟨by rw [HV.out]; rfl, by rw [HM.out, HD.out]; first | exact h3 | (rw [decide_eq_false q1] at h3; exact h3) | (rw [HQ.out] at h3; exact h3) | (rw [decide_eq_true q2] at h3; exact h3), HGX.out.tr hg3⟩
  · have HD : Hid ((true && (decide (0 ≤ n) && decide (n ≤ 10000))) = false) := by show _ = _; rw [decide_eq_true q1, decide_eq_false q2]; rfl
    have HQ : Hid (decide (n ≤ 10000) = false) := decide_eq_false q2
    go_wp2_with fail
    refine (fit_any _ R r1 s _ HRX.out).mono ?_
    rintro e w3 ⟨rfl, h3, hg3⟩
    go_wp2_with fail
    go_ret
    exact ⟨by rw [HV.out]; rfl, by rw [HM.out, HD.out]; first | exact h3 | (rw [decide_eq_false q1] at h3; exact h3) | (rw [HQ.out] at h3; exact h3) | (rw [decide_eq_true q2] at h3; exact h3), HGX.out.tr hg3⟩
  · have HD : Hid ((true && (decide (0 ≤ n) && decide (n ≤ 10000))) = true) := by show _ = _; rw [decide_eq_true q1, decide_eq_true q2]; rfl
    go_wp2_with fail
    refine (fit_any _ R r1 s _ HRX.out).mono ?_
    rintro e w3 ⟨rfl, h3, hg3⟩
    go_wp2_with fail
    go_ret
    exact ⟨by rw [HV.out]; rfl, by rw [HM.out, HD.out]; first | exact h3 | (rw [decide_eq_false q1] at h3; exact h3) | (rw [HQ.out] at h3; exact h3) | (rw [decide_eq_true q2] at h3; exact h3), HGX.out.tr hg3⟩

set_option maxHeartbeats 2000000 in
set_option maxRecDepth 100000 in
theorem first_any (w : World) (R : Nat) (r : RS) (d : Nat) (hd : d ≤ 1000) (h : RIn w R r) :
    Calls Try.prog 32 #[.pointer (some ⟨R, 0, none⟩), .int .i64 (d : Int)] w fun e w' => e = .returned (sgV (takeS r)) ∧ RIn w' R (firstR r d) ∧ Grew R none w w' := by
  have HH := hidIn h
  have HLT0 := hidIn h.lt
  clear h
  go_enter Try.func32, Try.ntmps32
  go_wp2_with fail
  obtain ⟨W0, hW0⟩ : ∃ W, W = w.alloc (.cells #[.string ⟨#[]⟩, .int .i64 0] 100) := ⟨_, rfl⟩
  have HB0 : Hid (Below w.heap.size w W0) := by rw [hW0]; exact below_alloc (Below.refl _ _) _
  have HK0 : Hid (Blk W0 w.heap.size 100 #[.string ⟨#[]⟩, .int .i64 0]) := by rw [hW0]; exact blk_new rfl
  rw [← hW0]
  clear hW0
  refine (take_any W0 R r (HH.out.below HB0.out)).mono ?_
  rintro e w1 ⟨rfl, h1, hg1⟩
  have HM : Hid (firstR r d = if 12 < d then refuseR (takeR r) (takeS r).2 5 else takeR r) := rfl
  have HSE0 : Hid (∃ s, takeS r = s) := ⟨_, rfl⟩
  generalize takeR r = r1 at *
  obtain ⟨s, hse⟩ := HSE0.out
  have HSE := hidIn hse
  rw [hse] at HM
  rw [hse]
  clear hse HSE0
  have HR1 := hidIn h1
  have HK1 := hidIn (HK0.out.grew hg1 (by have := HLT0.out; omega))
  have HG1 : Hid (Grew R none w w1) := (Grew.of_below HB0.out).tr hg1
  have HLT : Hid (w.heap.size < w1.heap.size) := HK1.out.lt
  clear h1 hg1
  have HRN : Hid (w.heap.size ≠ R) := by have := HLT0.out; show _ ≠ _; omega
  unfold sgV
  have z0 : w1.cell? ⟨w.heap.size, 0, none⟩ = some (.string ⟨#[]⟩) := HK1.out.cell 0
  have z1 : w1.cell? ⟨w.heap.size, 1, none⟩ = some (.int .i64 0) := HK1.out.cell 1
  have f0 : w1.frozen? ⟨w.heap.size, 0, none⟩ = false := HK1.out.frozen 0
  have f1 : w1.frozen? ⟨w.heap.size, 1, none⟩ = false := HK1.out.frozen 1
  by_cases hd12 : 12 < d
  · have hd' : (12 : Int) < (d : Int) := by omega
    rw [if_pos hd12] at HM
    go_wp2_with fail
    obtain ⟨W, hW⟩ : ∃ W, W = w1.alloc (.cells #[.string s.1, .int .i64 s.2] 100) := ⟨_, rfl⟩
    have HBL : Hid (Below w1.heap.size w1 W) := by rw [hW]; exact below_alloc (Below.refl _ _) _
    have HBK : Hid (Blk W w1.heap.size 100 #[.string s.1, .int .i64 s.2]) := by rw [hW]; exact blk_new rfl
    rw [← hW]
    clear hW z0 z1 f0 f1
    refine (refuse_any W R r1 s.2 5 (HR1.out.below HBL.out)).mono ?_
    rintro e w2 ⟨rfl, h2, hg2⟩
    have HK2 := hidIn ((HK1.out.below HBL.out HK1.out.lt).grew hg2 HRN.out)
    have HS2 := hidIn (HBK.out.grew hg2 (by have := HR1.out.lt; omega))
    have HG2 : Hid (Grew R none w w2) := HG1.out.tr ((Grew.of_below HBL.out).tr hg2)
    have HR2 := hidIn h2
    have c0 : w2.cell? ⟨w1.heap.size, 0, none⟩ = some (.string s.1) := HS2.out.cell 0
    have c1 : w2.cell? ⟨w1.heap.size, 1, none⟩ = some (.int .i64 s.2) := HS2.out.cell 1
    have z0 : w2.cell? ⟨w.heap.size, 0, none⟩ = some (.string ⟨#[]⟩) := HK2.out.cell 0
    have z1 : w2.cell? ⟨w.heap.size, 1, none⟩ = some (.int .i64 0) := HK2.out.cell 1
    have f0 : w2.frozen? ⟨w.heap.size, 0, none⟩ = false := HK2.out.frozen 0
    have f1 : w2.frozen? ⟨w.heap.size, 1, none⟩ = false := HK2.out.frozen 1
    clear h2 hg2
    go_wp2_with fail
    refine bodyPost_ret (results_cell_row rfl _ _ w.heap.size 100 #[.string s.1, .int .i64 s.2] (0, 0) _ rfl ((HK2.out.set 0 _).set 1 _) Try.underlying100 rfl infoS) rfl ?_
    refine ⟨by rw [HSE.out]; rfl, ?_, (HG2.out.setNew (Nat.le_refl _) 0 _).setNew (Nat.le_refl _) 1 _⟩
    rw [HM.out]
    exact (HR2.out.set HLT0.out 0 _).set HLT0.out 1 _
  · have hd' : ¬ (12 : Int) < (d : Int) := by omega
    rw [if_neg hd12] at HM
    go_upto_region 4 with fail
    obtain ⟨W, hW⟩ : ∃ W, W = w1.alloc (.cells #[.string s.1, .int .i64 s.2] 100) := ⟨_, rfl⟩
    have HBL : Hid (Below w1.heap.size w1 W) := by rw [hW]; exact below_alloc (Below.refl _ _) _
    have HBK : Hid (Blk W w1.heap.size 100 #[.string s.1, .int .i64 s.2]) := by rw [hW]; exact blk_new rfl
    rw [← hW]
    clear hW z0 z1 f0 f1
    have HK2 := hidIn (HK1.out.below HBL.out HK1.out.lt)
    have HG2 : Hid (Grew R none w W) := HG1.out.tr (Grew.of_below HBL.out)
    have HR2 := hidIn (HR1.out.below HBL.out)
    have c0 : W.cell? ⟨w1.heap.size, 0, none⟩ = some (.string s.1) := HBK.out.cell 0
    have c1 : W.cell? ⟨w1.heap.size, 1, none⟩ = some (.int .i64 s.2) := HBK.out.cell 1
    have z0 : W.cell? ⟨w.heap.size, 0, none⟩ = some (.string ⟨#[]⟩) := HK2.out.cell 0
    have z1 : W.cell? ⟨w.heap.size, 1, none⟩ = some (.int .i64 0) := HK2.out.cell 1
    have f0 : W.frozen? ⟨w.heap.size, 0, none⟩ = false := HK2.out.frozen 0
    have f1 : W.frozen? ⟨w.heap.size, 1, none⟩ = false := HK2.out.frozen 1
    go_wp2_with fail
    refine bodyPost_ret (results_cell_row rfl _ _ w.heap.size 100 #[.string s.1, .int .i64 s.2] (0, 0) _ rfl ((HK2.out.set 0 _).set 1 _) Try.underlying100 rfl infoS) rfl ?_
    refine ⟨by rw [HSE.out]; rfl, ?_, (HG2.out.setNew (Nat.le_refl _) 0 _).setNew (Nat.le_refl _) 1 _⟩
    rw [HM.out]
    exact (HR2.out.set HLT0.out 0 _).set HLT0.out 1 _

end Go.Proofs.Ythhjcpmnekibnaa
namespace Go.Proofs.Ythhjcpmnekibnaa
open Go.RowKit
set_option linter.unusedVariables false

def lpB : ByteArray := ⟨#[40]⟩
def rpB : ByteArray := ⟨#[41]⟩
def cmB : ByteArray := ⟨#[44]⟩
def wFix : ByteArray := ⟨#[102, 105, 120]⟩
def wAdd : ByteArray := ⟨#[97, 100, 100]⟩
def wNeg : ByteArray := ⟨#[110, 101, 103]⟩
def wMul : ByteArray := ⟨#[109, 117, 108]⟩
def wMax : ByteArray := ⟨#[109, 97, 120]⟩
def wZero : ByteArray := ⟨#[122, 101, 114, 111]⟩
def wOne : ByteArray := ⟨#[111, 110, 101]⟩
def wGive : ByteArray := ⟨#[103, 105, 118, 101]⟩
def wAnd : ByteArray := ⟨#[97, 110, 100]⟩
def wOr : ByteArray := ⟨#[111, 114]⟩
def wScale : ByteArray := ⟨#[115, 99, 97, 108, 101]⟩
def wWhen : ByteArray := ⟨#[119, 104, 101, 110]⟩
def wIf : ByteArray := ⟨#[105, 102]⟩
/-- Two numbers between brackets. -/
def pairF (rec : RS → O × RS) (r : RS) : O × O × RS :=
  ((rec (markR r lpB)).1, (rec (markR (rec (markR r lpB)).2 cmB)).1, markR (rec (markR (rec (markR r lpB)).2 cmB)).2 rpB)
/-- What is read as a number, and the reader behind it. -/
def obsR : Nat → RS → Nat → O × RS
  | 0, r, _ => (.const 0, r)
  | f + 1, r, d =>
    if (takeS r).1 = wFix then (.fix (takeS (markR (firstR r d) lpB)).1, markR (nameR (markR (firstR r d) lpB)) rpB)
    else if (takeS r).1 = wAdd then (.add (pairF (fun q => obsR f q (d + 1)) (firstR r d)).1 (pairF (fun q => obsR f q (d + 1)) (firstR r d)).2.1, (pairF (fun q => obsR f q (d + 1)) (firstR r d)).2.2)
    else if (takeS r).1 = wNeg then (.neg (obsR f (markR (firstR r d) lpB) (d + 1)).1, markR (obsR f (markR (firstR r d) lpB) (d + 1)).2 rpB)
    else if (takeS r).1 = wMul then (.mul (pairF (fun q => obsR f q (d + 1)) (firstR r d)).1 (pairF (fun q => obsR f q (d + 1)) (firstR r d)).2.1, (pairF (fun q => obsR f q (d + 1)) (firstR r d)).2.2)
    else if (takeS r).1 = wMax then (.max (pairF (fun q => obsR f q (d + 1)) (firstR r d)).1 (pairF (fun q => obsR f q (d + 1)) (firstR r d)).2.1, (pairF (fun q => obsR f q (d + 1)) (firstR r d)).2.2)
    else (.const (Rn.numOf (takeS r).1.data.toList).1, fitR (firstR r d) (takeS r) (Rn.numOf (takeS r).1.data.toList).2)
def lastF (rec : RS → C × RS) (r : RS) : C × RS := ((rec r).1, markR (rec r).2 rpB)
def lastsF (rec : RS → C × RS) (r : RS) : C × C × RS := ((rec r).1, (lastF rec (markR (rec r).2 cmB)).1, (lastF rec (markR (rec r).2 cmB)).2)
/-- What is read as a contract, and the reader behind it. -/
def termR : Nat → RS → Nat → C × RS
  | 0, r, _ => (.odd .nilIface, r)
  | f + 1, r, d =>
    if (takeS r).1 = wZero then (.zero, firstR r d)
    else if (takeS r).1 = wOne then (.one (takeS (markR (firstR r d) lpB)).1, markR (nameR (markR (firstR r d) lpB)) rpB)
    else if (takeS r).1 = wGive then (.give (lastF (fun q => termR f q (d + 1)) (markR (firstR r d) lpB)).1, (lastF (fun q => termR f q (d + 1)) (markR (firstR r d) lpB)).2)
    else if (takeS r).1 = wAnd then (.and (lastsF (fun q => termR f q (d + 1)) (markR (firstR r d) lpB)).1 (lastsF (fun q => termR f q (d + 1)) (markR (firstR r d) lpB)).2.1, (lastsF (fun q => termR f q (d + 1)) (markR (firstR r d) lpB)).2.2)
    else if (takeS r).1 = wOr then (.or (takeS (markR (firstR r d) lpB)).1 (lastsF (fun q => termR f q (d + 1)) (markR (nameR (markR (firstR r d) lpB)) cmB)).1 (lastsF (fun q => termR f q (d + 1)) (markR (nameR (markR (firstR r d) lpB)) cmB)).2.1, (lastsF (fun q => termR f q (d + 1)) (markR (nameR (markR (firstR r d) lpB)) cmB)).2.2)
    else if (takeS r).1 = wScale then (.scale (obsR f (markR (firstR r d) lpB) (d + 1)).1 (lastF (fun q => termR f q (d + 1)) (markR (obsR f (markR (firstR r d) lpB) (d + 1)).2 cmB)).1, (lastF (fun q => termR f q (d + 1)) (markR (obsR f (markR (firstR r d) lpB) (d + 1)).2 cmB)).2)
    else if (takeS r).1 = wWhen then (.when (dayV (markR (firstR r d) lpB)) (lastF (fun q => termR f q (d + 1)) (markR (dayR (markR (firstR r d) lpB)) cmB)).1, (lastF (fun q => termR f q (d + 1)) (markR (dayR (markR (firstR r d) lpB)) cmB)).2)
    else if (takeS r).1 = wIf then (.iff (obsR f (markR (firstR r d) lpB) (d + 1)).1 (lastsF (fun q => termR f q (d + 1)) (markR (obsR f (markR (firstR r d) lpB) (d + 1)).2 cmB)).1 (lastsF (fun q => termR f q (d + 1)) (markR (obsR f (markR (firstR r d) lpB) (d + 1)).2 cmB)).2.1, (lastsF (fun q => termR f q (d + 1)) (markR (obsR f (markR (firstR r d) lpB) (d + 1)).2 cmB)).2.2)
    else (.odd .nilIface, fitR (firstR r d) (takeS r) false)
theorem takeR_e (r : RS) : (takeR r).e = r.e := by unfold takeR; split <;> rfl
theorem refuseR_e (r : RS) (p e : Int) (h : r.e ≠ 0) : (refuseR r p e).e ≠ 0 := by unfold refuseR; rw [if_neg h]; exact h
theorem fitR_e (r : RS) (s : Rn.Sg) (ok : Bool) (h : r.e ≠ 0) : (fitR r s ok).e ≠ 0 := by
  unfold fitR; split
  · exact h
  · exact refuseR_e r _ _ h
theorem markR_e (r : RS) (t : ByteArray) (h : r.e ≠ 0) : (markR r t).e ≠ 0 := fitR_e _ _ _ (by rw [takeR_e]; exact h)
theorem nameR_e (r : RS) (h : r.e ≠ 0) : (nameR r).e ≠ 0 := fitR_e _ _ _ (by rw [takeR_e]; exact h)
theorem dayR_e (r : RS) (h : r.e ≠ 0) : (dayR r).e ≠ 0 := fitR_e _ _ _ (by rw [takeR_e]; exact h)
theorem firstR_e (r : RS) (d : Nat) (h : r.e ≠ 0) : (firstR r d).e ≠ 0 := by
  unfold firstR; split
  · exact refuseR_e _ _ _ (by rw [takeR_e]; exact h)
  · rw [takeR_e]; exact h
theorem firstR_deep (r : RS) (d : Nat) (h : 12 < d) : (firstR r d).e ≠ 0 := by
  unfold firstR
  rw [if_pos h]
  unfold refuseR
  split
  · show (5 : Int) ≠ 0; decide
  · assumption
theorem pairF_e (rec : RS → O × RS) (hr : ∀ q, q.e ≠ 0 → (rec q).2.e ≠ 0) (r : RS) (h : r.e ≠ 0) : (pairF rec r).2.2.e ≠ 0 :=
  markR_e _ _ (hr _ (markR_e _ _ (hr _ (markR_e _ _ h))))
theorem lastF_e (rec : RS → C × RS) (hr : ∀ q, q.e ≠ 0 → (rec q).2.e ≠ 0) (r : RS) (h : r.e ≠ 0) : (lastF rec r).2.e ≠ 0 := markR_e _ _ (hr _ h)
theorem lastsF_e (rec : RS → C × RS) (hr : ∀ q, q.e ≠ 0 → (rec q).2.e ≠ 0) (r : RS) (h : r.e ≠ 0) : (lastsF rec r).2.2.e ≠ 0 := lastF_e rec hr _ (markR_e _ _ (hr _ h))
theorem obsR_e (f : Nat) : ∀ r d, r.e ≠ 0 → (obsR f r d).2.e ≠ 0 := by
  induction f with
  | zero => intro r d h; exact h
  | succ f ih =>
    intro r d h
    have h1 := firstR_e r d h
    have ih' : ∀ q, q.e ≠ 0 → ((fun q => obsR f q (d + 1)) q).2.e ≠ 0 := fun q hq => ih q (d + 1) hq
    unfold obsR
    repeat' split
    · exact markR_e _ _ (nameR_e _ (markR_e _ _ h1))
    · exact pairF_e _ ih' _ h1
    · exact markR_e _ _ (ih _ _ (markR_e _ _ h1))
    · exact pairF_e _ ih' _ h1
    · exact pairF_e _ ih' _ h1
    · exact fitR_e _ _ _ h1
theorem takeS_none (r : RS) (h : r.e ≠ 0) : takeS r = (⟨#[]⟩, r.past) := by unfold takeS noS; rw [if_neg h]

/-- What is known of the call that reads a number so deep. -/
def ObsC (f d : Nat) : Prop := ∀ (r : RS) (w : World) (R : Nat), (14 ≤ d → r.e ≠ 0) → RIn w R r →
  Calls Try.prog 25 #[.pointer (some ⟨R, 0, none⟩), .int .i64 (d : Int)] w fun e w' => e = .returned (obsR f r d).1.val ∧ (obsR f r d).1.Ok ∧ RIn w' R (obsR f r d).2 ∧ Grew R none w w'
def TermC (f d : Nat) : Prop := ∀ (r : RS) (w : World) (R : Nat), (14 ≤ d → r.e ≠ 0) → RIn w R r →
  Calls Try.prog 17 #[.pointer (some ⟨R, 0, none⟩), .int .i64 (d : Int)] w fun e w' => e = .returned (termR f r d).1.val ∧ (termR f r d).1.Ok ∧ RIn w' R (termR f r d).2 ∧ Grew R none w w'

set_option maxHeartbeats 1000000 in
set_option maxRecDepth 100000 in
theorem two_any (f d : Nat) (hd : d ≤ 100) (hI : ObsC f (d + 1)) (r : RS) (w : World) (R : Nat) (he : 13 ≤ d → r.e ≠ 0) (h : RIn w R r) :
    Calls Try.prog 55 #[.pointer (some ⟨R, 0, none⟩), .int .i64 (d : Int)] w fun e w' => e = .returned (.tuple #[(pairF (fun q => obsR f q (d + 1)) r).1.val, (pairF (fun q => obsR f q (d + 1)) r).2.1.val]) ∧ (pairF (fun q => obsR f q (d + 1)) r).1.Ok ∧ (pairF (fun q => obsR f q (d + 1)) r).2.1.Ok ∧ RIn w' R (pairF (fun q => obsR f q (d + 1)) r).2.2 ∧ Grew R none w w' := by
  have HI : Hid (∀ (r : RS) (w : World) (R : Nat), (13 ≤ d → r.e ≠ 0) → RIn w R r → Calls Try.prog 25 #[.pointer (some ⟨R, 0, none⟩), .int .i64 ((d : Int) + 1)] w fun e w' => e = .returned (obsR f r (d + 1)).1.val ∧ (obsR f r (d + 1)).1.Ok ∧ RIn w' R (obsR f r (d + 1)).2 ∧ Grew R none w w') := fun r w R hr hR => hI r w R (fun hd => hr (by omega)) hR
  have HH := hidIn h
  have HE0 := hidIn he
  clear h hI he
  unfold pairF
  go_enter Try.func55, Try.ntmps55
  go_wp2_with fail
  refine (mark_any w R r lpB HH.out).mono ?_
  rintro e w1 ⟨rfl, h1, hg1⟩
  have HR1 := hidIn h1
  have HG1 := hidIn hg1
  have HE1 : Hid (13 ≤ d → (markR r lpB).e ≠ 0) := fun hd => markR_e _ _ (HE0.out hd)
  clear h1 hg1
  go_wp2_with fail
  refine (HI.out _ w1 R HE1.out HR1.out).mono ?_
  rintro e w2 ⟨rfl, hok2, h2, hg2⟩
  have HR2 := hidIn h2
  have HO2 := hidIn hok2
  have HG2 := hidIn (HG1.out.tr hg2)
  have HE2 : Hid (13 ≤ d → (obsR f (markR r lpB) (d + 1)).2.e ≠ 0) := fun hd => obsR_e _ _ _ (HE1.out hd)
  clear h2 hg2 hok2
  go_wp2_with fail
  refine (mark_any w2 R _ cmB HR2.out).mono ?_
  rintro e w3 ⟨rfl, h3, hg3⟩
  have HR3 := hidIn h3
  have HG3 := hidIn (HG2.out.tr hg3)
  have HE3 : Hid (13 ≤ d → (markR (obsR f (markR r lpB) (d + 1)).2 cmB).e ≠ 0) := fun hd => markR_e _ _ (HE2.out hd)
  clear h3 hg3
  go_wp2_with fail
  refine (HI.out _ w3 R HE3.out HR3.out).mono ?_
  rintro e w4 ⟨rfl, hok4, h4, hg4⟩
  have HR4 := hidIn h4
  have HO4 := hidIn hok4
  have HG4 := hidIn (HG3.out.tr hg4)
  clear h4 hg4 hok4
  go_wp2_with fail
  refine (mark_any w4 R _ rpB HR4.out).mono ?_
  rintro e w5 ⟨rfl, h5, hg5⟩
  have HR5 := hidIn h5
  have HG5 := hidIn (HG4.out.tr hg5)
  clear h5 hg5
  go_wp2_with fail
  go_ret2
  exact ⟨rfl, HO2.out, HO4.out, HR5.out, HG5.out⟩
theorem tl_eq {a b : ByteArray} {l : List UInt8} (hb : b.toList = l) : (a.toList == l) = decide (a = b) := by
  subst hb
  by_cases h : a = b
  · subst h; simp
  · rw [decide_eq_false h]; exact beq_eq_false_iff_ne.2 (fun e => h (toList_inj e))
theorem tlFix : wFix.toList = [102, 105, 120] := by decide +kernel
theorem tlAdd : wAdd.toList = [97, 100, 100] := by decide +kernel
theorem tlNeg : wNeg.toList = [110, 101, 103] := by decide +kernel
theorem tlMul : wMul.toList = [109, 117, 108] := by decide +kernel
theorem tlMax : wMax.toList = [109, 97, 120] := by decide +kernel
theorem tlZero : wZero.toList = [122, 101, 114, 111] := by decide +kernel
theorem tlOne : wOne.toList = [111, 110, 101] := by decide +kernel
theorem tlGive : wGive.toList = [103, 105, 118, 101] := by decide +kernel
theorem tlAnd : wAnd.toList = [97, 110, 100] := by decide +kernel
theorem tlOr : wOr.toList = [111, 114] := by decide +kernel
theorem tlScale : wScale.toList = [115, 99, 97, 108, 101] := by decide +kernel
theorem tlWhen : wWhen.toList = [119, 104, 101, 110] := by decide +kernel
theorem tlIf : wIf.toList = [105, 102] := by decide +kernel
theorem numOf_bd (l : List UInt8) : -9223372036854775808 ≤ (Rn.numOf l).1 ∧ (Rn.numOf l).1 ≤ 9223372036854775807 := by
  cases l with
  | nil => rw [Rn.numOf_nil]; decide
  | cons a t =>
    by_cases h : a = 45
    · subst h
      rw [Rn.numOf_neg]
      have := Rn.natOf_bd t
      split
      · constructor <;> simp only <;> omega
      · constructor <;> simp only <;> omega
    · rw [Rn.numOf_pos _ (by simpa using h)]
      have := Rn.natOf_bd (a :: t)
      omega
theorem ba_ne {a b : ByteArray} (h : ¬ a = b) : ¬ a.toList = b.toList := fun e => h (toList_inj e)
theorem ba_nb {a b : ByteArray} (h : ¬ a = b) : (a.toList == b.toList) = false := beq_eq_false_iff_ne.2 (ba_ne h)

set_option maxHeartbeats 4000000 in
set_option maxRecDepth 100000 in
theorem obs_step (f d : Nat) (hdf : d + (f + 1) = 15) (hI : ObsC f (d + 1)) (r : RS) (w : World) (R : Nat) (he : 14 ≤ d → r.e ≠ 0) (h : RIn w R r) :
    Calls Try.prog 25 #[.pointer (some ⟨R, 0, none⟩), .int .i64 (d : Int)] w fun e w' => e = .returned (obsR (f + 1) r d).1.val ∧ (obsR (f + 1) r d).1.Ok ∧ RIn w' R (obsR (f + 1) r d).2 ∧ Grew R none w w' := by
  have HI : Hid (∀ (r : RS) (w : World) (R : Nat), (13 ≤ d → r.e ≠ 0) → RIn w R r → Calls Try.prog 25 #[.pointer (some ⟨R, 0, none⟩), .int .i64 ((d : Int) + 1)] w fun e w' => e = .returned (obsR f r (d + 1)).1.val ∧ (obsR f r (d + 1)).1.Ok ∧ RIn w' R (obsR f r (d + 1)).2 ∧ Grew R none w w') := fun r w R hr hR => hI r w R (fun hd => hr (by omega)) hR
  have H2 := hidIn (two_any f d (by omega) hI)
  clear hI
  have HH := hidIn h
  have HLT0 := hidIn h.lt
  have HSZ := hidIn (takeS_size h)
  have HDD : Hid (d + (f + 1) = 15) := hdf
  have HER := hidIn he
  clear h he
  go_enter Try.func25, Try.ntmps25
  go_wp2_with fail
  refine (first_any w R r d (by omega) HH.out).mono ?_
  rintro e w1 ⟨rfl, h1, hg1⟩
  have HR1 := hidIn h1
  have HG1 := hidIn hg1
  have HE1 : Hid (13 ≤ d → (firstR r d).e ≠ 0) := fun hd => firstR_deep r d (by omega)
  clear h1 hg1
  obtain ⟨s, hse⟩ : ∃ s, takeS r = s := ⟨_, rfl⟩
  have HSE := hidIn hse
  rw [hse] at HSZ
  rw [hse]
  clear hse
  unfold sgV
  go_upto_region 3 with fail
  obtain ⟨W, hW⟩ : ∃ W, W = w1.alloc (.cells #[.string s.1, .int .i64 s.2] 100) := ⟨_, rfl⟩
  have HBL : Hid (Below w1.heap.size w1 W) := by rw [hW]; exact below_alloc (Below.refl _ _) _
  have HBK : Hid (Blk W w1.heap.size 100 #[.string s.1, .int .i64 s.2]) := by rw [hW]; exact blk_new rfl
  have HR0 := hidIn (HR1.out.below HBL.out)
  have HG0 : Hid (Grew R none w W) := HG1.out.tr (Grew.of_below HBL.out)
  have c0 : W.cell? ⟨w1.heap.size, 0, none⟩ = some (.string s.1) := HBK.out.cell 0
  have c1 : W.cell? ⟨w1.heap.size, 1, none⟩ = some (.int .i64 s.2) := HBK.out.cell 1
  rw [← hW]
  clear hW HR1 HG1
  obtain ⟨r1, hr1⟩ : ∃ r1, firstR r d = r1 := ⟨_, rfl⟩
  rw [hr1] at HR0 HE1
  have HRR := hidIn hr1
  clear hr1

  by_cases k0 : s.1 = wFix
  · have HT : Hid (obsR (f + 1) r d = (.fix (takeS (markR r1 lpB)).1, markR (nameR (markR r1 lpB)) rpB)) := by show _ = _; rw [obsR, HSE.out, HRR.out, if_pos k0]
    have y : (s.1.toList == [102, 105, 120]) = true := by rw [tl_eq tlFix]; exact decide_eq_true k0
    clear k0
    go_wp2_with fail
    refine (mark_any W R r1 lpB HR0.out).mono ?_
    rintro e v1 ⟨rfl, h, hg⟩
    have HR1 := hidIn h
    have HG1 := hidIn (HG0.out.tr hg)
    clear h hg
    have HNS := hidIn (takeS_size HR1.out)
    go_wp2_with fail
    refine (rname_any _ R _ HR1.out).mono ?_
    rintro e v2 ⟨rfl, h, hg⟩
    have HR2 := hidIn h
    have HG2 := hidIn (HG1.out.tr hg)
    clear h hg
    go_wp2_with fail
    refine (mark_any _ R _ rpB HR2.out).mono ?_
    rintro e v3 ⟨rfl, h, hg⟩
    have HR3 := hidIn h
    have HG3 := hidIn (HG2.out.tr hg)
    clear h hg
    go_wp2_with fail
    go_ret
    rw [HT.out]
    exact ⟨rfl, HNS.out, HR3.out, HG3.out⟩
  by_cases k1 : s.1 = wAdd
  · have HT : Hid (obsR (f + 1) r d = (.add (pairF (fun q => obsR f q (d + 1)) r1).1 (pairF (fun q => obsR f q (d + 1)) r1).2.1, (pairF (fun q => obsR f q (d + 1)) r1).2.2)) := by show _ = _; rw [obsR, HSE.out, HRR.out, if_neg k0, if_pos k1]
    have n0 : (s.1.toList == [102, 105, 120]) = false := by rw [tl_eq tlFix]; exact decide_eq_false k0
    have y : (s.1.toList == [97, 100, 100]) = true := by rw [tl_eq tlAdd]; exact decide_eq_true k1
    clear k0 k1
    go_wp2_with fail
    refine (H2.out r1 W R HE1.out HR0.out).mono ?_
    rintro e v1 ⟨rfl, ho, ho2, h, hg⟩
    have HO1 := hidIn ho
    have HP1 := hidIn ho2
    clear ho ho2
    have HR1 := hidIn h
    have HG1 := hidIn (HG0.out.tr hg)
    clear h hg
    obtain ⟨xa, hxa⟩ : ∃ v, (pairF (fun q => obsR f q (d + 1)) r1).1.val = v := ⟨_, rfl⟩
    have HXa := hidIn hxa
    have qa := (pairF (fun q => obsR f q (d + 1)) r1).1.one' HO1.out
    rw [hxa] at qa
    rw [hxa]
    clear hxa
    have sva := qa.store
    have cva := qa.cells
    have mva := qa.cells
    unfold Value.cells at mva
    clear qa
    obtain ⟨xb, hxb⟩ : ∃ v, (pairF (fun q => obsR f q (d + 1)) r1).2.1.val = v := ⟨_, rfl⟩
    have HXb := hidIn hxb
    have qb := (pairF (fun q => obsR f q (d + 1)) r1).2.1.one' HP1.out
    rw [hxb] at qb
    rw [hxb]
    clear hxb
    have svb := qb.store
    have cvb := qb.cells
    have mvb := qb.cells
    unfold Value.cells at mvb
    clear qb
    go_wp2_with fail
    go_ret
    rw [HT.out]
    exact ⟨by show _ = Ending.returned (.iface _ (.agg #[O.val _, O.val _])); rw [HXa.out, HXb.out]; rfl, ⟨HO1.out, HP1.out⟩, HR1.out, HG1.out⟩
  by_cases k2 : s.1 = wNeg
  · have HT : Hid (obsR (f + 1) r d = (.neg (obsR f (markR r1 lpB) (d + 1)).1, markR (obsR f (markR r1 lpB) (d + 1)).2 rpB)) := by show _ = _; rw [obsR, HSE.out, HRR.out, if_neg k0, if_neg k1, if_pos k2]
    have n0 : (s.1.toList == [102, 105, 120]) = false := by rw [tl_eq tlFix]; exact decide_eq_false k0
    have n1 : (s.1.toList == [97, 100, 100]) = false := by rw [tl_eq tlAdd]; exact decide_eq_false k1
    have y : (s.1.toList == [110, 101, 103]) = true := by rw [tl_eq tlNeg]; exact decide_eq_true k2
    clear k0 k1 k2
    go_wp2_with fail
    refine (mark_any W R r1 lpB HR0.out).mono ?_
    rintro e v1 ⟨rfl, h, hg⟩
    have HR1 := hidIn h
    have HG1 := hidIn (HG0.out.tr hg)
    clear h hg
    go_wp2_with fail
    refine (HI.out _ _ R (fun hd => markR_e _ _ (HE1.out hd)) HR1.out).mono ?_
    rintro e v2 ⟨rfl, ho, h, hg⟩
    have HO2 := hidIn ho
    clear ho
    have HR2 := hidIn h
    have HG2 := hidIn (HG1.out.tr hg)
    clear h hg
    obtain ⟨xa, hxa⟩ : ∃ v, (obsR f (markR r1 lpB) (d + 1)).1.val = v := ⟨_, rfl⟩
    have HXa := hidIn hxa
    have qa := (obsR f (markR r1 lpB) (d + 1)).1.one' HO2.out
    rw [hxa] at qa
    rw [hxa]
    clear hxa
    have sva := qa.store
    have cva := qa.cells
    have mva := qa.cells
    unfold Value.cells at mva
    clear qa
    go_wp2_with fail
    refine (mark_any _ R _ rpB HR2.out).mono ?_
    rintro e v3 ⟨rfl, h, hg⟩
    have HR3 := hidIn h
    have HG3 := hidIn (HG2.out.tr hg)
    clear h hg
    go_wp2_with fail
    go_ret
    rw [HT.out]
    exact ⟨by show _ = Ending.returned (.iface _ (.agg #[O.val _])); rw [HXa.out]; rfl, HO2.out, HR3.out, HG3.out⟩
  by_cases k3 : s.1 = wMul
  · have HT : Hid (obsR (f + 1) r d = (.mul (pairF (fun q => obsR f q (d + 1)) r1).1 (pairF (fun q => obsR f q (d + 1)) r1).2.1, (pairF (fun q => obsR f q (d + 1)) r1).2.2)) := by show _ = _; rw [obsR, HSE.out, HRR.out, if_neg k0, if_neg k1, if_neg k2, if_pos k3]
    have n0 : (s.1.toList == [102, 105, 120]) = false := by rw [tl_eq tlFix]; exact decide_eq_false k0
    have n1 : (s.1.toList == [97, 100, 100]) = false := by rw [tl_eq tlAdd]; exact decide_eq_false k1
    have n2 : (s.1.toList == [110, 101, 103]) = false := by rw [tl_eq tlNeg]; exact decide_eq_false k2
    have y : (s.1.toList == [109, 117, 108]) = true := by rw [tl_eq tlMul]; exact decide_eq_true k3
    clear k0 k1 k2 k3
    go_wp2_with fail
    refine (H2.out r1 W R HE1.out HR0.out).mono ?_
    rintro e v1 ⟨rfl, ho, ho2, h, hg⟩
    have HO1 := hidIn ho
    have HP1 := hidIn ho2
    clear ho ho2
    have HR1 := hidIn h
    have HG1 := hidIn (HG0.out.tr hg)
    clear h hg
    obtain ⟨xa, hxa⟩ : ∃ v, (pairF (fun q => obsR f q (d + 1)) r1).1.val = v := ⟨_, rfl⟩
    have HXa := hidIn hxa
    have qa := (pairF (fun q => obsR f q (d + 1)) r1).1.one' HO1.out
    rw [hxa] at qa
    rw [hxa]
    clear hxa
    have sva := qa.store
    have cva := qa.cells
    have mva := qa.cells
    unfold Value.cells at mva
    clear qa
    obtain ⟨xb, hxb⟩ : ∃ v, (pairF (fun q => obsR f q (d + 1)) r1).2.1.val = v := ⟨_, rfl⟩
    have HXb := hidIn hxb
    have qb := (pairF (fun q => obsR f q (d + 1)) r1).2.1.one' HP1.out
    rw [hxb] at qb
    rw [hxb]
    clear hxb
    have svb := qb.store
    have cvb := qb.cells
    have mvb := qb.cells
    unfold Value.cells at mvb
    clear qb
    go_wp2_with fail
    go_ret
    rw [HT.out]
    exact ⟨by show _ = Ending.returned (.iface _ (.agg #[O.val _, O.val _])); rw [HXa.out, HXb.out]; rfl, ⟨HO1.out, HP1.out⟩, HR1.out, HG1.out⟩
  by_cases k4 : s.1 = wMax
  · have HT : Hid (obsR (f + 1) r d = (.max (pairF (fun q => obsR f q (d + 1)) r1).1 (pairF (fun q => obsR f q (d + 1)) r1).2.1, (pairF (fun q => obsR f q (d + 1)) r1).2.2)) := by show _ = _; rw [obsR, HSE.out, HRR.out, if_neg k0, if_neg k1, if_neg k2, if_neg k3, if_pos k4]
    have n0 : (s.1.toList == [102, 105, 120]) = false := by rw [tl_eq tlFix]; exact decide_eq_false k0
    have n1 : (s.1.toList == [97, 100, 100]) = false := by rw [tl_eq tlAdd]; exact decide_eq_false k1
    have n2 : (s.1.toList == [110, 101, 103]) = false := by rw [tl_eq tlNeg]; exact decide_eq_false k2
    have n3 : (s.1.toList == [109, 117, 108]) = false := by rw [tl_eq tlMul]; exact decide_eq_false k3
    have y : (s.1.toList == [109, 97, 120]) = true := by rw [tl_eq tlMax]; exact decide_eq_true k4
    clear k0 k1 k2 k3 k4
    go_wp2_with fail
    refine (H2.out r1 W R HE1.out HR0.out).mono ?_
    rintro e v1 ⟨rfl, ho, ho2, h, hg⟩
    have HO1 := hidIn ho
    have HP1 := hidIn ho2
    clear ho ho2
    have HR1 := hidIn h
    have HG1 := hidIn (HG0.out.tr hg)
    clear h hg
    obtain ⟨xa, hxa⟩ : ∃ v, (pairF (fun q => obsR f q (d + 1)) r1).1.val = v := ⟨_, rfl⟩
    have HXa := hidIn hxa
    have qa := (pairF (fun q => obsR f q (d + 1)) r1).1.one' HO1.out
    rw [hxa] at qa
    rw [hxa]
    clear hxa
    have sva := qa.store
    have cva := qa.cells
    have mva := qa.cells
    unfold Value.cells at mva
    clear qa
    obtain ⟨xb, hxb⟩ : ∃ v, (pairF (fun q => obsR f q (d + 1)) r1).2.1.val = v := ⟨_, rfl⟩
    have HXb := hidIn hxb
    have qb := (pairF (fun q => obsR f q (d + 1)) r1).2.1.one' HP1.out
    rw [hxb] at qb
    rw [hxb]
    clear hxb
    have svb := qb.store
    have cvb := qb.cells
    have mvb := qb.cells
    unfold Value.cells at mvb
    clear qb
    go_wp2_with fail
    go_ret
    rw [HT.out]
    exact ⟨by show _ = Ending.returned (.iface _ (.agg #[O.val _, O.val _])); rw [HXa.out, HXb.out]; rfl, ⟨HO1.out, HP1.out⟩, HR1.out, HG1.out⟩
  have HT : Hid (obsR (f + 1) r d = (.const (Rn.numOf s.1.data.toList).1, fitR r1 s (Rn.numOf s.1.data.toList).2)) := by show _ = _; rw [obsR, HSE.out, HRR.out, if_neg k0, if_neg k1, if_neg k2, if_neg k3, if_neg k4]
  have n0 : (s.1.toList == [102, 105, 120]) = false := by rw [tl_eq tlFix]; exact decide_eq_false k0
  have n1 : (s.1.toList == [97, 100, 100]) = false := by rw [tl_eq tlAdd]; exact decide_eq_false k1
  have n2 : (s.1.toList == [110, 101, 103]) = false := by rw [tl_eq tlNeg]; exact decide_eq_false k2
  have n3 : (s.1.toList == [109, 117, 108]) = false := by rw [tl_eq tlMul]; exact decide_eq_false k3
  have n4 : (s.1.toList == [109, 97, 120]) = false := by rw [tl_eq tlMax]; exact decide_eq_false k4
  clear k0 k1 k2 k3 k4
  go_wp2_with fail
  refine (Rn.number_any s.1 W (by have := HSZ.out; unfold maxLen; omega)).mono ?_
  rintro e w2 ⟨rfl, hb2⟩
  have hk := HBK.out.below hb2 HBK.out.lt
  have d0 : w2.cell? ⟨w1.heap.size, 0, none⟩ = some (.string s.1) := hk.cell 0
  have d1 : w2.cell? ⟨w1.heap.size, 1, none⟩ = some (.int .i64 s.2) := hk.cell 1
  have HR1 := hidIn (HR0.out.below hb2)
  have HG1 := hidIn (HG0.out.tr (Grew.of_below hb2))
  have HNB := hidIn (numOf_bd s.1.data.toList)
  clear hb2 hk c0 c1
  go_wp2_with fail
  refine (fit_any _ R r1 s _ HR1.out).mono ?_
  rintro e v2 ⟨rfl, h, hg⟩
  have HR2 := hidIn h
  have HG2 := hidIn (HG1.out.tr hg)
  clear h hg
  go_wp2_with fail
  go_ret
  rw [HT.out]
  exact ⟨rfl, HNB.out, HR2.out, HG2.out⟩
theorem dead_first (r : RS) (d : Nat) (h : r.e ≠ 0) : firstR r d = r := by
  have h1 : takeR r = r := by unfold takeR; rw [if_neg h]
  unfold firstR
  rw [h1]
  split
  · unfold refuseR; rw [if_neg h]
  · rfl
theorem dead_fit (r : RS) (s : Rn.Sg) (h : r.e ≠ 0) : fitR r s false = r := by
  unfold fitR refuseR
  rw [if_neg (by decide), if_neg h]
set_option maxHeartbeats 4000000 in
set_option maxRecDepth 100000 in
theorem obs_dead (d : Nat) (hd : d ≤ 15) (r : RS) (w : World) (R : Nat) (he : r.e ≠ 0) (h : RIn w R r) :
    Calls Try.prog 25 #[.pointer (some ⟨R, 0, none⟩), .int .i64 (d : Int)] w fun e w' => e = .returned (O.const 0).val ∧ RIn w' R r ∧ Grew R none w w' := by
  have hdf : d + (0 + 1) ≤ 16 := by omega
  have HDE : Hid (takeS r = (⟨#[]⟩, r.past) ∧ firstR r d = r ∧ ∀ s, fitR r s false = r) := ⟨takeS_none r he, dead_first r d he, fun s => dead_fit r s he⟩
  clear he
  have HH := hidIn h
  have HLT0 := hidIn h.lt
  have HSZ := hidIn (takeS_size h)
  clear h
  go_enter Try.func25, Try.ntmps25
  go_wp2_with fail
  refine (first_any w R r d (by omega) HH.out).mono ?_
  rintro e w1 ⟨rfl, h1, hg1⟩
  have HR1 := hidIn h1
  have HG1 := hidIn hg1
  clear h1 hg1
  obtain ⟨s, hse⟩ : ∃ s, takeS r = s := ⟨_, rfl⟩
  have HSE := hidIn hse
  rw [hse] at HSZ
  rw [hse]
  clear hse
  unfold sgV
  go_upto_region 3 with fail
  obtain ⟨W, hW⟩ : ∃ W, W = w1.alloc (.cells #[.string s.1, .int .i64 s.2] 100) := ⟨_, rfl⟩
  have HBL : Hid (Below w1.heap.size w1 W) := by rw [hW]; exact below_alloc (Below.refl _ _) _
  have HBK : Hid (Blk W w1.heap.size 100 #[.string s.1, .int .i64 s.2]) := by rw [hW]; exact blk_new rfl
  have HR0 := hidIn (HR1.out.below HBL.out)
  have HG0 : Hid (Grew R none w W) := HG1.out.tr (Grew.of_below HBL.out)
  have c0 : W.cell? ⟨w1.heap.size, 0, none⟩ = some (.string s.1) := HBK.out.cell 0
  have c1 : W.cell? ⟨w1.heap.size, 1, none⟩ = some (.int .i64 s.2) := HBK.out.cell 1
  rw [← hW]
  clear hW HR1 HG1
  obtain ⟨r1, hr1⟩ : ∃ r1, firstR r d = r1 := ⟨_, rfl⟩
  rw [hr1] at HR0
  have HRR := hidIn hr1
  clear hr1
  have hs0 : s = (⟨#[]⟩, r.past) := HSE.out.symm.trans HDE.out.1
  have hrr : r1 = r := HRR.out.symm.trans HDE.out.2.1
  have n0 : (s.1.toList == [102, 105, 120]) = false := by rw [tl_eq tlFix, hs0]; show decide ((⟨#[]⟩ : ByteArray) = wFix) = false; decide
  have n1 : (s.1.toList == [97, 100, 100]) = false := by rw [tl_eq tlAdd, hs0]; show decide ((⟨#[]⟩ : ByteArray) = wAdd) = false; decide
  have n2 : (s.1.toList == [110, 101, 103]) = false := by rw [tl_eq tlNeg, hs0]; show decide ((⟨#[]⟩ : ByteArray) = wNeg) = false; decide
  have n3 : (s.1.toList == [109, 117, 108]) = false := by rw [tl_eq tlMul, hs0]; show decide ((⟨#[]⟩ : ByteArray) = wMul) = false; decide
  have n4 : (s.1.toList == [109, 97, 120]) = false := by rw [tl_eq tlMax, hs0]; show decide ((⟨#[]⟩ : ByteArray) = wMax) = false; decide
  have HS0 := hidIn hs0
  have HR9 := hidIn hrr
  clear hs0 hrr
  go_wp2_with fail
  refine (Rn.number_any s.1 W (by have := HSZ.out; unfold maxLen; omega)).mono ?_
  rintro e w2 ⟨rfl, hb2⟩
  have hk := HBK.out.below hb2 HBK.out.lt
  have d0 : w2.cell? ⟨w1.heap.size, 0, none⟩ = some (.string s.1) := hk.cell 0
  have d1 : w2.cell? ⟨w1.heap.size, 1, none⟩ = some (.int .i64 s.2) := hk.cell 1
  have HR1 := hidIn (HR0.out.below hb2)
  have HG1 := hidIn (HG0.out.tr (Grew.of_below hb2))
  clear hb2 hk c0 c1
  have hn0 : Rn.numOf s.1.data.toList = (0, false) := by rw [HS0.out]; rfl
  rw [hn0]
  clear hn0
  go_wp2_with fail
  refine (fit_any _ R r1 s _ HR1.out).mono ?_
  rintro e v2 ⟨rfl, h, hg⟩
  have HR2 := hidIn h
  have HG2 := hidIn (HG1.out.tr hg)
  clear h hg
  go_wp2_with fail
  go_ret
  have h2 := HR2.out
  rw [HR9.out, HDE.out.2.2] at h2
  exact ⟨rfl, h2, HG2.out⟩
theorem obs_all : ∀ f d, d + f = 15 → ObsC f d := by
  intro f
  induction f with
  | zero =>
    intro d hd r w R he h
    refine (obs_dead d (by omega) r w R (he (by omega)) h).mono ?_
    rintro e w' ⟨rfl, h1, h2⟩
    exact ⟨rfl, by show _ ∧ _; decide, h1, h2⟩
  | succ f ih =>
    intro d hd r w R he h
    exact obs_step f d hd (ih (d + 1) (by omega)) r w R he h

end Go.Proofs.Ythhjcpmnekibnaa
namespace Go.Proofs.Ythhjcpmnekibnaa
open Go.RowKit
set_option linter.unusedVariables false

theorem termR_e (f : Nat) : ∀ r d, r.e ≠ 0 → (termR f r d).2.e ≠ 0 := by
  induction f with
  | zero => intro r d h; exact h
  | succ f ih =>
    intro r d h
    have h1 := firstR_e r d h
    have ih' : ∀ q, q.e ≠ 0 → ((fun q => termR f q (d + 1)) q).2.e ≠ 0 := fun q hq => ih q (d + 1) hq
    unfold termR
    repeat' split
    · exact h1
    · exact markR_e _ _ (nameR_e _ (markR_e _ _ h1))
    · exact lastF_e _ ih' _ (markR_e _ _ h1)
    · exact lastsF_e _ ih' _ (markR_e _ _ h1)
    · exact lastsF_e _ ih' _ (markR_e _ _ (nameR_e _ (markR_e _ _ h1)))
    · exact lastF_e _ ih' _ (markR_e _ _ (obsR_e _ _ _ (markR_e _ _ h1)))
    · exact lastF_e _ ih' _ (markR_e _ _ (dayR_e _ (markR_e _ _ h1)))
    · exact lastsF_e _ ih' _ (markR_e _ _ (obsR_e _ _ _ (markR_e _ _ h1)))
    · exact fitR_e _ _ _ h1

set_option maxHeartbeats 1000000 in
set_option maxRecDepth 100000 in
theorem last_any (f d : Nat) (hd : d ≤ 100) (hI : TermC f (d + 1)) (r : RS) (w : World) (R : Nat) (he : 13 ≤ d → r.e ≠ 0) (h : RIn w R r) :
    Calls Try.prog 35 #[.pointer (some ⟨R, 0, none⟩), .int .i64 (d : Int)] w fun e w' => e = .returned (lastF (fun q => termR f q (d + 1)) r).1.val ∧ (lastF (fun q => termR f q (d + 1)) r).1.Ok ∧ RIn w' R (lastF (fun q => termR f q (d + 1)) r).2 ∧ Grew R none w w' := by
  have HI : Hid (∀ (r : RS) (w : World) (R : Nat), (13 ≤ d → r.e ≠ 0) → RIn w R r → Calls Try.prog 17 #[.pointer (some ⟨R, 0, none⟩), .int .i64 ((d : Int) + 1)] w fun e w' => e = .returned (termR f r (d + 1)).1.val ∧ (termR f r (d + 1)).1.Ok ∧ RIn w' R (termR f r (d + 1)).2 ∧ Grew R none w w') := fun r w R hr hR => hI r w R (fun hd => hr (by omega)) hR
  have HH := hidIn h
  have HE0 := hidIn he
  clear h hI he
  unfold lastF
  go_enter Try.func35, Try.ntmps35
  go_wp2_with fail
  refine (HI.out _ w R HE0.out HH.out).mono ?_
  rintro e w2 ⟨rfl, hok2, h2, hg2⟩
  have HR2 := hidIn h2
  have HO2 := hidIn hok2
  have HG2 := hidIn hg2
  clear h2 hg2 hok2
  go_wp2_with fail
  refine (mark_any w2 R _ rpB HR2.out).mono ?_
  rintro e w3 ⟨rfl, h3, hg3⟩
  have HR3 := hidIn h3
  have HG3 := hidIn (HG2.out.tr hg3)
  clear h3 hg3
  go_wp2_with fail
  go_ret
  exact ⟨rfl, HO2.out, HR3.out, HG3.out⟩
set_option maxHeartbeats 1000000 in
set_option maxRecDepth 100000 in
theorem lasts_any (f d : Nat) (hd : d ≤ 100) (hI : TermC f (d + 1)) (r : RS) (w : World) (R : Nat) (he : 13 ≤ d → r.e ≠ 0) (h : RIn w R r) :
    Calls Try.prog 36 #[.pointer (some ⟨R, 0, none⟩), .int .i64 (d : Int)] w fun e w' => e = .returned (.tuple #[(lastsF (fun q => termR f q (d + 1)) r).1.val, (lastsF (fun q => termR f q (d + 1)) r).2.1.val]) ∧ (lastsF (fun q => termR f q (d + 1)) r).1.Ok ∧ (lastsF (fun q => termR f q (d + 1)) r).2.1.Ok ∧ RIn w' R (lastsF (fun q => termR f q (d + 1)) r).2.2 ∧ Grew R none w w' := by
  have HI : Hid (∀ (r : RS) (w : World) (R : Nat), (13 ≤ d → r.e ≠ 0) → RIn w R r → Calls Try.prog 17 #[.pointer (some ⟨R, 0, none⟩), .int .i64 ((d : Int) + 1)] w fun e w' => e = .returned (termR f r (d + 1)).1.val ∧ (termR f r (d + 1)).1.Ok ∧ RIn w' R (termR f r (d + 1)).2 ∧ Grew R none w w') := fun r w R hr hR => hI r w R (fun hd => hr (by omega)) hR
  have HL := hidIn (last_any f d hd hI)
  have HH := hidIn h
  have HE0 := hidIn he
  clear h hI he
  unfold lastsF
  go_enter Try.func36, Try.ntmps36
  go_wp2_with fail
  refine (HI.out _ w R HE0.out HH.out).mono ?_
  rintro e w2 ⟨rfl, hok2, h2, hg2⟩
  have HR2 := hidIn h2
  have HO2 := hidIn hok2
  have HG2 := hidIn hg2
  have HE2 : Hid (13 ≤ d → (termR f r (d + 1)).2.e ≠ 0) := fun hd => termR_e _ _ _ (HE0.out hd)
  clear h2 hg2 hok2
  go_wp2_with fail
  refine (mark_any w2 R _ cmB HR2.out).mono ?_
  rintro e w3 ⟨rfl, h3, hg3⟩
  have HR3 := hidIn h3
  have HG3 := hidIn (HG2.out.tr hg3)
  clear h3 hg3
  go_wp2_with fail
  refine (HL.out _ w3 R (fun hd => markR_e _ _ (HE2.out hd)) HR3.out).mono ?_
  rintro e w4 ⟨rfl, hok4, h4, hg4⟩
  have HR4 := hidIn h4
  have HO4 := hidIn hok4
  have HG4 := hidIn (HG3.out.tr hg4)
  clear h4 hg4 hok4
  go_wp2_with fail
  go_ret2
  exact ⟨rfl, HO2.out, HO4.out, HR4.out, HG4.out⟩

set_option maxHeartbeats 4000000 in
set_option maxRecDepth 100000 in
theorem term_step (f d : Nat) (hdf : d + (f + 1) = 15) (hI : TermC f (d + 1)) (r : RS) (w : World) (R : Nat) (he : 14 ≤ d → r.e ≠ 0) (h : RIn w R r) :
    Calls Try.prog 17 #[.pointer (some ⟨R, 0, none⟩), .int .i64 (d : Int)] w fun e w' => e = .returned (termR (f + 1) r d).1.val ∧ (termR (f + 1) r d).1.Ok ∧ RIn w' R (termR (f + 1) r d).2 ∧ Grew R none w w' := by
  have hO := obs_all f (d + 1) (by omega)
  have HI : Hid (∀ (r : RS) (w : World) (R : Nat), (13 ≤ d → r.e ≠ 0) → RIn w R r → Calls Try.prog 25 #[.pointer (some ⟨R, 0, none⟩), .int .i64 ((d : Int) + 1)] w fun e w' => e = .returned (obsR f r (d + 1)).1.val ∧ (obsR f r (d + 1)).1.Ok ∧ RIn w' R (obsR f r (d + 1)).2 ∧ Grew R none w w') := fun r w R hr hR => hO r w R (fun hd => hr (by omega)) hR
  have HL1 := hidIn (last_any f d (by omega) hI)
  have HL2 := hidIn (lasts_any f d (by omega) hI)
  clear hI hO
  have HH := hidIn h
  have HLT0 := hidIn h.lt
  have HSZ := hidIn (takeS_size h)
  have HDD : Hid (d + (f + 1) = 15) := hdf
  have HER := hidIn he
  clear h he
  go_enter Try.func17, Try.ntmps17
  go_wp2_with fail
  refine (first_any w R r d (by omega) HH.out).mono ?_
  rintro e w1 ⟨rfl, h1, hg1⟩
  have HR1 := hidIn h1
  have HG1 := hidIn hg1
  have HE1 : Hid (13 ≤ d → (firstR r d).e ≠ 0) := fun hd => firstR_deep r d (by omega)
  clear h1 hg1
  obtain ⟨s, hse⟩ : ∃ s, takeS r = s := ⟨_, rfl⟩
  have HSE := hidIn hse
  rw [hse] at HSZ
  rw [hse]
  clear hse
  unfold sgV
  go_upto_region 3 with fail
  obtain ⟨W, hW⟩ : ∃ W, W = w1.alloc (.cells #[.string s.1, .int .i64 s.2] 100) := ⟨_, rfl⟩
  have HBL : Hid (Below w1.heap.size w1 W) := by rw [hW]; exact below_alloc (Below.refl _ _) _
  have HBK : Hid (Blk W w1.heap.size 100 #[.string s.1, .int .i64 s.2]) := by rw [hW]; exact blk_new rfl
  have HR0 := hidIn (HR1.out.below HBL.out)
  have HG0 : Hid (Grew R none w W) := HG1.out.tr (Grew.of_below HBL.out)
  have c0 : W.cell? ⟨w1.heap.size, 0, none⟩ = some (.string s.1) := HBK.out.cell 0
  have c1 : W.cell? ⟨w1.heap.size, 1, none⟩ = some (.int .i64 s.2) := HBK.out.cell 1
  rw [← hW]
  clear hW HR1 HG1
  obtain ⟨r1, hr1⟩ : ∃ r1, firstR r d = r1 := ⟨_, rfl⟩
  rw [hr1] at HR0 HE1
  have HRR := hidIn hr1
  clear hr1

  by_cases k0 : s.1 = wZero
  · have HT : Hid (termR (f + 1) r d = (.zero, r1)) := by show _ = _; rw [termR, HSE.out, HRR.out, if_pos k0]
    have y : (s.1.toList == [122, 101, 114, 111]) = true := by rw [tl_eq tlZero]; exact decide_eq_true k0
    clear k0
    go_wp2_with fail
    go_ret
    rw [HT.out]
    exact ⟨rfl, trivial, HR0.out, HG0.out⟩
  by_cases k1 : s.1 = wOne
  · have HT : Hid (termR (f + 1) r d = (.one (takeS (markR r1 lpB)).1, markR (nameR (markR r1 lpB)) rpB)) := by show _ = _; rw [termR, HSE.out, HRR.out, if_neg k0, if_pos k1]
    have n0 : (s.1.toList == [122, 101, 114, 111]) = false := by rw [tl_eq tlZero]; exact decide_eq_false k0
    have y : (s.1.toList == [111, 110, 101]) = true := by rw [tl_eq tlOne]; exact decide_eq_true k1
    clear k0 k1
    go_wp2_with fail
    refine (mark_any W R r1 lpB HR0.out).mono ?_
    rintro e v1 ⟨rfl, h, hg⟩
    have HR1 := hidIn h
    have HG1 := hidIn (HG0.out.tr hg)
    clear h hg
    have HNS := hidIn (takeS_size HR1.out)
    go_wp2_with fail
    refine (rname_any _ R _ HR1.out).mono ?_
    rintro e v2 ⟨rfl, h, hg⟩
    have HR2 := hidIn h
    have HG2 := hidIn (HG1.out.tr hg)
    clear h hg
    go_wp2_with fail
    refine (mark_any _ R _ rpB HR2.out).mono ?_
    rintro e v3 ⟨rfl, h, hg⟩
    have HR3 := hidIn h
    have HG3 := hidIn (HG2.out.tr hg)
    clear h hg
    go_wp2_with fail
    go_ret
    rw [HT.out]
    exact ⟨rfl, HNS.out, HR3.out, HG3.out⟩
  by_cases k2 : s.1 = wGive
  · have HT : Hid (termR (f + 1) r d = (.give (lastF (fun q => termR f q (d + 1)) (markR r1 lpB)).1, (lastF (fun q => termR f q (d + 1)) (markR r1 lpB)).2)) := by show _ = _; rw [termR, HSE.out, HRR.out, if_neg k0, if_neg k1, if_pos k2]
    have n0 : (s.1.toList == [122, 101, 114, 111]) = false := by rw [tl_eq tlZero]; exact decide_eq_false k0
    have n1 : (s.1.toList == [111, 110, 101]) = false := by rw [tl_eq tlOne]; exact decide_eq_false k1
    have y : (s.1.toList == [103, 105, 118, 101]) = true := by rw [tl_eq tlGive]; exact decide_eq_true k2
    clear k0 k1 k2
    go_wp2_with fail
    refine (mark_any W R r1 lpB HR0.out).mono ?_
    rintro e v1 ⟨rfl, h, hg⟩
    have HR1 := hidIn h
    have HG1 := hidIn (HG0.out.tr hg)
    clear h hg
    go_wp2_with fail
    refine (HL1.out _ _ R (fun hd => markR_e _ _ (HE1.out hd)) HR1.out).mono ?_
    rintro e v2 ⟨rfl, ho, h, hg⟩
    have HO2 := hidIn ho
    clear ho
    have HR2 := hidIn h
    have HG2 := hidIn (HG1.out.tr hg)
    clear h hg
    obtain ⟨xa, hxa⟩ : ∃ v, (lastF (fun q => termR f q (d + 1)) (markR r1 lpB)).1.val = v := ⟨_, rfl⟩
    have HXa := hidIn hxa
    have qa := (lastF (fun q => termR f q (d + 1)) (markR r1 lpB)).1.one' HO2.out
    rw [hxa] at qa
    rw [hxa]
    clear hxa
    have sva := qa.store
    have cva := qa.cells
    have mva := qa.cells
    unfold Value.cells at mva
    clear qa
    go_wp2_with fail
    go_ret
    rw [HT.out]
    exact ⟨by show _ = Ending.returned (.iface _ (.agg #[C.val _])); rw [HXa.out]; rfl, HO2.out, HR2.out, HG2.out⟩
  by_cases k3 : s.1 = wAnd
  · have HT : Hid (termR (f + 1) r d = (.and (lastsF (fun q => termR f q (d + 1)) (markR r1 lpB)).1 (lastsF (fun q => termR f q (d + 1)) (markR r1 lpB)).2.1, (lastsF (fun q => termR f q (d + 1)) (markR r1 lpB)).2.2)) := by show _ = _; rw [termR, HSE.out, HRR.out, if_neg k0, if_neg k1, if_neg k2, if_pos k3]
    have n0 : (s.1.toList == [122, 101, 114, 111]) = false := by rw [tl_eq tlZero]; exact decide_eq_false k0
    have n1 : (s.1.toList == [111, 110, 101]) = false := by rw [tl_eq tlOne]; exact decide_eq_false k1
    have n2 : (s.1.toList == [103, 105, 118, 101]) = false := by rw [tl_eq tlGive]; exact decide_eq_false k2
    have y : (s.1.toList == [97, 110, 100]) = true := by rw [tl_eq tlAnd]; exact decide_eq_true k3
    clear k0 k1 k2 k3
    go_wp2_with fail
    refine (mark_any W R r1 lpB HR0.out).mono ?_
    rintro e v1 ⟨rfl, h, hg⟩
    have HR1 := hidIn h
    have HG1 := hidIn (HG0.out.tr hg)
    clear h hg
    go_wp2_with fail
    refine (HL2.out _ _ R (fun hd => markR_e _ _ (HE1.out hd)) HR1.out).mono ?_
    rintro e v2 ⟨rfl, ho, ho2, h, hg⟩
    have HO2 := hidIn ho
    have HP2 := hidIn ho2
    clear ho ho2
    have HR2 := hidIn h
    have HG2 := hidIn (HG1.out.tr hg)
    clear h hg
    obtain ⟨xa, hxa⟩ : ∃ v, (lastsF (fun q => termR f q (d + 1)) (markR r1 lpB)).1.val = v := ⟨_, rfl⟩
    have HXa := hidIn hxa
    have qa := (lastsF (fun q => termR f q (d + 1)) (markR r1 lpB)).1.one' HO2.out
    rw [hxa] at qa
    rw [hxa]
    clear hxa
    have sva := qa.store
    have cva := qa.cells
    have mva := qa.cells
    unfold Value.cells at mva
    clear qa
    obtain ⟨xb, hxb⟩ : ∃ v, (lastsF (fun q => termR f q (d + 1)) (markR r1 lpB)).2.1.val = v := ⟨_, rfl⟩
    have HXb := hidIn hxb
    have qb := (lastsF (fun q => termR f q (d + 1)) (markR r1 lpB)).2.1.one' HP2.out
    rw [hxb] at qb
    rw [hxb]
    clear hxb
    have svb := qb.store
    have cvb := qb.cells
    have mvb := qb.cells
    unfold Value.cells at mvb
    clear qb
    go_wp2_with fail
    go_ret
    rw [HT.out]
    exact ⟨by show _ = Ending.returned (.iface _ (.agg #[C.val _, C.val _])); rw [HXa.out, HXb.out]; rfl, ⟨HO2.out, HP2.out⟩, HR2.out, HG2.out⟩
  by_cases k4 : s.1 = wOr
  · have HT : Hid (termR (f + 1) r d = (.or (takeS (markR r1 lpB)).1 (lastsF (fun q => termR f q (d + 1)) (markR (nameR (markR r1 lpB)) cmB)).1 (lastsF (fun q => termR f q (d + 1)) (markR (nameR (markR r1 lpB)) cmB)).2.1, (lastsF (fun q => termR f q (d + 1)) (markR (nameR (markR r1 lpB)) cmB)).2.2)) := by show _ = _; rw [termR, HSE.out, HRR.out, if_neg k0, if_neg k1, if_neg k2, if_neg k3, if_pos k4]
    have n0 : (s.1.toList == [122, 101, 114, 111]) = false := by rw [tl_eq tlZero]; exact decide_eq_false k0
    have n1 : (s.1.toList == [111, 110, 101]) = false := by rw [tl_eq tlOne]; exact decide_eq_false k1
    have n2 : (s.1.toList == [103, 105, 118, 101]) = false := by rw [tl_eq tlGive]; exact decide_eq_false k2
    have n3 : (s.1.toList == [97, 110, 100]) = false := by rw [tl_eq tlAnd]; exact decide_eq_false k3
    have y : (s.1.toList == [111, 114]) = true := by rw [tl_eq tlOr]; exact decide_eq_true k4
    clear k0 k1 k2 k3 k4
    go_wp2_with fail
    refine (mark_any W R r1 lpB HR0.out).mono ?_
    rintro e v1 ⟨rfl, h, hg⟩
    have HR1 := hidIn h
    have HG1 := hidIn (HG0.out.tr hg)
    clear h hg
    have HNS := hidIn (takeS_size HR1.out)
    go_wp2_with fail
    refine (rname_any _ R _ HR1.out).mono ?_
    rintro e v2 ⟨rfl, h, hg⟩
    have HR2 := hidIn h
    have HG2 := hidIn (HG1.out.tr hg)
    clear h hg
    go_wp2_with fail
    refine (mark_any _ R _ cmB HR2.out).mono ?_
    rintro e v3 ⟨rfl, h, hg⟩
    have HR3 := hidIn h
    have HG3 := hidIn (HG2.out.tr hg)
    clear h hg
    go_wp2_with fail
    refine (HL2.out _ _ R (fun hd => markR_e _ _ (nameR_e _ (markR_e _ _ (HE1.out hd)))) HR3.out).mono ?_
    rintro e v4 ⟨rfl, ho, ho2, h, hg⟩
    have HO4 := hidIn ho
    have HP4 := hidIn ho2
    clear ho ho2
    have HR4 := hidIn h
    have HG4 := hidIn (HG3.out.tr hg)
    clear h hg
    obtain ⟨xa, hxa⟩ : ∃ v, (lastsF (fun q => termR f q (d + 1)) (markR (nameR (markR r1 lpB)) cmB)).1.val = v := ⟨_, rfl⟩
    have HXa := hidIn hxa
    have qa := (lastsF (fun q => termR f q (d + 1)) (markR (nameR (markR r1 lpB)) cmB)).1.one' HO4.out
    rw [hxa] at qa
    rw [hxa]
    clear hxa
    have sva := qa.store
    have cva := qa.cells
    have mva := qa.cells
    unfold Value.cells at mva
    clear qa
    obtain ⟨xb, hxb⟩ : ∃ v, (lastsF (fun q => termR f q (d + 1)) (markR (nameR (markR r1 lpB)) cmB)).2.1.val = v := ⟨_, rfl⟩
    have HXb := hidIn hxb
    have qb := (lastsF (fun q => termR f q (d + 1)) (markR (nameR (markR r1 lpB)) cmB)).2.1.one' HP4.out
    rw [hxb] at qb
    rw [hxb]
    clear hxb
    have svb := qb.store
    have cvb := qb.cells
    have mvb := qb.cells
    unfold Value.cells at mvb
    clear qb
    go_wp2_with fail
    go_ret
    rw [HT.out]
    exact ⟨by show _ = Ending.returned (.iface _ (.agg #[_, C.val _, C.val _])); rw [HXa.out, HXb.out]; rfl, ⟨HNS.out, HO4.out, HP4.out⟩, HR4.out, HG4.out⟩
  by_cases k5 : s.1 = wScale
  · have HT : Hid (termR (f + 1) r d = (.scale (obsR f (markR r1 lpB) (d + 1)).1 (lastF (fun q => termR f q (d + 1)) (markR (obsR f (markR r1 lpB) (d + 1)).2 cmB)).1, (lastF (fun q => termR f q (d + 1)) (markR (obsR f (markR r1 lpB) (d + 1)).2 cmB)).2)) := by show _ = _; rw [termR, HSE.out, HRR.out, if_neg k0, if_neg k1, if_neg k2, if_neg k3, if_neg k4, if_pos k5]
    have n0 : (s.1.toList == [122, 101, 114, 111]) = false := by rw [tl_eq tlZero]; exact decide_eq_false k0
    have n1 : (s.1.toList == [111, 110, 101]) = false := by rw [tl_eq tlOne]; exact decide_eq_false k1
    have n2 : (s.1.toList == [103, 105, 118, 101]) = false := by rw [tl_eq tlGive]; exact decide_eq_false k2
    have n3 : (s.1.toList == [97, 110, 100]) = false := by rw [tl_eq tlAnd]; exact decide_eq_false k3
    have n4 : (s.1.toList == [111, 114]) = false := by rw [tl_eq tlOr]; exact decide_eq_false k4
    have y : (s.1.toList == [115, 99, 97, 108, 101]) = true := by rw [tl_eq tlScale]; exact decide_eq_true k5
    clear k0 k1 k2 k3 k4 k5
    go_wp2_with fail
    refine (mark_any W R r1 lpB HR0.out).mono ?_
    rintro e v1 ⟨rfl, h, hg⟩
    have HR1 := hidIn h
    have HG1 := hidIn (HG0.out.tr hg)
    clear h hg
    go_wp2_with fail
    refine (HI.out _ _ R (fun hd => markR_e _ _ (HE1.out hd)) HR1.out).mono ?_
    rintro e v2 ⟨rfl, ho, h, hg⟩
    have HO2 := hidIn ho
    clear ho
    have HR2 := hidIn h
    have HG2 := hidIn (HG1.out.tr hg)
    clear h hg
    obtain ⟨xa, hxa⟩ : ∃ v, (obsR f (markR r1 lpB) (d + 1)).1.val = v := ⟨_, rfl⟩
    have HXa := hidIn hxa
    have qa := (obsR f (markR r1 lpB) (d + 1)).1.one' HO2.out
    rw [hxa] at qa
    rw [hxa]
    clear hxa
    have sva := qa.store
    have cva := qa.cells
    have mva := qa.cells
    unfold Value.cells at mva
    clear qa
    go_wp2_with fail
    refine (mark_any _ R _ cmB HR2.out).mono ?_
    rintro e v3 ⟨rfl, h, hg⟩
    have HR3 := hidIn h
    have HG3 := hidIn (HG2.out.tr hg)
    clear h hg
    go_wp2_with fail
    refine (HL1.out _ _ R (fun hd => markR_e _ _ (obsR_e _ _ _ (markR_e _ _ (HE1.out hd)))) HR3.out).mono ?_
    rintro e v4 ⟨rfl, ho, h, hg⟩
    have HO4 := hidIn ho
    clear ho
    have HR4 := hidIn h
    have HG4 := hidIn (HG3.out.tr hg)
    clear h hg
    obtain ⟨xb, hxb⟩ : ∃ v, (lastF (fun q => termR f q (d + 1)) (markR (obsR f (markR r1 lpB) (d + 1)).2 cmB)).1.val = v := ⟨_, rfl⟩
    have HXb := hidIn hxb
    have qb := (lastF (fun q => termR f q (d + 1)) (markR (obsR f (markR r1 lpB) (d + 1)).2 cmB)).1.one' HO4.out
    rw [hxb] at qb
    rw [hxb]
    clear hxb
    have svb := qb.store
    have cvb := qb.cells
    have mvb := qb.cells
    unfold Value.cells at mvb
    clear qb
    go_wp2_with fail
    go_ret
    rw [HT.out]
    exact ⟨by show _ = Ending.returned (.iface _ (.agg #[O.val _, C.val _])); rw [HXa.out, HXb.out]; rfl, ⟨HO2.out, HO4.out⟩, HR4.out, HG4.out⟩
  by_cases k6 : s.1 = wWhen
  · have HT : Hid (termR (f + 1) r d = (.when (dayV (markR r1 lpB)) (lastF (fun q => termR f q (d + 1)) (markR (dayR (markR r1 lpB)) cmB)).1, (lastF (fun q => termR f q (d + 1)) (markR (dayR (markR r1 lpB)) cmB)).2)) := by show _ = _; rw [termR, HSE.out, HRR.out, if_neg k0, if_neg k1, if_neg k2, if_neg k3, if_neg k4, if_neg k5, if_pos k6]
    have n0 : (s.1.toList == [122, 101, 114, 111]) = false := by rw [tl_eq tlZero]; exact decide_eq_false k0
    have n1 : (s.1.toList == [111, 110, 101]) = false := by rw [tl_eq tlOne]; exact decide_eq_false k1
    have n2 : (s.1.toList == [103, 105, 118, 101]) = false := by rw [tl_eq tlGive]; exact decide_eq_false k2
    have n3 : (s.1.toList == [97, 110, 100]) = false := by rw [tl_eq tlAnd]; exact decide_eq_false k3
    have n4 : (s.1.toList == [111, 114]) = false := by rw [tl_eq tlOr]; exact decide_eq_false k4
    have n5 : (s.1.toList == [115, 99, 97, 108, 101]) = false := by rw [tl_eq tlScale]; exact decide_eq_false k5
    have y : (s.1.toList == [119, 104, 101, 110]) = true := by rw [tl_eq tlWhen]; exact decide_eq_true k6
    clear k0 k1 k2 k3 k4 k5 k6
    go_wp2_with fail
    refine (mark_any W R r1 lpB HR0.out).mono ?_
    rintro e v1 ⟨rfl, h, hg⟩
    have HR1 := hidIn h
    have HG1 := hidIn (HG0.out.tr hg)
    clear h hg
    have HNB := hidIn (numOf_bd (takeS (markR r1 lpB)).1.data.toList)
    go_wp2_with fail
    refine (rday_any _ R _ HR1.out).mono ?_
    rintro e v2 ⟨rfl, h, hg⟩
    have HR2 := hidIn h
    have HG2 := hidIn (HG1.out.tr hg)
    clear h hg
    go_wp2_with fail
    refine (mark_any _ R _ cmB HR2.out).mono ?_
    rintro e v3 ⟨rfl, h, hg⟩
    have HR3 := hidIn h
    have HG3 := hidIn (HG2.out.tr hg)
    clear h hg
    go_wp2_with fail
    refine (HL1.out _ _ R (fun hd => markR_e _ _ (dayR_e _ (markR_e _ _ (HE1.out hd)))) HR3.out).mono ?_
    rintro e v4 ⟨rfl, ho, h, hg⟩
    have HO4 := hidIn ho
    clear ho
    have HR4 := hidIn h
    have HG4 := hidIn (HG3.out.tr hg)
    clear h hg
    obtain ⟨xb, hxb⟩ : ∃ v, (lastF (fun q => termR f q (d + 1)) (markR (dayR (markR r1 lpB)) cmB)).1.val = v := ⟨_, rfl⟩
    have HXb := hidIn hxb
    have qb := (lastF (fun q => termR f q (d + 1)) (markR (dayR (markR r1 lpB)) cmB)).1.one' HO4.out
    rw [hxb] at qb
    rw [hxb]
    clear hxb
    have svb := qb.store
    have cvb := qb.cells
    have mvb := qb.cells
    unfold Value.cells at mvb
    clear qb
    go_wp2_with fail
    go_ret
    rw [HT.out]
    exact ⟨by show _ = Ending.returned (.iface _ (.agg #[_, C.val _])); rw [HXb.out]; rfl, ⟨HNB.out, HO4.out⟩, HR4.out, HG4.out⟩
  by_cases k7 : s.1 = wIf
  · have HT : Hid (termR (f + 1) r d = (.iff (obsR f (markR r1 lpB) (d + 1)).1 (lastsF (fun q => termR f q (d + 1)) (markR (obsR f (markR r1 lpB) (d + 1)).2 cmB)).1 (lastsF (fun q => termR f q (d + 1)) (markR (obsR f (markR r1 lpB) (d + 1)).2 cmB)).2.1, (lastsF (fun q => termR f q (d + 1)) (markR (obsR f (markR r1 lpB) (d + 1)).2 cmB)).2.2)) := by show _ = _; rw [termR, HSE.out, HRR.out, if_neg k0, if_neg k1, if_neg k2, if_neg k3, if_neg k4, if_neg k5, if_neg k6, if_pos k7]
    have n0 : (s.1.toList == [122, 101, 114, 111]) = false := by rw [tl_eq tlZero]; exact decide_eq_false k0
    have n1 : (s.1.toList == [111, 110, 101]) = false := by rw [tl_eq tlOne]; exact decide_eq_false k1
    have n2 : (s.1.toList == [103, 105, 118, 101]) = false := by rw [tl_eq tlGive]; exact decide_eq_false k2
    have n3 : (s.1.toList == [97, 110, 100]) = false := by rw [tl_eq tlAnd]; exact decide_eq_false k3
    have n4 : (s.1.toList == [111, 114]) = false := by rw [tl_eq tlOr]; exact decide_eq_false k4
    have n5 : (s.1.toList == [115, 99, 97, 108, 101]) = false := by rw [tl_eq tlScale]; exact decide_eq_false k5
    have n6 : (s.1.toList == [119, 104, 101, 110]) = false := by rw [tl_eq tlWhen]; exact decide_eq_false k6
    have y : (s.1.toList == [105, 102]) = true := by rw [tl_eq tlIf]; exact decide_eq_true k7
    clear k0 k1 k2 k3 k4 k5 k6 k7
    go_wp2_with fail
    refine (mark_any W R r1 lpB HR0.out).mono ?_
    rintro e v1 ⟨rfl, h, hg⟩
    have HR1 := hidIn h
    have HG1 := hidIn (HG0.out.tr hg)
    clear h hg
    go_wp2_with fail
    refine (HI.out _ _ R (fun hd => markR_e _ _ (HE1.out hd)) HR1.out).mono ?_
    rintro e v2 ⟨rfl, ho, h, hg⟩
    have HO2 := hidIn ho
    clear ho
    have HR2 := hidIn h
    have HG2 := hidIn (HG1.out.tr hg)
    clear h hg
    obtain ⟨xa, hxa⟩ : ∃ v, (obsR f (markR r1 lpB) (d + 1)).1.val = v := ⟨_, rfl⟩
    have HXa := hidIn hxa
    have qa := (obsR f (markR r1 lpB) (d + 1)).1.one' HO2.out
    rw [hxa] at qa
    rw [hxa]
    clear hxa
    have sva := qa.store
    have cva := qa.cells
    have mva := qa.cells
    unfold Value.cells at mva
    clear qa
    go_wp2_with fail
    refine (mark_any _ R _ cmB HR2.out).mono ?_
    rintro e v3 ⟨rfl, h, hg⟩
    have HR3 := hidIn h
    have HG3 := hidIn (HG2.out.tr hg)
    clear h hg
    go_wp2_with fail
    refine (HL2.out _ _ R (fun hd => markR_e _ _ (obsR_e _ _ _ (markR_e _ _ (HE1.out hd)))) HR3.out).mono ?_
    rintro e v4 ⟨rfl, ho, ho2, h, hg⟩
    have HO4 := hidIn ho
    have HP4 := hidIn ho2
    clear ho ho2
    have HR4 := hidIn h
    have HG4 := hidIn (HG3.out.tr hg)
    clear h hg
    obtain ⟨xb, hxb⟩ : ∃ v, (lastsF (fun q => termR f q (d + 1)) (markR (obsR f (markR r1 lpB) (d + 1)).2 cmB)).1.val = v := ⟨_, rfl⟩
    have HXb := hidIn hxb
    have qb := (lastsF (fun q => termR f q (d + 1)) (markR (obsR f (markR r1 lpB) (d + 1)).2 cmB)).1.one' HO4.out
    rw [hxb] at qb
    rw [hxb]
    clear hxb
    have svb := qb.store
    have cvb := qb.cells
    have mvb := qb.cells
    unfold Value.cells at mvb
    clear qb
    obtain ⟨xc, hxc⟩ : ∃ v, (lastsF (fun q => termR f q (d + 1)) (markR (obsR f (markR r1 lpB) (d + 1)).2 cmB)).2.1.val = v := ⟨_, rfl⟩
    have HXc := hidIn hxc
    have qc := (lastsF (fun q => termR f q (d + 1)) (markR (obsR f (markR r1 lpB) (d + 1)).2 cmB)).2.1.one' HP4.out
    rw [hxc] at qc
    rw [hxc]
    clear hxc
    have svc := qc.store
    have cvc := qc.cells
    have mvc := qc.cells
    unfold Value.cells at mvc
    clear qc
    go_wp2_with fail
    go_ret
    rw [HT.out]
    exact ⟨by show _ = Ending.returned (.iface _ (.agg #[O.val _, C.val _, C.val _])); rw [HXa.out, HXb.out, HXc.out]; rfl, ⟨HO2.out, HO4.out, HP4.out⟩, HR4.out, HG4.out⟩
  have HT : Hid (termR (f + 1) r d = (.odd .nilIface, fitR r1 s false)) := by show _ = _; rw [termR, HSE.out, HRR.out, if_neg k0, if_neg k1, if_neg k2, if_neg k3, if_neg k4, if_neg k5, if_neg k6, if_neg k7]
  have n0 : (s.1.toList == [122, 101, 114, 111]) = false := by rw [tl_eq tlZero]; exact decide_eq_false k0
  have n1 : (s.1.toList == [111, 110, 101]) = false := by rw [tl_eq tlOne]; exact decide_eq_false k1
  have n2 : (s.1.toList == [103, 105, 118, 101]) = false := by rw [tl_eq tlGive]; exact decide_eq_false k2
  have n3 : (s.1.toList == [97, 110, 100]) = false := by rw [tl_eq tlAnd]; exact decide_eq_false k3
  have n4 : (s.1.toList == [111, 114]) = false := by rw [tl_eq tlOr]; exact decide_eq_false k4
  have n5 : (s.1.toList == [115, 99, 97, 108, 101]) = false := by rw [tl_eq tlScale]; exact decide_eq_false k5
  have n6 : (s.1.toList == [119, 104, 101, 110]) = false := by rw [tl_eq tlWhen]; exact decide_eq_false k6
  have n7 : (s.1.toList == [105, 102]) = false := by rw [tl_eq tlIf]; exact decide_eq_false k7
  clear k0 k1 k2 k3 k4 k5 k6 k7
  go_wp2_with fail
  refine (fit_any _ R r1 s false HR0.out).mono ?_
  rintro e v1 ⟨rfl, h, hg⟩
  have HR1 := hidIn h
  have HG1 := hidIn (HG0.out.tr hg)
  clear h hg
  go_wp2_with fail
  go_ret
  rw [HT.out]
  exact ⟨rfl, .inl rfl, HR1.out, HG1.out⟩
set_option maxHeartbeats 4000000 in
set_option maxRecDepth 100000 in
theorem term_dead (d : Nat) (hd : d ≤ 15) (r : RS) (w : World) (R : Nat) (he : r.e ≠ 0) (h : RIn w R r) :
    Calls Try.prog 17 #[.pointer (some ⟨R, 0, none⟩), .int .i64 (d : Int)] w fun e w' => e = .returned .nilIface ∧ RIn w' R r ∧ Grew R none w w' := by
  have hdf : d + (0 + 1) ≤ 16 := by omega
  have HDE : Hid (takeS r = (⟨#[]⟩, r.past) ∧ firstR r d = r ∧ ∀ s, fitR r s false = r) := ⟨takeS_none r he, dead_first r d he, fun s => dead_fit r s he⟩
  clear he
  have HH := hidIn h
  have HLT0 := hidIn h.lt
  have HSZ := hidIn (takeS_size h)
  clear h
  go_enter Try.func17, Try.ntmps17
  go_wp2_with fail
  refine (first_any w R r d (by omega) HH.out).mono ?_
  rintro e w1 ⟨rfl, h1, hg1⟩
  have HR1 := hidIn h1
  have HG1 := hidIn hg1
  clear h1 hg1
  obtain ⟨s, hse⟩ : ∃ s, takeS r = s := ⟨_, rfl⟩
  have HSE := hidIn hse
  rw [hse] at HSZ
  rw [hse]
  clear hse
  unfold sgV
  go_upto_region 3 with fail
  obtain ⟨W, hW⟩ : ∃ W, W = w1.alloc (.cells #[.string s.1, .int .i64 s.2] 100) := ⟨_, rfl⟩
  have HBL : Hid (Below w1.heap.size w1 W) := by rw [hW]; exact below_alloc (Below.refl _ _) _
  have HBK : Hid (Blk W w1.heap.size 100 #[.string s.1, .int .i64 s.2]) := by rw [hW]; exact blk_new rfl
  have HR0 := hidIn (HR1.out.below HBL.out)
  have HG0 : Hid (Grew R none w W) := HG1.out.tr (Grew.of_below HBL.out)
  have c0 : W.cell? ⟨w1.heap.size, 0, none⟩ = some (.string s.1) := HBK.out.cell 0
  have c1 : W.cell? ⟨w1.heap.size, 1, none⟩ = some (.int .i64 s.2) := HBK.out.cell 1
  rw [← hW]
  clear hW HR1 HG1
  obtain ⟨r1, hr1⟩ : ∃ r1, firstR r d = r1 := ⟨_, rfl⟩
  rw [hr1] at HR0
  have HRR := hidIn hr1
  clear hr1
  have hs0 : s = (⟨#[]⟩, r.past) := HSE.out.symm.trans HDE.out.1
  have hrr : r1 = r := HRR.out.symm.trans HDE.out.2.1
  have n0 : (s.1.toList == [122, 101, 114, 111]) = false := by rw [tl_eq tlZero, hs0]; show decide ((⟨#[]⟩ : ByteArray) = wZero) = false; decide
  have n1 : (s.1.toList == [111, 110, 101]) = false := by rw [tl_eq tlOne, hs0]; show decide ((⟨#[]⟩ : ByteArray) = wOne) = false; decide
  have n2 : (s.1.toList == [103, 105, 118, 101]) = false := by rw [tl_eq tlGive, hs0]; show decide ((⟨#[]⟩ : ByteArray) = wGive) = false; decide
  have n3 : (s.1.toList == [97, 110, 100]) = false := by rw [tl_eq tlAnd, hs0]; show decide ((⟨#[]⟩ : ByteArray) = wAnd) = false; decide
  have n4 : (s.1.toList == [111, 114]) = false := by rw [tl_eq tlOr, hs0]; show decide ((⟨#[]⟩ : ByteArray) = wOr) = false; decide
  have n5 : (s.1.toList == [115, 99, 97, 108, 101]) = false := by rw [tl_eq tlScale, hs0]; show decide ((⟨#[]⟩ : ByteArray) = wScale) = false; decide
  have n6 : (s.1.toList == [119, 104, 101, 110]) = false := by rw [tl_eq tlWhen, hs0]; show decide ((⟨#[]⟩ : ByteArray) = wWhen) = false; decide
  have n7 : (s.1.toList == [105, 102]) = false := by rw [tl_eq tlIf, hs0]; show decide ((⟨#[]⟩ : ByteArray) = wIf) = false; decide
  have HS0 := hidIn hs0
  have HR9 := hidIn hrr
  clear hs0 hrr
  go_wp2_with fail
  refine (fit_any _ R r1 s false HR0.out).mono ?_
  rintro e v1 ⟨rfl, h, hg⟩
  have HR1 := hidIn h
  have HG1 := hidIn (HG0.out.tr hg)
  clear h hg
  go_wp2_with fail
  go_ret
  have h2 := HR1.out
  rw [HR9.out, HDE.out.2.2] at h2
  exact ⟨rfl, h2, HG1.out⟩
theorem term_all : ∀ f d, d + f = 15 → TermC f d := by
  intro f
  induction f with
  | zero =>
    intro d hd r w R he h
    refine (term_dead d (by omega) r w R (he (by omega)) h).mono ?_
    rintro e w' ⟨rfl, h1, h2⟩
    exact ⟨rfl, .inl rfl, h1, h2⟩
  | succ f ih =>
    intro d hd r w R he h
    exact term_step f d hd (ih (d + 1) (by omega)) r w R he h

end Go.Proofs.Ythhjcpmnekibnaa
namespace Go.Proofs.Ythhjcpmnekibnaa
open Go.RowKit
set_option linter.unusedVariables false

/-- The document's reader: the signs, how many are behind it, the place behind the last, the first fault's place and kind. -/
structure XS where
  all : List Rn.Sg
  no : Nat
  past : Int
  bad : Int
  e : Int
/-- The place of the next sign, the next sign. -/
def XS.place (x : XS) : Int := ((x.all[x.no]?).map (·.2)).getD x.past
def XS.next (x : XS) : ByteArray := if x.e = 0 then ((x.all[x.no]?).map (·.1)).getD ⟨#[]⟩ else ⟨#[]⟩
def XS.fail (x : XS) (en : Int) : XS := if x.e = 0 then { x with bad := x.place, e := en } else x
def XS.step (x : XS) : XS := { x with no := x.no + 1 }
def XS.sign (x : XS) (t : ByteArray) : XS := if x.next = t then x.step else x.fail 2
def XS.name (x : XS) : ByteArray × XS := if nameGo 0 (runesOf x.next) = true then (x.next, x.step) else (⟨#[]⟩, x.fail 2)
def xnumOk (x : XS) (day : Bool) : Bool := (Rn.numOf x.next.data.toList).2 && (!day || (decide (0 ≤ (Rn.numOf x.next.data.toList).1) && decide ((Rn.numOf x.next.data.toList).1 ≤ 10000)))
def XS.num (x : XS) (day : Bool) : Int × XS := if xnumOk x day = true then ((Rn.numOf x.next.data.toList).1, x.step) else (0, x.fail 2)
def xkind (s : ByteArray) (number : Bool) : Int :=
  if number = true then (if s = wFix then 12 else if s = wAdd then 13 else if s = wNeg then 14 else if s = wMul then 15 else if s = wMax then 16 else 0)
  else (if s = wZero then 1 else if s = wOne then 2 else if s = wGive then 3 else if s = wAnd then 4 else if s = wOr then 5 else if s = wScale then 6 else if s = wWhen then 7 else if s = wIf then 8 else 0)
def xparts (k : Int) : Nat := if k = 3 ∨ k = 7 ∨ k = 14 then 1 else if k = 4 ∨ k = 5 ∨ k = 6 ∨ k = 13 ∨ k = 15 ∨ k = 16 then 2 else if k = 8 then 3 else 0
def xfirst (x : XS) (d : Nat) : XS := if 12 < d then x.fail 5 else x
def xhead (k : Int) (x : XS) : ByteArray × Int × XS := if k = 2 ∨ k = 5 ∨ k = 12 then (x.name.1, 0, x.name.2) else if k = 7 then (⟨#[]⟩, (x.num true).1, (x.num true).2) else (⟨#[]⟩, 0, x)
def xcomma (k : Int) (i : Nat) (x : XS) : XS := if 0 < i ∨ k = 5 ∨ k = 7 then x.sign cmB else x
def xkids (rec : XS → Bool → T × XS) (k : Int) (number : Bool) : Nat → Nat → XS → List T × XS
  | 0, _, x => ([], x)
  | m + 1, i, x => if x.e = 0 then
      ((rec (xcomma k i x) (number || (decide (i = 0) && (decide (k = 6) || decide (k = 8))))).1 :: (xkids rec k number m (i + 1) (rec (xcomma k i x) (number || (decide (i = 0) && (decide (k = 6) || decide (k = 8))))).2).1,
        (xkids rec k number m (i + 1) (rec (xcomma k i x) (number || (decide (i = 0) && (decide (k = 6) || decide (k = 8))))).2).2)
    else ([], x)
def xrest (rec : XS → Bool → T × XS) (k : Int) (number : Bool) (x : XS) : T × XS :=
  (.mk k (xhead k (x.step.sign lpB)).1 (xhead k (x.step.sign lpB)).2.1 (xkids rec k number (xparts k) 0 (xhead k (x.step.sign lpB)).2.2).1, (xkids rec k number (xparts k) 0 (xhead k (x.step.sign lpB)).2.2).2.sign rpB)
/-- What the document's reader reads. -/
def xtree : Nat → XS → Bool → Nat → T × XS
  | 0, x, _, _ => (.mk 0 ⟨#[]⟩ 0 [], x)
  | f + 1, x, number, d =>
    if xkind (xfirst x d).next number = 0 then (if number = true then (.mk 11 ⟨#[]⟩ ((xfirst x d).num false).1 [], ((xfirst x d).num false).2) else (.mk 0 ⟨#[]⟩ 0 [], (xfirst x d).fail 2))
    else if xkind (xfirst x d).next number = 1 then (.mk 1 ⟨#[]⟩ 0 [], (xfirst x d).step)
    else xrest (fun y b => xtree f y b (d + 1)) (xkind (xfirst x d).next number) number (xfirst x d)

/-! ### behind a fault nothing turns -/
theorem takeR_f {r : RS} (h : r.e ≠ 0) : takeR r = r := by unfold takeR; rw [if_neg h]
theorem refuseR_f {r : RS} (h : r.e ≠ 0) (p e : Int) : refuseR r p e = r := by unfold refuseR; rw [if_neg h]
theorem fitR_f {r : RS} (h : r.e ≠ 0) (s : Rn.Sg) (ok : Bool) : fitR r s ok = r := by unfold fitR; split <;> first | rfl | exact refuseR_f h _ _
theorem markR_f {r : RS} (h : r.e ≠ 0) (t : ByteArray) : markR r t = r := by unfold markR; rw [takeR_f h, fitR_f h]
theorem nameR_f {r : RS} (h : r.e ≠ 0) : nameR r = r := by unfold nameR; rw [takeR_f h, fitR_f h]
theorem dayR_f {r : RS} (h : r.e ≠ 0) : dayR r = r := by unfold dayR; rw [takeR_f h, fitR_f h]
theorem firstR_f {r : RS} (h : r.e ≠ 0) (d : Nat) : firstR r d = r := by unfold firstR; split <;> first | exact takeR_f h | (rw [takeR_f h, refuseR_f h])
theorem emp_ne : (⟨#[]⟩ : ByteArray) ≠ wFix ∧ (⟨#[]⟩ : ByteArray) ≠ wAdd ∧ (⟨#[]⟩ : ByteArray) ≠ wNeg ∧ (⟨#[]⟩ : ByteArray) ≠ wMul ∧ (⟨#[]⟩ : ByteArray) ≠ wMax := by decide +kernel
theorem emp_neC : (⟨#[]⟩ : ByteArray) ≠ wZero ∧ (⟨#[]⟩ : ByteArray) ≠ wOne ∧ (⟨#[]⟩ : ByteArray) ≠ wGive ∧ (⟨#[]⟩ : ByteArray) ≠ wAnd ∧ (⟨#[]⟩ : ByteArray) ≠ wOr ∧ (⟨#[]⟩ : ByteArray) ≠ wScale ∧ (⟨#[]⟩ : ByteArray) ≠ wWhen ∧ (⟨#[]⟩ : ByteArray) ≠ wIf := by decide +kernel
theorem obsR_f {r : RS} (h : r.e ≠ 0) (f d : Nat) : (obsR f r d).2 = r := by
  cases f with
  | zero => rfl
  | succ f =>
    obtain ⟨h1, h2, h3, h4, h5⟩ := emp_ne
    unfold obsR
    rw [takeS_none r h, if_neg h1, if_neg h2, if_neg h3, if_neg h4, if_neg h5, firstR_f h]
    simp only [fitR_f h]
theorem termR_f {r : RS} (h : r.e ≠ 0) (f d : Nat) : (termR f r d).2 = r := by
  cases f with
  | zero => rfl
  | succ f =>
    obtain ⟨h1, h2, h3, h4, h5, h6, h7, h8⟩ := emp_neC
    unfold termR
    rw [takeS_none r h, if_neg h1, if_neg h2, if_neg h3, if_neg h4, if_neg h5, if_neg h6, if_neg h7, if_neg h8, firstR_f h]
    simp only [fitR_f h]
/-! ### both readers, alike -/
structure Rel (r : RS) (x : XS) : Prop where
  e : r.e = x.e
  bad : r.e ≠ 0 → r.pl = x.bad
  ok : r.e = 0 → r.left = x.all.drop x.no ∧ r.past = x.past ∧ r.pl = 0
theorem rel_take {r : RS} {x : XS} (h : Rel r x) (he : r.e = 0) : takeS r = (x.next, x.place) := by
  obtain ⟨h1, h2, _⟩ := h.ok he
  unfold takeS noS XS.next XS.place
  rw [if_pos he, if_pos (by rw [← h.e]; exact he), h1, h2]
  cases hx : x.all[x.no]? with
  | none =>
    have hl : x.all.length ≤ x.no := List.getElem?_eq_none_iff.1 hx
    rw [List.drop_eq_nil_of_le hl]
    rfl
  | some s =>
    have hl : x.no < x.all.length := (List.getElem?_eq_some_iff.1 hx).1
    rw [List.drop_eq_getElem_cons hl]
    have : x.all[x.no] = s := by rw [List.getElem?_eq_getElem hl] at hx; exact Option.some.inj hx
    rw [this]
    rfl
theorem XS.next_f {x : XS} (h : x.e ≠ 0) : x.next = ⟨#[]⟩ := by unfold XS.next; rw [if_neg h]
theorem XS.fail_f {x : XS} (h : x.e ≠ 0) (en : Int) : x.fail en = x := by unfold XS.fail; rw [if_neg h]
/-- A fault at the next sign. -/
theorem rel_fail {r : RS} {x : XS} (h : Rel r x) (en : Int) (hen : en ≠ 0) : Rel (refuseR (takeR r) (takeS r).2 en) (x.fail en) := by
  by_cases he : r.e = 0
  · have hx : x.e = 0 := by rw [← h.e]; exact he
    have ht := rel_take h he
    have h1 : refuseR (takeR r) (takeS r).2 en = { takeR r with pl := x.place, e := en } := by
      unfold refuseR
      rw [if_pos (by rw [takeR_e]; exact he), ht]
    have h2 : x.fail en = { x with bad := x.place, e := en } := by unfold XS.fail; rw [if_pos hx]
    rw [h1, h2]
    exact ⟨rfl, fun _ => rfl, fun h0 => absurd h0 hen⟩
  · have hx : x.e ≠ 0 := by rw [← h.e]; exact he
    rw [takeR_f he, refuseR_f he, XS.fail_f hx]
    exact h
theorem rel_step {r : RS} {x : XS} (h : Rel r x) (hn : x.next ≠ ⟨#[]⟩) : Rel (takeR r) x.step := by
  have hx : x.e = 0 := Classical.byContradiction fun he => hn (XS.next_f he)
  have he : r.e = 0 := by rw [h.e]; exact hx
  obtain ⟨h1, h2, h4⟩ := h.ok he
  have h3 : takeR r = { r with left := r.left.tail } := by unfold takeR; rw [if_pos he]
  rw [h3]
  refine ⟨h.e, fun hb => absurd he hb, fun _ => ⟨?_, h2, h4⟩⟩
  show r.left.tail = x.all.drop (x.no + 1)
  rw [h1, List.tail_drop]
/-- What must be there, and is, or is not. -/
theorem rel_fit {r : RS} {x : XS} (h : Rel r x) (ok : Bool) (hok : ok = true → x.next ≠ ⟨#[]⟩) : Rel (fitR (takeR r) (takeS r) ok) (if ok = true then x.step else x.fail 2) := by
  cases ok with
  | true => exact rel_step h (hok rfl)
  | false =>
    have : fitR (takeR r) (takeS r) false = refuseR (takeR r) (takeS r).2 2 := rfl
    rw [this]
    exact rel_fail h 2 (by decide)
theorem rel_next {r : RS} {x : XS} (h : Rel r x) : (takeS r).1 = x.next := by
  by_cases he : r.e = 0
  · rw [rel_take h he]
  · rw [takeS_none r he, XS.next_f (by rw [← h.e]; exact he)]
theorem rel_mark {r : RS} {x : XS} (h : Rel r x) (t : ByteArray) (ht : t ≠ ⟨#[]⟩) : Rel (markR r t) (x.sign t) := by
  have := rel_fit h (decide ((takeS r).1 = t)) (fun ho => by rw [← rel_next h, of_decide_eq_true ho]; exact ht)
  unfold markR XS.sign
  rw [rel_next h] at this ⊢
  simpa using this
theorem name_emp : nameGo 0 (runesOf ⟨#[]⟩) = false := by kernel_rfl
theorem num_emp : (Rn.numOf (⟨#[]⟩ : ByteArray).data.toList).2 = false := by kernel_rfl
theorem rel_name {r : RS} {x : XS} (h : Rel r x) : Rel (nameR r) x.name.2 ∧ ((nameR r).e = 0 → (takeS r).1 = x.name.1) := by
  have h1 := rel_fit h (nameGo 0 (runesOf (takeS r).1)) (fun ho => by
    rw [rel_next h] at ho
    intro e
    rw [e, name_emp] at ho
    cases ho)
  rw [rel_next h] at h1
  unfold nameR XS.name
  rw [rel_next h]
  cases hn : nameGo 0 (runesOf x.next) with
  | true =>
    rw [hn] at h1
    exact ⟨h1, fun _ => rfl⟩
  | false =>
    rw [hn] at h1
    refine ⟨h1, fun h0 => ?_⟩
    exfalso
    have : (fitR (takeR r) (takeS r) false).e ≠ 0 := by
      show (refuseR (takeR r) (takeS r).2 2).e ≠ 0
      unfold refuseR
      split
      · show (2 : Int) ≠ 0; decide
      · assumption
    exact this h0
theorem fit_no (r : RS) (s : Rn.Sg) : (fitR r s false).e ≠ 0 := by
  show (refuseR r s.2 2).e ≠ 0
  unfold refuseR
  split
  · show (2 : Int) ≠ 0; decide
  · assumption
theorem rel_day {r : RS} {x : XS} (h : Rel r x) : Rel (dayR r) (x.num true).2 ∧ ((dayR r).e = 0 → dayV r = (x.num true).1) := by
  have hok : dayOkR r = xnumOk x true := by unfold dayOkR dayV xnumOk; rw [rel_next h]; simp
  have h1 := rel_fit h (dayOkR r) (fun ho => by
    intro e
    rw [hok] at ho
    unfold xnumOk at ho
    rw [e, num_emp] at ho
    cases ho)
  have hv : dayV r = (Rn.numOf x.next.data.toList).1 := by unfold dayV; rw [rel_next h]
  unfold dayR XS.num
  rw [hok] at h1 ⊢
  cases hx : xnumOk x true with
  | true => rw [hx] at h1; exact ⟨h1, fun _ => hv⟩
  | false => rw [hx] at h1; exact ⟨h1, fun h0 => absurd h0 (fit_no _ _)⟩

theorem mark_ne : lpB ≠ ⟨#[]⟩ ∧ cmB ≠ ⟨#[]⟩ ∧ rpB ≠ ⟨#[]⟩ := by decide +kernel
/-- The code's reading of the parts, as trees. -/
def cno (number : Bool) (k : Int) (i : Nat) : Bool := number || (decide (i = 0) && (decide (k = 6) || decide (k = 8)))
def ccomma (k : Int) (i : Nat) (r : RS) : RS := if 0 < i ∨ k = 5 ∨ k = 7 then markR r cmB else r
def cpart (recO : RS → O × RS) (recT : RS → C × RS) (b : Bool) (r : RS) : T × RS := if b = true then (plain (recO r).1, (recO r).2) else (plainC (recT r).1, (recT r).2)
def ckids (recO : RS → O × RS) (recT : RS → C × RS) (k : Int) (number : Bool) : Nat → Nat → RS → List T × RS
  | 0, _, r => ([], r)
  | m + 1, i, r => ((cpart recO recT (cno number k i) (ccomma k i r)).1 :: (ckids recO recT k number m (i + 1) (cpart recO recT (cno number k i) (ccomma k i r)).2).1, (ckids recO recT k number m (i + 1) (cpart recO recT (cno number k i) (ccomma k i r)).2).2)
theorem ccomma_f {r : RS} (h : r.e ≠ 0) (k : Int) (i : Nat) : ccomma k i r = r := by unfold ccomma; split <;> first | exact markR_f h _ | rfl
theorem cpart_f (f d : Nat) (b : Bool) {r : RS} (h : r.e ≠ 0) : (cpart (fun q => obsR f q d) (fun q => termR f q d) b r).2 = r := by
  unfold cpart
  split
  · exact obsR_f h _ _
  · exact termR_f h _ _
theorem ckids_f (f d : Nat) (k : Int) (number : Bool) (m : Nat) : ∀ i {r : RS}, r.e ≠ 0 → (ckids (fun q => obsR f q d) (fun q => termR f q d) k number m i r).2 = r := by
  induction m with
  | zero => intro i r h; rfl
  | succ m ih =>
    intro i r h
    unfold ckids
    simp only [ccomma_f h, cpart_f f d _ h]
    exact ih (i + 1) h
theorem xmark_z {r : RS} {t : ByteArray} (h : (markR r t).e = 0) : r.e = 0 := Classical.byContradiction fun he => he (by rw [markR_f he] at h; exact h)
/-- What is known of both readings, so deep. -/
def Both (f d : Nat) : Prop := ∀ r x, (14 ≤ d → r.e ≠ 0) → Rel r x → (Rel (obsR f r d).2 (xtree f x true d).2 ∧ ((obsR f r d).2.e = 0 → (xtree f x true d).1 = plain (obsR f r d).1)) ∧
  (Rel (termR f r d).2 (xtree f x false d).2 ∧ ((termR f r d).2.e = 0 → (xtree f x false d).1 = plainC (termR f r d).1))
theorem rel_comma {r : RS} {x : XS} (h : Rel r x) (k : Int) (i : Nat) : Rel (ccomma k i r) (xcomma k i x) := by
  unfold ccomma xcomma
  split
  · exact rel_mark h cmB mark_ne.2.1
  · exact h
theorem part_rel {f d : Nat} (hI : Both f d) (b : Bool) {r : RS} {x : XS} (hd : 14 ≤ d → r.e ≠ 0) (h : Rel r x) : Rel (cpart (fun q => obsR f q d) (fun q => termR f q d) b r).2 (xtree f x b d).2 ∧ ((cpart (fun q => obsR f q d) (fun q => termR f q d) b r).2.e = 0 → (xtree f x b d).1 = (cpart (fun q => obsR f q d) (fun q => termR f q d) b r).1) := by
  obtain ⟨h1, h2⟩ := hI r x hd h
  cases b with
  | true => exact h1
  | false => exact h2
theorem kids_rel {f d : Nat} (hI : Both f d) (k : Int) (number : Bool) (m : Nat) : ∀ i r x, (14 ≤ d → r.e ≠ 0) → Rel r x →
    Rel (ckids (fun q => obsR f q d) (fun q => termR f q d) k number m i r).2 (xkids (fun y b => xtree f y b d) k number m i x).2 ∧
    ((ckids (fun q => obsR f q d) (fun q => termR f q d) k number m i r).2.e = 0 → (xkids (fun y b => xtree f y b d) k number m i x).1 = (ckids (fun q => obsR f q d) (fun q => termR f q d) k number m i r).1) := by
  induction m with
  | zero => intro i r x hd h; exact ⟨h, fun _ => rfl⟩
  | succ m ih =>
    intro i r x hd h
    by_cases he : r.e = 0
    · have hx : x.e = 0 := by rw [← h.e]; exact he
      have h1 := rel_comma h k i
      have hd1 : 14 ≤ d → (ccomma k i r).e ≠ 0 := fun hh => absurd he (hd hh)
      obtain ⟨h2, h3⟩ := part_rel hI (cno number k i) hd1 h1
      have hd2 : 14 ≤ d → (cpart (fun q => obsR f q d) (fun q => termR f q d) (cno number k i) (ccomma k i r)).2.e ≠ 0 := fun hh => absurd he (hd hh)
      obtain ⟨h4, h5⟩ := ih (i + 1) _ _ hd2 h2
      unfold ckids xkids
      rw [if_pos hx]
      refine ⟨h4, fun h0 => ?_⟩
      have hz : (cpart (fun q => obsR f q d) (fun q => termR f q d) (cno number k i) (ccomma k i r)).2.e = 0 := Classical.byContradiction fun hne => hne (by
        have := ckids_f f d k number m (i + 1) hne
        simp only at h0
        rw [this] at h0
        exact h0)
      have e1 := h3 hz
      have e2 := h5 h0
      simp only
      rw [← e1, ← e2]
      rfl
    · have hx : x.e ≠ 0 := by rw [← h.e]; exact he
      rw [ckids_f f d k number (m + 1) i he]
      have hk : xkids (fun y b => xtree f y b d) k number (m + 1) i x = ([], x) := by unfold xkids; rw [if_neg hx]
      rw [hk]
      exact ⟨h, fun h0 => absurd h0 he⟩

theorem rest_rel {f d : Nat} (hI : Both f d) (k : Int) (number : Bool) (x : XS) (r2 : RS) (s : ByteArray) (n : Int) (hd : 14 ≤ d → r2.e ≠ 0) (h : Rel r2 (xhead k (x.step.sign lpB)).2.2) (hh : r2.e = 0 → (xhead k (x.step.sign lpB)).1 = s ∧ (xhead k (x.step.sign lpB)).2.1 = n) :
    Rel (markR (ckids (fun q => obsR f q d) (fun q => termR f q d) k number (xparts k) 0 r2).2 rpB) (xrest (fun y b => xtree f y b d) k number x).2 ∧
    ((markR (ckids (fun q => obsR f q d) (fun q => termR f q d) k number (xparts k) 0 r2).2 rpB).e = 0 → (xrest (fun y b => xtree f y b d) k number x).1 = .mk k s n (ckids (fun q => obsR f q d) (fun q => termR f q d) k number (xparts k) 0 r2).1) := by
  obtain ⟨h1, h2⟩ := kids_rel hI k number (xparts k) 0 r2 _ hd h
  refine ⟨rel_mark h1 rpB mark_ne.2.2, fun h0 => ?_⟩
  have hz := xmark_z h0
  have hr : r2.e = 0 := Classical.byContradiction fun hne => hne (by rw [ckids_f f d k number (xparts k) 0 hne] at hz; exact hz)
  obtain ⟨e1, e2⟩ := hh hr
  unfold xrest
  simp only
  rw [e1, e2, h2 hz]
theorem obsR_deep {f d : Nat} (r : RS) (h : 12 < d) : (obsR (f + 1) r d).2 = firstR r d := by
  have h1 := firstR_deep r d h
  unfold obsR
  repeat' split
  all_goals simp only [pairF, markR_f h1, nameR_f h1, obsR_f h1, fitR_f h1]
theorem termR_deep {f d : Nat} (r : RS) (h : 12 < d) : (termR (f + 1) r d).2 = firstR r d := by
  have h1 := firstR_deep r d h
  unfold termR
  repeat' split
  all_goals simp only [lastF, lastsF, markR_f h1, nameR_f h1, dayR_f h1, obsR_f h1, termR_f h1, fitR_f h1]
theorem xkind_emp (b : Bool) : xkind ⟨#[]⟩ b = 0 := by
  obtain ⟨a1, a2, a3, a4, a5⟩ := emp_ne
  obtain ⟨b1, b2, b3, b4, b5, b6, b7, b8⟩ := emp_neC
  unfold xkind
  simp only [a1, a2, a3, a4, a5, b1, b2, b3, b4, b5, b6, b7, b8, if_false]
  split <;> rfl
theorem xtree_f {f d : Nat} {x : XS} (b : Bool) (h : (xfirst x d).e ≠ 0) : (xtree (f + 1) x b d).2 = xfirst x d := by
  unfold xtree
  rw [XS.next_f h, xkind_emp]
  cases b with
  | true =>
    simp only [if_true]
    unfold XS.num xnumOk
    rw [XS.next_f h, num_emp]
    simp only [Bool.false_and, Bool.false_eq_true, if_false]
    exact XS.fail_f h 2
  | false =>
    simp only [if_true, Bool.false_eq_true, if_false]
    exact XS.fail_f h 2
theorem first_same (r : RS) {d : Nat} (h : ¬ 12 < d) : firstR r d = takeR r := by unfold firstR; rw [if_neg h]
theorem xfirst_same (x : XS) {d : Nat} (h : ¬ 12 < d) : xfirst x d = x := by unfold xfirst; rw [if_neg h]
theorem word_ne : wFix ≠ ⟨#[]⟩ ∧ wAdd ≠ ⟨#[]⟩ ∧ wNeg ≠ ⟨#[]⟩ ∧ wMul ≠ ⟨#[]⟩ ∧ wMax ≠ ⟨#[]⟩ := by decide +kernel
theorem word_neC : wZero ≠ ⟨#[]⟩ ∧ wOne ≠ ⟨#[]⟩ ∧ wGive ≠ ⟨#[]⟩ ∧ wAnd ≠ ⟨#[]⟩ ∧ wOr ≠ ⟨#[]⟩ ∧ wScale ≠ ⟨#[]⟩ ∧ wWhen ≠ ⟨#[]⟩ ∧ wIf ≠ ⟨#[]⟩ := by decide +kernel
theorem kinds_O : xkind wFix true = 12 ∧ xkind wAdd true = 13 ∧ xkind wNeg true = 14 ∧ xkind wMul true = 15 ∧ xkind wMax true = 16 := by decide +kernel
theorem kinds_C : xkind wZero false = 1 ∧ xkind wOne false = 2 ∧ xkind wGive false = 3 ∧ xkind wAnd false = 4 ∧ xkind wOr false = 5 ∧ xkind wScale false = 6 ∧ xkind wWhen false = 7 ∧ xkind wIf false = 8 := by decide +kernel
/-- The document's reading where a word stands. -/
theorem xtree_word {f d : Nat} {x : XS} {b : Bool} {k : Int} (h12 : ¬ 12 < d) (hk : xkind x.next b = k) (h0 : k ≠ 0) (h1 : k ≠ 1) : xtree (f + 1) x b d = xrest (fun y b => xtree f y b (d + 1)) k b x := by
  have e : xtree (f + 1) x b d = if xkind (xfirst x d).next b = 0 then (if b = true then (.mk 11 ⟨#[]⟩ ((xfirst x d).num false).1 [], ((xfirst x d).num false).2) else (.mk 0 ⟨#[]⟩ 0 [], (xfirst x d).fail 2))
    else if xkind (xfirst x d).next b = 1 then (.mk 1 ⟨#[]⟩ 0 [], (xfirst x d).step)
    else xrest (fun y b => xtree f y b (d + 1)) (xkind (xfirst x d).next b) b (xfirst x d) := rfl
  rw [e, xfirst_same x h12, hk, if_neg h0, if_neg h1]

theorem both_obs {f d : Nat} (hI : Both f (d + 1)) (h12 : ¬ 12 < d) {r : RS} {x : XS} (h : Rel r x) :
    Rel (obsR (f + 1) r d).2 (xtree (f + 1) x true d).2 ∧ ((obsR (f + 1) r d).2.e = 0 → (xtree (f + 1) x true d).1 = plain (obsR (f + 1) r d).1) := by
  obtain ⟨w1, w2, w3, w4, w5⟩ := word_ne
  obtain ⟨k1, k2, k3, k4, k5⟩ := kinds_O
  have hd : ∀ q : RS, 14 ≤ d + 1 → q.e ≠ 0 := fun q hh => absurd hh (by omega)
  have hm : ∀ w, x.next = w → w ≠ ⟨#[]⟩ → Rel (markR (takeR r) lpB) (x.step.sign lpB) := fun w hw hne => rel_mark (rel_step h (by rw [hw]; exact hne)) lpB mark_ne.1
  unfold obsR
  rw [rel_next h, first_same r h12]
  by_cases c1 : x.next = wFix
  · rw [if_pos c1, xtree_word (k := 12) h12 (by rw [c1]; exact k1) (by decide) (by decide)]
    obtain ⟨n1, n2⟩ := rel_name (hm _ c1 w1)
    have := rest_rel hI 12 true x (nameR (markR (takeR r) lpB)) (takeS (markR (takeR r) lpB)).1 0 (hd _) n1 (fun h0 => ⟨(n2 h0).symm, rfl⟩)
    exact this
  rw [if_neg c1]
  by_cases c2 : x.next = wAdd
  · rw [if_pos c2, xtree_word (k := 13) h12 (by rw [c2]; exact k2) (by decide) (by decide)]
    have := rest_rel hI 13 true x (markR (takeR r) lpB) ⟨#[]⟩ 0 (hd _) (hm _ c2 w2) (fun _ => ⟨rfl, rfl⟩)
    simpa [ckids, ccomma, cpart, cno, xparts, pairF, plain] using this
  rw [if_neg c2]
  by_cases c3 : x.next = wNeg
  · rw [if_pos c3, xtree_word (k := 14) h12 (by rw [c3]; exact k3) (by decide) (by decide)]
    have := rest_rel hI 14 true x (markR (takeR r) lpB) ⟨#[]⟩ 0 (hd _) (hm _ c3 w3) (fun _ => ⟨rfl, rfl⟩)
    simpa [ckids, ccomma, cpart, cno, xparts, plain] using this
  rw [if_neg c3]
  by_cases c4 : x.next = wMul
  · rw [if_pos c4, xtree_word (k := 15) h12 (by rw [c4]; exact k4) (by decide) (by decide)]
    have := rest_rel hI 15 true x (markR (takeR r) lpB) ⟨#[]⟩ 0 (hd _) (hm _ c4 w4) (fun _ => ⟨rfl, rfl⟩)
    simpa [ckids, ccomma, cpart, cno, xparts, pairF, plain] using this
  rw [if_neg c4]
  by_cases c5 : x.next = wMax
  · rw [if_pos c5, xtree_word (k := 16) h12 (by rw [c5]; exact k5) (by decide) (by decide)]
    have := rest_rel hI 16 true x (markR (takeR r) lpB) ⟨#[]⟩ 0 (hd _) (hm _ c5 w5) (fun _ => ⟨rfl, rfl⟩)
    simpa [ckids, ccomma, cpart, cno, xparts, pairF, plain] using this
  rw [if_neg c5]
  have hk : xkind x.next true = 0 := by unfold xkind; simp [c1, c2, c3, c4, c5]
  have hx : xtree (f + 1) x true d = (.mk 11 ⟨#[]⟩ (x.num false).1 [], (x.num false).2) := by
    unfold xtree
    rw [xfirst_same x h12, hk]
    rfl
  have hok : xnumOk x false = (Rn.numOf x.next.data.toList).2 := by unfold xnumOk; simp
  rw [hx]
  unfold XS.num
  rw [hok]
  have h1 := rel_fit h (Rn.numOf x.next.data.toList).2 (fun ho => by
    intro e
    rw [e, num_emp] at ho
    cases ho)
  cases hn : (Rn.numOf x.next.data.toList).2 with
  | true =>
    rw [hn] at h1
    exact ⟨h1, fun _ => rfl⟩
  | false =>
    rw [hn] at h1
    exact ⟨h1, fun h0 => absurd h0 (fit_no _ _)⟩
theorem both_term {f d : Nat} (hI : Both f (d + 1)) (h12 : ¬ 12 < d) {r : RS} {x : XS} (h : Rel r x) :
    Rel (termR (f + 1) r d).2 (xtree (f + 1) x false d).2 ∧ ((termR (f + 1) r d).2.e = 0 → (xtree (f + 1) x false d).1 = plainC (termR (f + 1) r d).1) := by
  obtain ⟨w1, w2, w3, w4, w5, w6, w7, w8⟩ := word_neC
  obtain ⟨k1, k2, k3, k4, k5, k6, k7, k8⟩ := kinds_C
  have hd : ∀ q : RS, 14 ≤ d + 1 → q.e ≠ 0 := fun q hh => absurd hh (by omega)
  have hm : ∀ w, x.next = w → w ≠ ⟨#[]⟩ → Rel (markR (takeR r) lpB) (x.step.sign lpB) := fun w hw hne => rel_mark (rel_step h (by rw [hw]; exact hne)) lpB mark_ne.1
  unfold termR
  rw [rel_next h, first_same r h12]
  by_cases c1 : x.next = wZero
  · rw [if_pos c1]
    have hx : xtree (f + 1) x false d = (.mk 1 ⟨#[]⟩ 0 [], x.step) := by
      unfold xtree
      rw [xfirst_same x h12, c1, k1]
      rfl
    rw [hx]
    exact ⟨rel_step h (by rw [c1]; exact w1), fun _ => rfl⟩
  rw [if_neg c1]
  by_cases c2 : x.next = wOne
  · rw [if_pos c2, xtree_word (k := 2) h12 (by rw [c2]; exact k2) (by decide) (by decide)]
    obtain ⟨n1, n2⟩ := rel_name (hm _ c2 w2)
    exact rest_rel hI 2 false x (nameR (markR (takeR r) lpB)) (takeS (markR (takeR r) lpB)).1 0 (hd _) n1 (fun h0 => ⟨(n2 h0).symm, rfl⟩)
  rw [if_neg c2]
  by_cases c3 : x.next = wGive
  · rw [if_pos c3, xtree_word (k := 3) h12 (by rw [c3]; exact k3) (by decide) (by decide)]
    have := rest_rel hI 3 false x (markR (takeR r) lpB) ⟨#[]⟩ 0 (hd _) (hm _ c3 w3) (fun _ => ⟨rfl, rfl⟩)
    simpa [ckids, ccomma, cpart, cno, xparts, lastF, plainC] using this
  rw [if_neg c3]
  by_cases c4 : x.next = wAnd
  · rw [if_pos c4, xtree_word (k := 4) h12 (by rw [c4]; exact k4) (by decide) (by decide)]
    have := rest_rel hI 4 false x (markR (takeR r) lpB) ⟨#[]⟩ 0 (hd _) (hm _ c4 w4) (fun _ => ⟨rfl, rfl⟩)
    simpa [ckids, ccomma, cpart, cno, xparts, lastF, lastsF, plainC] using this
  rw [if_neg c4]
  by_cases c5 : x.next = wOr
  · rw [if_pos c5, xtree_word (k := 5) h12 (by rw [c5]; exact k5) (by decide) (by decide)]
    obtain ⟨n1, n2⟩ := rel_name (hm _ c5 w5)
    have := rest_rel hI 5 false x (nameR (markR (takeR r) lpB)) (takeS (markR (takeR r) lpB)).1 0 (hd _) n1 (fun h0 => ⟨(n2 h0).symm, rfl⟩)
    simpa [ckids, ccomma, cpart, cno, xparts, lastF, lastsF, plainC] using this
  rw [if_neg c5]
  by_cases c6 : x.next = wScale
  · rw [if_pos c6, xtree_word (k := 6) h12 (by rw [c6]; exact k6) (by decide) (by decide)]
    have := rest_rel hI 6 false x (markR (takeR r) lpB) ⟨#[]⟩ 0 (hd _) (hm _ c6 w6) (fun _ => ⟨rfl, rfl⟩)
    simpa [ckids, ccomma, cpart, cno, xparts, lastF, lastsF, plainC] using this
  rw [if_neg c6]
  by_cases c7 : x.next = wWhen
  · rw [if_pos c7, xtree_word (k := 7) h12 (by rw [c7]; exact k7) (by decide) (by decide)]
    obtain ⟨n1, n2⟩ := rel_day (hm _ c7 w7)
    have := rest_rel hI 7 false x (dayR (markR (takeR r) lpB)) ⟨#[]⟩ (dayV (markR (takeR r) lpB)) (hd _) n1 (fun h0 => ⟨rfl, (n2 h0).symm⟩)
    simpa [ckids, ccomma, cpart, cno, xparts, lastF, lastsF, plainC] using this
  rw [if_neg c7]
  by_cases c8 : x.next = wIf
  · rw [if_pos c8, xtree_word (k := 8) h12 (by rw [c8]; exact k8) (by decide) (by decide)]
    have := rest_rel hI 8 false x (markR (takeR r) lpB) ⟨#[]⟩ 0 (hd _) (hm _ c8 w8) (fun _ => ⟨rfl, rfl⟩)
    simpa [ckids, ccomma, cpart, cno, xparts, lastF, lastsF, plainC] using this
  rw [if_neg c8]
  have hk : xkind x.next false = 0 := by unfold xkind; simp [c1, c2, c3, c4, c5, c6, c7, c8]
  have hx : xtree (f + 1) x false d = (.mk 0 ⟨#[]⟩ 0 [], x.fail 2) := by
    unfold xtree
    rw [xfirst_same x h12, hk]
    rfl
  rw [hx]
  exact ⟨rel_fit h false (fun e => by cases e), fun h0 => absurd h0 (fit_no _ _)⟩
/-- BOTH READERS READ ALIKE. -/
theorem both_all (f : Nat) : ∀ d, d + f = 15 → Both f d := by
  induction f with
  | zero =>
    intro d hd r x he h
    have he := he (by omega)
    exact ⟨⟨h, fun h0 => absurd h0 he⟩, ⟨h, fun h0 => absurd h0 he⟩⟩
  | succ f ih =>
    intro d hd r x he h
    have hI := ih (d + 1) (by omega)
    by_cases h12 : 12 < d
    · have h1 : Rel (firstR r d) (xfirst x d) := by
        unfold firstR xfirst
        rw [if_pos h12, if_pos h12]
        exact rel_fail h 5 (by decide)
      have h2 := firstR_deep r d h12
      have h3 : (xfirst x d).e ≠ 0 := by rw [← h1.e]; exact h2
      refine ⟨⟨?_, fun h0 => ?_⟩, ⟨?_, fun h0 => ?_⟩⟩
      · rw [obsR_deep r h12, xtree_f true h3]; exact h1
      · rw [obsR_deep r h12] at h0; exact absurd h0 h2
      · rw [termR_deep r h12, xtree_f false h3]; exact h1
      · rw [termR_deep r h12] at h0; exact absurd h0 h2
    · exact ⟨both_obs hI h12 h, both_term hI h12 h⟩

end Go.Proofs.Ythhjcpmnekibnaa
namespace Go.Proofs.Ythhjcpmnekibnaa
open Go.RowKit
set_option linter.unusedVariables false

def xCells (x : XS) (a : Option Addr) (c : Nat) : Array Value := #[.slice a x.all.length c, .int .i64 (x.no : Int), .int .i64 x.past, .int .i64 x.bad, .int .i64 x.e]
/-- The reader in memory. -/
structure XIn (w : World) (R : Nat) (x : XS) : Prop where
  has : ∃ a c, Blk w R 62 (xCells x a c) ∧ x.all.length ≤ c ∧ c ≤ 9223372036854775807 ∧ SgAt w R a x.all
  no : x.no ≤ x.all.length
  len : x.all.length ≤ 2147483648
theorem XIn.grew {w w' : World} {R : Nat} {x : XS} (h : XIn w R x) (hb : Below w.heap.size w w') : XIn w' R x := by
  obtain ⟨a, c, h1, h2, h3, h4⟩ := h.has
  exact ⟨⟨a, c, (hb.block R h1.lt).trans h1, h2, h3, h4.grew (Grew.of_below hb)⟩, h.no, h.len⟩

theorem bel_1 (w : World) : Below w.heap.size w w.drew := by
  have h := Below.refl w.heap.size w
  exact ⟨h.os, h.tape, h.output, h.size, h.block⟩
theorem bel_2 (w : World) : Below w.heap.size w w.drew.drew := by
  have h := Below.refl w.heap.size w
  exact ⟨h.os, h.tape, h.output, h.size, h.block⟩
set_option maxHeartbeats 1000000 in
set_option maxRecDepth 100000 in
theorem xplace_any (w : World) (R : Nat) (x : XS) (h : XIn w R x) :
    Calls Try.prog 51 #[.pointer (some ⟨R, 0, none⟩)] w fun e w' => e = .returned (.int .i64 x.place) ∧ Below w.heap.size w w' := by
  obtain ⟨a, c, hb, hc1, hc2, hs⟩ := h.has
  have HS := hidIn hs
  have g0 : w.cell? ⟨R, 0, none⟩ = some (.slice a x.all.length c) := hb.cell 0
  have g1 : w.cell? ⟨R, 1, none⟩ = some (.int .i64 (x.no : Int)) := hb.cell 1
  have g2 : w.cell? ⟨R, 2, none⟩ = some (.int .i64 x.past) := hb.cell 2
  have h1 := h.no
  have h2 := h.len
  clear hb hs h
  obtain ⟨l, no, past, bad, en⟩ := x
  simp only at g0 g1 g2 hc1 h1 h2
  unfold XS.place
  simp only
  by_cases hl : no < l.length
  · have hx : l[no]? = some l[no] := List.getElem?_eq_getElem hl
    obtain ⟨b, o, rfl, _, _, q0, q1, _⟩ := HS.out no _ hx
    rw [hx]
    generalize l[no] = s at *
    go_enter Try.func51, Try.ntmps51
    go_wp2_with fail
    go_region
    go_wp2_with fail
    try (go_region; go_wp2_with fail)
    go_ret
    exact ⟨rfl, bel_2 _⟩
  · have hx : l[no]? = none := List.getElem?_eq_none (by omega)
    rw [hx]
    go_enter Try.func51, Try.ntmps51
    go_wp2_with fail
    go_region
    go_wp2_with fail
    try (go_region; go_wp2_with fail)
    go_ret
    exact ⟨rfl, bel_1 _⟩
theorem XIn.fails {w : World} {R : Nat} {l : List Rn.Sg} {no : Nat} {past bad : Int} {p en : Int} (h : XIn w R ⟨l, no, past, bad, 0⟩) : XIn ((w.setCell ⟨R, 3, none⟩ (.int .i64 p)).setCell ⟨R, 4, none⟩ (.int .i64 en)) R ⟨l, no, past, p, en⟩ ∧ Grew R none w ((w.setCell ⟨R, 3, none⟩ (.int .i64 p)).setCell ⟨R, 4, none⟩ (.int .i64 en)) := by
  obtain ⟨a, c, h1, h2, h3, h4⟩ := h.has
  have hg : Grew R none w ((w.setCell ⟨R, 3, none⟩ (.int .i64 p)).setCell ⟨R, 4, none⟩ (.int .i64 en)) := ((Grew.refl _ _ _).set 3 _).set 4 _
  exact ⟨⟨⟨a, c, (h1.set 3 _).set 4 _, h2, h3, h4.grew hg⟩, h.no, h.len⟩, hg⟩
theorem XIn.steps {w : World} {R : Nat} {x : XS} (h : XIn w R x) (hn : x.no < x.all.length) : XIn (w.setCell ⟨R, 1, none⟩ (.int .i64 ((x.no : Int) + 1))) R x.step ∧ Grew R none w (w.setCell ⟨R, 1, none⟩ (.int .i64 ((x.no : Int) + 1))) := by
  obtain ⟨a, c, h1, h2, h3, h4⟩ := h.has
  have hg : Grew R none w (w.setCell ⟨R, 1, none⟩ (.int .i64 ((x.no : Int) + 1))) := (Grew.refl _ _ _).set 1 _
  exact ⟨⟨⟨a, c, h1.set 1 _, h2, h3, h4.grew hg⟩, hn, h.len⟩, hg⟩

set_option maxHeartbeats 1000000 in
set_option maxRecDepth 100000 in
theorem xfail_any (w : World) (R : Nat) (x : XS) (en : Int) (h : XIn w R x) :
    Calls Try.prog 23 #[.pointer (some ⟨R, 0, none⟩), .int .i64 en] w fun e w' => e = .returned (.tuple #[]) ∧ XIn w' R (x.fail en) ∧ Grew R none w w' := by
  have HH := hidIn h
  obtain ⟨a, c, hb, hc1, hc2, hs⟩ := h.has
  have g3 : w.cell? ⟨R, 3, none⟩ = some (.int .i64 x.bad) := hb.cell 3
  have g4 : w.cell? ⟨R, 4, none⟩ = some (.int .i64 x.e) := hb.cell 4
  have f3 : w.frozen? ⟨R, 3, none⟩ = false := hb.frozen 3
  have f4 : w.frozen? ⟨R, 4, none⟩ = false := hb.frozen 4
  clear hb hs h hc1 hc2
  obtain ⟨l, no, past, bad, e0⟩ := x
  simp only at g3 g4
  go_enter Try.func23, Try.ntmps23
  by_cases he : e0 = 0
  · subst he
    go_wp2_with fail
    refine (xplace_any w R _ HH.out).mono ?_
    rintro e w1 ⟨rfl, hbl⟩
    have HG : Hid (Grew R none w w1) := Grew.of_below hbl
    have HH1 := hidIn (HH.out.grew hbl)
    clear g3 g4 f3 f4
    obtain ⟨a1, c1, hb1, _⟩ := HH1.out.has
    have g3 : w1.cell? ⟨R, 3, none⟩ = some (.int .i64 bad) := hb1.cell 3
    have g4 : w1.cell? ⟨R, 4, none⟩ = some (.int .i64 0) := hb1.cell 4
    have f3 : w1.frozen? ⟨R, 3, none⟩ = false := hb1.frozen 3
    have f4 : w1.frozen? ⟨R, 4, none⟩ = false := hb1.frozen 4
    clear hb1 hbl
    have HP : Hid (XS.fail ⟨l, no, past, bad, 0⟩ en = ⟨l, no, past, XS.place ⟨l, no, past, bad, 0⟩, en⟩) := if_pos rfl
    generalize XS.place ⟨l, no, past, bad, 0⟩ = p at *
    go_wp2_with fail
    go_end0
    rw [HP.out]
    exact ⟨rfl, HH1.out.fails.1, HG.out.tr HH1.out.fails.2⟩
  · have HT : Hid (XS.fail ⟨l, no, past, bad, e0⟩ en = ⟨l, no, past, bad, e0⟩) := if_neg he
    go_wp2_with fail
    go_end0
    rw [HT.out]
    exact ⟨rfl, HH.out, Grew.refl _ _ _⟩

end Go.Proofs.Ythhjcpmnekibnaa
namespace Go.Proofs.Ythhjcpmnekibnaa.Rn
open Go.RowKit
set_option linter.unusedVariables false

theorem get_mk (l : List UInt8) (k : Nat) : (ByteArray.mk l.toArray).get! k = l.getD k 0 := by
  simp [ByteArray.get!, getElem!_def, List.getD]
  rfl
theorem mk_toList (s : ByteArray) : s = ByteArray.mk s.data.toList.toArray := by simp
theorem append_mk (l : List UInt8) (t : ByteArray) : ByteArray.mk l.toArray ++ t = ByteArray.mk (l ++ t.data.toList).toArray := by
  conv => lhs; rw [mk_toList t]
  rw [ByteArray.mk_append_mk]
theorem size_mk (l : List UInt8) : (ByteArray.mk l.toArray).size = l.length := by
  show l.toArray.size = l.length
  simp
theorem get_append (a t : ByteArray) (j : Nat) : (a ++ t).get! (a.size + j) = t.get! j := by
  have h1 : a ++ t = ByteArray.mk (a.data.toList ++ t.data.toList).toArray := by
    conv => lhs; rw [mk_toList a]
    rw [append_mk]
  have h2 : t = ByteArray.mk t.data.toList.toArray := mk_toList t
  rw [h1, get_mk]
  conv => rhs; rw [h2, get_mk]
  have hs : a.size = a.data.toList.length := by simp
  rw [hs]
  simp [List.getD, List.getElem?_append_right]
theorem decode_append (a t : ByteArray) (i : Nat) : Utf8.decode (a ++ t) (a.size + i) = Utf8.decode t i := by
  have hs : ∀ k, (a.size + i + k < (a ++ t).size) = (i + k < t.size) := by
    intro k; rw [ByteArray.size_append]; apply propext; omega
  simp only [Utf8.decode, Nat.add_assoc, get_append]
  simp only [← Nat.add_assoc, hs]
theorem rest_append (a t : ByteArray) (i : Nat) : rest (a ++ t) (a.size + i) = rest t i := by
  have key : ∀ f i, decs (a ++ t) f (a.size + i) = decs t f i := by
    intro f
    induction f with
    | zero => intro i; rfl
    | succ f ih =>
      intro i
      simp only [decs, decode_append]
      rw [Nat.add_assoc, ih]
      by_cases h : i < t.size
      · rw [if_pos h, if_pos (by rw [ByteArray.size_append]; omega)]
      · rw [if_neg h, if_neg (by rw [ByteArray.size_append]; omega)]
  unfold rest
  rw [key, ByteArray.size_append, show a.size + t.size - (a.size + i) = t.size - i by omega]
theorem decode_encode (r : Int) (t : ByteArray) (hv : Utf8.valid r = true) : Utf8.decode (Utf8.encode r ++ t) 0 = (r.toNat, (Utf8.encode r).size) := by
  have hb : (0 ≤ r ∧ r < 55296) ∨ (57344 ≤ r ∧ r ≤ 1114111) := by
    simpa [Utf8.valid] using hv
  have hc : ∀ n : Nat, n < 256 → (UInt8.ofNat n).toNat = n := by intro n h; simp; omega
  unfold Utf8.encode
  simp only [hv, if_true]
  by_cases h1 : r.toNat < 128
  · simp only [h1, if_true]
    rw [show (#[UInt8.ofNat r.toNat] : Array UInt8) = [UInt8.ofNat r.toNat].toArray from rfl, append_mk]
    simp only [Utf8.decode, get_mk]
    simp only [Nat.add_zero, List.cons_append, List.getD_cons_zero]
    rw [hc _ (by omega), if_pos h1]
    rfl
  simp only [h1, if_false]
  by_cases h2 : r.toNat < 2048
  · simp only [h2, if_true]
    rw [show (#[UInt8.ofNat (192 + r.toNat / 64), UInt8.ofNat (128 + r.toNat % 64)] : Array UInt8) = [UInt8.ofNat (192 + r.toNat / 64), UInt8.ofNat (128 + r.toNat % 64)].toArray from rfl, append_mk]
    simp only [Utf8.decode, get_mk]
    simp only [Nat.add_zero, List.cons_append, List.getD_cons_zero, Nat.zero_add, List.getD_cons_succ, List.nil_append]
    rw [hc _ (by omega), hc _ (by omega)]
    rw [if_neg (by omega)]
    rw [if_pos (by simp [size_mk]; omega)]
    rw [if_pos (by omega)]
    refine Prod.ext ?_ rfl
    show (192 + r.toNat / 64) % 32 * 64 + (128 + r.toNat % 64) % 64 = r.toNat
    omega
  simp only [h2, if_false]
  by_cases h3 : r.toNat < 65536
  · simp only [h3, if_true]
    rw [show (#[UInt8.ofNat (224 + r.toNat / 4096), UInt8.ofNat (128 + r.toNat / 64 % 64), UInt8.ofNat (128 + r.toNat % 64)] : Array UInt8) = [UInt8.ofNat (224 + r.toNat / 4096), UInt8.ofNat (128 + r.toNat / 64 % 64), UInt8.ofNat (128 + r.toNat % 64)].toArray from rfl, append_mk]
    simp only [Utf8.decode, get_mk]
    simp only [Nat.add_zero, List.cons_append, List.getD_cons_zero, Nat.zero_add, List.getD_cons_succ, List.nil_append]
    rw [hc _ (by omega), hc _ (by omega), hc _ (by omega)]
    have hval : (224 + r.toNat / 4096) % 16 * 4096 + (128 + r.toNat / 64 % 64) % 64 * 64 + (128 + r.toNat % 64) % 64 = r.toNat := by omega
    rw [hval]
    rw [if_neg (by omega)]
    rw [if_neg (by simp; omega)]
    rw [if_pos (by simp [size_mk]; omega)]
    rw [if_pos (by rw [Int.toNat_of_nonneg (by omega), hv]; simp; omega)]
    rfl
  · simp only [h3, if_false]
    rw [show (#[UInt8.ofNat (240 + r.toNat / 262144), UInt8.ofNat (128 + r.toNat / 4096 % 64), UInt8.ofNat (128 + r.toNat / 64 % 64), UInt8.ofNat (128 + r.toNat % 64)] : Array UInt8) = [UInt8.ofNat (240 + r.toNat / 262144), UInt8.ofNat (128 + r.toNat / 4096 % 64), UInt8.ofNat (128 + r.toNat / 64 % 64), UInt8.ofNat (128 + r.toNat % 64)].toArray from rfl, append_mk]
    simp only [Utf8.decode, get_mk]
    simp only [Nat.add_zero, List.cons_append, List.getD_cons_zero, Nat.zero_add, List.getD_cons_succ, List.nil_append]
    rw [hc _ (by omega), hc _ (by omega), hc _ (by omega), hc _ (by omega)]
    have hval : (240 + r.toNat / 262144) % 8 * 262144 + (128 + r.toNat / 4096 % 64) % 64 * 4096 + (128 + r.toNat / 64 % 64) % 64 * 64 + (128 + r.toNat % 64) % 64 = r.toNat := by omega
    rw [hval]
    rw [if_neg (by omega)]
    rw [if_neg (by simp; omega)]
    rw [if_neg (by simp; omega)]
    rw [if_pos (by simp [size_mk]; omega)]
    rw [if_pos (by rw [Int.toNat_of_nonneg (by omega), hv]; simp; omega)]
    rfl
theorem encode_size (r : Int) : 1 ≤ (Utf8.encode r).size ∧ (Utf8.encode r).size ≤ 4 := by
  unfold Utf8.encode
  generalize (if Utf8.valid r = true then r.toNat else Utf8.runeError) = c
  simp only []
  repeat' split
  all_goals exact ⟨Nat.le_of_ble_eq_true rfl, Nat.le_of_ble_eq_true rfl⟩
theorem runesOf_encode (r : Int) (t : ByteArray) (hv : Utf8.valid r = true) : runesOf (Utf8.encode r ++ t) = r :: runesOf t := by
  have hsz := encode_size r
  have h0 : (0 : Int) ≤ r := by
    have : (0 ≤ r ∧ r < 55296) ∨ (57344 ≤ r ∧ r ≤ 1114111) := by simpa [Utf8.valid] using hv
    omega
  unfold runesOf
  rw [rest_step _ 0 (by rw [ByteArray.size_append]; omega), decode_encode r t hv]
  simp only [Nat.zero_add]
  rw [show (Utf8.encode r).size = (Utf8.encode r).size + 0 from rfl, rest_append, Int.toNat_of_nonneg h0]
theorem runesBytes_cons (r : Int) (rs : List Int) : runesBytes (r :: rs) = Utf8.encode r ++ runesBytes rs := by
  have key : ∀ (l : List Int) (a : ByteArray), l.foldl (fun r n => r ++ Utf8.encode n) a = a ++ l.foldl (fun r n => r ++ Utf8.encode n) ByteArray.empty := by
    intro l
    induction l with
    | nil => intro a; simp
    | cons b l ih =>
      intro a
      simp only [List.foldl_cons]
      rw [ih, ih (ByteArray.empty ++ Utf8.encode b)]
      simp [ByteArray.append_assoc]
  unfold runesBytes
  rw [List.foldl_cons, key]
  simp
theorem runesBytes_append (a b : List Int) : runesBytes (a ++ b) = runesBytes a ++ runesBytes b := by
  induction a with
  | nil => simp [runesBytes]
  | cons r a ih => rw [List.cons_append, runesBytes_cons, runesBytes_cons, ih, ByteArray.append_assoc]
theorem runesBytes_one (r : Int) : runesBytes [r] = Utf8.encode r := by simp [runesBytes]
theorem runesOf_bytes (rs : List Int) (t : ByteArray) (hv : ∀ r ∈ rs, Utf8.valid r = true) : runesOf (runesBytes rs ++ t) = rs ++ runesOf t := by
  induction rs with
  | nil => simp [runesBytes]
  | cons r rs ih =>
    rw [runesBytes_cons, ByteArray.append_assoc, runesOf_encode r _ (hv r (by simp)), ih (fun x hx => hv x (by simp [hx]))]
    rfl
theorem runesOf_all (rs : List Int) (hv : ∀ r ∈ rs, Utf8.valid r = true) : runesOf (runesBytes rs) = rs := by
  have := runesOf_bytes rs ByteArray.empty hv
  simpa [runesOf, rest, decs] using this
def okPair (x : Nat × Nat) : Prop := Utf8.valid (x.1 : Int) = true
theorem okPair_ite {c : Prop} [Decidable c] {a b : Nat × Nat} (h1 : c → okPair a) (h2 : ¬ c → okPair b) : okPair (if c then a else b) := by
  by_cases h : c
  · rw [if_pos h]; exact h1 h
  · rw [if_neg h]; exact h2 h
theorem okPair_err (n : Nat) : okPair (Utf8.runeError, n) := by
  show Utf8.valid ((Utf8.runeError : Nat) : Int) = true
  decide
theorem okPair_small (n m : Nat) (h : n < 55296) : okPair (n, m) := by
  show Utf8.valid (n : Int) = true
  simp only [Utf8.valid, Bool.or_eq_true, Bool.and_eq_true, decide_eq_true_eq]
  left; omega
theorem okPair_valid (n m : Nat) (k : Nat) (h : (decide (n ≥ k) && Utf8.valid (n : Int)) = true) : okPair (n, m) := by
  rw [Bool.and_eq_true] at h; exact h.2
theorem decode_valid (s : ByteArray) (pos : Nat) : Utf8.valid ((Utf8.decode s pos).1 : Int) = true := by
  show okPair (Utf8.decode s pos)
  unfold Utf8.decode
  refine okPair_ite (fun h => okPair_small _ _ (by omega)) (fun _ => ?_)
  refine okPair_ite (fun _ => okPair_ite (fun _ => okPair_small _ _ ?_) (fun _ => okPair_err _)) (fun _ => ?_)
  · have h1 := Nat.mod_lt (s.get! (pos + 0)).toNat (show 32 > 0 by decide)
    have h2 := Nat.mod_lt (s.get! (pos + 1)).toNat (show 64 > 0 by decide)
    omega
  refine okPair_ite (fun _ => okPair_ite (fun h => okPair_valid _ _ _ h) (fun _ => okPair_err _)) (fun _ => ?_)
  exact okPair_ite (fun _ => okPair_ite (fun h => okPair_valid _ _ _ h) (fun _ => okPair_err _)) (fun _ => okPair_err _)
theorem rest_valid (s : ByteArray) (pos : Nat) : ∀ r ∈ rest s pos, Utf8.valid r = true := by
  have key : ∀ f p, ∀ r ∈ decs s f p, Utf8.valid r = true := by
    intro f
    induction f with
    | zero => intro p r hr; simp [decs] at hr
    | succ f ih =>
      intro p r hr
      unfold decs at hr
      split at hr
      · rcases List.mem_cons.1 hr with rfl | h
        · exact decode_valid s p
        · exact ih _ r h
      · simp at hr
  exact key _ _

end Go.Proofs.Ythhjcpmnekibnaa.Rn
namespace Go.Proofs.Ythhjcpmnekibnaa.Rn
open Go.RowKit
set_option linter.unusedVariables false

theorem wakes_bad : badOf ⟨#[111, 110, 101, 40, 32, 195, 169, 41]⟩ = 0 := by kernel_rfl
theorem wakes_sg : sgOf ⟨#[111, 110, 101, 40, 32, 195, 169, 41]⟩ = [(⟨#[111, 110, 101]⟩, 1), (⟨#[40]⟩, 4), (⟨#[195, 169]⟩, 6), (⟨#[41]⟩, 7)] := by kernel_rfl
def RInv (K : Nat) (w : World) (s : ByteArray) (pos : Nat) (run : List Int) (u : Value) (wr : World) : Prop :=
  wr.heap[K]? = some (.stringIter s pos) ∧ wr.ownsRow (K + 1) 21 1 u run.length (runCells run) ∧ Below K w wr ∧ K + 1 ≤ wr.heap.size
theorem RInv.iter {K : Nat} {w : World} {s : ByteArray} {pos : Nat} {run : List Int} {u : Value} {wr : World} (h : RInv K w s pos run u wr) (pos' : Nat) : RInv K w s pos' run u (wr.iterAt K s pos') := by
  obtain ⟨h1, h3, h4, h5⟩ := h
  exact ⟨Lib.iterAt_heap wr K s pos pos' h1, ownsRow_iterAt h3 (by omega) s pos', Lib.below_iterAt h4 (Nat.le_refl _) s pos', by rw [Lib.iterAt_size]; exact h5⟩
theorem RInv.alloc {K : Nat} {w : World} {s : ByteArray} {pos : Nat} {run : List Int} {u : Value} {wr : World} (h : RInv K w s pos run u wr) (o : Obj) : RInv K w s pos run u (wr.alloc o) := by
  obtain ⟨h1, h3, h4, h5⟩ := h
  exact ⟨(heap_alloc_old wr o (by omega)).trans h1, h3.alloc o, h4.alloc (by omega) o, by simp; omega⟩
theorem RInv.run {K : Nat} {w : World} {s : ByteArray} {pos : Nat} {run run' : List Int} {u u' : Value} {wr w1 : World} (h : RInv K w s pos run u wr)
    (hu' : w1.ownsRow (K + 1) 21 1 u' run'.length (runCells run')) (hg : wr.grownBy w1 u.ownBlock) : RInv K w s pos run' u' w1 := by
  obtain ⟨h1, h3, h4, h5⟩ := h
  exact ⟨iter_kept h1 h3 (by omega) hg, hu', below_kept h4 h5 h3 (by omega) hg, by have := hg.size; omega⟩
theorem ownsRow_lower {w : World} {B B' : Nat} {e : TypeId} {size : Nat} {v : Value} {n : Nat} {xs : List Value} (h : w.ownsRow B e size v n xs) (hB : B' ≤ B) : w.ownsRow B' e size v n xs := by
  refine ⟨h.1, ?_⟩
  rcases h.2 with h | ⟨g, cap, cur, h1, h2, h3⟩
  · exact .inl h
  · exact .inr ⟨g, cap, cur, h1, by omega, h3⟩
set_option maxHeartbeats 1000000 in
set_option maxRecDepth 100000 in
theorem refRunes_any (s : ByteArray) (w : World) (hs : s.size ≤ 2147483648) :
    Calls Try.prog 44 #[.string s] w fun e w' => ∃ v, e = .returned v ∧ w'.ownsRow w.heap.size 21 1 v (runesOf s).length (runCells (runesOf s)) ∧ Below w.heap.size w w' := by
  obtain ⟨i1, gi, gz0, gz1, gz2⟩ := info_parts Try.info21
  go_enter Try.func44, Try.ntmps44
  go_wp2
  go_loopw [3] (fun u wr => ∃ (pos : Nat) (run : List Int), RInv w.heap.size w s pos run u wr ∧ run.length + (rest s pos).length ≤ s.size ∧ run ++ rest s pos = runesOf s) (fun _ w' => s.size - w'.iterPos w.heap.size)
  case atStart =>
    refine ⟨0, [], ⟨?_, World.ownsRow_nil _ _ _ _, below_iter _ _ _, ?_⟩, by have := rest_length s 0; simpa using this, rfl⟩
    · exact World.iter_heap w s 0
    · simp [World.iter]
  case round =>
    obtain ⟨pos, run, hinv, hps, hc⟩ := hrel
    by_cases hp : pos < s.size
    · have hwd := width_pos s pos hp
      have hst := rest_step s pos hp
      rw [hst] at hps hc
      simp only [List.length_cons] at hps
      have HC : Hid (run ++ (((Utf8.decode s pos).1 : Int) :: rest s (pos + (Utf8.decode s pos).2)) = runesOf s) := hc
      have HS : Hid (run.length + ((rest s (pos + (Utf8.decode s pos).2)).length + 1) ≤ s.size) := hps
      have hp1 : run.length + 1 ≤ s.size := by omega
      obtain ⟨wr2, hw2⟩ : ∃ x, x = wr.iterAt w.heap.size s (pos + (Utf8.decode s pos).2) := ⟨_, rfl⟩
      have hnx : ∀ ty, (Instr.next (.pointer (some ⟨w.heap.size, 0, none⟩)) true ty).run Try.prog wr = .ok (.tuple #[.bool true, .int .i64 pos, .int .i32 (Utf8.decode s pos).1]) wr2 := fun ty => by rw [hw2]; exact Lib.run_next_any_at wr w.heap.size s pos ty hinv.1 hp
      have hinv2 := hinv.iter (pos + (Utf8.decode s pos).2)
      rw [← hw2] at hinv2
      have hpos : Hid (wr.iterPos w.heap.size = pos) := iterPos_of hinv.1
      clear hc hst hps hw2 hinv
      generalize hr : ((Utf8.decode s pos).1 : Int) = r at *
      generalize hwi : (Utf8.decode s pos).2 = wi at *
      clear hr hwi
      go_wp2_with (at_builtin; refine wpList_append_own _ rfl _ _ 114 rfl (w.heap.size + 1) 21 i1 (.int .i32 0) 1 4 Try.underlying114 gi gz0 gz1 gz2 rfl (by decide) _ _ _ rfl (hinv2.2.1.alloc _) ⟨wr2.heap.size, 0, none⟩ 1 1 [.int .i32 r] rfl rfl (cell_one_at wr2 _ _) (by intro u hu; simp at hu; subst hu; rfl) (by unfold maxLen; omega) (by omega) (by have := hinv2.2.2.2; simp; omega) ?_; intro u' w1 hown' hgrow _)
      have hown2 : w1.ownsRow (w.heap.size + 1) 21 1 u' (run ++ [r]).length (runCells (run ++ [r])) := by simpa [runCells] using hown'
      have hinv3 := (hinv2.alloc _).run hown2 hgrow
      go_roundw
      case rel => exact ⟨pos + wi, run ++ [r], hinv3, by have := HS.out; simp; omega, by rw [← HC.out]; simp⟩
      case measure => have := iterPos_of hinv3.1; have := hpos.out; omega
    · have hnx : ∀ ty, (Instr.next (.pointer (some ⟨w.heap.size, 0, none⟩)) true ty).run Try.prog wr = _ := fun ty => Lib.run_next_end_at wr w.heap.size s pos ty hinv.1 hp
      rw [rest_end s pos hp, List.append_nil] at hc
      subst hc
      go_wp2
      go_ret
      exact ⟨_, rfl, ownsRow_lower hinv.2.1 (by omega), hinv.2.2.1⟩
def fname (rs : List Int) : Bool := rs.all letB && !(rs.headD 0 |> digB) && decide (1 ≤ rs.length) && decide (rs.length ≤ 12)
theorem nameGo_tail (rs : List Int) : ∀ c : Nat, 1 ≤ c → c ≤ 12 → nameGo c rs = (rs.all letB && decide (c + rs.length ≤ 12)) := by
  induction rs with
  | nil => intro c h1 h2; simp [nameGo]; omega
  | cons r rs ih =>
    intro c h1 h2
    cases hl : letB r
    · rw [nameGo_no _ _ _ (by simp [hl])]; simp [hl]
    · by_cases h12 : c = 12
      · subst h12
        rw [nameGo_no _ _ _ (by simp)]
        simp
      · rw [nameGo_yes c r rs hl (by simp; omega) (by simpa using h12), ih (c + 1) (by omega) (by omega)]
        simp only [List.all_cons, hl, Bool.true_and, List.length_cons]
        congr 1
        rw [Bool.eq_iff_iff]; simp; omega
theorem nameGo_fname (rs : List Int) : nameGo 0 rs = fname rs := by
  cases rs with
  | nil => simp [nameGo, fname]
  | cons r rs =>
    cases hl : letB r
    · rw [nameGo_no _ _ _ (by simp [hl])]; simp [fname, hl]
    · cases hd : digB r
      · rw [nameGo_yes 0 r rs hl (by simp [hd]) (by rfl), nameGo_tail rs 1 (by omega) (by omega)]
        simp only [fname, List.all_cons, hl, Bool.true_and, List.headD_cons, hd, Bool.not_false, Bool.and_true, List.length_cons]
        simp
        congr 1
        rw [Bool.eq_iff_iff]; simp; omega
      · rw [nameGo_no _ _ _ (by simp [hd])]; simp [fname, hd]
/-- A row of runes, cell by cell. -/
theorem row_at {w : World} {B : Nat} {v : Value} {rs : List Int} (h : w.ownsRow B 21 1 v rs.length (runCells rs)) : ∀ k (hk : k < rs.length), ∃ g cap, v = .slice (some ⟨g, 0, none⟩) rs.length cap ∧ w.cell? ⟨g, k, none⟩ = some (.int .i32 rs[k]) := by
  intro k hk
  rcases h.2 with ⟨rfl, h0⟩ | ⟨g, cap, cur, rfl, _⟩
  · omega
  · refine ⟨g, cap, rfl, ?_⟩
    rw [h.cellAt k (by omega)]
    simp [runCells, hk]
theorem row_shape {w : World} {B : Nat} {e : TypeId} {size n : Nat} {v : Value} {xs : List Value} (h : w.ownsRow B e size v n xs) : ∃ ao cap, v = .slice ao n cap := by
  rcases h.2 with ⟨rfl, rfl⟩ | ⟨g, cap, cur, rfl, _⟩
  · exact ⟨_, _, rfl⟩
  · exact ⟨_, _, rfl⟩
theorem fname_no (rs : List Int) (k : Nat) (hk : k < rs.length) (h : letB rs[k] = false) : fname rs = false := by
  have : rs.all letB = false := by
    rw [List.all_eq_false]
    exact ⟨rs[k], List.getElem_mem hk, by rw [h]; simp⟩
  simp [fname, this]
theorem fname_dig (rs : List Int) (hk : 0 < rs.length) (h : digB rs[0] = true) : fname rs = false := by
  cases rs with
  | nil => simp at hk
  | cons r rs => simp at h; simp [fname, h]
theorem fname_all (rs : List Int) (h : ∀ j (hj : j < rs.length), letB rs[j] = true) (h0 : ∀ hk : 0 < rs.length, digB rs[0] = false) : fname rs = (decide (1 ≤ rs.length) && decide (rs.length ≤ 12)) := by
  have ha : rs.all letB = true := by
    rw [List.all_eq_true]
    intro x hx
    obtain ⟨j, hj, rfl⟩ := List.getElem_of_mem hx
    exact h j hj
  cases rs with
  | nil => simp [fname]
  | cons r rs =>
    have := h0 (by simp)
    simp at this
    unfold fname
    rw [ha, List.headD_cons, this]
    rfl
set_option maxHeartbeats 1000000 in
set_option maxRecDepth 100000 in
theorem refName_any (s : ByteArray) (w : World) (hs : s.size ≤ 2147483648) :
    Calls Try.prog 75 #[.string s] w fun e w' => e = .returned (.bool (nameGo 0 (runesOf s))) ∧ Below w.heap.size w w' := by
  rw [nameGo_fname]
  have hlen := rest_length s 0
  change (runesOf s).length ≤ s.size - 0 at hlen
  go_enter Try.func75, Try.ntmps75
  go_wp2_with fail
  refine (refRunes_any s w hs).mono ?_
  rintro e w1 ⟨v, rfl, hown, hb⟩
  obtain ⟨rs, hrs⟩ : ∃ rs, runesOf s = rs := ⟨_, rfl⟩
  rw [hrs] at hown hlen
  have HRS : Hid (runesOf s = rs) := hrs
  clear hrs
  have hl : rs.length ≤ 2147483648 := by omega
  clear hlen
  obtain ⟨ao, cap, hv⟩ := row_shape hown
  have hcells := row_at hown
  subst hv
  have HC : Hid (∀ k (hk : k < rs.length), w1.cell? ⟨(ao.getD ⟨0, 0, none⟩).block, k, none⟩ = some (.int .i32 rs[k]) ∧ ao = some ⟨(ao.getD ⟨0, 0, none⟩).block, 0, none⟩) := by
    intro k hk
    obtain ⟨g, cap', h1, h2⟩ := hcells k hk
    injection h1 with h3 h4 h5
    subst h3
    exact ⟨h2, rfl⟩
  clear hcells hown
  go_wp2_with fail
  go_loop [9] (fun i => ∃ k : Nat, k ≤ rs.length ∧ i = .int .i64 k ∧ Hid (∀ j (hj : j < rs.length), j < k → letB rs[j] = true) ∧ Hid (0 < k → ∀ hk : 0 < rs.length, digB rs[0] = false)) (fun i => rs.length - (intOf i).toNat)
  case atStart => exact ⟨0, by omega, rfl, fun j hj h => absurd h (by omega), fun h => absurd h (by omega)⟩
  case round =>
    obtain ⟨k, hk, rfl, HL, HD⟩ := hrel
    by_cases hlt : k < rs.length
    · obtain ⟨hc, hao⟩ := HC.out k hlt
      generalize (ao.getD ⟨0, 0, none⟩).block = g at *
      subst hao
      have hlt' : (k : Int) < (rs.length : Int) := by omega
      have HX : Hid (∀ (h : letB rs[k] = false), fname rs = false) := fun h => fname_no rs k hlt h
      obtain ⟨r, hr⟩ : ∃ r, r = rs[k] := ⟨_, rfl⟩
      rw [← hr] at hc
      have HR : Hid (r = rs[k]) := hr
      clear hr
      cases hlb : letB r
      · go_wp2_with (go_at_call 45; refine calls_same (refLet_any _ _) ?_)
        go_ret
        have h1 := HR.out
        rw [h1] at hlb
        rw [HRS.out, fname_no rs k hlt hlb]
        exact ⟨rfl, hb⟩
      · by_cases hk0 : k = 0
        · subst hk0
          by_cases hd1 : (48 : Int) ≤ r <;> by_cases hd2 : r ≤ (57 : Int)
          rotate_right
          · exfalso; omega
          · go_wp2_with (go_at_call 45; refine calls_same (refLet_any _ _) ?_)
            go_ret
            have h1 := HR.out
            rw [HRS.out, fname_dig rs hlt (by rw [← h1]; simp [digB, hd1, hd2])]
            exact ⟨rfl, hb⟩
          all_goals
            go_wp2_with (go_at_call 45; refine calls_same (refLet_any _ _) ?_)
            go_round
            case rel =>
              refine ⟨1, by omega, by go_num, ?_, ?_⟩
              · intro j hj h
                have hj0 : j = 0 := by omega
                subst hj0
                rw [← HR.out]; exact hlb
              · intro _ _
                rw [← HR.out]
                simp [digB]; omega
            case measure => simp [intOf]; omega
        · have e0 : ((k : Int) == 0) = false := by rw [beq_eq_false_iff_ne]; omega
          go_wp2_with (go_at_call 45; refine calls_same (refLet_any _ _) ?_)
          go_round
          case rel =>
            refine ⟨k + 1, by omega, by go_num, ?_, ?_⟩
            · intro j hj h
              by_cases hjk : j = k
              · subst hjk; rw [← HR.out]; exact hlb
              · exact HL.out j hj (by omega)
            · intro _ h
              exact HD.out (by omega) h
          case measure => simp [intOf]; omega
    · have hkl : k = rs.length := by omega
      have HF : Hid (fname rs = (decide (1 ≤ rs.length) && decide (rs.length ≤ 12))) := fname_all rs (fun j hj => HL.out j hj (by omega)) (fun h => HD.out (by omega) h)
      subst hkl
      by_cases h1 : 1 ≤ rs.length
      · have h1' : (1 : Int) ≤ (rs.length : Int) := by omega
        go_wp2_with fail
        go_ret
        rw [HRS.out, HF.out]
        refine ⟨ret_bool ?_, hb⟩
        rw [Bool.eq_iff_iff]; simp; omega
      · have h1' : ¬ (1 : Int) ≤ (rs.length : Int) := by omega
        have h1d : decide ((1 : Int) ≤ (rs.length : Int)) = false := by simpa using h1'
        go_wp2_with fail
        go_ret
        rw [HRS.out, HF.out]
        refine ⟨ret_bool ?_, hb⟩
        rw [Bool.eq_iff_iff]; simp; omega

end Go.Proofs.Ythhjcpmnekibnaa.Rn
namespace Go.Proofs.Ythhjcpmnekibnaa.Rn
open Go.RowKit
set_option linter.unusedVariables false

def refNum (neg : Bool) (t : List UInt8) : Int × Bool :=
  if t = [] ∨ 13 < t.length ∨ (t.head? = some 48 ∧ (1 < t.length ∨ neg = true)) then (0, false)
  else if t.all isDig = true then (if 1000000000000 < valB t then (0, false) else (if neg = true then - valB t else valB t, true)) else (0, false)
theorem refNum_short (neg : Bool) (t : List UInt8) (h : t = [] ∨ 13 < t.length ∨ (t.head? = some 48 ∧ (1 < t.length ∨ neg = true))) : refNum neg t = (0, false) := by rw [refNum, if_pos h]
theorem refNum_nodig (neg : Bool) (t : List UInt8) (h : t.all isDig = false) : refNum neg t = (0, false) := by
  rw [refNum]; simp [h]
theorem refNum_dig (neg : Bool) (t : List UInt8) (h : ¬ (t = [] ∨ 13 < t.length ∨ (t.head? = some 48 ∧ (1 < t.length ∨ neg = true)))) (hd : t.all isDig = true) :
    refNum neg t = if 1000000000000 < valB t then (0, false) else (if neg = true then - valB t else valB t, true) := by rw [refNum, if_neg h, if_pos hd]
theorem valB_pos (t : List UInt8) : ∀ a : Int, 0 ≤ a → t.all isDig = true → 0 < a ∨ (t ≠ [] ∧ t.head? ≠ some 48) → 0 < t.foldl (fun a c => a * 10 + ((c.toNat : Int) - 48)) a := by
  induction t with
  | nil =>
    intro a h0 _ h
    rcases h with h | h
    · exact h
    · exact absurd rfl h.1
  | cons c t ih =>
    intro a h0 ha h
    simp only [List.all_cons, Bool.and_eq_true] at ha
    have hc : 48 ≤ (c.toNat : Int) ∧ (c.toNat : Int) ≤ 57 := by simpa [isDig, digB] using ha.1
    rw [List.foldl_cons]
    refine ih _ (by omega) ha.2 (.inl ?_)
    rcases h with h | h
    · omega
    · have : ¬ c = 48 := by intro e; apply h.2; rw [e]; rfl
      have : c.toNat ≠ 48 := by intro e; apply this; apply UInt8.toNat_inj.1; exact e
      omega
theorem numOf_ref (l : List UInt8) : numOf l = if l.head? = some 45 then refNum true l.tail else refNum false l := by
  cases l with
  | nil => rfl
  | cons c t =>
    by_cases hc : c = 45
    · subst hc
      rw [numOf_neg]
      simp only [List.head?_cons, if_true, List.tail_cons]
      by_cases h1 : t = [] ∨ 13 < t.length ∨ (1 < t.length ∧ t.head? = some 48)
      · rw [natOf_short t h1]
        have : t = [] ∨ 13 < t.length ∨ (t.head? = some 48 ∧ (1 < t.length ∨ true = true)) := by
          rcases h1 with h | h | h
          · exact .inl h
          · exact .inr (.inl h)
          · exact .inr (.inr ⟨h.2, .inl h.1⟩)
        rw [refNum_short _ _ this]
        simp
      · by_cases hd : t.all isDig = true
        · rw [natOf_dig t h1 hd]
          by_cases h48 : t.head? = some 48
          · have hl : t.length = 1 := by
              have h2 : ¬ t = [] := fun e => h1 (.inl e)
              have h3 : ¬ 1 < t.length := fun e => h1 (.inr (.inr ⟨e, h48⟩))
              have := List.length_pos_iff.2 h2
              omega
            have ht : t = [48] := by
              cases t with
              | nil => simp at hl
              | cons a u =>
                simp at h48 hl
                subst h48 hl
                rfl
            rw [refNum_short _ _ (.inr (.inr ⟨h48, .inr rfl⟩)), ht]
            decide
          · have hne : ¬ t = [] := fun e => h1 (.inl e)
            have hpos := valB_pos t 0 (by omega) hd (.inr ⟨hne, h48⟩)
            change 0 < valB t at hpos
            rw [refNum_dig _ _ (by
              rintro (h | h | h)
              · exact hne h
              · exact h1 (.inr (.inl h))
              · exact h48 h.1) hd]
            by_cases hb : 1000000000000 < valB t
            · simp [hb]
            · simp [hb]; omega
        · have hd' : t.all isDig = false := by simpa using hd
          rw [natOf_nodig t hd', refNum_nodig _ _ hd']
          simp
    · rw [numOf_pos _ (by simpa using hc), if_neg (by simpa using hc)]
      unfold natOf refNum
      have e : (c :: t = [] ∨ 13 < (c :: t).length ∨ (1 < (c :: t).length ∧ (c :: t).head? = some 48)) ↔ (c :: t = [] ∨ 13 < (c :: t).length ∨ ((c :: t).head? = some 48 ∧ (1 < (c :: t).length ∨ false = true))) := by
        constructor
        · rintro (h | h | h)
          · exact .inl h
          · exact .inr (.inl h)
          · exact .inr (.inr ⟨h.2, .inl h.1⟩)
        · rintro (h | h | h)
          · exact .inl h
          · exact .inr (.inl h)
          · exact .inr (.inr ⟨h.2.resolve_right (by simp), h.1⟩)
      by_cases hc1 : (c :: t = [] ∨ 13 < (c :: t).length ∨ (1 < (c :: t).length ∧ (c :: t).head? = some 48))
      · rw [if_pos hc1, if_pos (e.1 hc1)]
      · rw [if_neg hc1, if_neg (fun h => hc1 (e.2 h))]
        simp
set_option maxHeartbeats 2000000 in
set_option maxRecDepth 100000 in
theorem refNumber_any (s : ByteArray) (w : World) (hs : s.size ≤ maxLen) :
    Calls Try.prog 74 #[.string s] w fun e w' => e = .returned (.tuple #[.int .i64 (numOf s.data.toList).1, .bool (numOf s.data.toList).2]) ∧ w' = w := by
  unfold maxLen at hs
  have hN := numOf_ref s.data.toList
  obtain ⟨neg, hneg⟩ : ∃ neg : Bool, neg = decide (s.data.toList.head? = some 45) := ⟨_, rfl⟩
  cases neg
  · have hh : ¬ s.data.toList.head? = some 45 := by simpa using hneg.symm
    rw [if_neg hh] at hN
    have HN : Hid (numOf s.data.toList = refNum false s.data.toList) := hN
    have e1 : ∀ h : 0 < s.size, (((s[0]'h).toNat : Int) == 45) = false := by
      intro h
      rw [beq_eq_false_iff_ne]
      intro e
      apply hh
      rw [head_eq s h]
      congr 1
      apply UInt8.toNat_inj.1
      show _ = 45
      omega
    clear hN hneg hh
    by_cases hq : 0 < s.size
    · have e1' := e1 hq
      clear e1
      go_enter Try.func74, Try.ntmps74
      go_upto_if 15 with fail
      go_cut [0] (fun s0 wx => wx = w ∧ ∃ t : ByteArray, s0 = .string t ∧ t.size ≤ 9223372036854775807 ∧ Hid (numOf s.data.toList = refNum false t.data.toList))
      case first =>
        go_wp2_with fail
        go_meet
        case rel => exact ⟨rfl, s, rfl, hs, HN⟩
      case rest =>
        clear HN
        obtain ⟨rfl, t, rfl, ht, HN⟩ := hcut
        clear e1' hq hs
        have hlen : t.data.toList.length = t.size := by simp
        by_cases h0 : t.size = 0
        · have h0' : (t.size : Int) < 1 := by omega
          have HF : Hid (refNum false t.data.toList = (0, false)) := refNum_short _ _ (.inl (List.eq_nil_of_length_eq_zero (by omega)))
          clear hlen
          go_wp2_with fail
          go_ret2
          rw [HN.out, HF.out]
          exact ⟨rfl, rfl⟩
        have hp : 0 < t.size := by omega
        have h0' : ¬ (t.size : Int) < 1 := by omega
        have h0d : decide ((t.size : Int) < 1) = false := by simpa using h0'
        by_cases h13 : 13 < t.size
        · have HF : Hid (refNum false t.data.toList = (0, false)) := refNum_short _ _ (.inr (.inl (by omega)))
          have h13' : (13 : Int) < (t.size : Int) := by omega
          clear hlen h13
          go_wp2_with fail
          go_ret2
          rw [HN.out, HF.out]
          exact ⟨rfl, rfl⟩
        have h13' : ¬ (13 : Int) < (t.size : Int) := by omega
        have h13d : decide ((13 : Int) < (t.size : Int)) = false := by simpa using h13'
        by_cases hz : t.data.toList.head? = some 48 ∧ (1 < t.size ∨ false = true)
        · have HF : Hid (refNum false t.data.toList = (0, false)) := refNum_short _ _ (.inr (.inr (by rw [hlen]; exact hz)))
          have ez : (((t[0]'hp).toNat : Int) == 48) = true := by
            have h2 := hz.1
            rw [head_eq t hp] at h2
            rw [Option.some.inj h2]; rfl
          have hz2 := hz.2
          clear hz hlen
          by_cases h1 : 1 < t.size
          · have h1' : (1 : Int) < (t.size : Int) := by omega
            clear hz2
            go_wp2_with fail
            go_ret2
            rw [HN.out, HF.out]
            exact ⟨rfl, rfl⟩
          · have h1' : ¬ (1 : Int) < (t.size : Int) := by omega
            have h1d : decide ((1 : Int) < (t.size : Int)) = false := by simpa using h1'
            exfalso
            rcases hz2 with h | h
            · exact h1 h
            · cases h
        have hne : ¬ (t.data.toList = [] ∨ 13 < t.data.toList.length ∨ (t.data.toList.head? = some 48 ∧ (1 < t.data.toList.length ∨ false = true))) := by
          rw [hlen]
          rintro (h | h | h)
          · rw [h] at hlen; simp at hlen; omega
          · omega
          · exact hz h
        have HD : Hid (t.data.toList.all isDig = true → refNum false t.data.toList = if 1000000000000 < valB t.data.toList then (0, false) else (if false = true then - valB t.data.toList else valB t.data.toList, true)) := refNum_dig false _ hne
        have HL : Hid (t.data.toList.length = t.size) := hlen
        have hzz : ((((t[0]'hp).toNat : Int) == 48) = false) ∨ ((((t[0]'hp).toNat : Int) == 48) = true ∧ ¬ 1 < t.size ∧ false = false) := by
          by_cases e : (t[0]'hp) = 48
          · right
            have hh : t.data.toList.head? = some 48 := by rw [head_eq t hp, e]
            refine ⟨by rw [e]; rfl, fun h => hz ⟨hh, .inl h⟩, ?_⟩
            cases hq : false
            · rfl
            · exact absurd ⟨hh, .inr hq⟩ hz
          · left
            rw [beq_eq_false_iff_ne]
            intro h
            apply e
            apply UInt8.toNat_inj.1
            show _ = 48
            omega
        clear hne hlen hz h0 h0'
        rcases hzz with ez | ⟨ez, hz1, hz2⟩
        · go_wp2_with fail
          go_loop [5, 6] (fun n i => ∃ k : Nat, k ≤ t.size ∧ i = .int .i64 k ∧ n = .int .i64 (valB (t.data.toList.take k)) ∧ Hid ((t.data.toList.take k).all isDig = true)) (fun _ i => t.size - (intOf i).toNat)
          case atStart => exact ⟨0, by omega, rfl, rfl, rfl⟩
          case round =>
            obtain ⟨k, hk, rfl, rfl, HA⟩ := hrel
            have hb := valB_bd _ HA.out
            have hl : (t.data.toList.take k).length ≤ 13 := by rw [List.length_take]; omega
            have hp13 := pow13 _ hl
            have hbd : valB (t.data.toList.take k) < 10000000000000 := by omega
            have hbd0 := hb.1
            clear hb hp13 hl
            by_cases hlt : k < t.size
            · have hlt' : (k : Int) < (t.size : Int) := by omega
              have hsn := valB_snoc (t.data.toList.take k) t[k]
              have hts := take_snoc t k hlt
              have HV : Hid (valB (t.data.toList.take (k + 1)) = valB (t.data.toList.take k) * 10 + ((t[k].toNat : Int) - 48)) := by rw [hts]; exact hsn
              have HT : Hid (t.data.toList.take (k + 1) = t.data.toList.take k ++ [t[k]]) := hts
              clear hsn hts
              have hbyte : (t[k].toNat : Int) < 256 := by have := t[k].toNat_lt; omega
              have hbyte0 : (0 : Int) ≤ (t[k].toNat : Int) := by omega
              by_cases hd1 : (t[k].toNat : Int) < 48
              · go_wp2_with fail
                go_ret2
                have hno := refNum_nodig false _ (all_of_getElem t.data.toList k (by rw [HL.out]; exact hlt) (by show digB (t[k].toNat : Int) = false; simp [digB]; omega))
                rw [HN.out, hno]
                exact ⟨rfl, rfl⟩
              · by_cases hd2 : (57 : Int) < (t[k].toNat : Int)
                · go_wp2_with fail
                  go_ret2
                  have hno := refNum_nodig false _ (all_of_getElem t.data.toList k (by rw [HL.out]; exact hlt) (by show digB (t[k].toNat : Int) = false; simp [digB]; omega))
                  rw [HN.out, hno]
                  exact ⟨rfl, rfl⟩
                · have hd : isDig t[k] = true := by unfold isDig digB; simp; omega
                  have HDk : Hid (isDig t[k] = true) := hd
                  clear hd
                  go_wp2_with fail
                  go_round
                  case rel => exact ⟨k + 1, by omega, by go_num, by rw [HV.out]; first | rfl | go_num, by unfold Hid; rw [HT.out, List.all_append, HA.out]; simpa using HDk.out⟩
                  case measure => simp [intOf]; omega
            · have hlt' : ¬ (k : Int) < (t.size : Int) := by omega
              have hks : t.data.toList.take k = t.data.toList := List.take_of_length_le (by rw [HL.out]; omega)
              rw [hks] at hbd hbd0
              have hall2 := HA.out
              rw [hks] at hall2
              have HF : Hid (refNum false t.data.toList = if 1000000000000 < valB t.data.toList then (0, false) else (if false = true then - valB t.data.toList else valB t.data.toList, true)) := HD.out hall2
              clear hall2
              rw [hks]
              clear hks
              by_cases hbig : 1000000000000 < valB t.data.toList
              · go_wp2_with fail
                go_ret2
                rw [HN.out, HF.out, if_pos hbig]
                exact ⟨rfl, rfl⟩
              · go_wp2_with fail
                go_ret2
                rw [HN.out, HF.out, if_neg (by omega)]
                exact ⟨rfl, rfl⟩
        · have hz1d : decide ((1 : Int) < (t.size : Int)) = false := by simp; omega
          go_wp2_with fail
          go_loop [5, 6] (fun n i => ∃ k : Nat, k ≤ t.size ∧ i = .int .i64 k ∧ n = .int .i64 (valB (t.data.toList.take k)) ∧ Hid ((t.data.toList.take k).all isDig = true)) (fun _ i => t.size - (intOf i).toNat)
          case atStart => exact ⟨0, by omega, rfl, rfl, rfl⟩
          case round =>
            obtain ⟨k, hk, rfl, rfl, HA⟩ := hrel
            have hb := valB_bd _ HA.out
            have hl : (t.data.toList.take k).length ≤ 13 := by rw [List.length_take]; omega
            have hp13 := pow13 _ hl
            have hbd : valB (t.data.toList.take k) < 10000000000000 := by omega
            have hbd0 := hb.1
            clear hb hp13 hl
            by_cases hlt : k < t.size
            · have hlt' : (k : Int) < (t.size : Int) := by omega
              have hsn := valB_snoc (t.data.toList.take k) t[k]
              have hts := take_snoc t k hlt
              have HV : Hid (valB (t.data.toList.take (k + 1)) = valB (t.data.toList.take k) * 10 + ((t[k].toNat : Int) - 48)) := by rw [hts]; exact hsn
              have HT : Hid (t.data.toList.take (k + 1) = t.data.toList.take k ++ [t[k]]) := hts
              clear hsn hts
              have hbyte : (t[k].toNat : Int) < 256 := by have := t[k].toNat_lt; omega
              have hbyte0 : (0 : Int) ≤ (t[k].toNat : Int) := by omega
              by_cases hd1 : (t[k].toNat : Int) < 48
              · go_wp2_with fail
                go_ret2
                have hno := refNum_nodig false _ (all_of_getElem t.data.toList k (by rw [HL.out]; exact hlt) (by show digB (t[k].toNat : Int) = false; simp [digB]; omega))
                rw [HN.out, hno]
                exact ⟨rfl, rfl⟩
              · by_cases hd2 : (57 : Int) < (t[k].toNat : Int)
                · go_wp2_with fail
                  go_ret2
                  have hno := refNum_nodig false _ (all_of_getElem t.data.toList k (by rw [HL.out]; exact hlt) (by show digB (t[k].toNat : Int) = false; simp [digB]; omega))
                  rw [HN.out, hno]
                  exact ⟨rfl, rfl⟩
                · have hd : isDig t[k] = true := by unfold isDig digB; simp; omega
                  have HDk : Hid (isDig t[k] = true) := hd
                  clear hd
                  go_wp2_with fail
                  go_round
                  case rel => exact ⟨k + 1, by omega, by go_num, by rw [HV.out]; first | rfl | go_num, by unfold Hid; rw [HT.out, List.all_append, HA.out]; simpa using HDk.out⟩
                  case measure => simp [intOf]; omega
            · have hlt' : ¬ (k : Int) < (t.size : Int) := by omega
              have hks : t.data.toList.take k = t.data.toList := List.take_of_length_le (by rw [HL.out]; omega)
              rw [hks] at hbd hbd0
              have hall2 := HA.out
              rw [hks] at hall2
              have HF : Hid (refNum false t.data.toList = if 1000000000000 < valB t.data.toList then (0, false) else (if false = true then - valB t.data.toList else valB t.data.toList, true)) := HD.out hall2
              clear hall2
              rw [hks]
              clear hks
              by_cases hbig : 1000000000000 < valB t.data.toList
              · go_wp2_with fail
                go_ret2
                rw [HN.out, HF.out, if_pos hbig]
                exact ⟨rfl, rfl⟩
              · go_wp2_with fail
                go_ret2
                rw [HN.out, HF.out, if_neg (by omega)]
                exact ⟨rfl, rfl⟩
    · have hq' : ¬ (0 : Int) < (s.size : Int) := by omega
      have hqd : decide ((0 : Int) < (s.size : Int)) = false := by simpa using hq'
      have h0 : (s.size : Int) < 1 := by omega
      have HF : Hid (refNum false s.data.toList = (0, false)) := refNum_short _ _ (.inl (List.eq_nil_of_length_eq_zero (by rw [show s.data.toList.length = s.size from by simp]; omega)))
      clear e1 hq
      go_enter Try.func74, Try.ntmps74
      go_wp2_with fail
      go_ret2
      rw [HN.out, HF.out]
      exact ⟨rfl, rfl⟩
  · have hh : s.data.toList.head? = some 45 := by simpa using hneg.symm
    rw [if_pos hh] at hN
    have hq : 0 < s.size := by
      cases hl : s.data.toList with
      | nil => rw [hl] at hh; simp at hh
      | cons c u => have : s.data.toList.length = s.size := by simp
                    rw [hl] at this; simp at this; omega
    have e1' : (((s[0]'hq).toNat : Int) == 45) = true := by
      rw [head_eq s hq] at hh
      rw [Option.some.inj hh]; rfl
    have HN : Hid (numOf s.data.toList = refNum true (s.extract 1 s.size).data.toList) := by
      unfold Hid; rw [hN, toList_cut1, List.drop_one]
    clear hN hneg hh
    go_enter Try.func74, Try.ntmps74
    go_upto_if 15 with fail
    go_cut [0] (fun s0 wx => wx = w ∧ ∃ t : ByteArray, s0 = .string t ∧ t.size ≤ 9223372036854775807 ∧ Hid (numOf s.data.toList = refNum true t.data.toList))
    case first =>
      go_wp2_with fail
      go_meet
      case rel => exact ⟨rfl, _, rfl, by rw [ByteArray.size_extract]; omega, HN⟩
    case rest =>
      clear HN
      obtain ⟨rfl, t, rfl, ht, HN⟩ := hcut
      clear e1' hq hs
      have hlen : t.data.toList.length = t.size := by simp
      by_cases h0 : t.size = 0
      · have h0' : (t.size : Int) < 1 := by omega
        have HF : Hid (refNum true t.data.toList = (0, false)) := refNum_short _ _ (.inl (List.eq_nil_of_length_eq_zero (by omega)))
        clear hlen
        go_wp2_with fail
        go_ret2
        rw [HN.out, HF.out]
        exact ⟨rfl, rfl⟩
      have hp : 0 < t.size := by omega
      have h0' : ¬ (t.size : Int) < 1 := by omega
      have h0d : decide ((t.size : Int) < 1) = false := by simpa using h0'
      by_cases h13 : 13 < t.size
      · have HF : Hid (refNum true t.data.toList = (0, false)) := refNum_short _ _ (.inr (.inl (by omega)))
        have h13' : (13 : Int) < (t.size : Int) := by omega
        clear hlen h13
        go_wp2_with fail
        go_ret2
        rw [HN.out, HF.out]
        exact ⟨rfl, rfl⟩
      have h13' : ¬ (13 : Int) < (t.size : Int) := by omega
      have h13d : decide ((13 : Int) < (t.size : Int)) = false := by simpa using h13'
      by_cases hz : t.data.toList.head? = some 48 ∧ (1 < t.size ∨ true = true)
      · have HF : Hid (refNum true t.data.toList = (0, false)) := refNum_short _ _ (.inr (.inr (by rw [hlen]; exact hz)))
        have ez : (((t[0]'hp).toNat : Int) == 48) = true := by
          have h2 := hz.1
          rw [head_eq t hp] at h2
          rw [Option.some.inj h2]; rfl
        have hz2 := hz.2
        clear hz hlen
        by_cases h1 : 1 < t.size
        · have h1' : (1 : Int) < (t.size : Int) := by omega
          clear hz2
          go_wp2_with fail
          go_ret2
          rw [HN.out, HF.out]
          exact ⟨rfl, rfl⟩
        · have h1' : ¬ (1 : Int) < (t.size : Int) := by omega
          have h1d : decide ((1 : Int) < (t.size : Int)) = false := by simpa using h1'
          go_wp2_with fail
          go_ret2
          rw [HN.out, HF.out]
          exact ⟨rfl, rfl⟩
      have hne : ¬ (t.data.toList = [] ∨ 13 < t.data.toList.length ∨ (t.data.toList.head? = some 48 ∧ (1 < t.data.toList.length ∨ true = true))) := by
        rw [hlen]
        rintro (h | h | h)
        · rw [h] at hlen; simp at hlen; omega
        · omega
        · exact hz h
      have HD : Hid (t.data.toList.all isDig = true → refNum true t.data.toList = if 1000000000000 < valB t.data.toList then (0, false) else (if true = true then - valB t.data.toList else valB t.data.toList, true)) := refNum_dig true _ hne
      have HL : Hid (t.data.toList.length = t.size) := hlen
      have hzz : ((((t[0]'hp).toNat : Int) == 48) = false) ∨ ((((t[0]'hp).toNat : Int) == 48) = true ∧ ¬ 1 < t.size ∧ true = false) := by
        by_cases e : (t[0]'hp) = 48
        · right
          have hh : t.data.toList.head? = some 48 := by rw [head_eq t hp, e]
          refine ⟨by rw [e]; rfl, fun h => hz ⟨hh, .inl h⟩, ?_⟩
          cases hq : true
          · rfl
          · exact absurd ⟨hh, .inr hq⟩ hz
        · left
          rw [beq_eq_false_iff_ne]
          intro h
          apply e
          apply UInt8.toNat_inj.1
          show _ = 48
          omega
      clear hne hlen hz h0 h0'
      rcases hzz with ez | ⟨ez, hz1, hz2⟩
      · go_wp2_with fail
        go_loop [5, 6] (fun n i => ∃ k : Nat, k ≤ t.size ∧ i = .int .i64 k ∧ n = .int .i64 (valB (t.data.toList.take k)) ∧ Hid ((t.data.toList.take k).all isDig = true)) (fun _ i => t.size - (intOf i).toNat)
        case atStart => exact ⟨0, by omega, rfl, rfl, rfl⟩
        case round =>
          obtain ⟨k, hk, rfl, rfl, HA⟩ := hrel
          have hb := valB_bd _ HA.out
          have hl : (t.data.toList.take k).length ≤ 13 := by rw [List.length_take]; omega
          have hp13 := pow13 _ hl
          have hbd : valB (t.data.toList.take k) < 10000000000000 := by omega
          have hbd0 := hb.1
          clear hb hp13 hl
          by_cases hlt : k < t.size
          · have hlt' : (k : Int) < (t.size : Int) := by omega
            have hsn := valB_snoc (t.data.toList.take k) t[k]
            have hts := take_snoc t k hlt
            have HV : Hid (valB (t.data.toList.take (k + 1)) = valB (t.data.toList.take k) * 10 + ((t[k].toNat : Int) - 48)) := by rw [hts]; exact hsn
            have HT : Hid (t.data.toList.take (k + 1) = t.data.toList.take k ++ [t[k]]) := hts
            clear hsn hts
            have hbyte : (t[k].toNat : Int) < 256 := by have := t[k].toNat_lt; omega
            have hbyte0 : (0 : Int) ≤ (t[k].toNat : Int) := by omega
            by_cases hd1 : (t[k].toNat : Int) < 48
            · go_wp2_with fail
              go_ret2
              have hno := refNum_nodig true _ (all_of_getElem t.data.toList k (by rw [HL.out]; exact hlt) (by show digB (t[k].toNat : Int) = false; simp [digB]; omega))
              rw [HN.out, hno]
              exact ⟨rfl, rfl⟩
            · by_cases hd2 : (57 : Int) < (t[k].toNat : Int)
              · go_wp2_with fail
                go_ret2
                have hno := refNum_nodig true _ (all_of_getElem t.data.toList k (by rw [HL.out]; exact hlt) (by show digB (t[k].toNat : Int) = false; simp [digB]; omega))
                rw [HN.out, hno]
                exact ⟨rfl, rfl⟩
              · have hd : isDig t[k] = true := by unfold isDig digB; simp; omega
                have HDk : Hid (isDig t[k] = true) := hd
                clear hd
                go_wp2_with fail
                go_round
                case rel => exact ⟨k + 1, by omega, by go_num, by rw [HV.out]; first | rfl | go_num, by unfold Hid; rw [HT.out, List.all_append, HA.out]; simpa using HDk.out⟩
                case measure => simp [intOf]; omega
          · have hlt' : ¬ (k : Int) < (t.size : Int) := by omega
            have hks : t.data.toList.take k = t.data.toList := List.take_of_length_le (by rw [HL.out]; omega)
            rw [hks] at hbd hbd0
            have hall2 := HA.out
            rw [hks] at hall2
            have HF : Hid (refNum true t.data.toList = if 1000000000000 < valB t.data.toList then (0, false) else (if true = true then - valB t.data.toList else valB t.data.toList, true)) := HD.out hall2
            clear hall2
            rw [hks]
            clear hks
            by_cases hbig : 1000000000000 < valB t.data.toList
            · go_wp2_with fail
              go_ret2
              rw [HN.out, HF.out, if_pos hbig]
              exact ⟨rfl, rfl⟩
            · go_wp2_with fail
              go_ret2
              rw [HN.out, HF.out, if_neg (by omega)]
              exact ⟨rfl, rfl⟩
      · cases hz2

end Go.Proofs.Ythhjcpmnekibnaa.Rn
