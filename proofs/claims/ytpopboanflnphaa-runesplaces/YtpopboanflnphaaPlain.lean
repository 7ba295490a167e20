/- Plain mathematics: the runes of a text, what a name is, what a number is, where a text has something that is no sign, and its signs. -/
import Derived.Test.YtpopboanflnphaaInts
import Derived.Laws.Cover4
namespace Go.Proofs.Ytpopboanflnphaa
open Go.RowKit
set_option linter.unusedVariables false

/-- The runes from byte pos on, at most f of them. -/
def decs (s : ByteArray) : Nat → Nat → List Int
  | 0, _ => []
  | f + 1, pos => if pos < s.size then ((Utf8.decode s pos).1 : Int) :: decs s f (pos + (Utf8.decode s pos).2) else []

/-- The runes from byte pos on. -/
def rest (s : ByteArray) (pos : Nat) : List Int := decs s (s.size - pos) pos

theorem width_pos (s : ByteArray) (pos : Nat) (h : pos < s.size) : 1 ≤ (Utf8.decode s pos).2 := by
  by_cases ha : (s[pos]'h).toNat < 128
  · rw [decode_ascii s pos h ha]
    exact Nat.le_refl _
  · exact (decode_high s pos h (by omega)).2

theorem decs_fuel (s : ByteArray) : ∀ (f g pos : Nat), s.size ≤ pos + f → s.size ≤ pos + g → decs s f pos = decs s g pos
  | 0, 0, _, _, _ => rfl
  | 0, g + 1, pos, h, _ => by simp [decs, show ¬ pos < s.size by omega]
  | f + 1, 0, pos, _, h => by simp [decs, show ¬ pos < s.size by omega]
  | f + 1, g + 1, pos, h1, h2 => by
    by_cases hp : pos < s.size
    · have := width_pos s pos hp
      simp only [decs, hp, if_true]
      rw [decs_fuel s f g _ (by omega) (by omega)]
    · simp [decs, hp]

theorem rest_end (s : ByteArray) (pos : Nat) (h : ¬ pos < s.size) : rest s pos = [] := by
  unfold rest
  rw [show s.size - pos = 0 by omega]; rfl

theorem rest_step (s : ByteArray) (pos : Nat) (h : pos < s.size) : rest s pos = ((Utf8.decode s pos).1 : Int) :: rest s (pos + (Utf8.decode s pos).2) := by
  have hw := width_pos s pos h
  unfold rest
  obtain ⟨f, hf⟩ : ∃ f, s.size - pos = f + 1 := ⟨s.size - pos - 1, by omega⟩
  rw [hf]
  simp only [decs, h, if_true]
  rw [decs_fuel s f (s.size - (pos + (Utf8.decode s pos).2)) _ (by omega) (by omega)]

def runesOf (s : ByteArray) : List Int := rest s 0

/-- A rune fits in 32 bits. -/
theorem rune_bd (s : ByteArray) (pos : Nat) : (0 : Int) ≤ ((Utf8.decode s pos).1 : Int) ∧ ((Utf8.decode s pos).1 : Int) ≤ 2147483647 := by
  have := decode_le s pos
  omega

theorem rest_length (s : ByteArray) (pos : Nat) : (rest s pos).length ≤ s.size - pos := by
  have h : ∀ f p, (decs s f p).length ≤ f := by
    intro f
    induction f with
    | zero => intro p; simp [decs]
    | succ f ih =>
      intro p
      unfold decs
      split
      · simp; exact ih _
      · simp
  exact h _ _

/-! ### names -/
def nameGo : Nat → List Int → Bool
  | c, [] => decide (0 < c)
  | c, r :: rs => if (!letB r || ((c == 0) && digB r) || (c == 12)) = true then false else nameGo (c + 1) rs

/-! ### signs: where there is something else -/
def okR (r : Int) : Bool := (r == 32) || markB r || joinB r
def badGo : Nat → List Int → Nat
  | _, [] => 0
  | p, r :: rs => if okR r = true then badGo (p + 1) rs else p + 1

/-! ### signs -/
abbrev Sg := ByteArray × Int
def endR (l : List Sg) (run : List Int) (e : Int) : List Sg := if run = [] then l else l ++ [(runesBytes run, e - run.length)]
def cutGo : List Sg → List Int → Nat → List Int → List Sg
  | l, run, p, [] => endR l run (p + 1 : Nat)
  | l, run, p, r :: rs =>
    if joinB r = true then cutGo l (run ++ [r]) (p + 1) rs
    else if markB r = true then cutGo (endR l run (p + 1 : Nat) ++ [(Utf8.encode r, ((p + 1 : Nat) : Int))]) [] (p + 1) rs
    else cutGo (endR l run (p + 1 : Nat)) [] (p + 1) rs
/-- The cells of a list of signs. -/
def sgCells (l : List Sg) : List Value := l.flatMap fun x => [.string x.1, .int .i64 x.2]
theorem sgCells_length (l : List Sg) : (sgCells l).length = l.length * 2 := by
  induction l with
  | nil => rfl
  | cons a l ih => simp [sgCells] at ih ⊢; omega
theorem sgCells_append (a b : List Sg) : sgCells (a ++ b) = sgCells a ++ sgCells b := by simp [sgCells]

/-! ### numbers -/
def isDig (c : UInt8) : Bool := digB (c.toNat : Int)
def valB (l : List UInt8) : Int := l.foldl (fun a c => a * 10 + ((c.toNat : Int) - 48)) 0
theorem valB_snoc (l : List UInt8) (c : UInt8) : valB (l ++ [c]) = valB l * 10 + ((c.toNat : Int) - 48) := by simp [valB]
/-- What natural answers. -/
def natOf (l : List UInt8) : Int × Bool :=
  if l = [] ∨ 13 < l.length ∨ (1 < l.length ∧ l.head? = some 48) then (0, false)
  else if l.all isDig = true then (if 1000000000000 < valB l then (0, false) else (valB l, true)) else (0, false)
/-- What Number answers. -/
def numOf (l : List UInt8) : Int × Bool :=
  match l with
  | [] => (0, false)
  | c :: t => if c = 45 then (if (natOf t).2 = true ∧ (natOf t).1 ≠ 0 then (- (natOf t).1, true) else (0, false)) else natOf (c :: t)

theorem valB_bd (l : List UInt8) (h : l.all isDig = true) : 0 ≤ valB l ∧ valB l < 10 ^ l.length := by
  have key : ∀ n (l : List UInt8), l.length = n → l.all isDig = true → 0 ≤ valB l ∧ valB l < 10 ^ l.length := by
    intro n
    induction n with
    | zero => intro l hl _; cases l with
      | nil => simp [valB]
      | cons a l => simp at hl
    | succ n ih =>
      intro l hl h
      obtain ⟨t, c, rfl⟩ : ∃ t c, l = t ++ [c] := by
        refine ⟨l.dropLast, l.getLast (by intro e; rw [e] at hl; simp at hl), ?_⟩
        rw [List.dropLast_concat_getLast]
      simp at hl
      simp only [List.all_append, List.all_cons, List.all_nil, Bool.and_true, Bool.and_eq_true] at h
      have := ih t hl h.1
      have hc := h.2
      simp [isDig, digB] at hc
      rw [valB_snoc, List.length_append, List.length_singleton, Int.pow_succ]
      omega
  exact key _ l rfl h

theorem natOf_bd (l : List UInt8) : 0 ≤ (natOf l).1 ∧ (natOf l).1 ≤ 1000000000000 := by
  unfold natOf
  split
  · simp
  · split
    · rename_i h
      have := valB_bd l h
      split <;> simp <;> omega
    · simp

/-! ### bytes of a text -/
theorem take_snoc (s : ByteArray) (k : Nat) (h : k < s.size) : s.data.toList.take (k + 1) = s.data.toList.take k ++ [s[k]] := by
  rw [List.take_succ_eq_append_getElem (by simpa using h)]; rfl

end Go.Proofs.Ytpopboanflnphaa
