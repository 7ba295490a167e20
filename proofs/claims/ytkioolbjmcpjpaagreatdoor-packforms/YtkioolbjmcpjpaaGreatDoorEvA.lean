/- An event, as plain data; the small calls of package event. -/
import Derived.Test.YtkioolbjmcpjpaaGreatDoorQm
import Derived.Test.YtkioolbjmcpjpaaGreatDoorTermForm
import Derived.Test.YtkioolbjmcpjpaaGreatDoorShelf
import Derived.Shelf.Abstract
namespace Go.Proofs.YtkioolbjmcpjpaaGreatDoor.Ev
open Go.RowKit
set_option linter.unusedVariables false

structure Ev where
  k : Int
  i : ByteArray
  n : ByteArray
  l : ByteArray
  u : ByteArray
  d : Int
  v : Int
  t : C
def Ev.cs (e : Ev) : Array Value := #[.int .i64 e.k, .string e.i, .string e.n, .string e.l, .string e.u, .int .i64 e.d, .int .i64 e.v, e.t.val]
def Ev.val (e : Ev) : Value := .agg e.cs
structure Ev.Ok (e : Ev) : Prop where
  k1 : -9223372036854775808 ≤ e.k
  k2 : e.k ≤ 9223372036854775807
  d1 : -9223372036854775808 ≤ e.d
  d2 : e.d ≤ 9223372036854775807
  v1 : -9223372036854775808 ≤ e.v
  v2 : e.v ≤ 9223372036854775807
  i : e.i.size ≤ maxLen
  n : e.n.size ≤ maxLen
  l : e.l.size ≤ maxLen
  u : e.u.size ≤ maxLen
  t : e.t.Ok
  w : e.t.weight ≤ 1000000
/-- The letters of a kind's fields. -/
def flds (k : Int) : ByteArray :=
  if k = 1 then ⟨#[]⟩ else if k = 2 then ⟨#[73, 84]⟩ else if k = 3 then ⟨#[78, 68, 86]⟩ else if k = 4 then ⟨#[73, 76, 86]⟩ else if k = 5 then ⟨#[68]⟩ else if k = 6 then ⟨#[68, 67, 86]⟩ else ⟨#[63]⟩
def hasL (k : Int) (c : UInt8) : Bool := decide (0 ≤ Lib.indexByte (flds k).data.toList c)

set_option maxHeartbeats 1000000 in
theorem fields_any (k : Int) (w : World) : Calls Tryz.prog 15 #[.int .i64 k] w fun e w' => e = .returned (.string (flds k)) ∧ w' = w := by
  by_cases h1 : k = 1
  · subst h1
    go_enter Tryz.func15, Tryz.ntmps15
    go_wp2_with fail
    go_ret
    exact ⟨rfl, rfl⟩
  by_cases h2 : k = 2
  · subst h2
    go_enter Tryz.func15, Tryz.ntmps15
    go_wp2_with fail
    go_ret
    exact ⟨rfl, rfl⟩
  by_cases h3 : k = 3
  · subst h3
    go_enter Tryz.func15, Tryz.ntmps15
    go_wp2_with fail
    go_ret
    exact ⟨rfl, rfl⟩
  by_cases h4 : k = 4
  · subst h4
    go_enter Tryz.func15, Tryz.ntmps15
    go_wp2_with fail
    go_ret
    exact ⟨rfl, rfl⟩
  by_cases h5 : k = 5
  · subst h5
    go_enter Tryz.func15, Tryz.ntmps15
    go_wp2_with fail
    go_ret
    exact ⟨rfl, rfl⟩
  by_cases h6 : k = 6
  · subst h6
    go_enter Tryz.func15, Tryz.ntmps15
    go_wp2_with fail
    go_ret
    exact ⟨rfl, rfl⟩
  have HF : Hid (flds k = ⟨#[63]⟩) := by simp [Hid, flds, h1, h2, h3, h4, h5, h6]
  have e1 : (k == 1) = false := by simpa using h1
  have e2 : (k == 2) = false := by simpa using h2
  have e3 : (k == 3) = false := by simpa using h3
  have e4 : (k == 4) = false := by simpa using h4
  have e5 : (k == 5) = false := by simpa using h5
  have e6 : (k == 6) = false := by simpa using h6
  clear h1 h2 h3 h4 h5 h6
  go_enter Tryz.func15, Tryz.ntmps15
  go_wp2_with fail
  go_ret
  exact ⟨by rw [HF.out]; rfl, rfl⟩

set_option maxHeartbeats 1000000 in
theorem has_any (f : ByteArray) (c : UInt8) (b : Nat) (w : World) (hc : w.cell? ⟨b, 0, none⟩ = some (.string f)) :
    Calls Tryz.prog 73 #[.string ⟨#[c]⟩, .pointer (some ⟨b, 0, none⟩)] w fun e w' => e = .returned (.bool (decide (0 ≤ Lib.indexByte f.data.toList c))) ∧ w' = w := by
  go_enter Tryz.func73, Tryz.ntmps73
  go_wp2_with fail
  refine (Tryz.strings_Contains_one f c w).mono ?_
  rintro e w1 ⟨rfl, rfl⟩
  go_wp2_with fail
  go_ret
  exact ⟨rfl, rfl⟩

def fitS (s : ByteArray) (named : Bool) : Bool := bif named then nameGo 0 (runesOf s) else s.toList.isEmpty
def fitI (n : Int) (named may : Bool) : Bool := bif named then may else n == 0

set_option maxHeartbeats 1000000 in
theorem fitS_any (s : ByteArray) (named : Bool) (w : World) :
    Calls Tryz.prog 75 #[.string s, .bool named, .func (.func 76) #[] #[]] w fun e w' => e = .returned (.bool (fitS s named)) ∧ Below w.heap.size w w' := by
  have hent := enters_of Tryz.func76 (by kernel_rfl) rfl
  cases named
  · go_enter Tryz.func75, Tryz.ntmps75
    go_wp2_with fail
    go_ret
    exact ⟨rfl, Below.refl _ _⟩
  · go_enter Tryz.func75, Tryz.ntmps75
    go_wp2_with fail
    refine (name_any s w).mono ?_
    rintro e w1 ⟨rfl, pos, rfl⟩
    go_wp2_with fail
    go_ret
    exact ⟨rfl, below_iter _ _ _⟩

set_option maxHeartbeats 1000000 in
theorem fitI_any (n : Int) (named may : Bool) (f : Nat) (w : World) (hent : ∀ (args : Array Value) (w : World), (callFunc f args).run Tryz.prog w = .ok (.enter f args) w)
    (hm : ∀ w, Calls Tryz.prog f #[.int .i64 n] w fun e w' => e = .returned (.bool may) ∧ w' = w) :
    Calls Tryz.prog 77 #[.int .i64 n, .bool named, .func (.func f) #[] #[]] w fun e w' => e = .returned (.bool (fitI n named may)) ∧ w' = w := by
  have HM : Hid (∀ w, Calls Tryz.prog f #[.int .i64 n] w fun e w' => e = .returned (.bool may) ∧ w' = w) := hm
  clear hm
  cases named
  · go_enter Tryz.func77, Tryz.ntmps77
    go_wp2_with fail
    go_ret
    exact ⟨rfl, rfl⟩
  · go_enter Tryz.func77, Tryz.ntmps77
    go_wp2_with fail
    refine calls_same (HM.out w) ?_
    go_wp2_with fail
    go_ret
    exact ⟨rfl, rfl⟩

set_option maxHeartbeats 1000000 in
theorem isDay_any (n : Int) (w : World) : Calls Tryz.prog 78 #[.int .i64 n] w fun e w' => e = .returned (.bool (dayB n)) ∧ w' = w := by
  by_cases h1 : (0 : Int) ≤ n <;> by_cases h2 : n ≤ (10000 : Int)
  all_goals
    go_enter Tryz.func78, Tryz.ntmps78
    go_wp2
    go_ret
    exact ⟨by simp [dayB, h1, h2], rfl⟩
def pickB (n : Int) : Bool := n == 0 || n == 1
set_option maxHeartbeats 1000000 in
theorem isPick_any (n : Int) (w : World) : Calls Tryz.prog 80 #[.int .i64 n] w fun e w' => e = .returned (.bool (pickB n)) ∧ w' = w := by
  cases h1 : (n == 0) <;> cases h2 : (n == 1)
  all_goals
    go_enter Tryz.func80, Tryz.ntmps80
    go_wp2
    go_ret
    exact ⟨by simp [pickB, h1, h2], rfl⟩
def nilB (c : C) : Bool := match c with
  | .odd .nilIface => true
  | _ => false

end Go.Proofs.YtkioolbjmcpjpaaGreatDoor.Ev
