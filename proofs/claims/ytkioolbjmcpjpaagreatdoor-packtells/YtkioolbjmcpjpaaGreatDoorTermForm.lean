/- What may stand in a contract: what package term answers. -/
import Derived.Test.YtkioolbjmcpjpaaGreatDoorTermWalk
import Derived.Test.YtkioolbjmcpjpaaGreatDoorTermSize
namespace Go.Proofs.YtkioolbjmcpjpaaGreatDoor
open Go.RowKit
set_option linter.unusedVariables false

def dayB (d : Int) : Bool := decide (0 ≤ d) && decide (d ≤ 10000)
def mayC : C → Bool
  | .one s => nameGo 0 (runesOf s)
  | .or s _ _ => nameGo 0 (runesOf s)
  | .when d _ => dayB d
  | .odd _ => false
  | _ => true
/-- A contract's own, without its parts. -/
def selfC (c : C) : Bool := mayC c && c.nums.all formB
def formC : C → Bool
  | .zero => true
  | .one s => nameGo 0 (runesOf s)
  | .give c => formC c
  | .and l r => formC l && formC r
  | .or s l r => nameGo 0 (runesOf s) && formC l && formC r
  | .scale o c => formB o && formC c
  | .when d c => dayB d && formC c
  | .iff o l r => formB o && formC l && formC r
  | .odd _ => false
theorem formC_pre (c : C) : c.pre.all selfC = formC c := by
  induction c <;> simp_all [C.pre, selfC, mayC, C.nums, formC, Bool.and_assoc]

set_option maxHeartbeats 1000000 in
set_option maxRecDepth 100000 in
theorem mayStandT_any (c : C) (w : World) : Calls Tryz.prog 124 #[headT c] w fun e w' => e = .returned (.bool (mayC c)) ∧ Below w.heap.size w w' := by
  unfold headT
  cases c
  case one s =>
    simp only [C.kind, C.text, C.day, mayC]
    go_enter Tryz.func124, Tryz.ntmps124
    go_wp2_with fail
    refine (name_any _ _).mono ?_
    rintro e w1 ⟨rfl, pos, rfl⟩
    go_wp2_with fail
    go_ret
    refine ⟨rfl, ?_⟩
    have h : Below w.heap.size w (w.alloc (.cells #[.int .i64 2, .string s, .int .i64 0] 209)) := below_alloc (Below.refl _ _) _
    exact h.trans ((below_iter _ _ _).mono h.size)
  case or s l r =>
    simp only [C.kind, C.text, C.day, mayC]
    go_enter Tryz.func124, Tryz.ntmps124
    go_wp2_with fail
    refine (name_any _ _).mono ?_
    rintro e w1 ⟨rfl, pos, rfl⟩
    go_wp2_with fail
    go_ret
    refine ⟨rfl, ?_⟩
    have h : Below w.heap.size w (w.alloc (.cells #[.int .i64 5, .string s, .int .i64 0] 209)) := below_alloc (Below.refl _ _) _
    exact h.trans ((below_iter _ _ _).mono h.size)
  case when d c =>
    simp only [C.kind, C.text, C.day, mayC, dayB]
    by_cases h1 : (0 : Int) ≤ d <;> by_cases h2 : d ≤ (10000 : Int)
    rotate_right
    · exfalso; omega
    all_goals
      first | have hd1 : decide ((0 : Int) ≤ d) = true := decide_eq_true h1 | have hd1 : decide ((0 : Int) ≤ d) = false := decide_eq_false h1
      go_enter Tryz.func124, Tryz.ntmps124
      go_wp2_with fail
      go_ret
      exact ⟨by simp [h1, h2], below_alloc (Below.refl _ _) _⟩
  all_goals
    simp only [C.kind, C.text, C.day, mayC]
    go_enter Tryz.func124, Tryz.ntmps124
    go_wp2_with fail
    go_ret
    exact ⟨rfl, below_alloc (Below.refl _ _) _⟩

theorem chk_form (o : O) : (chk o == 2) = !formB o := by
  unfold chk
  cases formB o
  · simp
  · rw [if_pos rfl]
    split <;> rfl

set_option maxHeartbeats 1000000 in
set_option maxRecDepth 100000 in
theorem isUnformed_any (o : O) (hok : o.Ok) (hsz : o.nodes ≤ 1000000) (w : World) : Calls Tryz.prog 126 #[o.val] w fun e w' => e = .returned (.bool (!formB o)) ∧ Below w.heap.size w w' := by
  have hc := chk_form o
  have HC : Hid ((chk o == 2) = !formB o) := hc
  clear hc
  go_enter Tryz.func126, Tryz.ntmps126
  go_wp2_with fail
  refine (check_any o hok hsz w).mono ?_
  rintro e w1 ⟨rfl, hb1⟩
  go_wp2_with fail
  go_ret
  exact ⟨by rw [HC.out]; rfl, hb1⟩

set_option maxHeartbeats 1000000 in
set_option maxRecDepth 100000 in
theorem indexFunc_any (l : List O) (hl : l.length ≤ 1000) (hok : ∀ o ∈ l, o.Ok) (hsz : ∀ o ∈ l, o.nodes ≤ 1000000) (a : Option Addr) (w : World) (hn : HasObs w a l) :
    Calls Tryz.prog 149 #[.slice a l.length l.length, .func (.func 126) #[] #[]] w fun e w' => ∃ r : Int, e = .returned (.int .i64 r) ∧ decide (0 ≤ r) = !l.all formB ∧ Below w.heap.size w w' := by
  have HOK : Hid (∀ o ∈ l, o.Ok) := hok
  have HSZ : Hid (∀ o ∈ l, o.nodes ≤ 1000000) := hsz
  have HN : Hid (HasObs w a l) := hn
  clear hok hsz hn
  go_enter Tryz.func149, Tryz.ntmps149
  go_wp2_with fail
  go_loopw [8] (fun s8 wr => ∃ i : Nat, i ≤ l.length ∧ s8 = .int .i64 i ∧ Hid ((l.take i).all formB = true) ∧ Below w.heap.size w wr) (fun s8 _ => l.length - (intOf s8).toNat)
  case atStart => exact ⟨0, by omega, rfl, rfl, Below.refl _ _⟩
  case round =>
    obtain ⟨i, hi, rfl, HA, hbr⟩ := hrel
    by_cases hlt : i < l.length
    · have hlt' : (i : Int) < (l.length : Int) := by omega
      obtain ⟨k, hki⟩ : ∃ k, l[i]? = some k := ⟨_, List.getElem?_eq_getElem hlt⟩
      obtain ⟨b, rfl, hc⟩ := (HN.out.below hbr) i k hki
      have HM : Hid (k ∈ l) := List.mem_of_getElem? hki
      have HT : Hid (l.take (i + 1) = l.take i ++ [k]) := take_more _ _ _ hki
      clear hki
      go_wp2_with fail
      refine (isUnformed_any k (HOK.out k HM.out) (HSZ.out k HM.out) wr).mono ?_
      rintro e w3 ⟨rfl, hb3⟩
      have HB3 : Hid (Below w.heap.size w w3) := hbr.trans (hb3.mono hbr.size)
      clear hb3 hbr hc
      cases hf : formB k
      · go_wp2_with fail
        go_ret
        refine ⟨_, rfl, ?_, HB3.out⟩
        have : l.all formB = false := by
          rw [List.all_eq_false]
          exact ⟨k, HM.out, by rw [hf]; simp⟩
        rw [this]
        simp
      · go_wp2_with fail
        go_roundw
        case rel => exact ⟨i + 1, by omega, by go_num, by unfold Hid; rw [HT.out, List.all_append, HA.out]; simp [hf], HB3.out⟩
        case measure => simp [intOf]; omega
    · have hle : i = l.length := by omega
      subst hle
      have HA2 : Hid (l.all formB = true) := by have := HA.out; rwa [List.take_length] at this
      clear HA
      go_wp2_with fail
      go_ret
      refine ⟨_, rfl, ?_, hbr⟩
      rw [HA2.out]
      rfl

set_option maxHeartbeats 1000000 in
set_option maxRecDepth 100000 in
theorem contains_any (l : List O) (hl : l.length ≤ 1000) (hok : ∀ o ∈ l, o.Ok) (hsz : ∀ o ∈ l, o.nodes ≤ 1000000) (a : Option Addr) (w : World) (hn : HasObs w a l) :
    Calls Tryz.prog 125 #[.slice a l.length l.length, .func (.func 126) #[] #[]] w fun e w' => e = .returned (.bool (!l.all formB)) ∧ Below w.heap.size w w' := by
  go_enter Tryz.func125, Tryz.ntmps125
  go_wp2_with fail
  refine (indexFunc_any l hl hok hsz a w hn).mono ?_
  rintro e w1 ⟨r, rfl, hr, hb1⟩
  have HR : Hid (decide (0 ≤ r) = !l.all formB) := hr
  clear hr
  go_wp2_with fail
  go_ret
  exact ⟨by rw [HR.out]; rfl, hb1⟩

/-- What is kept while a contract's form is looked at: whether all was right so far. -/
def FormInv (V : Nat) (own : Nat → Prop) (st : Bool) (w : World) : Prop := own = (fun k => k = V) ∧ w.heap[V]? = some (.cells #[.bool st] 4 (0, 0))

theorem num_nodes {c : C} : ∀ o ∈ c.nums, o.nodes ≤ sumN c.nums := by
  cases c <;> simp [C.nums, sumN]

set_option maxHeartbeats 1000000 in
set_option maxRecDepth 100000 in
theorem formed1_any (V : Nat) : Shows 123 #[.pointer (some ⟨V, 0, none⟩)] (FormInv V) (fun st c => st && selfC c) (fun _ => 0) := by
  refine ⟨enters_of Tryz.func123 (by kernel_rfl) rfl, ?_, ?_, fun st c => by simp, ?_⟩
  · rintro own st w w' ⟨h1, h2⟩ hb
    exact ⟨h1, (hb.block V (Array.getElem?_eq_some_iff.1 h2).1).trans h2⟩
  · rintro own st w ⟨h1, h2⟩ b hb
    subst h1
    subst hb
    exact (Array.getElem?_eq_some_iff.1 h2).1
  · rintro own st w c a ⟨h1, h2⟩ hok hn hna hsz
    subst h1
    have HLT := hidIn (Array.getElem?_eq_some_iff.1 h2).1
    have HV : Hid (w.heap[V]? = some (.cells #[.bool st] 4 (0, 0))) := h2
    have HN : Hid (HasObs w a c.nums) := hn
    have HS : Hid (selfC c = (mayC c && c.nums.all formB)) := rfl
    have HO1 : Hid (∀ o ∈ c.nums, o.Ok) := fun o ho => hok.num ho
    have HO2 : Hid (∀ o ∈ c.nums, o.nodes ≤ 1000000) := fun o ho => by have := num_nodes o ho; have : c.own = sumN c.nums + 1 := rfl; omega
    have h1n := c.nums_one
    have HMS : Hid (∀ w, Calls Tryz.prog 124 #[headT c] w fun e w' => e = .returned (.bool (mayC c)) ∧ Below w.heap.size w w') := mayStandT_any c
    have HMC := hidIn (fun w h => contains_any c.nums (by omega) HO1.out HO2.out a w h)
    have c0 : ∀ o, (w.alloc o).cell? ⟨V, 0, none⟩ = some (.bool st) := fun o => (cell_of_row _ _ _ _ _ _ (heap_keeps h2 o)).trans rfl
    have f0 : ∀ o, (w.alloc o).frozen? ⟨V, 0, none⟩ = false := fun o => frozen_of_row _ _ _ _ _ (heap_keeps h2 o)
    have hVb : ∀ W, Below w.heap.size w W → W.cell? ⟨V, 0, none⟩ = some (.bool st) ∧ W.frozen? ⟨V, 0, none⟩ = false := fun W hb => by
      have := (hb.block V HLT.out).trans h2
      exact ⟨(cell_of_row _ _ _ _ _ _ this).trans rfl, frozen_of_row _ _ _ _ _ this⟩
    have HVB := hidIn hVb
    have HEND : Hid (∀ W b, Below w.heap.size w W → b = (st && selfC c) → (∃ own', FormInv V own' (st && selfC c) (W.setCell ⟨V, 0, none⟩ (.bool b)) ∧ Dyn (fun k => k = V) w own' (W.setCell ⟨V, 0, none⟩ (.bool b)))) := by
      rintro W b hb rfl
      refine ⟨fun k => k = V, ⟨rfl, ?_⟩, hb.os, hb.tape, hb.output, by rw [World.size_setCell]; exact hb.size, fun k hk hkV => (heap_setCell_other W ⟨V, 0, none⟩ k _ hkV).trans (hb.block k hk), fun k hk => .inl hk⟩
      exact heap_setCell_same W V 0 #[.bool st] 4 _ ((hb.block V HLT.out).trans h2)
    clear h2 hn hna hok hsz hVb
    show Calls Tryz.prog 123 #[headT c, .slice a c.nums.length c.nums.length, .pointer (some ⟨V, 0, none⟩)] w _
    unfold headT at HMS ⊢
    cases st
    · go_enter Tryz.func123, Tryz.ntmps123
      go_wp2_with fail
      go_end0
      exact ⟨rfl, HEND.out _ _ (below_alloc (Below.refl _ _) _) rfl⟩
    · go_enter Tryz.func123, Tryz.ntmps123
      go_wp2_with fail
      refine (HMS.out _).mono ?_
      rintro e w1 ⟨rfl, hb1⟩
      have HB1 : Hid (Below w.heap.size w w1) := (below_alloc (Below.refl w.heap.size w) _).trans (hb1.mono (by simp))
      obtain ⟨c1, f1⟩ := HVB.out w1 HB1.out
      clear hb1 c0 f0
      cases hm : mayC c
      · go_wp2_with fail
        go_end0
        exact ⟨rfl, HEND.out _ _ HB1.out (by rw [HS.out, hm]; rfl)⟩
      · go_wp2_with fail
        refine (HMC.out w1 (HN.out.below HB1.out)).mono ?_
        rintro e w2 ⟨rfl, hb2⟩
        have HB2 : Hid (Below w.heap.size w w2) := HB1.out.trans (hb2.mono HB1.out.size)
        obtain ⟨c2, f2⟩ := HVB.out w2 HB2.out
        clear hb2 c1 f1
        cases hf : c.nums.all formB
        · go_wp2_with fail
          go_end0
          exact ⟨rfl, HEND.out _ _ HB2.out (by rw [HS.out, hm, hf]; rfl)⟩
        · go_wp2_with fail
          go_end0
          exact ⟨rfl, HEND.out _ _ HB2.out (by rw [HS.out, hm, hf]; rfl)⟩

theorem foldl_and (l : List C) : ∀ st, l.foldl (fun st c => st && selfC c) st = (st && l.all selfC) := by
  induction l with
  | nil => intro st; simp
  | cons a l ih => intro st; simp [ih, Bool.and_assoc]

set_option maxHeartbeats 1000000 in
set_option maxRecDepth 100000 in
theorem formedT_any (c : C) (hok : c.Ok) (hsz : c.weight ≤ 1000000) (w : World) : Calls Tryz.prog 87 #[c.val] w fun e w' => e = .returned (.bool (formC c)) ∧ Below w.heap.size w w' := by
  have hmf : ∀ (fn : Fn) (first cap : Array Value) (w : World), (Instr.makeFunc fn first cap).run Tryz.prog w = .ok (.func fn first cap) w := fun _ _ _ _ => rfl
  go_enter Tryz.func87, Tryz.ntmps87
  go_wp2_with fail
  refine (walk_any (formed1_any w.heap.size) c hok (fun k => k = w.heap.size) true _ ⟨rfl, heap_alloc_new _ _⟩ (by simpa using hsz)).mono ?_
  rintro e w1 ⟨rfl, own1, ⟨rfl, hi⟩, hd⟩
  rw [foldl_and, formC_pre, Bool.true_and] at hi
  have hc : w1.cell? ⟨w.heap.size, 0, none⟩ = some (.bool (formC c)) := (cell_of_row _ _ _ _ _ _ hi).trans rfl
  go_wp2_with fail
  go_ret
  have hb : Below w.heap.size w (w.alloc (.cells #[.bool true] 4)) := below_alloc (Below.refl _ _) _
  exact ⟨rfl, hb.trans (hd.below (by simp) (fun k hk => by omega))⟩

end Go.Proofs.YtkioolbjmcpjpaaGreatDoor
