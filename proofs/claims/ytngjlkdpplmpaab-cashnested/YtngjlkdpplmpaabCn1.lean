/- Package cents on one and two numbers, and the reference beside it: what each answers. -/
import Derived.Test.YtngjlkdpplmpaabBase
import Derived.Test.YtngjlkdpplmpaabKi
import Derived.Test.YtngjlkdpplmpaabSize
import Derived.Shelf.Abstract
import Derived.Test.YtngjlkdpplmpaabMix
import Derived.Test.YtngjlkdpplmpaabNames
import Derived.Test.YtngjlkdpplmpaabKeep
import Derived.Test.YtngjlkdpplmpaabKl
import Derived.Test.YtngjlkdpplmpaabRefChk
import Derived.Test.YtngjlkdpplmpaabR05
import Derived.Test.YtngjlkdpplmpaabMixL
import Derived.Test.YtngjlkdpplmpaabR06
import Derived.Test.YtngjlkdpplmpaabMaker
namespace Go.Proofs.Ytngjlkdpplmpaab.Cn
open Go.RowKit
set_option linter.unusedVariables false

theorem ret_two {a b : Int} {p q : Bool} (h : (a, p) = (b, q)) : Ending.returned (.tuple #[.int .i64 a, .bool p]) = .returned (.tuple #[.int .i64 b, .bool q]) := by
  injection h with h1 h2; rw [h1, h2]

def addR (a b : Int) : Int × Bool := if vB a && vB b && vB (a + b) then (a + b, true) else (0, false)
def mulR (a b : Int) : Int × Bool := if vB a && vB b && vB (a * b) then (a * b, true) else (0, false)
def negR (a : Int) : Int × Bool := if vB a then (-a, true) else (0, false)
def absI (a : Int) : Int := if a < 0 then -a else a

set_option maxHeartbeats 400000 in
theorem checked_any (n : Int) (w : World) :
    Calls Try.prog 86 #[.int .i64 n] w fun e w' => e = .returned (.tuple #[.int .i64 (if vB n then n else 0), .bool (vB n)]) ∧ w' = w := by
  cases hv : vB n
  all_goals
    go_enter Try.func86, Try.ntmps86
    go_wp2_with (go_at_call 52; refine calls_same (valid_any _ _) ?_)
    go_ret2
    exact ⟨ret_two (by simp), rfl⟩

set_option maxHeartbeats 400000 in
theorem size_any (n : Int) (w : World) (h1 : -1000000000000 ≤ n) (h2 : n ≤ 1000000000000) :
    Calls Try.prog 78 #[.int .i64 n] w fun e w' => e = .returned (.int .i64 (absI n)) ∧ w' = w := by
  by_cases h : n < 0
  all_goals
    go_enter Try.func78, Try.ntmps78
    go_wp2
    go_ret
    exact ⟨ret_int (by unfold absI; split <;> omega), rfl⟩

set_option maxHeartbeats 400000 in
theorem neg_any (n : Int) (w : World) :
    Calls Try.prog 29 #[.int .i64 n] w fun e w' => e = .returned (.tuple #[.int .i64 (negR n).1, .bool (negR n).2]) ∧ w' = w := by
  cases hv : vB n
  · go_enter Try.func29, Try.ntmps29
    go_wp2_with (go_at_call 52; refine calls_same (valid_any _ _) ?_)
    go_ret2
    exact ⟨ret_two (by simp [negR, hv]), rfl⟩
  · have hb := (vB_iff n).1 hv
    obtain ⟨hb1, hb2⟩ := hb
    go_enter Try.func29, Try.ntmps29
    go_wp2_with (go_at_call 52; refine calls_same (valid_any _ _) ?_)
    go_ret2
    exact ⟨ret_two (by simp [negR, hv]), rfl⟩

set_option maxHeartbeats 400000 in
theorem add_any (a b : Int) (w : World) :
    Calls Try.prog 82 #[.int .i64 a, .int .i64 b] w fun e w' => e = .returned (.tuple #[.int .i64 (addR a b).1, .bool (addR a b).2]) ∧ w' = w := by
  cases ha : vB a
  · go_enter Try.func82, Try.ntmps82
    go_wp2_with (go_at_call 52; refine calls_same (valid_any _ _) ?_)
    go_ret2
    exact ⟨ret_two (by simp [addR, ha]), rfl⟩
  cases hb : vB b
  · go_enter Try.func82, Try.ntmps82
    go_wp2_with (go_at_call 52; refine calls_same (valid_any _ _) ?_)
    go_ret2
    exact ⟨ret_two (by simp [addR, ha, hb]), rfl⟩
  obtain ⟨h1, h2⟩ := (vB_iff a).1 ha
  obtain ⟨h3, h4⟩ := (vB_iff b).1 hb
  cases hc : vB (a + b)
  all_goals
    go_enter Try.func82, Try.ntmps82
    go_wp2_with (first | (go_at_call 52; refine calls_same (valid_any _ _) ?_) | (go_at_call 86; refine calls_same (checked_any _ _) ?_))
    go_ret2
    exact ⟨ret_two (by simp [addR, ha, hb, hc]), rfl⟩

theorem mul_abs (a b : Int) (ha : a ≠ 0) : (decide (1000000000000 / absI a < absI b)) = !vB (a * b) := by
  have h1 : 0 < absI a := by unfold absI; split <;> omega
  have h2 : absI b * absI a = absI (a * b) := by
    unfold absI
    by_cases x : a < 0 <;> by_cases y : b < 0
    · have : ¬ a * b < 0 := by have := Int.mul_pos_of_neg_of_neg x y; omega
      rw [if_pos x, if_pos y, if_neg this, Int.neg_mul_neg, Int.mul_comm]
    · by_cases z : b = 0
      · subst z; simp
      · have : a * b < 0 := Int.mul_neg_of_neg_of_pos x (by omega)
        rw [if_pos x, if_neg y, if_pos this, Int.mul_neg, Int.mul_comm]
    · have : a * b < 0 := Int.mul_neg_of_pos_of_neg (by omega) y
      rw [if_neg x, if_pos y, if_pos this, Int.neg_mul, Int.mul_comm]
    · have : ¬ a * b < 0 := by have := Int.mul_nonneg (show 0 ≤ a by omega) (show 0 ≤ b by omega); omega
      rw [if_neg x, if_neg y, if_neg this, Int.mul_comm]
  have h3 : absI b ≤ 1000000000000 / absI a ↔ absI b * absI a ≤ 1000000000000 := Int.le_ediv_iff_mul_le h1
  rw [h2] at h3
  have h4 : absI (a * b) ≤ 1000000000000 ↔ vB (a * b) = true := by
    rw [vB_iff]; unfold absI; split <;> omega
  cases h5 : vB (a * b)
  · rw [h5] at h4
    have : ¬ absI b ≤ 1000000000000 / absI a := by rw [h3, h4]; simp
    simp; omega
  · rw [h5] at h4
    have : absI b ≤ 1000000000000 / absI a := by rw [h3, h4]
    simp; omega

set_option maxHeartbeats 400000 in
theorem tooMany_any (a b : Int) (w : World) (h1 : -1000000000000 ≤ a) (h2 : a ≤ 1000000000000) (h3 : -1000000000000 ≤ b) (h4 : b ≤ 1000000000000) :
    Calls Try.prog 71 #[.int .i64 a, .int .i64 b] w fun e w' => e = .returned (.bool (!vB (a * b))) ∧ w' = w := by
  by_cases h : a = 0
  · subst h
    have HV : Hid (vB (0 * b) = true) := by rw [Int.zero_mul]; exact rfl
    go_enter Try.func71, Try.ntmps71
    go_wp2_with (go_at_call 78; refine calls_same (size_any _ _ (by omega) (by omega)) ?_)
    go_ret
    exact ⟨ret_bool (by rw [HV.out]; rfl), rfl⟩
  · have e0 : (a != 0) = true := by simpa using h
    have HM : Hid (decide (1000000000000 / absI a < absI b) = !vB (a * b)) := mul_abs a b h
    have hp : 0 < absI a := by unfold absI; split <;> omega
    have hp' : absI a ≤ 1000000000000 := by unfold absI; split <;> omega
    have hq : 0 ≤ absI b := by unfold absI; split <;> omega
    have hq' : absI b ≤ 1000000000000 := by unfold absI; split <;> omega
    go_enter Try.func71, Try.ntmps71
    go_wp2_with (go_at_call 78; refine calls_same (size_any _ _ (by omega) (by omega)) ?_)
    go_ret
    exact ⟨ret_bool (by rw [← HM.out]), rfl⟩

set_option maxHeartbeats 400000 in
theorem mul_any (a b : Int) (w : World) :
    Calls Try.prog 57 #[.int .i64 a, .int .i64 b] w fun e w' => e = .returned (.tuple #[.int .i64 (mulR a b).1, .bool (mulR a b).2]) ∧ w' = w := by
  cases ha : vB a
  · go_enter Try.func57, Try.ntmps57
    go_wp2_with (go_at_call 52; refine calls_same (valid_any _ _) ?_)
    go_ret2
    exact ⟨ret_two (by simp [mulR, ha]), rfl⟩
  cases hb : vB b
  · go_enter Try.func57, Try.ntmps57
    go_wp2_with (go_at_call 52; refine calls_same (valid_any _ _) ?_)
    go_ret2
    exact ⟨ret_two (by simp [mulR, ha, hb]), rfl⟩
  have h12 := (vB_iff a).1 ha
  have h34 := (vB_iff b).1 hb
  cases hc : vB (a * b)
  · go_enter Try.func57, Try.ntmps57
    go_wp2_with (first | (go_at_call 52; refine calls_same (valid_any _ _) ?_) | (go_at_call 71; refine calls_same (tooMany_any _ _ _ h12.1 h12.2 h34.1 h34.2) ?_))
    go_ret2
    exact ⟨ret_two (by simp [mulR, ha, hb, hc]), rfl⟩
  · have h56 := (vB_iff (a * b)).1 hc
    go_enter Try.func57, Try.ntmps57
    go_wp2_with (first | (go_at_call 52; refine calls_same (valid_any _ _) ?_) | (go_at_call 71; refine calls_same (tooMany_any _ _ _ h12.1 h12.2 h34.1 h34.2) ?_))
    go_ret2
    exact ⟨ret_two (by simp [mulR, ha, hb, hc]), rfl⟩

end Go.Proofs.Ytngjlkdpplmpaab.Cn
namespace Go.Proofs.Ytngjlkdpplmpaab.Vl
open Go.RowKit Wd Cn
set_option linter.unusedVariables false

/-- What came of a number: the number, whether it is known, the error. -/
structure Rk where
  n : Int
  known : Bool
  e : Int
def Rk.cs (r : Rk) : Array Value := #[.int .i64 r.n, .bool r.known, .int .i64 r.e]
def Rk.val (r : Rk) : Value := .agg r.cs
def inR (p : Int × Bool) : Rk := if p.2 = true then ⟨p.1, true, 0⟩ else ⟨0, false, 6⟩
def gtR (a b : Int) : Int × Bool := (Max.max a b, true)
def bothR (l r : Rk) (j : Int → Int → Int × Bool) : Rk := if l.e ≠ 0 then l else if r.e ≠ 0 then r else if (!l.known || !r.known) = true then ⟨0, false, 0⟩ else inR (j l.n r.n)
def otherR (r : Rk) : Rk := if r.e ≠ 0 ∨ r.known = false then r else inR (negR r.n)
def rk (K : KW) (d : Int) : O → Rk
  | .const n => ⟨n, true, 0⟩
  | .fix s => ⟨(K.fixed (s, d)).getD 0, (K.fixed (s, d)).isSome, 0⟩
  | .add l r => bothR (rk K d l) (rk K d r) addR
  | .neg o => otherR (rk K d o)
  | .mul l r => bothR (rk K d l) (rk K d r) mulR
  | .max l r => bothR (rk K d l) (rk K d r) gtR
  | .odd _ => ⟨0, false, 0⟩

theorem infoR : (Try.prog.info? 181).map (·.size) = some 3 := by kernel_rfl
/-- The result's cell, filled. -/
theorem ret_row {fn : Func} {p : Tmp} (h : fn.results = #[.cell p 181]) (tmps : Array Value) (w : World) (g : Nat) (r : Rk) (hp : tmps.getD p undef = .pointer (some ⟨g, 0, none⟩)) (hg : w.heap[g]? = some (.cells r.cs 181)) :
    (results fn tmps).run Try.prog w = .ok r.val w :=
  results_cell_row h tmps w g 181 r.cs (0, 0) _ hp hg Try.underlying181 rfl infoR

set_option maxHeartbeats 1000000 in
/-- What within answers. -/
theorem in_any (n : Int) (ok : Bool) (w : World) : Calls Try.prog 85 #[.int .i64 n, .bool ok] w fun e w' => e = .returned (inR (n, ok)).val ∧ Below w.heap.size w w' := by
  cases ok
  all_goals
    go_enter Try.func85, Try.ntmps85
    go_wp2
  · refine bodyPost_ret (ret_row rfl _ _ w.heap.size ⟨0, false, 6⟩ rfl ?_) rfl ?_
    · exact heap_alloc_new _ _
    · exact ⟨rfl, below_alloc (Below.refl _ _) _⟩
  · refine bodyPost_ret (ret_row rfl _ _ w.heap.size ⟨n, true, 0⟩ rfl ?_) rfl ?_
    · exact heap_alloc_new _ _
    · exact ⟨rfl, below_alloc (Below.refl _ _) _⟩

set_option maxHeartbeats 1000000 in
theorem gt_any (a b : Int) (w : World) : Calls Try.prog 83 #[.int .i64 a, .int .i64 b] w fun e w' => e = .returned (.tuple #[.int .i64 (gtR a b).1, .bool (gtR a b).2]) ∧ w' = w := by
  rcases Int.lt_or_le a b with h | h
  · have HM : Hid (Max.max a b = b) := by unfold Hid; omega
    go_enter Try.func83, Try.ntmps83
    go_wp2
    go_ret2
    exact ⟨ret_two (by unfold gtR; rw [HM.out]), rfl⟩
  · have HM : Hid (Max.max a b = a) := by unfold Hid; omega
    go_enter Try.func83, Try.ntmps83
    go_wp2
    go_ret2
    exact ⟨ret_two (by unfold gtR; rw [HM.out]), rfl⟩

/-- Three cells of a block, filled one by one. -/
def set3 (W : World) (R : Nat) (a b c : Value) : World := ((W.setCell ⟨R, 0, none⟩ a).setCell ⟨R, 1, none⟩ b).setCell ⟨R, 2, none⟩ c
theorem set3_row {W : World} {R t : Nat} {x y z : Value} (h : W.heap[R]? = some (.cells #[x, y, z] t)) (a b c : Value) : (set3 W R a b c).heap[R]? = some (.cells #[a, b, c] t) :=
  heap_setCell_same _ R 2 _ t c (heap_setCell_same _ R 1 _ t b (heap_setCell_same _ R 0 _ t a h))
theorem set3_below {B R : Nat} {w W : World} (h : Below B w W) (hR : B ≤ R) (a b c : Value) : Below B w (set3 W R a b c) := ((h.setCell hR a).setCell hR b).setCell hR c
theorem row3_cells {W : World} {R t : Nat} {x y z : Value} (h : W.heap[R]? = some (.cells #[x, y, z] t)) :
    W.cell? ⟨R, 0, none⟩ = some x ∧ W.cell? ⟨R, 1, none⟩ = some y ∧ W.cell? ⟨R, 2, none⟩ = some z ∧ W.frozen? ⟨R, 0, none⟩ = false ∧ W.frozen? ⟨R, 1, none⟩ = false ∧ W.frozen? ⟨R, 2, none⟩ = false :=
  ⟨cell_of_row _ _ _ _ _ _ h, cell_of_row _ _ _ _ _ _ h, cell_of_row _ _ _ _ _ _ h, frozen_of_row _ _ _ _ _ h, frozen_of_row _ _ _ _ _ h, frozen_of_row _ _ _ _ _ h⟩

theorem alloc_1 (w : World) (a b : Obj) : ((w.alloc a).alloc b).heap[w.heap.size + 1]? = some b := by
  have h := heap_alloc_new (w.alloc a) b
  rwa [show (w.alloc a).heap.size = w.heap.size + 1 by simp] at h
theorem alloc_2 (w : World) (a b c : Obj) : (((w.alloc a).alloc b).alloc c).heap[w.heap.size + 2]? = some c := by
  have h := heap_alloc_new ((w.alloc a).alloc b) c
  rwa [show ((w.alloc a).alloc b).heap.size = w.heap.size + 2 by simp] at h

set_option maxHeartbeats 1000000 in
theorem other_any (r : Rk) (w : World) : Calls Try.prog 80 #[r.val] w fun e w' => e = .returned (otherR r).val ∧ Below w.heap.size w w' := by
  obtain ⟨n, k, e⟩ := r
  unfold Rk.val Rk.cs
  by_cases he : e = 0
  · subst he
    cases k
    · go_enter Try.func80, Try.ntmps80
      go_wp2_with fail
      refine bodyPost_ret (ret_row rfl _ _ _ ⟨n, false, 0⟩ rfl (alloc_1 _ _ _)) rfl ?_
      exact ⟨by simp [otherR, Rk.val, Rk.cs], below_alloc (below_alloc (Below.refl _ _) _) _⟩
    · go_enter Try.func80, Try.ntmps80
      go_wp2_with fail
      refine (Cn.neg_any _ _).mono ?_
      rintro e w1 ⟨rfl, rfl⟩
      go_wp2_with fail
      refine (in_any _ _ _).mono ?_
      rintro e w1 ⟨rfl, hb⟩
      have HZ : Hid (w1.heap[w.heap.size + 1]? = some (.cells #[.int .i64 0, .bool false, .int .i64 0] 181)) := (hb.block _ (by simp)).trans (alloc_1 _ _ _)
      have HB : Hid (Below w.heap.size w w1) := (below_alloc (below_alloc (Below.refl _ _) _) _).trans (hb.mono (by simp; omega))
      clear hb
      obtain ⟨c0, c1, c2, f0, f1, f2⟩ := row3_cells HZ.out
      have HR : Hid (otherR ⟨n, true, 0⟩ = inR ((negR n).1, (negR n).2)) := by unfold Hid; simp [otherR]
      unfold Rk.val Rk.cs
      generalize inR ((negR n).1, (negR n).2) = x at *
      go_wp2_with fail
      refine bodyPost_ret (ret_row rfl _ _ _ x rfl (set3_row HZ.out _ _ _)) rfl ?_
      exact ⟨by rw [HR.out]; rfl, set3_below HB.out (by omega) _ _ _⟩
  · have h1 : (e != 0) = true := by simpa using he
    go_enter Try.func80, Try.ntmps80
    go_wp2_with fail
    refine bodyPost_ret (ret_row rfl _ _ _ ⟨n, k, e⟩ rfl (alloc_1 _ _ _)) rfl ?_
    exact ⟨by simp [otherR, Rk.val, Rk.cs, he], below_alloc (below_alloc (Below.refl _ _) _) _⟩

set_option maxHeartbeats 1000000 in
theorem both_any (l r : Rk) (f : Nat) (j : Int → Int → Int × Bool) (hent : ∀ (args : Array Value) (w : World), (callFunc f args).run Try.prog w = .ok (.enter f args) w)
    (hj : ∀ a b w, Calls Try.prog f #[.int .i64 a, .int .i64 b] w fun e w' => e = .returned (.tuple #[.int .i64 (j a b).1, .bool (j a b).2]) ∧ w' = w) (w : World) :
    Calls Try.prog 81 #[l.val, r.val, .func (.func f) #[] #[]] w fun e w' => e = .returned (bothR l r j).val ∧ Below w.heap.size w w' := by
  obtain ⟨n, k, e⟩ := l
  obtain ⟨m, q, d⟩ := r
  unfold Rk.val Rk.cs
  have HJ : Hid (∀ a b w, Calls Try.prog f #[.int .i64 a, .int .i64 b] w fun e w' => e = .returned (.tuple #[.int .i64 (j a b).1, .bool (j a b).2]) ∧ w' = w) := hj
  clear hj
  by_cases he : e = 0
  · subst he
    by_cases hd : d = 0
    · subst hd
      cases hk : (!k || !q)
      · obtain rfl : k = true := by cases k <;> simp_all
        obtain rfl : q = true := by cases q <;> simp_all
        clear hk
        go_enter Try.func81, Try.ntmps81
        go_wp2_with fail
        refine (HJ.out _ _ _).mono ?_
        rintro e w1 ⟨rfl, rfl⟩
        go_wp2_with fail
        refine (in_any _ _ _).mono ?_
        rintro e w1 ⟨rfl, hb⟩
        have HZ : Hid (w1.heap[w.heap.size + 2]? = some (.cells #[.int .i64 0, .bool false, .int .i64 0] 181)) := (hb.block _ (by simp)).trans (alloc_2 _ _ _ _)
        have HB : Hid (Below w.heap.size w w1) := (below_alloc (below_alloc (below_alloc (Below.refl _ _) _) _) _).trans (hb.mono (by simp; omega))
        clear hb
        obtain ⟨c0, c1, c2, f0, f1, f2⟩ := row3_cells HZ.out
        have HR : Hid (bothR ⟨n, true, 0⟩ ⟨m, true, 0⟩ j = inR ((j n m).1, (j n m).2)) := by unfold Hid; simp [bothR]
        unfold Rk.val Rk.cs
        generalize inR ((j n m).1, (j n m).2) = x at *
        go_wp2_with fail
        refine bodyPost_ret (ret_row rfl _ _ _ x rfl (set3_row HZ.out _ _ _)) rfl ?_
        exact ⟨by rw [HR.out]; rfl, set3_below HB.out (by omega) _ _ _⟩
      · have HR : Hid (bothR ⟨n, k, 0⟩ ⟨m, q, 0⟩ j = ⟨0, false, 0⟩) := by unfold Hid; simp only [bothR]; rw [if_neg (by simp), if_neg (by simp), if_pos hk]
        rw [HR.out]
        cases k
        all_goals
          cases q
          all_goals
            first
            | (simp at hk; done)
            | (clear hk
               go_enter Try.func81, Try.ntmps81
               go_wp2_with fail
               refine bodyPost_ret (ret_row rfl _ _ _ ⟨0, false, 0⟩ rfl (alloc_2 _ _ _ _)) rfl ?_
               exact ⟨rfl, below_alloc (below_alloc (below_alloc (Below.refl _ _) _) _) _⟩)
    · have h1 : (d != 0) = true := by simpa using hd
      go_enter Try.func81, Try.ntmps81
      go_wp2_with fail
      refine bodyPost_ret (ret_row rfl _ _ _ ⟨m, q, d⟩ rfl (alloc_2 _ _ _ _)) rfl ?_
      exact ⟨by simp [bothR, Rk.val, Rk.cs, hd], below_alloc (below_alloc (below_alloc (Below.refl _ _) _) _) _⟩
  · have h1 : (e != 0) = true := by simpa using he
    go_enter Try.func81, Try.ntmps81
    go_wp2_with fail
    refine bodyPost_ret (ret_row rfl _ _ _ ⟨n, k, e⟩ rfl (alloc_2 _ _ _ _)) rfl ?_
    exact ⟨by simp [bothR, Rk.val, Rk.cs, he], below_alloc (below_alloc (below_alloc (Below.refl _ _) _) _) _⟩

end Go.Proofs.Ytngjlkdpplmpaab.Vl
namespace Go.Proofs.Ytngjlkdpplmpaab.Vl
open Go.RowKit Wd Cn
set_option linter.unusedVariables false

def dayOk (d : Int) : Prop := -9223372036854775808 ≤ d ∧ d ≤ 9223372036854775807
def RkPost (K : KW) (d : Int) (o : O) (w : World) (e : Ending) (w' : World) : Prop := e = .returned (rk K d o).val ∧ Below w.heap.size w w'
def RkCalls (o : O) : Prop := ∀ (w : World) (p f c : Nat) (K : KW) (d : Int), KIn w p f c K → dayOk d → Calls Try.prog 75 #[o.val, .int .i64 d, .pointer (some ⟨p, 0, none⟩)] w (RkPost K d o w)
theorem form_iface (o : O) (h : formB o = true) : ∃ t x, o.val = .iface t x := by
  cases o <;> first | exact ⟨_, _, rfl⟩ | simp [formB] at h
theorem alloc_0 (w : World) (a b : Obj) : ((w.alloc a).alloc b).heap[w.heap.size]? = some a :=
  (below_alloc (Below.refl _ _) b).block _ (by simp) |>.trans (heap_alloc_new _ _)
theorem heap_alloc_1 (w : World) (a b : Obj) : ((w.alloc a).alloc b).heap[w.heap.size + 1]? = some b := alloc_1 w a b
/-- What stays while a number of two parts is reckoned. -/
def BinC (w : World) (u v : Value) (T : TypeId) (w' : World) : Prop := Below w.heap.size w w' ∧ w'.heap[w.heap.size + 1]? = some (.cells #[u, v] T)
theorem BinC.step {w w' w'' : World} {u v : Value} {T : TypeId} (h : BinC w u v T w') (hb : Below w'.heap.size w' w'') : BinC w u v T w'' :=
  ⟨h.1.trans (hb.mono h.1.size), (hb.block _ (Array.getElem?_eq_some_iff.1 h.2).1).trans h.2⟩
theorem BinC.set3 {w w' : World} {u v : Value} {T : TypeId} (h : BinC w u v T w') (a b c : Value) : BinC w u v T (set3 w' w.heap.size a b c) :=
  ⟨set3_below h.1 (Nat.le_refl _) _ _ _, ((heap_setCell_other _ _ _ _ (by simp)).trans ((heap_setCell_other _ _ _ _ (by simp)).trans (heap_setCell_other _ _ _ _ (by simp)))).trans h.2⟩
theorem m_skip {P : Program} {ops : Array Oper} {C : World → Prop} {Q : Act → World → Prop} {o : Oper} {r : List (Oper × Bool)} {a : Act} {w w' : World} (hw : Region.wanted o (yielded ops a.tmps) = true) (h : (execOp a.eval o).run P w = .ok .skip w') (hC : C w') (hk : Mx.mix P ops C Q r (a.put o.dst undef) w') : Mx.mix P ops C Q ((o, true) :: r) a w := by
  refine ⟨hw, ?_⟩
  unfold Mx.stepK
  rw [h]
  exact ⟨hC, hk⟩
theorem assert_one {P : Program} {t : TypeId} {u : TypeDesc} (hu : P.underlying t = some u) (hn : ∀ m, u ≠ .interface m) (v : Value) (xT : TypeId) (w : World) :
    (Instr.typeAssert (.iface t v) xT t false).run P w = .ok v w := by
  cases u <;> first | (exfalso; exact hn _ rfl) | simp [Instr.typeAssert, run_underlying hu]
theorem isMax1 (v : Value) (xT : TypeId) (w : World) : (Instr.typeAssert (.iface 112 v) xT 112 false).run Try.prog w = .ok v w := assert_one Try.underlying112 (by intro m h; cases h) v xT w

set_option maxHeartbeats 1000000 in
set_option maxRecDepth 100000 in
theorem reckon_const (n : Int) : RkCalls (.const n) := by
  intro w p f c K d hk hd
  clear hk
  have h0 := fun v xT w => isConst v xT w
  unfold O.val
  go_enter Try.func75, Try.ntmps75
  go_wp2_with fail
  refine bodyPost_ret (ret_row rfl _ _ _ ⟨n, true, 0⟩ rfl (alloc_0 _ _ _)) rfl ?_
  exact ⟨rfl, below_alloc (below_alloc (Below.refl _ _) _) _⟩

set_option maxHeartbeats 1000000 in
set_option maxRecDepth 100000 in
theorem reckon_fix (s : ByteArray) (hok : (O.fix s).Ok) : RkCalls (.fix s) := by
  intro w p f c K d hk hd
  have HF : Hid (fixOk (s, d)) := ⟨Nat.le_trans hok (by decide), hd.1, hd.2⟩
  have HK : Hid (KIn w p f c K) := hk
  clear hk hok hd
  have h0 := fun v xT w => notConst 106 v xT w (by decide)
  have h1 := fun v xT w => isFix v xT w
  unfold O.val
  go_enter Try.func75, Try.ntmps75
  go_wp2_with fail
  refine (fixed_any _ p f c K (HK.out.below (below_alloc (below_alloc (Below.refl _ _) _) _)) s d HF.out).mono ?_
  rintro e w1 ⟨rfl, rfl⟩
  have HR : Hid (rk K d (.fix s) = ⟨(K.fixed (s, d)).getD 0, (K.fixed (s, d)).isSome, 0⟩) := rfl
  generalize (K.fixed (s, d)).getD 0 = n at *
  generalize (K.fixed (s, d)).isSome = q at *
  go_wp2_with fail
  refine bodyPost_ret (ret_row rfl _ _ _ ⟨n, q, 0⟩ rfl (alloc_0 _ _ _)) rfl ?_
  exact ⟨by rw [HR.out], below_alloc (below_alloc (Below.refl _ _) _) _⟩

set_option maxHeartbeats 1000000 in
set_option maxRecDepth 100000 in
theorem reckon_neg (o : O) (hf : formB o = true) (ih : RkCalls o) : RkCalls (.neg o) := by
  intro w p f c K d hk hd
  have HK : Hid (KIn w p f c K) := hk
  have HI : Hid (RkCalls o) := ih
  have HD : Hid (dayOk d) := hd
  clear hk ih hd
  have h0 := fun v xT w => notConst 110 v xT w (by decide)
  have h1 := fun v xT w => notFix 110 v xT w (by decide)
  have h2 := fun v xT w => isNeg v xT w
  obtain ⟨t, x, he⟩ := form_iface o hf
  have HE : Hid (o.val = .iface t x) := he
  clear hf
  unfold O.val
  rw [he]
  clear he
  go_enter Try.func75, Try.ntmps75
  go_wp2_with fail
  have hcall := HI.out _ p f c K d (HK.out.below (below_alloc (below_alloc (Below.refl _ _) (.cells #[.int .i64 0, .bool false, .int .i64 0] 181)) (.cells #[.iface t x] 110))) HD.out
  rw [HE.out] at hcall
  refine hcall.mono ?_
  clear hcall
  rintro e w1 ⟨rfl, hb⟩
  have HZ : Hid (w1.heap[w.heap.size]? = some (.cells #[.int .i64 0, .bool false, .int .i64 0] 181)) := (hb.block _ (by simp; omega)).trans (alloc_0 _ _ _)
  have HB : Hid (Below w.heap.size w w1) := (below_alloc (below_alloc (Below.refl _ _) _) _).trans (hb.mono (by simp; omega))
  clear hb
  go_wp2_with fail
  refine (other_any _ _).mono ?_
  rintro e w2 ⟨rfl, hb⟩
  have HZ2 : Hid (w2.heap[w.heap.size]? = some (.cells #[.int .i64 0, .bool false, .int .i64 0] 181)) := (hb.block _ (Array.getElem?_eq_some_iff.1 HZ.out).1).trans HZ.out
  have HB2 : Hid (Below w.heap.size w w2) := HB.out.trans (hb.mono HB.out.size)
  clear hb
  obtain ⟨c0, c1, c2, f0, f1, f2⟩ := row3_cells HZ2.out
  have HR : Hid (rk K d (.neg o) = otherR (rk K d o)) := rfl
  generalize otherR (rk K d o) = y at *
  unfold Rk.val Rk.cs
  go_wp2_with fail
  refine bodyPost_ret (ret_row rfl _ _ _ y rfl (set3_row HZ2.out _ _ _)) rfl ?_
  exact ⟨by rw [HR.out], set3_below HB2.out (by omega) _ _ _⟩

set_option maxHeartbeats 2000000 in
set_option maxRecDepth 100000 in
theorem reckon_add (l r : O) (hl : formB l = true) (hr : formB r = true) (ihl : RkCalls l) (ihr : RkCalls r) : RkCalls (.add l r) := by
  intro w p f c K d hk hd
  have HL : Hid (RkCalls l) := ihl
  have HRR : Hid (RkCalls r) := ihr
  have HD : Hid (dayOk d) := hd
  have h0 := fun v xT w => notConst 108 v xT w (by decide)
  have h1 := fun v xT w => notFix 108 v xT w (by decide)
  have h2 := fun v xT w => notNeg 108 v xT w (by decide)
  have h3 := fun v xT w => isAdd v xT w
  obtain ⟨t, x, he⟩ := form_iface l hl
  obtain ⟨t2, x2, he2⟩ := form_iface r hr
  have HE : Hid (l.val = .iface t x) := he
  have HE2 : Hid (r.val = .iface t2 x2) := he2
  have HK0 : Hid (KIn w p f c K) := hk
  clear hl hr hd ihl ihr hk
  unfold O.val
  rw [he, he2]
  clear he he2
  go_enter Try.func75, Try.ntmps75
  go_wp2_with fail
  have hz := alloc_0 w (.cells #[.int .i64 0, .bool false, .int .i64 0] 181) (.cells #[.iface t x, .iface t2 x2] 108)
  have hx := alloc_1 w (.cells #[.int .i64 0, .bool false, .int .i64 0] 181) (.cells #[.iface t x, .iface t2 x2] 108)
  have hb := below_alloc (below_alloc (Below.refl w.heap.size w) (.cells #[.int .i64 0, .bool false, .int .i64 0] 181)) (.cells #[.iface t x, .iface t2 x2] 108)
  generalize (w.alloc (.cells #[.int .i64 0, .bool false, .int .i64 0] 181)).alloc (.cells #[.iface t x, .iface t2 x2] 108) = W at *
  have HZ : Hid (W.heap[w.heap.size]? = some (.cells #[.int .i64 0, .bool false, .int .i64 0] 181)) := hz
  have HC0 : Hid (BinC w l.val r.val 108 W.drew) := by
    unfold Hid
    rw [HE.out, HE2.out]
    exact ⟨below_drew hb, hx⟩
  have HF : Hid (∀ w', BinC w l.val r.val 108 w' → w'.cell? ⟨w.heap.size + 1, 0, none⟩ = some l.val ∧ w'.cell? ⟨w.heap.size + 1, 1, none⟩ = some r.val) := fun w' hw' => ⟨cell_of_row _ _ _ _ _ _ hw'.2, cell_of_row _ _ _ _ _ _ hw'.2⟩
  clear hz hx hb
  have HRES : Hid (rk K d (.add l r) = bothR (rk K d l) (rk K d r) addR) := rfl
  refine Mx.wp_region_mix (fun w' => BinC w l.val r.val 108 w') [(0, false), (1, false), (2, false), (3, false), (5, false), (6, false), (7, false), (8, false), (4, true), (9, true), (10, true), (11, true)] (by kernel_rfl) (by kernel_rfl) HC0.out ?_ (by kernel_rfl)
  simp only [List.map_cons, List.map_nil, List.getD_cons_zero, List.getD_cons_succ]
  generalize hops : (#[_, _, _, _, _, _, _, _, _, _, _, _] : Array Oper) = ops
  clear hops
  refine Mx.m_pure (.pointer (some ⟨w.heap.size + 1, 0, none⟩)) (Mx.wanted_none rfl) (fun w' hw' => ?_) ?_
  · go_simp
  simp only [Act.put, List.setIfInBounds_toArray, List.set_cons_zero, List.set_cons_succ]
  refine Mx.m_pure (l.val) (Mx.wanted_none rfl) (fun w' hw' => ?_) ?_
  · obtain ⟨q0, q1⟩ := HF.out w' hw'
    go_simp
  simp only [Act.put, List.setIfInBounds_toArray, List.set_cons_zero, List.set_cons_succ]
  refine Mx.m_pure (.int .i64 d) (Mx.wanted_none rfl) (fun w' hw' => ?_) ?_
  · go_simp
  simp only [Act.put, List.setIfInBounds_toArray, List.set_cons_zero, List.set_cons_succ]
  refine Mx.m_pure (.pointer (some ⟨p, 0, none⟩)) (Mx.wanted_none rfl) (fun w' hw' => ?_) ?_
  · go_simp
  simp only [Act.put, List.setIfInBounds_toArray, List.set_cons_zero, List.set_cons_succ]
  refine Mx.m_pure (.pointer (some ⟨w.heap.size + 1, 1, none⟩)) (Mx.wanted_none rfl) (fun w' hw' => ?_) ?_
  · go_simp
  simp only [Act.put, List.setIfInBounds_toArray, List.set_cons_zero, List.set_cons_succ]
  refine Mx.m_pure (r.val) (Mx.wanted_none rfl) (fun w' hw' => ?_) ?_
  · obtain ⟨q0, q1⟩ := HF.out w' hw'
    go_simp
  simp only [Act.put, List.setIfInBounds_toArray, List.set_cons_zero, List.set_cons_succ]
  refine Mx.m_pure (.int .i64 d) (Mx.wanted_none rfl) (fun w' hw' => ?_) ?_
  · go_simp
  simp only [Act.put, List.setIfInBounds_toArray, List.set_cons_zero, List.set_cons_succ]
  refine Mx.m_pure (.pointer (some ⟨p, 0, none⟩)) (Mx.wanted_none rfl) (fun w' hw' => ?_) ?_
  · go_simp
  simp only [Act.put, List.setIfInBounds_toArray, List.set_cons_zero, List.set_cons_succ]
  refine Mx.m_call 75 #[l.val, .int .i64 d, .pointer (some ⟨p, 0, none⟩)] (Mx.wanted_none rfl) ?_ ?_
  · go_simp
  refine (HL.out _ p f c K d (HK0.out.below HC0.out.1) HD.out).mono ?_
  rintro e w1 ⟨rfl, hb⟩
  have HC1 : Hid (BinC w l.val r.val 108 w1) := HC0.out.step hb
  have HZ1 : Hid (w1.heap[w.heap.size]? = some (.cells #[.int .i64 0, .bool false, .int .i64 0] 181)) := (hb.block _ (Array.getElem?_eq_some_iff.1 HZ.out).1).trans HZ.out
  refine ⟨_, rfl, HC1.out, ?_⟩
  clear hb
  simp only [Act.put, List.setIfInBounds_toArray, List.set_cons_zero, List.set_cons_succ]
  refine Mx.m_call 75 #[r.val, .int .i64 d, .pointer (some ⟨p, 0, none⟩)] (Mx.wanted_none rfl) ?_ ?_
  · go_simp
  refine (HRR.out _ p f c K d (HK0.out.below HC1.out.1) HD.out).mono ?_
  rintro e w2 ⟨rfl, hb⟩
  have HC2 : Hid (BinC w l.val r.val 108 w2) := HC1.out.step hb
  have HZ2 : Hid (w2.heap[w.heap.size]? = some (.cells #[.int .i64 0, .bool false, .int .i64 0] 181)) := (hb.block _ (Array.getElem?_eq_some_iff.1 HZ1.out).1).trans HZ1.out
  refine ⟨_, rfl, HC2.out, ?_⟩
  clear hb
  simp only [Act.put, List.setIfInBounds_toArray, List.set_cons_zero, List.set_cons_succ]
  refine Mx.m_call 81 #[(rk K d l).val, (rk K d r).val, .func (.func 82) #[] #[]] (Mx.wanted_none rfl) ?_ ?_
  · go_simp
  refine (both_any _ _ _ addR (fun args w => rfl) add_any _).mono ?_
  rintro e w3 ⟨rfl, hb⟩
  have HC3 : Hid (BinC w l.val r.val 108 w3) := HC2.out.step hb
  refine ⟨_, rfl, HC3.out, ?_⟩
  have HZ3 : Hid (w3.heap[w.heap.size]? = some (.cells #[.int .i64 0, .bool false, .int .i64 0] 181)) := (hb.block _ (Array.getElem?_eq_some_iff.1 HZ2.out).1).trans HZ2.out
  clear hb
  obtain ⟨c0, c1, c2, f0, f1, f2⟩ := row3_cells HZ3.out
  generalize bothR (rk K d l) (rk K d r) addR = y at *
  unfold Rk.val Rk.cs
  simp only [Act.put, List.setIfInBounds_toArray, List.set_cons_zero, List.set_cons_succ]
  refine m_skip (Mx.wanted_none rfl) ?_ (HC3.out.set3 (.int .i64 y.n) (.bool y.known) (.int .i64 y.e)) ?_
  · unfold set3
    go_simp
  simp only [Act.put]
  refine Mx.m_nil ?_
  intro _
  go_wp2_with fail
  refine bodyPost_ret (ret_row rfl _ _ _ y rfl (set3_row HZ3.out _ _ _)) rfl ?_
  exact ⟨by rw [HRES.out], set3_below HC3.out.1 (Nat.le_refl _) _ _ _⟩

set_option maxHeartbeats 2000000 in
set_option maxRecDepth 100000 in
theorem reckon_mul (l r : O) (hl : formB l = true) (hr : formB r = true) (ihl : RkCalls l) (ihr : RkCalls r) : RkCalls (.mul l r) := by
  intro w p f c K d hk hd
  have HL : Hid (RkCalls l) := ihl
  have HRR : Hid (RkCalls r) := ihr
  have HD : Hid (dayOk d) := hd
  have h0 := fun v xT w => notConst 111 v xT w (by decide)
  have h1 := fun v xT w => notFix 111 v xT w (by decide)
  have h2 := fun v xT w => notNeg 111 v xT w (by decide)
  have h3 := fun v xT w => notAdd 111 v xT w (by decide)
  have h4 := fun v xT w => isMul v xT w
  obtain ⟨t, x, he⟩ := form_iface l hl
  obtain ⟨t2, x2, he2⟩ := form_iface r hr
  have HE : Hid (l.val = .iface t x) := he
  have HE2 : Hid (r.val = .iface t2 x2) := he2
  have HK0 : Hid (KIn w p f c K) := hk
  clear hl hr hd ihl ihr hk
  unfold O.val
  rw [he, he2]
  clear he he2
  go_enter Try.func75, Try.ntmps75
  go_wp2_with fail
  have hz := alloc_0 w (.cells #[.int .i64 0, .bool false, .int .i64 0] 181) (.cells #[.iface t x, .iface t2 x2] 111)
  have hx := alloc_1 w (.cells #[.int .i64 0, .bool false, .int .i64 0] 181) (.cells #[.iface t x, .iface t2 x2] 111)
  have hb := below_alloc (below_alloc (Below.refl w.heap.size w) (.cells #[.int .i64 0, .bool false, .int .i64 0] 181)) (.cells #[.iface t x, .iface t2 x2] 111)
  generalize (w.alloc (.cells #[.int .i64 0, .bool false, .int .i64 0] 181)).alloc (.cells #[.iface t x, .iface t2 x2] 111) = W at *
  have HZ : Hid (W.heap[w.heap.size]? = some (.cells #[.int .i64 0, .bool false, .int .i64 0] 181)) := hz
  have HC0 : Hid (BinC w l.val r.val 111 W.drew) := by
    unfold Hid
    rw [HE.out, HE2.out]
    exact ⟨below_drew hb, hx⟩
  have HF : Hid (∀ w', BinC w l.val r.val 111 w' → w'.cell? ⟨w.heap.size + 1, 0, none⟩ = some l.val ∧ w'.cell? ⟨w.heap.size + 1, 1, none⟩ = some r.val) := fun w' hw' => ⟨cell_of_row _ _ _ _ _ _ hw'.2, cell_of_row _ _ _ _ _ _ hw'.2⟩
  clear hz hx hb
  have HRES : Hid (rk K d (.mul l r) = bothR (rk K d l) (rk K d r) mulR) := rfl
  refine Mx.wp_region_mix (fun w' => BinC w l.val r.val 111 w') [(0, false), (1, false), (2, false), (3, false), (5, false), (6, false), (7, false), (8, false), (4, true), (9, true), (10, true), (11, true)] (by kernel_rfl) (by kernel_rfl) HC0.out ?_ (by kernel_rfl)
  simp only [List.map_cons, List.map_nil, List.getD_cons_zero, List.getD_cons_succ]
  generalize hops : (#[_, _, _, _, _, _, _, _, _, _, _, _] : Array Oper) = ops
  clear hops
  refine Mx.m_pure (.pointer (some ⟨w.heap.size + 1, 0, none⟩)) (Mx.wanted_none rfl) (fun w' hw' => ?_) ?_
  · go_simp
  simp only [Act.put, List.setIfInBounds_toArray, List.set_cons_zero, List.set_cons_succ]
  refine Mx.m_pure (l.val) (Mx.wanted_none rfl) (fun w' hw' => ?_) ?_
  · obtain ⟨q0, q1⟩ := HF.out w' hw'
    go_simp
  simp only [Act.put, List.setIfInBounds_toArray, List.set_cons_zero, List.set_cons_succ]
  refine Mx.m_pure (.int .i64 d) (Mx.wanted_none rfl) (fun w' hw' => ?_) ?_
  · go_simp
  simp only [Act.put, List.setIfInBounds_toArray, List.set_cons_zero, List.set_cons_succ]
  refine Mx.m_pure (.pointer (some ⟨p, 0, none⟩)) (Mx.wanted_none rfl) (fun w' hw' => ?_) ?_
  · go_simp
  simp only [Act.put, List.setIfInBounds_toArray, List.set_cons_zero, List.set_cons_succ]
  refine Mx.m_pure (.pointer (some ⟨w.heap.size + 1, 1, none⟩)) (Mx.wanted_none rfl) (fun w' hw' => ?_) ?_
  · go_simp
  simp only [Act.put, List.setIfInBounds_toArray, List.set_cons_zero, List.set_cons_succ]
  refine Mx.m_pure (r.val) (Mx.wanted_none rfl) (fun w' hw' => ?_) ?_
  · obtain ⟨q0, q1⟩ := HF.out w' hw'
    go_simp
  simp only [Act.put, List.setIfInBounds_toArray, List.set_cons_zero, List.set_cons_succ]
  refine Mx.m_pure (.int .i64 d) (Mx.wanted_none rfl) (fun w' hw' => ?_) ?_
  · go_simp
  simp only [Act.put, List.setIfInBounds_toArray, List.set_cons_zero, List.set_cons_succ]
  refine Mx.m_pure (.pointer (some ⟨p, 0, none⟩)) (Mx.wanted_none rfl) (fun w' hw' => ?_) ?_
  · go_simp
  simp only [Act.put, List.setIfInBounds_toArray, List.set_cons_zero, List.set_cons_succ]
  refine Mx.m_call 75 #[l.val, .int .i64 d, .pointer (some ⟨p, 0, none⟩)] (Mx.wanted_none rfl) ?_ ?_
  · go_simp
  refine (HL.out _ p f c K d (HK0.out.below HC0.out.1) HD.out).mono ?_
  rintro e w1 ⟨rfl, hb⟩
  have HC1 : Hid (BinC w l.val r.val 111 w1) := HC0.out.step hb
  have HZ1 : Hid (w1.heap[w.heap.size]? = some (.cells #[.int .i64 0, .bool false, .int .i64 0] 181)) := (hb.block _ (Array.getElem?_eq_some_iff.1 HZ.out).1).trans HZ.out
  refine ⟨_, rfl, HC1.out, ?_⟩
  clear hb
  simp only [Act.put, List.setIfInBounds_toArray, List.set_cons_zero, List.set_cons_succ]
  refine Mx.m_call 75 #[r.val, .int .i64 d, .pointer (some ⟨p, 0, none⟩)] (Mx.wanted_none rfl) ?_ ?_
  · go_simp
  refine (HRR.out _ p f c K d (HK0.out.below HC1.out.1) HD.out).mono ?_
  rintro e w2 ⟨rfl, hb⟩
  have HC2 : Hid (BinC w l.val r.val 111 w2) := HC1.out.step hb
  have HZ2 : Hid (w2.heap[w.heap.size]? = some (.cells #[.int .i64 0, .bool false, .int .i64 0] 181)) := (hb.block _ (Array.getElem?_eq_some_iff.1 HZ1.out).1).trans HZ1.out
  refine ⟨_, rfl, HC2.out, ?_⟩
  clear hb
  simp only [Act.put, List.setIfInBounds_toArray, List.set_cons_zero, List.set_cons_succ]
  refine Mx.m_call 81 #[(rk K d l).val, (rk K d r).val, .func (.func 57) #[] #[]] (Mx.wanted_none rfl) ?_ ?_
  · go_simp
  refine (both_any _ _ _ mulR (fun args w => rfl) mul_any _).mono ?_
  rintro e w3 ⟨rfl, hb⟩
  have HC3 : Hid (BinC w l.val r.val 111 w3) := HC2.out.step hb
  refine ⟨_, rfl, HC3.out, ?_⟩
  have HZ3 : Hid (w3.heap[w.heap.size]? = some (.cells #[.int .i64 0, .bool false, .int .i64 0] 181)) := (hb.block _ (Array.getElem?_eq_some_iff.1 HZ2.out).1).trans HZ2.out
  clear hb
  obtain ⟨c0, c1, c2, f0, f1, f2⟩ := row3_cells HZ3.out
  generalize bothR (rk K d l) (rk K d r) mulR = y at *
  unfold Rk.val Rk.cs
  simp only [Act.put, List.setIfInBounds_toArray, List.set_cons_zero, List.set_cons_succ]
  refine m_skip (Mx.wanted_none rfl) ?_ (HC3.out.set3 (.int .i64 y.n) (.bool y.known) (.int .i64 y.e)) ?_
  · unfold set3
    go_simp
  simp only [Act.put]
  refine Mx.m_nil ?_
  intro _
  go_wp2_with fail
  refine bodyPost_ret (ret_row rfl _ _ _ y rfl (set3_row HZ3.out _ _ _)) rfl ?_
  exact ⟨by rw [HRES.out], set3_below HC3.out.1 (Nat.le_refl _) _ _ _⟩

set_option maxHeartbeats 2000000 in
set_option maxRecDepth 100000 in
theorem reckon_max (l r : O) (hl : formB l = true) (hr : formB r = true) (ihl : RkCalls l) (ihr : RkCalls r) : RkCalls (.max l r) := by
  intro w p f c K d hk hd
  have HL : Hid (RkCalls l) := ihl
  have HRR : Hid (RkCalls r) := ihr
  have HD : Hid (dayOk d) := hd
  have h0 := fun v xT w => notConst 112 v xT w (by decide)
  have h1 := fun v xT w => notFix 112 v xT w (by decide)
  have h2 := fun v xT w => notNeg 112 v xT w (by decide)
  have h3 := fun v xT w => notAdd 112 v xT w (by decide)
  have h4 := fun v xT w => notMul 112 v xT w (by decide)
  have h5 := fun v xT w => isMax1 v xT w
  obtain ⟨t, x, he⟩ := form_iface l hl
  obtain ⟨t2, x2, he2⟩ := form_iface r hr
  have HE : Hid (l.val = .iface t x) := he
  have HE2 : Hid (r.val = .iface t2 x2) := he2
  have HK0 : Hid (KIn w p f c K) := hk
  clear hl hr hd ihl ihr hk
  unfold O.val
  rw [he, he2]
  clear he he2
  go_enter Try.func75, Try.ntmps75
  go_wp2_with fail
  have hz := alloc_0 w (.cells #[.int .i64 0, .bool false, .int .i64 0] 181) (.cells #[.iface t x, .iface t2 x2] 112)
  have hx := alloc_1 w (.cells #[.int .i64 0, .bool false, .int .i64 0] 181) (.cells #[.iface t x, .iface t2 x2] 112)
  have hb := below_alloc (below_alloc (Below.refl w.heap.size w) (.cells #[.int .i64 0, .bool false, .int .i64 0] 181)) (.cells #[.iface t x, .iface t2 x2] 112)
  generalize (w.alloc (.cells #[.int .i64 0, .bool false, .int .i64 0] 181)).alloc (.cells #[.iface t x, .iface t2 x2] 112) = W at *
  have HZ : Hid (W.heap[w.heap.size]? = some (.cells #[.int .i64 0, .bool false, .int .i64 0] 181)) := hz
  have HC0 : Hid (BinC w l.val r.val 112 W.drew) := by
    unfold Hid
    rw [HE.out, HE2.out]
    exact ⟨below_drew hb, hx⟩
  have HF : Hid (∀ w', BinC w l.val r.val 112 w' → w'.cell? ⟨w.heap.size + 1, 0, none⟩ = some l.val ∧ w'.cell? ⟨w.heap.size + 1, 1, none⟩ = some r.val) := fun w' hw' => ⟨cell_of_row _ _ _ _ _ _ hw'.2, cell_of_row _ _ _ _ _ _ hw'.2⟩
  clear hz hx hb
  have HRES : Hid (rk K d (.max l r) = bothR (rk K d l) (rk K d r) gtR) := rfl
  refine Mx.wp_region_mix (fun w' => BinC w l.val r.val 112 w') [(0, false), (1, false), (2, false), (3, false), (5, false), (6, false), (7, false), (8, false), (4, true), (9, true), (10, true), (11, true)] (by kernel_rfl) (by kernel_rfl) HC0.out ?_ (by kernel_rfl)
  simp only [List.map_cons, List.map_nil, List.getD_cons_zero, List.getD_cons_succ]
  generalize hops : (#[_, _, _, _, _, _, _, _, _, _, _, _] : Array Oper) = ops
  clear hops
  refine Mx.m_pure (.pointer (some ⟨w.heap.size + 1, 0, none⟩)) (Mx.wanted_none rfl) (fun w' hw' => ?_) ?_
  · go_simp
  simp only [Act.put, List.setIfInBounds_toArray, List.set_cons_zero, List.set_cons_succ]
  refine Mx.m_pure (l.val) (Mx.wanted_none rfl) (fun w' hw' => ?_) ?_
  · obtain ⟨q0, q1⟩ := HF.out w' hw'
    go_simp
  simp only [Act.put, List.setIfInBounds_toArray, List.set_cons_zero, List.set_cons_succ]
  refine Mx.m_pure (.int .i64 d) (Mx.wanted_none rfl) (fun w' hw' => ?_) ?_
  · go_simp
  simp only [Act.put, List.setIfInBounds_toArray, List.set_cons_zero, List.set_cons_succ]
  refine Mx.m_pure (.pointer (some ⟨p, 0, none⟩)) (Mx.wanted_none rfl) (fun w' hw' => ?_) ?_
  · go_simp
  simp only [Act.put, List.setIfInBounds_toArray, List.set_cons_zero, List.set_cons_succ]
  refine Mx.m_pure (.pointer (some ⟨w.heap.size + 1, 1, none⟩)) (Mx.wanted_none rfl) (fun w' hw' => ?_) ?_
  · go_simp
  simp only [Act.put, List.setIfInBounds_toArray, List.set_cons_zero, List.set_cons_succ]
  refine Mx.m_pure (r.val) (Mx.wanted_none rfl) (fun w' hw' => ?_) ?_
  · obtain ⟨q0, q1⟩ := HF.out w' hw'
    go_simp
  simp only [Act.put, List.setIfInBounds_toArray, List.set_cons_zero, List.set_cons_succ]
  refine Mx.m_pure (.int .i64 d) (Mx.wanted_none rfl) (fun w' hw' => ?_) ?_
  · go_simp
  simp only [Act.put, List.setIfInBounds_toArray, List.set_cons_zero, List.set_cons_succ]
  refine Mx.m_pure (.pointer (some ⟨p, 0, none⟩)) (Mx.wanted_none rfl) (fun w' hw' => ?_) ?_
  · go_simp
  simp only [Act.put, List.setIfInBounds_toArray, List.set_cons_zero, List.set_cons_succ]
  refine Mx.m_call 75 #[l.val, .int .i64 d, .pointer (some ⟨p, 0, none⟩)] (Mx.wanted_none rfl) ?_ ?_
  · go_simp
  refine (HL.out _ p f c K d (HK0.out.below HC0.out.1) HD.out).mono ?_
  rintro e w1 ⟨rfl, hb⟩
  have HC1 : Hid (BinC w l.val r.val 112 w1) := HC0.out.step hb
  have HZ1 : Hid (w1.heap[w.heap.size]? = some (.cells #[.int .i64 0, .bool false, .int .i64 0] 181)) := (hb.block _ (Array.getElem?_eq_some_iff.1 HZ.out).1).trans HZ.out
  refine ⟨_, rfl, HC1.out, ?_⟩
  clear hb
  simp only [Act.put, List.setIfInBounds_toArray, List.set_cons_zero, List.set_cons_succ]
  refine Mx.m_call 75 #[r.val, .int .i64 d, .pointer (some ⟨p, 0, none⟩)] (Mx.wanted_none rfl) ?_ ?_
  · go_simp
  refine (HRR.out _ p f c K d (HK0.out.below HC1.out.1) HD.out).mono ?_
  rintro e w2 ⟨rfl, hb⟩
  have HC2 : Hid (BinC w l.val r.val 112 w2) := HC1.out.step hb
  have HZ2 : Hid (w2.heap[w.heap.size]? = some (.cells #[.int .i64 0, .bool false, .int .i64 0] 181)) := (hb.block _ (Array.getElem?_eq_some_iff.1 HZ1.out).1).trans HZ1.out
  refine ⟨_, rfl, HC2.out, ?_⟩
  clear hb
  simp only [Act.put, List.setIfInBounds_toArray, List.set_cons_zero, List.set_cons_succ]
  refine Mx.m_call 81 #[(rk K d l).val, (rk K d r).val, .func (.func 83) #[] #[]] (Mx.wanted_none rfl) ?_ ?_
  · go_simp
  refine (both_any _ _ _ gtR (fun args w => rfl) gt_any _).mono ?_
  rintro e w3 ⟨rfl, hb⟩
  have HC3 : Hid (BinC w l.val r.val 112 w3) := HC2.out.step hb
  refine ⟨_, rfl, HC3.out, ?_⟩
  have HZ3 : Hid (w3.heap[w.heap.size]? = some (.cells #[.int .i64 0, .bool false, .int .i64 0] 181)) := (hb.block _ (Array.getElem?_eq_some_iff.1 HZ2.out).1).trans HZ2.out
  clear hb
  obtain ⟨c0, c1, c2, f0, f1, f2⟩ := row3_cells HZ3.out
  generalize bothR (rk K d l) (rk K d r) gtR = y at *
  unfold Rk.val Rk.cs
  simp only [Act.put, List.setIfInBounds_toArray, List.set_cons_zero, List.set_cons_succ]
  refine m_skip (Mx.wanted_none rfl) ?_ (HC3.out.set3 (.int .i64 y.n) (.bool y.known) (.int .i64 y.e)) ?_
  · unfold set3
    go_simp
  simp only [Act.put]
  refine Mx.m_nil ?_
  intro _
  go_wp2_with fail
  refine bodyPost_ret (ret_row rfl _ _ _ y rfl (set3_row HZ3.out _ _ _)) rfl ?_
  exact ⟨by rw [HRES.out], set3_below HC3.out.1 (Nat.le_refl _) _ _ _⟩

/-- What reckon answers. -/
theorem reckon_any (o : O) : o.Ok → formB o = true → RkCalls o := by
  induction o with
  | const n => exact fun _ _ => reckon_const n
  | fix s => exact fun h _ => reckon_fix s h
  | add l r hl hr => intro h hf; simp only [formB, Bool.and_eq_true] at hf; exact reckon_add l r hf.1 hf.2 (hl h.1 hf.1) (hr h.2 hf.2)
  | neg o ho => intro h hf; simp only [formB] at hf; exact reckon_neg o hf (ho h hf)
  | mul l r hl hr => intro h hf; simp only [formB, Bool.and_eq_true] at hf; exact reckon_mul l r hf.1 hf.2 (hl h.1 hf.1) (hr h.2 hf.2)
  | max l r hl hr => intro h hf; simp only [formB, Bool.and_eq_true] at hf; exact reckon_max l r hf.1 hf.2 (hl h.1 hf.1) (hr h.2 hf.2)
  | odd v => intro _ hf; simp [formB] at hf

end Go.Proofs.Ytngjlkdpplmpaab.Vl
namespace Go.Proofs.Ytngjlkdpplmpaab.Vl
open Go.RowKit Wd Cn
set_option linter.unusedVariables false

/-- What Of answers. -/
def ofR (K : KW) (d : Int) (o : O) : Rk := if chk o = 0 then rk K d o else ⟨0, false, 2⟩
def ofE (r : Rk) : Ending := .returned (.tuple #[.int .i64 r.n, .bool r.known, .int .i64 r.e])
theorem chk_form {o : O} (h : chk o = 0) : formB o = true := by
  unfold chk at h
  split at h
  · assumption
  · cases h

set_option maxHeartbeats 1000000 in
theorem of_any (o : O) (hok : o.Ok) (hsz : o.nodes ≤ 1000000) (w : World) (p f c : Nat) (K : KW) (d : Int) (hk : KIn w p f c K) (hd : dayOk d) :
    Calls Try.prog 69 #[o.val, .int .i64 d, .pointer (some ⟨p, 0, none⟩)] w fun e w' => e = ofE (ofR K d o) ∧ Below w.heap.size w w' := by
  have HK : Hid (KIn w p f c K) := hk
  clear hk
  by_cases hc : chk o = 0
  · have HF : Hid (ofR K d o = rk K d o) := by unfold Hid ofR; rw [if_pos hc]
    go_enter Try.func69, Try.ntmps69
    go_wp2_with fail
    refine (check_any o hok hsz w).mono ?_
    rintro e w1 ⟨rfl, hb1⟩
    rw [hc]
    go_wp2_with fail
    refine (reckon_any o hok (chk_form hc) w1 p f c K d (HK.out.below hb1) hd).mono ?_
    rintro e w2 ⟨rfl, hb2⟩
    have HB : Hid (Below w.heap.size w w2) := hb1.trans (hb2.mono hb1.size)
    clear hb1 hb2
    generalize rk K d o = x at *
    unfold Rk.val Rk.cs
    go_wp2_with fail
    go_region
    go_wp2_with fail
    go_ret3
    rw [HF.out]
    exact ⟨rfl, (below_alloc HB.out _).drew⟩
  · have HF : Hid (ofR K d o = ⟨0, false, 2⟩) := by unfold Hid ofR; rw [if_neg hc]
    have hc1 : (chk o != 0) = true := by simpa using hc
    go_enter Try.func69, Try.ntmps69
    go_wp2_with fail
    refine (check_any o hok hsz w).mono ?_
    rintro e w1 ⟨rfl, hb1⟩
    go_wp2_with fail
    go_ret3
    rw [HF.out]
    exact ⟨rfl, hb1⟩

/-- The names that are not fixed. -/
def lackN (K : KW) (d : Int) (l : List ByteArray) : List ByteArray := l.filter fun s => !(K.fixed (s, d)).isSome
def needR (K : KW) (d : Int) (o : O) : List ByteArray := if chk o = 0 then lackN K d o.names else []
theorem lackN_snoc (K : KW) (d : Int) (l : List ByteArray) (s : ByteArray) : lackN K d (l ++ [s]) = if (K.fixed (s, d)).isSome = true then lackN K d l else lackN K d l ++ [s] := by
  unfold lackN
  rw [List.filter_append]
  cases h : K.fixed (s, d) <;> simp [h]
theorem lackN_length (K : KW) (d : Int) (l : List ByteArray) : (lackN K d l).length ≤ l.length := List.length_filter_le _ _
theorem all_small (o : O) (h : o.Ok) : ∀ s ∈ o.all, s.size ≤ 2147483648 := by
  induction o with
  | const n => intro s hs; simp [O.all] at hs
  | fix t => intro s hs; simp [O.all] at hs; subst hs; exact h
  | add l r hl hr => intro s hs; simp only [O.all, List.mem_append] at hs; exact hs.elim (hl h.1 s) (hr h.2 s)
  | neg o ho => intro s hs; exact ho h s hs
  | mul l r hl hr => intro s hs; simp only [O.all, List.mem_append] at hs; exact hs.elim (hl h.1 s) (hr h.2 s)
  | max l r hl hr => intro s hs; simp only [O.all, List.mem_append] at hs; exact hs.elim (hl h.1 s) (hr h.2 s)
  | odd v => intro s hs; simp [O.all] at hs
theorem addAll_mem (l : List ByteArray) : ∀ (acc : List ByteArray) (s : ByteArray), s ∈ addAll acc l → s ∈ acc ∨ s ∈ l := by
  induction l with
  | nil => intro acc s h; exact .inl h
  | cons x l ih =>
    intro acc s h
    rcases ih (addN acc x) s h with h1 | h1
    · unfold addN at h1
      split at h1
      · exact .inl h1
      · rcases List.mem_append.1 h1 with h2 | h2
        · exact .inl h2
        · exact .inr (by simp at h2; simp [h2])
    · exact .inr (List.mem_cons_of_mem _ h1)
theorem names_small (o : O) (h : o.Ok) : ∀ s ∈ o.names, s.size ≤ 2147483648 := fun s hs => by
  rcases addAll_mem _ _ _ hs with h1 | h1
  · simp at h1
  · exact all_small o h s h1
theorem names_length (o : O) : o.names.length ≤ o.nodes := by
  have h1 := addAll_length o.all []
  have h2 := all_nodes o
  simp at h1
  show (addAll [] o.all).length ≤ _
  omega
theorem hidV {p : Prop} (h : p) : Hid p := h

set_option maxHeartbeats 1000000 in
set_option maxRecDepth 100000 in
theorem needs_any (o : O) (hok : o.Ok) (hsz : o.nodes ≤ 1000000) (w : World) (p f c : Nat) (K : KW) (d : Int) (hk : KIn w p f c K) (hd : dayOk d) :
    Calls Try.prog 70 #[o.val, .int .i64 d, .pointer (some ⟨p, 0, none⟩)] w fun e w' => ∃ v, e = .returned v ∧ w'.ownsRow w.heap.size 9 1 v (needR K d o).length (strCells (needR K d o)) ∧ Below w.heap.size w w' := by
  obtain ⟨i0, gi, gz0, gz1, gz2⟩ := info_parts infoStr
  have HK : Hid (KIn w p f c K) := hk
  clear hk
  by_cases hc : chk o = 0
  rotate_left
  · have HF : Hid (needR K d o = []) := by unfold Hid needR; rw [if_neg hc]
    have hc1 : (chk o != 0) = true := by simpa using hc
    go_enter Try.func70, Try.ntmps70
    go_wp2_with fail
    refine (check_any o hok hsz w).mono ?_
    rintro e w1 ⟨rfl, hb1⟩
    go_wp2_with fail
    go_ret
    rw [HF.out]
    exact ⟨_, rfl, World.ownsRow_nil _ _ _ _, hb1⟩
  · have HF : Hid (needR K d o = lackN K d o.names) := by unfold Hid needR; rw [if_pos hc]
    have HS := hidV (names_small o hok)
    have hnl := names_length o
    have HD := hidV hd
    clear hd
    go_enter Try.func70, Try.ntmps70
    go_wp2_with fail
    refine (check_any o hok hsz w).mono ?_
    rintro e w1 ⟨rfl, hb1⟩
    rw [hc]
    go_wp2_with fail
    refine (names_any o hok hsz w1).mono ?_
    rintro e w2 ⟨v2, rfl, hown, hb2⟩
    obtain ⟨ao, cap, rfl, hcl, hll⟩ := own_str hown
    have HC := hidV hcl
    have HB2 : Hid (Below w.heap.size w w2) := hb1.trans (hb2.mono hb1.size)
    have hn1 : o.names.length ≤ 1000000 := by omega
    clear hcl hown hb1 hb2 hsz hok hc hnl
    generalize o.names = l at *
    go_wp2_with fail
    go_loopw [18, 7] (fun s18 s7 wr => ∃ i : Nat, i ≤ l.length ∧ s18 = .int .i64 i ∧ wr.ownsRow w2.heap.size 9 1 s7 (lackN K d (l.take i)).length (strCells (lackN K d (l.take i))) ∧ Below w2.heap.size w2 wr) (fun s18 _ _ => l.length - (intOf s18).toNat)
    case atStart => exact ⟨0, by omega, rfl, World.ownsRow_nil _ _ _ _, Below.refl _ _⟩
    case round =>
      obtain ⟨i, hi, rfl, hrow, hbr⟩ := hrel
      have HBR := hidV hbr
      have HROW := hidV hrow
      clear hbr
      by_cases hlt : i < l.length
      · have hlt' : (i : Int) < (l.length : Int) := by omega
        obtain ⟨g, rfl, hg, hc⟩ := HC.out i hlt
        have hcr : wr.cell? ⟨g, i, none⟩ = some (.string l[i]) := (HBR.out.cell (p := ⟨g, i, none⟩) hg).trans hc
        have HT : Hid (lackN K d (l.take (i + 1)) = if (K.fixed (l[i], d)).isSome = true then lackN K d (l.take i) else lackN K d (l.take i) ++ [l[i]]) := by
          unfold Hid
          rw [take_more l i l[i] (List.getElem?_eq_getElem hlt), lackN_snoc]
        have HSI : Hid (fixOk (l[i], d)) := ⟨Nat.le_trans (HS.out _ (List.getElem_mem hlt)) (by decide), HD.out.1, HD.out.2⟩
        have hal : (lackN K d (l.take i)).length ≤ 1000000 := by
          have h1 := lackN_length K d (l.take i)
          have h3 : (l.take i).length ≤ l.length := by rw [List.length_take]; omega
          omega
        clear hc
        generalize l[i] = s at *
        generalize lackN K d (l.take i) = ac at *
        go_wp2_with fail
        refine calls_same (fixed_any wr p f c K ((HK.out.below HB2.out).below HBR.out) s d HSI.out) ?_
        cases hf : (K.fixed (s, d)).isSome
        · have HT2 : Hid (lackN K d (l.take (i + 1)) = ac ++ [s]) := by unfold Hid; rw [HT.out, if_neg (by rw [hf]; simp)]
          clear HT hf
          go_wp2_with (first
            | (at_builtin; refine wpList_append_own _ rfl _ _ 45 rfl w2.heap.size 9 i0 (.string ByteArray.empty) 1 16 Try.underlying45 gi gz0 gz1 gz2 rfl (by decide) _ _ _ rfl ((hidV hrow).out.alloc _) ⟨wr.heap.size, 0, none⟩ 1 1 [.string s] rfl rfl (cell_one_at wr _ _) (by intro u hu; simp at hu; subst hu; rfl) (by unfold maxLen; omega) (by omega) (by have := HBR.out.size; simp; omega) ?_; intro v4 w4 hown4 hgrow4 _)
            | go_in)
          have HR4 : Hid (w4.ownsRow w2.heap.size 9 1 v4 (ac ++ [s]).length (strCells (ac ++ [s]))) := by simpa [strCells, Hid] using hown4
          have HB4 : Hid (Below w2.heap.size w2 w4) := (HBR.out.alloc HBR.out.size _).grown hgrow4 (by have := HBR.out.size; simp; omega) (fun j hj => (HROW.out.lt j hj).1)
          clear hown4 hgrow4 hrow HROW
          go_wp2_with fail
          go_roundw
          case rel => exact ⟨i + 1, by omega, by go_num, by rw [HT2.out]; exact HR4.out, HB4.out⟩
          case measure => simp [intOf]; omega
        · have HT2 : Hid (lackN K d (l.take (i + 1)) = ac) := by unfold Hid; rw [HT.out, if_pos hf]
          clear HT hf hrow
          go_wp2_with fail
          go_roundw
          case rel => exact ⟨i + 1, by omega, by go_num, by rw [HT2.out]; exact HROW.out, HBR.out⟩
          case measure => simp [intOf]; omega
      · have hle : i = l.length := by omega
        subst hle
        rw [List.take_length] at hrow
        have HR4 := hidV hrow
        clear hrow HROW
        go_wp2_with fail
        go_ret
        rw [HF.out]
        refine ⟨_, rfl, ?_, HB2.out.trans (HBR.out.mono HB2.out.size)⟩
        have h := HR4.out
        refine ⟨h.1, ?_⟩
        rcases h.2 with h | ⟨g, cap, cur, h1, h2, h3⟩
        · exact .inl h
        · exact .inr ⟨g, cap, cur, h1, Nat.le_trans HB2.out.size h2, h3⟩

end Go.Proofs.Ytngjlkdpplmpaab.Vl
namespace Go.Proofs.Ytngjlkdpplmpaab.Vl
open Go.RowKit Wd Cn
set_option linter.unusedVariables false

theorem wakes_const : ofR ⟨[], []⟩ 0 (.const 7) = ⟨7, true, 0⟩ := by
  unfold ofR
  rw [if_pos (by rfl)]
  rfl

theorem of_in {w0 W : World} {p f c : Nat} {K : KW} (h : In w0 W p f c K) (o : O) (hok : o.Ok) (hsz : o.nodes ≤ 1000000) (d : Int) (hd : dayOk d) (r : Rk) (hr : ofR K d o = r) :
    Calls Try.prog 69 #[o.val, .int .i64 d, .pointer (some ⟨p, 0, none⟩)] W fun e w' => e = ofE r ∧ In w0 w' p f c K := by
  refine (of_any o hok hsz W p f c K d h.kin hd).mono ?_
  rintro e w' ⟨rfl, hB⟩
  exact ⟨by rw [hr], h.step hB⟩
/-! ### what is true of every number -/
/-- What is fixed is in range. -/
def KW.Vals (K : KW) : Prop := ∀ q ∈ K.F, vB q.2 = true
theorem KW.Vals.fixed {K : KW} (h : KW.Vals K) {p : ByteArray × Int} {v : Int} (hf : K.fixed p = some v) : vB v = true :=
  h _ (find_some K.F p v hf)
/-- A number as it may come: an error leaves nothing, what is not known is 0, what is known is in range. -/
structure Rk.Good (r : Rk) : Prop where
  errs : r.e = 0 ∨ r.e = 6
  err : r.e ≠ 0 → r.n = 0 ∧ r.known = false
  unk : r.known = false → r.n = 0
  val : r.known = true → vB r.n = true
theorem vB0 : vB 0 = true := by rfl
theorem inR_good (p : Int × Bool) (h : p.2 = true → vB p.1 = true) : (inR p).Good := by
  unfold inR
  split
  · rename_i h1
    exact ⟨.inl rfl, fun h => absurd rfl h, fun h => (by cases h), fun _ => h h1⟩
  · exact ⟨.inr rfl, fun _ => ⟨rfl, rfl⟩, fun _ => rfl, fun h => (by cases h)⟩
theorem addR_in (a b : Int) (h : (addR a b).2 = true) : vB (addR a b).1 = true := by
  unfold addR at h ⊢
  split
  · rename_i h1; simp only [Bool.and_eq_true] at h1; exact h1.2
  · rfl
theorem mulR_in (a b : Int) (h : (mulR a b).2 = true) : vB (mulR a b).1 = true := by
  unfold mulR at h ⊢
  split
  · rename_i h1; simp only [Bool.and_eq_true] at h1; exact h1.2
  · rfl
theorem vB_neg (a : Int) (h : vB a = true) : vB (-a) = true := by
  rw [vB_iff] at *; omega
theorem negR_in (a : Int) (h : (negR a).2 = true) : vB (negR a).1 = true := by
  unfold negR at h ⊢
  split
  · rename_i h1; exact vB_neg a h1
  · rfl
theorem gtR_in (a b : Int) (ha : vB a = true) (hb : vB b = true) : vB (gtR a b).1 = true := by
  unfold gtR
  rw [vB_iff] at *
  simp only
  omega
theorem bothR_good {l r : Rk} {j : Int → Int → Int × Bool} (hl : l.Good) (hr : r.Good) (hj : ∀ a b, vB a = true → vB b = true → (j a b).2 = true → vB (j a b).1 = true) : (bothR l r j).Good := by
  unfold bothR
  split
  · exact hl
  · split
    · exact hr
    · split
      · exact ⟨.inl rfl, fun h => absurd rfl h, fun _ => rfl, fun h => (by cases h)⟩
      · rename_i h
        simp only [Bool.or_eq_true, Bool.not_eq_true', not_or, Bool.not_eq_false] at h
        exact inR_good _ (hj _ _ (hl.val h.1) (hr.val h.2))
theorem otherR_good {r : Rk} (h : r.Good) : (otherR r).Good := by
  unfold otherR
  split
  · exact h
  · rename_i h1
    exact inR_good _ (negR_in _)
theorem rk_good {K : KW} (hK : KW.Vals K) (d : Int) (o : O) (hf : formB o = true) : (rk K d o).Good := by
  induction o with
  | const n => exact ⟨.inl rfl, fun h => absurd rfl h, fun h => (by cases h), fun _ => hf⟩
  | fix s =>
    refine ⟨.inl rfl, fun h => absurd rfl h, ?_, ?_⟩
    · intro h
      simp only [rk] at h ⊢
      cases hx : K.fixed (s, d) with
      | none => rfl
      | some v => rw [hx] at h; cases h
    · intro h
      simp only [rk] at h ⊢
      cases hx : K.fixed (s, d) with
      | none => rw [hx] at h; cases h
      | some v => exact hK.fixed hx
  | add l r hl hr => simp only [formB, Bool.and_eq_true] at hf; exact bothR_good (hl hf.1) (hr hf.2) (fun a b _ _ => addR_in a b)
  | neg o ho => exact otherR_good (ho hf)
  | mul l r hl hr => simp only [formB, Bool.and_eq_true] at hf; exact bothR_good (hl hf.1) (hr hf.2) (fun a b _ _ => mulR_in a b)
  | max l r hl hr => simp only [formB, Bool.and_eq_true] at hf; exact bothR_good (hl hf.1) (hr hf.2) (fun a b ha hb _ => gtR_in a b ha hb)
  | odd v => simp [formB] at hf

/-- Known or running over: where no error stands it is known just if nothing lacks. -/
theorem bothR_known (l r : Rk) (j : Int → Int → Int × Bool) (h : (bothR l r j).e = 0) : l.e = 0 ∧ r.e = 0 ∧ (bothR l r j).known = (l.known && r.known) := by
  unfold bothR at h ⊢
  split at h
  · contradiction
  · rename_i h1
    split at h
    · contradiction
    · rename_i h2
      rw [if_neg h1, if_neg h2]
      refine ⟨by omega, by omega, ?_⟩
      split
      · rename_i h3
        simp at h3 ⊢
        intro hl
        rcases h3 with h3 | h3
        · rw [h3] at hl; cases hl
        · exact h3
      · rename_i h3
        rw [if_neg h3] at h
        unfold inR at h ⊢
        split
        · simp at h3 ⊢; exact ⟨h3.1, h3.2⟩
        · rename_i h4; rw [if_neg h4] at h; cases h
theorem rk_known {K : KW} (d : Int) (o : O) (hf : formB o = true) (h : (rk K d o).e = 0) : (rk K d o).known = o.all.all fun s => (K.fixed (s, d)).isSome := by
  induction o with
  | const n => rfl
  | fix s => simp [rk, O.all]
  | add l r hl hr =>
    simp only [formB, Bool.and_eq_true] at hf
    obtain ⟨h1, h2, h3⟩ := bothR_known _ _ _ h
    simp only [O.all, List.all_append, ← hl hf.1 h1, ← hr hf.2 h2]
    exact h3
  | neg o ho =>
    simp only [formB] at hf
    simp only [rk, otherR, O.all] at h ⊢
    split at h
    · rename_i h1
      rw [if_pos h1]
      exact ho hf (by simpa using h)
    · rename_i h1
      rw [if_neg h1]
      have h2 : (rk K d o).e = 0 := by
        rcases Decidable.em ((rk K d o).e = 0) with h2 | h2
        · exact h2
        · exact absurd (.inl h2) h1
      rw [← ho hf h2]
      unfold inR at h ⊢
      split
      · have : ¬ (rk K d o).known = false := fun hx => h1 (.inr hx)
        simpa using this
      · rename_i h4; rw [if_neg h4] at h; cases h
  | mul l r hl hr =>
    simp only [formB, Bool.and_eq_true] at hf
    obtain ⟨h1, h2, h3⟩ := bothR_known _ _ _ h
    simp only [O.all, List.all_append, ← hl hf.1 h1, ← hr hf.2 h2]
    exact h3
  | max l r hl hr =>
    simp only [formB, Bool.and_eq_true] at hf
    obtain ⟨h1, h2, h3⟩ := bothR_known _ _ _ h
    simp only [O.all, List.all_append, ← hl hf.1 h1, ← hr hf.2 h2]
    exact h3
  | odd v => simp [formB] at hf
theorem mem_addAll' (l : List ByteArray) : ∀ (acc : List ByteArray) (s : ByteArray), s ∈ acc ∨ s ∈ l → s ∈ addAll acc l := by
  induction l with
  | nil => intro acc s h; exact h.elim id (fun h => by simp at h)
  | cons x l ih =>
    intro acc s h
    refine ih (addN acc x) s ?_
    unfold addN
    rcases h with h | h
    · left; split <;> simp [h]
    · rcases List.mem_cons.1 h with h | h
      · left; subst h
        split
        · rename_i h2; exact (inN_iff _ _).1 h2
        · simp
      · exact .inr h
theorem mem_names (o : O) (s : ByteArray) : s ∈ o.names ↔ s ∈ o.all :=
  ⟨fun h => (addAll_mem _ _ _ h).elim (fun h => by simp at h) id, fun h => mem_addAll' _ _ _ (.inr h)⟩
theorem lack_nil (K : KW) (d : Int) (o : O) : (lackN K d o.names).length = 0 ↔ (o.all.all fun s => (K.fixed (s, d)).isSome) = true := by
  unfold lackN
  rw [List.length_eq_zero_iff, List.filter_eq_nil_iff, List.all_eq_true]
  simp only [Bool.not_eq_true', Bool.not_eq_false]
  exact ⟨fun h s hs => h s ((mem_names o s).2 hs), fun h s hs => h s ((mem_names o s).1 hs)⟩
/-- Where nothing runs over, it is known just if it needs nothing. -/
theorem of_needs (K : KW) (d : Int) (o : O) (h : (ofR K d o).e = 0) : (ofR K d o).known = decide ((needR K d o).length = 0) := by
  unfold ofR needR at *
  split at h
  · rename_i hc
    rw [if_pos hc, if_pos hc, rk_known d o (chk_form hc) h, Bool.eq_iff_iff, decide_eq_true_iff]
    exact (lack_nil K d o).symm
  · cases h

end Go.Proofs.Ytngjlkdpplmpaab.Vl
namespace Go.Proofs.Ytngjlkdpplmpaab.Vl
open Go.RowKit Wd Cn
set_option linter.unusedVariables false

def addK (K : KW) (d v : Int) (l : List ByteArray) : KW := ⟨K.F ++ l.map fun s => ((s, d), v), K.C⟩
theorem addK_nil (K : KW) (d v : Int) : addK K d v [] = K := by simp [addK]
theorem addK_snoc (K : KW) (d v : Int) (l : List ByteArray) (s : ByteArray) : (⟨(addK K d v l).F ++ [((s, d), v)], (addK K d v l).C⟩ : KW) = addK K d v (l ++ [s]) := by simp [addK]
theorem fixed_none (K : KW) (p : ByteArray × Int) : K.fixed p = none ↔ ∀ q ∈ K.F, q.1 ≠ p := find_none K.F p
theorem addK_none (K : KW) (d v : Int) (l : List ByteArray) (s : ByteArray) : (addK K d v l).fixed (s, d) = none ↔ K.fixed (s, d) = none ∧ s ∉ l := by
  rw [fixed_none, fixed_none]
  simp only [addK, List.mem_append, List.mem_map]
  constructor
  · intro h
    exact ⟨fun q hq => h q (.inl hq), fun hs => h _ (.inr ⟨s, hs, rfl⟩) rfl⟩
  · rintro ⟨h1, h2⟩ q (hq | ⟨t, ht, rfl⟩)
    · exact h1 q hq
    · intro e
      simp at e
      subst e
      exact h2 ht
theorem addN_nodup (acc : List ByteArray) (s : ByteArray) (h : acc.Nodup) : (addN acc s).Nodup := by
  unfold addN
  split
  · exact h
  · rename_i h1
    rw [inN_iff] at h1
    rw [List.nodup_append]
    refine ⟨h, by simp, ?_⟩
    intro a ha b hb e
    simp at hb
    subst hb e
    exact h1 ha
theorem addAll_nodup (l : List ByteArray) : ∀ acc : List ByteArray, acc.Nodup → (addAll acc l).Nodup := by
  induction l with
  | nil => intro acc h; exact h
  | cons x l ih => intro acc h; exact ih _ (addN_nodup acc x h)
theorem names_nodup (o : O) : o.names.Nodup := addAll_nodup _ _ (by simp)
theorem lackN_nodup (K : KW) (d : Int) (l : List ByteArray) (h : l.Nodup) : (lackN K d l).Nodup := h.filter _
theorem leaves (o : O) : o.all.length * 2 ≤ o.nodes + 1 := by
  induction o <;> simp [O.all, O.nodes] <;> omega
theorem names_few (o : O) : o.names.length * 2 ≤ o.nodes + 1 := by
  have h1 := addAll_length o.all []
  have h2 := leaves o
  simp at h1
  show (addAll [] o.all).length * 2 ≤ _
  omega
theorem all_names (o : O) (h : formB o = true) : ∀ s ∈ o.all, nameGo 0 (runesOf s) = true := by
  induction o with
  | const n => intro s hs; simp [O.all] at hs
  | fix t => intro s hs; simp [O.all] at hs; subst hs; exact h
  | add l r hl hr => simp only [formB, Bool.and_eq_true] at h; intro s hs; simp only [O.all, List.mem_append] at hs; exact hs.elim (hl h.1 s) (hr h.2 s)
  | neg o ho => intro s hs; exact ho h s hs
  | mul l r hl hr => simp only [formB, Bool.and_eq_true] at h; intro s hs; simp only [O.all, List.mem_append] at hs; exact hs.elim (hl h.1 s) (hr h.2 s)
  | max l r hl hr => simp only [formB, Bool.and_eq_true] at h; intro s hs; simp only [O.all, List.mem_append] at hs; exact hs.elim (hl h.1 s) (hr h.2 s)
  | odd v => intro s hs; simp [O.all] at hs
theorem names_form (o : O) (h : formB o = true) : ∀ s ∈ o.names, nameGo 0 (runesOf s) = true := fun s hs => all_names o h s ((mem_names o s).1 hs)
theorem lack_mem {K : KW} {d : Int} {l : List ByteArray} {s : ByteArray} (h : s ∈ lackN K d l) : s ∈ l ∧ K.fixed (s, d) = none := by
  unfold lackN at h
  rw [List.mem_filter] at h
  refine ⟨h.1, ?_⟩
  cases hx : K.fixed (s, d) with
  | none => rfl
  | some v => rw [hx] at h; simp at h
/-- What is told of a step: the name lacks, and stands next among those that lack. -/
theorem lack_take (K : KW) (d : Int) (l : List ByteArray) (i : Nat) (hi : i < l.length) (h : (K.fixed (l[i], d)).isSome = false) :
    ∃ hk : (lackN K d (l.take i)).length < (lackN K d l).length, (lackN K d l)[(lackN K d (l.take i)).length]'hk = l[i] := by
  have e : lackN K d l = lackN K d (l.take i) ++ (l[i] :: lackN K d (l.drop (i + 1))) := by
    have e1 : l = l.take i ++ (l[i] :: l.drop (i + 1)) := by rw [← List.drop_eq_getElem_cons hi, List.take_append_drop]
    conv => lhs; rw [e1]
    unfold lackN
    rw [List.filter_append, List.filter_cons_of_pos (by simp [h])]
  refine ⟨by rw [e]; simp, ?_⟩
  simp only [e, List.getElem_append_right (Nat.le_refl _), Nat.sub_self, List.getElem_cons_zero]
theorem addK_all (K : KW) (d v : Int) (o : O) (hc : chk o = 0) : needR (addK K d v (lackN K d o.names)) d o = [] := by
  unfold needR
  rw [if_pos hc]
  unfold lackN
  rw [List.filter_eq_nil_iff]
  intro s hs
  simp only [Bool.not_eq_true', Bool.not_eq_false]
  cases hx : (addK K d v (List.filter (fun s => !(K.fixed (s, d)).isSome) o.names)).fixed (s, d) with
  | some u => rfl
  | none =>
    exfalso
    obtain ⟨h1, h2⟩ := (addK_none _ _ _ _ _).1 hx
    apply h2
    rw [List.mem_filter]
    exact ⟨hs, by rw [h1]; rfl⟩
theorem addK_vals (K : KW) (d v : Int) (l : List ByteArray) (h : KW.Vals K) (hv : vB v = true) : KW.Vals (addK K d v l) := by
  intro q hq
  simp only [addK, List.mem_append, List.mem_map] at hq
  rcases hq with hq | ⟨t, ht, rfl⟩
  · exact h q hq
  · exact hv
/-- What is known where no name lacks. -/
theorem full_of (K : KW) (hK : KW.Vals K) (d : Int) (o : O) (hc : chk o = 0) (hn : needR K d o = []) : (ofR K d o).e = 0 ∧ (ofR K d o).known = true ∨ (ofR K d o).e = 6 ∧ (ofR K d o).known = false := by
  have hg := rk_good hK d o (chk_form hc)
  have ho : ofR K d o = rk K d o := by unfold ofR; rw [if_pos hc]
  rcases hg.errs with h | h
  · left
    refine ⟨by rw [ho]; exact h, ?_⟩
    have := of_needs K d o (by rw [ho]; exact h)
    rw [this, hn]
    rfl
  · right
    rw [ho]
    exact ⟨h, (hg.err (by rw [h]; decide)).2⟩
theorem fixN_vals (K : KW) (s : ByteArray) (d v : Int) (h : KW.Vals K) : KW.Vals (fixN K s d v) := by
  unfold fixN
  split
  · rename_i h0
    intro q hq
    simp only [List.mem_append, List.mem_singleton] at hq
    rcases hq with hq | rfl
    · exact h q hq
    · unfold fixE at h0
      split at h0
      · cases h0
      · rename_i h1
        have : (nameGo 0 (runesOf s) && Wd.dayB d && vB v) = true := by
          cases hx : (nameGo 0 (runesOf s) && Wd.dayB d && vB v)
          · exact absurd hx h1
          · rfl
        simp only [Bool.and_eq_true] at this
        exact this.2
  · exact h
theorem fixN_length (K : KW) (s : ByteArray) (d v : Int) : (fixN K s d v).F.length ≤ K.F.length + 1 := by
  unfold fixN
  split <;> simp
theorem in_base {w W W' : World} {p f c : Nat} {K : KW} (h : In W W' p f c K) (hb : Below w.heap.size w W) : In w W' p f c K :=
  ⟨h.kin, hb.trans (h.below.mono hb.size), Nat.le_trans hb.size h.hp, Nat.le_trans hb.size h.hf, Nat.le_trans hb.size h.hc⟩
theorem step_fixE (K : KW) (d v : Int) (l : List ByteArray) (i : Nat) (hi : i < l.length) (hnd : l.Nodup) (hn : nameGo 0 (runesOf l[i]) = true) (hd : Wd.dayB d = true) (hv : vB v = true) (hf : K.fixed (l[i], d) = none) (hlen : K.F.length + l.length < 32) :
    fixE (addK K d v (l.take i)) l[i] d v = 0 ∧ fixN (addK K d v (l.take i)) l[i] d v = addK K d v (l.take (i + 1)) := by
  have hmem : l[i] ∉ l.take i := by
    intro h
    obtain ⟨j, hj, e⟩ := List.getElem_of_mem h
    rw [List.getElem_take] at e
    have hj' : j < i := by rw [List.length_take] at hj; omega
    exact (List.pairwise_iff_getElem.1 hnd) j i (by omega) hi hj' e
  have hx : (addK K d v (l.take i)).fixed (l[i], d) = none := (addK_none _ _ _ _ _).2 ⟨hf, hmem⟩
  have h0 : fixE (addK K d v (l.take i)) l[i] d v = 0 := by
    unfold fixE
    rw [hn, hd, hv, hx]
    have : ¬ 32 ≤ (addK K d v (l.take i)).F.length := by simp [addK]; omega
    rw [if_neg (by simp), if_neg (by simp), if_neg this]
  refine ⟨h0, ?_⟩
  unfold fixN
  rw [if_pos h0, addK_snoc, take_more l i l[i] (List.getElem?_eq_getElem hi)]

end Go.Proofs.Ytngjlkdpplmpaab.Vl
namespace Go.Proofs.Ytngjlkdpplmpaab.Vl
open Go.RowKit Wd Cn
set_option linter.unusedVariables false

def Ext (K K' : KW) : Prop := ∀ p v, K.fixed p = some v → K'.fixed p = some v
theorem Ext.refl (K : KW) : Ext K K := fun _ _ h => h
theorem Ext.trans {K K' K'' : KW} (h : Ext K K') (g : Ext K' K'') : Ext K K'' := fun p v hp => g p v (h p v hp)
theorem ext_fixN (K : KW) (s : ByteArray) (d v : Int) : Ext K (fixN K s d v) := by
  intro p u h
  unfold fixN
  split
  · unfold KW.fixed at h ⊢
    simp only [List.find?_append]
    cases hx : K.F.find? fun q => decide (q.1 = p) with
    | none => rw [hx] at h; cases h
    | some q => rw [hx] at h; simpa using h
  · exact h
theorem bothR_ok {l r : Rk} {j : Int → Int → Int × Bool} (h : (bothR l r j).known = true) (hl : l.Good) (hr : r.Good) : l.e = 0 ∧ r.e = 0 ∧ l.known = true ∧ r.known = true ∧ (j l.n r.n).2 = true ∧ bothR l r j = ⟨(j l.n r.n).1, true, 0⟩ := by
  unfold bothR at h ⊢
  split at h
  · rename_i h1; rw [(hl.err h1).2] at h; cases h
  · rename_i h1
    split at h
    · rename_i h2; rw [(hr.err h2).2] at h; cases h
    · rename_i h2
      split at h
      · cases h
      · rename_i h3
        rw [if_neg h1, if_neg h2, if_neg h3]
        simp only [Bool.or_eq_true, Bool.not_eq_true', not_or, Bool.not_eq_false] at h3
        unfold inR at h ⊢
        split
        · rename_i h4; exact ⟨by omega, by omega, h3.1, h3.2, h4, rfl⟩
        · rename_i h4; rw [if_neg h4] at h; cases h
theorem otherR_ok {r : Rk} (h : (otherR r).known = true) (hr : r.Good) : r.e = 0 ∧ r.known = true ∧ otherR r = ⟨-r.n, true, 0⟩ := by
  unfold otherR at h ⊢
  split at h
  · rename_i h1
    rcases h1 with h1 | h1
    · rw [(hr.err h1).2] at h; cases h
    · rw [h1] at h; cases h
  · rename_i h1
    rw [if_neg h1]
    have h2 : r.e = 0 := by
      rcases Decidable.em (r.e = 0) with h2 | h2
      · exact h2
      · exact absurd (.inl h2) h1
    have h3 : r.known = true := by
      cases hk : r.known
      · exact absurd (.inr hk) h1
      · rfl
    refine ⟨h2, h3, ?_⟩
    unfold inR negR
    rw [hr.val h3]
    rfl
/-- What is known stays known, as it was. -/
theorem rk_ext {K K' : KW} (hK : KW.Vals K) (hx : Ext K K') (d : Int) (o : O) (hf : formB o = true) (h : (rk K d o).known = true) : rk K' d o = rk K d o := by
  induction o with
  | const n => rfl
  | fix s =>
    simp only [rk] at h ⊢
    cases hq : K.fixed (s, d) with
    | none => rw [hq] at h; cases h
    | some v => rw [hx _ _ hq]
  | add l r hl hr =>
    simp only [formB, Bool.and_eq_true] at hf
    obtain ⟨_, _, h3, h4, _, _⟩ := bothR_ok h (rk_good hK d l hf.1) (rk_good hK d r hf.2)
    simp only [rk]
    rw [hl hf.1 h3, hr hf.2 h4]
  | neg o ho =>
    simp only [formB] at hf
    obtain ⟨_, h3, _⟩ := otherR_ok h (rk_good hK d o hf)
    simp only [rk]
    rw [ho hf h3]
  | mul l r hl hr =>
    simp only [formB, Bool.and_eq_true] at hf
    obtain ⟨_, _, h3, h4, _, _⟩ := bothR_ok h (rk_good hK d l hf.1) (rk_good hK d r hf.2)
    simp only [rk]
    rw [hl hf.1 h3, hr hf.2 h4]
  | max l r hl hr =>
    simp only [formB, Bool.and_eq_true] at hf
    obtain ⟨_, _, h3, h4, _, _⟩ := bothR_ok h (rk_good hK d l hf.1) (rk_good hK d r hf.2)
    simp only [rk]
    rw [hl hf.1 h3, hr hf.2 h4]
  | odd v => simp [formB] at hf
theorem ofR_ok {K : KW} {d : Int} {o : O} (hc : chk o = 0) : ofR K d o = rk K d o := by unfold ofR; rw [if_pos hc]
theorem ofR_no {K : KW} {d : Int} {o : O} (hc : chk o ≠ 0) : ofR K d o = ⟨0, false, 2⟩ := by unfold ofR; rw [if_neg hc]
/-- The other sign of what is known. -/
theorem neg_ok {K : KW} (hK : KW.Vals K) (d : Int) (a : O) (hf : formB a = true) (h : (ofR K d (.neg a)).known = true) : (ofR K d (.neg a)).n = -(rk K d a).n := by
  unfold ofR at h ⊢
  split at h
  · rename_i hc
    rw [if_pos hc]
    simp only [rk] at h ⊢
    rw [(otherR_ok h (rk_good hK d a hf)).2.2]
  · cases h
theorem max_ok {K : KW} (hK : KW.Vals K) (d : Int) (a b : O) (hf : formB a = true) (hg : formB b = true) (h : (ofR K d (.max a b)).known = true) : (ofR K d (.max a b)).n = Max.max (rk K d a).n (rk K d b).n := by
  unfold ofR at h ⊢
  split at h
  · rename_i hc
    rw [if_pos hc]
    simp only [rk] at h ⊢
    rw [(bothR_ok h (rk_good hK d a hf) (rk_good hK d b hg)).2.2.2.2.2]
    rfl
  · cases h

end Go.Proofs.Ytngjlkdpplmpaab.Vl
namespace Go.Proofs.Ytngjlkdpplmpaab.Ca
open Go.RowKit Wd Cn Vl
set_option linter.unusedVariables false

/-- A payment. -/
structure Fl where
  day : Int
  cur : ByteArray
  amt : Int
/-- What is waited for. -/
structure Wt where
  ch : Bool
  name : ByteArray
  label : ByteArray
  day : Int
  side : Int
theorem wt_iff (a b : Wt) : (a.ch = b.ch ∧ a.name = b.name ∧ a.label = b.label ∧ a.day = b.day ∧ a.side = b.side) ↔ a = b := by
  cases a; cases b; simp
instance : DecidableEq Wt := fun a b => decidable_of_iff _ (wt_iff a b)
/-- What a walk meets: payments, waits (each as often as it is met), the first error. -/
structure Ck where
  f : List Fl
  w : List Wt
  e : Int
def Ck.seq (a b : Ck) : Ck := if a.e ≠ 0 then a else ⟨a.f ++ b.f, a.w ++ b.w, b.e⟩
def side (k : Int) : Int := if 0 < k then 0 else 1
def nameW (d : Int) (s : ByteArray) : Wt := ⟨false, s, ByteArray.empty, d, 0⟩
def chW (d : Int) (s : ByteArray) (k : Int) : Wt := ⟨true, ByteArray.empty, s, d, side k⟩
def waitN (K : KW) (d : Int) (o : O) : List Wt := (lackN K d o.names).map (nameW d)
def ck (K : KW) (id : ByteArray) : C → Int → Int → Ck
  | .zero, _, _ => ⟨[], [], 0⟩
  | .one s, d, k => ⟨[⟨d, s, k⟩], [], 0⟩
  | .give c, d, k => ck K id c d (-k)
  | .and l r, d, k => (ck K id l d k).seq (ck K id r d k)
  | .when d' c, d, k => ck K id c (Max.max d d') k
  | .or s l r, d, k => match K.chosen (id, s) with
    | none => ⟨[], [chW d s k], 0⟩
    | some p => if p.1 = 0 then ck K id l (Max.max d p.2) k else ck K id r (Max.max d p.2) k
  | .scale o c, d, k => if (rk K d o).e ≠ 0 then ⟨[], [], (rk K d o).e⟩ else if (rk K d o).known = true then (if (mulR k (rk K d o).n).2 = true then (if (mulR k (rk K d o).n).1 = 0 then ⟨[], [], 0⟩ else ck K id c d (mulR k (rk K d o).n).1) else ⟨[], [], 6⟩) else ⟨[], waitN K d o, 0⟩
  | .iff o l r, d, k => if (rk K d o).e ≠ 0 then ⟨[], [], (rk K d o).e⟩ else if (rk K d o).known = true then (if 0 < (rk K d o).n then ck K id l d k else ck K id r d k) else ⟨[], waitN K d o, 0⟩
  | .odd _, _, _ => ⟨[], [], 0⟩

/-- A wait more, but once. -/
def putW (W : List Wt) (y : Wt) : List Wt := if y ∈ W then W else W ++ [y]
def addW (W ys : List Wt) : List Wt := ys.foldl putW W
/-- As the document keeps them: a name's but once. -/
def putR (W : List Wt) (y : Wt) : List Wt := if y.ch = false ∧ y ∈ W then W else W ++ [y]
def addRf (W ys : List Wt) : List Wt := ys.foldl putR W
theorem addW_app (W a b : List Wt) : addW W (a ++ b) = addW (addW W a) b := by simp [addW]
theorem addRf_app (W a b : List Wt) : addRf W (a ++ b) = addRf (addRf W a) b := by simp [addRf]
theorem addW_nil (W : List Wt) : addW W [] = W := rfl
theorem addRf_nil (W : List Wt) : addRf W [] = W := rfl
theorem putW_len (W : List Wt) (y : Wt) : (putW W y).length ≤ W.length + 1 := by unfold putW; split <;> simp
theorem putR_len (W : List Wt) (y : Wt) : (putR W y).length ≤ W.length + 1 := by unfold putR; split <;> simp
theorem addW_len (ys : List Wt) : ∀ W, (addW W ys).length ≤ W.length + ys.length := by
  induction ys with
  | nil => intro W; simp [addW]
  | cons y ys ih => intro W; have h1 := ih (putW W y); have h2 := putW_len W y; simp only [addW, List.foldl_cons, List.length_cons] at h1 ⊢; omega
theorem addRf_len (ys : List Wt) : ∀ W, (addRf W ys).length ≤ W.length + ys.length := by
  induction ys with
  | nil => intro W; simp [addRf]
  | cons y ys ih => intro W; have h1 := ih (putR W y); have h2 := putR_len W y; simp only [addRf, List.foldl_cons, List.length_cons] at h1 ⊢; omega
theorem putW_mem (W : List Wt) (y z : Wt) : z ∈ putW W y ↔ z ∈ W ∨ z = y := by
  unfold putW
  split
  · rename_i h
    exact ⟨.inl, fun h1 => h1.elim id (fun e => by rw [e]; exact h)⟩
  · simp
theorem addW_mem (ys : List Wt) : ∀ (W : List Wt) (z : Wt), z ∈ addW W ys ↔ z ∈ W ∨ z ∈ ys := by
  induction ys with
  | nil => intro W z; simp [addW]
  | cons y ys ih =>
    intro W z
    have h := ih (putW W y) z
    simp only [addW, List.foldl_cons, List.mem_cons] at h ⊢
    rw [h, putW_mem, or_assoc]

/-! ### labels stand once, so the document's waits are the program's -/
def chLab (ys : List Wt) : List ByteArray := (ys.filter (·.ch)).map (·.label)
theorem chLab_app (a b : List Wt) : chLab (a ++ b) = chLab a ++ chLab b := by simp [chLab]
theorem chLab_names (d : Int) (l : List ByteArray) : chLab (l.map (nameW d)) = [] := by
  induction l with
  | nil => rfl
  | cons s l ih => simp [chLab, nameW]
theorem ck_labels (K : KW) (id : ByteArray) (c : C) : ∀ d k, (chLab (ck K id c d k).w).Sublist c.labels := by
  induction c with
  | zero => intro d k; exact List.nil_sublist _
  | one s => intro d k; exact List.nil_sublist _
  | odd v => intro d k; exact List.nil_sublist _
  | give c ih => intro d k; exact ih d (-k)
  | when d' c ih => intro d k; exact ih _ k
  | and l r hl hr =>
    intro d k
    simp only [ck, Ck.seq, C.labels]
    split
    · exact (hl d k).trans (List.sublist_append_left _ _)
    · simp only [chLab_app]
      exact (hl d k).append (hr d k)
  | or s l r hl hr =>
    intro d k
    simp only [ck, C.labels]
    cases K.chosen (id, s) with
    | none => simp [chLab, chW]
    | some p =>
      simp only
      split
      · exact ((hl _ k).trans (List.sublist_append_left _ _)).cons _
      · exact ((hr _ k).trans (List.sublist_append_right _ _)).cons _
  | scale o c ih =>
    intro d k
    simp only [ck, C.labels]
    split
    · exact List.nil_sublist _
    · split
      · split
        · split
          · exact List.nil_sublist _
          · exact ih _ _
        · exact List.nil_sublist _
      · show (chLab (waitN K d o)).Sublist _
        unfold waitN
        rw [chLab_names]
        exact List.nil_sublist _
  | iff o l r hl hr =>
    intro d k
    simp only [ck, C.labels]
    split
    · exact List.nil_sublist _
    · split
      · split
        · exact (hl _ k).trans (List.sublist_append_left _ _)
        · exact (hr _ k).trans (List.sublist_append_right _ _)
      · show (chLab (waitN K d o)).Sublist _
        unfold waitN
        rw [chLab_names]
        exact List.nil_sublist _
theorem addRf_eq (ys : List Wt) : ∀ W : List Wt, (chLab ys).Nodup → (∀ z ∈ W, z.ch = true → z.label ∉ chLab ys) → addRf W ys = addW W ys := by
  induction ys with
  | nil => intro W _ _; rfl
  | cons y ys ih =>
    intro W hn hd
    have e : putR W y = putW W y := by
      unfold putR putW
      cases hy : y.ch
      · simp
      · rw [if_neg (by simp)]
        rw [if_neg (fun hm => hd y hm hy (by simp [chLab, hy]))]
    show addRf (putR W y) ys = addW (putW W y) ys
    rw [e]
    refine ih _ ?_ ?_
    · cases hy : y.ch
      · simpa [chLab, hy] using hn
      · simp [chLab, hy] at hn; exact hn.2
    · intro z hz hc
      rcases (putW_mem W y z).1 hz with h | h
      · intro h2
        refine hd z h hc ?_
        cases hy : y.ch
        · simpa [chLab, hy] using h2
        · simp only [chLab, List.filter_cons, hy, if_true, List.map_cons, List.mem_cons]; exact .inr h2
      · subst h
        simp [chLab, hc] at hn
        intro h2
        obtain ⟨u, hu, hl⟩ := List.mem_map.1 h2
        rw [List.mem_filter] at hu
        exact hn.1 u hu.1 hu.2 hl
/-- The waits of a contract whose labels stand once. -/
theorem ck_once (K : KW) (id : ByteArray) (c : C) (d k : Int) (h : twice c.labels = false) : addRf [] (ck K id c d k).w = addW [] (ck K id c d k).w := by
  refine addRf_eq _ _ ?_ (by simp)
  refine (ck_labels K id c d k).nodup ?_
  apply Classical.byContradiction
  intro hn
  rw [(twice_iff c.labels).2 hn] at h
  cases h

/-! ### how much -/
theorem lackN_len (K : KW) (d : Int) (o : O) : (waitN K d o).length ≤ o.nodes := by
  unfold waitN
  rw [List.length_map]
  exact Nat.le_trans (lackN_length _ _ _) (names_length o)
theorem ck_len (K : KW) (id : ByteArray) (c : C) : ∀ d k, (ck K id c d k).f.length ≤ c.weight ∧ (ck K id c d k).w.length ≤ c.weight := by
  induction c with
  | zero => intro d k; simp [ck]
  | one s => intro d k; simp [ck, C.weight]
  | odd v => intro d k; simp [ck]
  | give c ih => intro d k; have := ih d (-k); simp only [ck, C.weight]; omega
  | when d' c ih => intro d k; have := ih (Max.max d d') k; simp only [ck, C.weight]; omega
  | and l r hl hr =>
    intro d k
    have h1 := hl d k
    have h2 := hr d k
    simp only [ck, Ck.seq, C.weight]
    split
    · omega
    · simp only [List.length_append]; omega
  | or s l r hl hr =>
    intro d k
    simp only [ck, C.weight]
    cases K.chosen (id, s) with
    | none => simp
    | some p =>
      have h1 := hl (Max.max d p.2) k
      have h2 := hr (Max.max d p.2) k
      simp only
      split <;> omega
  | scale o c ih =>
    intro d k
    have h1 := ih d (mulR k (rk K d o).n).1
    have h2 := lackN_len K d o
    simp only [ck, C.weight]
    split
    · simp
    · split
      · split
        · split
          · simp
          · omega
        · simp
      · simp only [List.length_nil]; omega
  | iff o l r hl hr =>
    intro d k
    have h1 := hl d k
    have h3 := hr d k
    have h2 := lackN_len K d o
    simp only [ck, C.weight]
    split
    · simp
    · split
      · split <;> omega
      · simp only [List.length_nil]; omega

/-! ### so many times -/
def Fl.times (n : Int) (x : Fl) : Fl := ⟨x.day, x.cur, n * x.amt⟩
def Wt.turn (n : Int) (y : Wt) : Wt := if y.ch = true ∧ n < 0 then ⟨y.ch, y.name, y.label, y.day, 1 - y.side⟩ else y
theorem turn_name (n d : Int) (s : ByteArray) : (nameW d s).turn n = nameW d s := by simp [Wt.turn, nameW]
theorem vB_less (n y : Int) (hn : n ≠ 0) (h : vB (n * y) = true) : vB y = true := by
  rw [vB_iff] at *
  have h1 : (n * y).natAbs = n.natAbs * y.natAbs := Int.natAbs_mul n y
  have h2 : 1 ≤ n.natAbs := by omega
  have h3 : y.natAbs ≤ n.natAbs * y.natAbs := Nat.le_mul_of_pos_left _ h2
  omega
theorem side_times (n k : Int) (hn : n ≠ 0) (hk : k ≠ 0) : side (n * k) = if n < 0 then 1 - side k else side k := by
  unfold side
  rcases Int.lt_or_gt_of_ne hn with h | h
  · rcases Int.lt_or_gt_of_ne hk with g | g
    · have := Int.mul_pos_of_neg_of_neg h g
      rw [if_pos this, if_pos h, if_neg (by omega)]; rfl
    · have := Int.mul_neg_of_neg_of_pos h g
      rw [if_neg (by omega), if_pos h, if_pos g]; rfl
  · rcases Int.lt_or_gt_of_ne hk with g | g
    · have := Int.mul_neg_of_pos_of_neg h g
      rw [if_neg (by omega), if_neg (by omega), if_neg (by omega)]
    · have := Int.mul_pos h g
      rw [if_pos this, if_neg (by omega), if_pos g]
theorem turn_ch (n d k : Int) (s : ByteArray) (hn : n ≠ 0) (hk : k ≠ 0) : (chW d s k).turn n = chW d s (n * k) := by
  unfold chW
  rw [side_times n k hn hk]
  unfold Wt.turn
  by_cases h : n < 0
  · rw [if_pos ⟨rfl, h⟩, if_pos h]
  · rw [if_neg (fun x => h x.2), if_neg h]
theorem mulR_iff (a b : Int) : (mulR a b).2 = true ↔ vB a = true ∧ vB b = true ∧ vB (a * b) = true := by
  unfold mulR
  split
  · rename_i h; simp only [Bool.and_eq_true] at h; simp [h]
  · rename_i h; simp only [Bool.and_eq_true] at h; simp; intro x y; cases hz : vB (a * b)
    · rfl
    · exact absurd ⟨⟨x, y⟩, hz⟩ h
theorem mulR_val (a b : Int) (h : (mulR a b).2 = true) : (mulR a b).1 = a * b := by
  obtain ⟨h1, h2, h3⟩ := (mulR_iff a b).1 h
  unfold mulR
  rw [h1, h2, h3]
  rfl
theorem ck_times (K : KW) (hK : KW.Vals K) (id : ByteArray) (n : Int) (hn : n ≠ 0) (c : C) : formC c = true → ∀ d k, k ≠ 0 → (ck K id c d (n * k)).e = 0 →
    (ck K id c d k).e = 0 ∧ (ck K id c d (n * k)).f = (ck K id c d k).f.map (Fl.times n) ∧ (ck K id c d (n * k)).w = (ck K id c d k).w.map (Wt.turn n) := by
  induction c with
  | zero => intro _ d k _ _; exact ⟨rfl, rfl, rfl⟩
  | one s => intro _ d k _ _; exact ⟨rfl, rfl, rfl⟩
  | odd v => intro _ d k _ _; exact ⟨rfl, rfl, rfl⟩
  | give c ih =>
    intro hf d k hk he
    simp only [ck] at he ⊢
    rw [show -(n * k) = n * (-k) by rw [Int.mul_neg]] at he ⊢
    exact ih hf d (-k) (by omega) he
  | when d' c ih =>
    intro hf d k hk he
    simp only [formC, Bool.and_eq_true] at hf
    exact ih hf.2 _ k hk he
  | and l r hl hr =>
    intro hf d k hk he
    simp only [formC, Bool.and_eq_true] at hf
    simp only [ck, Ck.seq] at he ⊢
    split at he
    · rename_i h; exact absurd he h
    · rename_i h
      have h0 : (ck K id l d (n * k)).e = 0 := by simpa using h
      obtain ⟨a1, a2, a3⟩ := hl hf.1 d k hk h0
      obtain ⟨b1, b2, b3⟩ := hr hf.2 d k hk he
      rw [if_neg h, if_neg (by simpa using a1)]
      exact ⟨b1, by simp only [List.map_append, a2, b2], by simp only [List.map_append, a3, b3]⟩
  | or s l r hl hr =>
    intro hf d k hk he
    simp only [formC, Bool.and_eq_true] at hf
    simp only [ck] at he ⊢
    cases hx : K.chosen (id, s) with
    | none =>
      refine ⟨rfl, rfl, ?_⟩
      simp only [List.map_cons, List.map_nil]
      rw [turn_ch n d k s hn hk]
    | some p =>
      rw [hx] at he
      simp only at he ⊢
      split at he
      · rename_i h; rw [if_pos h, if_pos h]; exact hl hf.1.2 _ k hk he
      · rename_i h; rw [if_neg h, if_neg h]; exact hr hf.2 _ k hk he
  | scale o c ih =>
    intro hf d k hk he
    simp only [formC, Bool.and_eq_true] at hf
    simp only [ck] at he ⊢
    split at he
    · rename_i h; exact absurd he h
    · rename_i h
      rw [if_neg h, if_neg h]
      split at he
      · rename_i h1
        rw [if_pos h1, if_pos h1]
        split at he
        · rename_i h2
          obtain ⟨g1, g2, g3⟩ := (mulR_iff _ _).1 h2
          have e1 := mulR_val _ _ h2
          rw [Int.mul_assoc] at g3 e1
          have h3 : (mulR k (rk K d o).n).2 = true := (mulR_iff _ _).2 ⟨vB_less n k hn g1, g2, vB_less n _ hn g3⟩
          have e2 := mulR_val _ _ h3
          rw [if_pos h2, if_pos h3, e1, e2]
          rw [e1] at he
          by_cases h4 : k * (rk K d o).n = 0
          · rw [if_pos h4, h4, Int.mul_zero, if_pos rfl]; exact ⟨rfl, rfl, rfl⟩
          · have h5 : n * (k * (rk K d o).n) ≠ 0 := Int.mul_ne_zero hn h4
            rw [if_neg h5] at he
            rw [if_neg h4, if_neg h5]
            exact ih hf.2 d _ h4 he
        · cases he
      · rename_i h1
        rw [if_neg h1, if_neg h1]
        refine ⟨rfl, rfl, ?_⟩
        unfold waitN
        rw [List.map_map]
        refine (List.map_congr_left fun s _ => ?_)
        exact (turn_name n d s).symm
  | iff o l r hl hr =>
    intro hf d k hk he
    simp only [formC, Bool.and_eq_true] at hf
    simp only [ck] at he ⊢
    split at he
    · rename_i h; exact absurd he h
    · rename_i h
      rw [if_neg h, if_neg h]
      split at he
      · rename_i h1
        rw [if_pos h1, if_pos h1]
        split at he
        · rename_i h2; rw [if_pos h2, if_pos h2]; exact hl hf.1.2 d k hk he
        · rename_i h2; rw [if_neg h2, if_neg h2]; exact hr hf.2 d k hk he
      · rename_i h1
        rw [if_neg h1, if_neg h1]
        refine ⟨rfl, rfl, ?_⟩
        unfold waitN
        rw [List.map_map]
        refine (List.map_congr_left fun s _ => ?_)
        exact (turn_name n d s).symm
theorem turn_turn (n : Int) (y : Wt) : (y.turn n).turn n = y := by
  unfold Wt.turn
  by_cases h : y.ch = true ∧ n < 0
  · rw [if_pos h, if_pos ⟨h.1, h.2⟩]
    cases y
    simp only [Wt.mk.injEq, true_and]
    omega
  · rw [if_neg h, if_neg h]
theorem turn_inj (n : Int) {a b : Wt} (h : a.turn n = b.turn n) : a = b := by
  rw [← turn_turn n a, h, turn_turn]
theorem addW_turn (n : Int) (ys : List Wt) : ∀ W, addW (W.map (Wt.turn n)) (ys.map (Wt.turn n)) = (addW W ys).map (Wt.turn n) := by
  induction ys with
  | nil => intro W; rfl
  | cons y ys ih =>
    intro W
    show addW (putW (W.map (Wt.turn n)) (y.turn n)) (ys.map (Wt.turn n)) = (addW (putW W y) ys).map (Wt.turn n)
    rw [← ih (putW W y)]
    congr 1
    unfold putW
    by_cases h : y ∈ W
    · rw [if_pos h, if_pos (List.mem_map_of_mem h)]
    · rw [if_neg h, if_neg (fun hm => by obtain ⟨z, hz, e⟩ := List.mem_map.1 hm; rw [turn_inj n e] at hz; exact h hz)]
      simp

end Go.Proofs.Ytngjlkdpplmpaab.Ca
namespace Go.Proofs.Ytngjlkdpplmpaab.Ca
open Go.RowKit Wd Cn Vl
set_option linter.unusedVariables false

/-- What was chosen is in range. -/
def KW.Chs (K : KW) : Prop := ∀ q ∈ K.C, (q.2.1 = 0 ∨ q.2.1 = 1) ∧ 0 ≤ q.2.2 ∧ q.2.2 ≤ 10000
theorem chs_at {K : KW} (h : KW.Chs K) {p : ByteArray × ByteArray} {v : Int × Int} (hf : K.chosen p = some v) : (v.1 = 0 ∨ v.1 = 1) ∧ 0 ≤ v.2 ∧ v.2 ≤ 10000 :=
  h _ (find_some K.C p v hf)
theorem dayB_iff (d : Int) : dayB d = true ↔ 0 ≤ d ∧ d ≤ 10000 := by simp [dayB]

/-- The error is that of an amount that is too great, or none. -/
theorem ck_errs (K : KW) (hK : KW.Vals K) (id : ByteArray) (c : C) : formC c = true → ∀ d k, (ck K id c d k).e = 0 ∨ (ck K id c d k).e = 6 := by
  induction c with
  | zero => intro _ d k; exact .inl rfl
  | one s => intro _ d k; exact .inl rfl
  | odd v => intro _ d k; exact .inl rfl
  | give c ih => intro hf d k; exact ih hf d (-k)
  | when d' c ih => intro hf d k; simp only [formC, Bool.and_eq_true] at hf; exact ih hf.2 _ k
  | and l r hl hr =>
    intro hf d k
    simp only [formC, Bool.and_eq_true] at hf
    simp only [ck, Ck.seq]
    split
    · exact hl hf.1 d k
    · exact hr hf.2 d k
  | or s l r hl hr =>
    intro hf d k
    simp only [formC, Bool.and_eq_true] at hf
    simp only [ck]
    cases K.chosen (id, s) with
    | none => exact .inl rfl
    | some p =>
      simp only
      split
      · exact hl hf.1.2 _ k
      · exact hr hf.2 _ k
  | scale o c ih =>
    intro hf d k
    simp only [formC, Bool.and_eq_true] at hf
    simp only [ck]
    split
    · exact (rk_good hK d o hf.1).errs
    · split
      · split
        · split
          · exact .inl rfl
          · exact ih hf.2 _ _
        · exact .inr rfl
      · exact .inl rfl
  | iff o l r hl hr =>
    intro hf d k
    simp only [formC, Bool.and_eq_true] at hf
    simp only [ck]
    split
    · exact (rk_good hK d o hf.1.1).errs
    · split
      · split
        · exact hl hf.1.2 d k
        · exact hr hf.2 d k
      · exact .inl rfl

def Fl.In (d : Int) (x : Fl) : Prop := d ≤ x.day ∧ x.day ≤ 10000 ∧ x.amt ≠ 0 ∧ vB x.amt = true
theorem Fl.In.mono {d d' : Int} {x : Fl} (h : x.In d') (hd : d ≤ d') : x.In d := ⟨Int.le_trans hd h.1, h.2⟩
/-- What is paid is paid on a day from d on, and is not nothing. -/
theorem ck_flows (K : KW) (hC : KW.Chs K) (id : ByteArray) (c : C) : formC c = true → ∀ d k, d ≤ 10000 → k ≠ 0 → vB k = true → ∀ x ∈ (ck K id c d k).f, x.In d := by
  induction c with
  | zero => intro _ d k _ _ _ x hx; simp [ck] at hx
  | one s => intro _ d k hd hk hv x hx; simp [ck] at hx; subst hx; exact ⟨Int.le_refl _, hd, hk, hv⟩
  | odd v => intro _ d k _ _ _ x hx; simp [ck] at hx
  | give c ih => intro hf d k hd hk hv x hx; exact ih hf d (-k) hd (by omega) (vB_neg k hv) x hx
  | when d' c ih =>
    intro hf d k hd hk hv x hx
    simp only [formC, Bool.and_eq_true] at hf
    have h1 := (dayB_iff d').1 hf.1
    exact (ih hf.2 (Max.max d d') k (by omega) hk hv x hx).mono (by omega)
  | and l r hl hr =>
    intro hf d k hd hk hv x hx
    simp only [formC, Bool.and_eq_true] at hf
    simp only [ck, Ck.seq] at hx
    split at hx
    · exact hl hf.1 d k hd hk hv x hx
    · rcases List.mem_append.1 hx with h | h
      · exact hl hf.1 d k hd hk hv x h
      · exact hr hf.2 d k hd hk hv x h
  | or s l r hl hr =>
    intro hf d k hd hk hv x hx
    simp only [formC, Bool.and_eq_true] at hf
    simp only [ck] at hx
    cases hx2 : K.chosen (id, s) with
    | none => rw [hx2] at hx; simp at hx
    | some p =>
      rw [hx2] at hx
      have h1 := chs_at hC hx2
      simp only at hx
      split at hx
      · exact (hl hf.1.2 (Max.max d p.2) k (by omega) hk hv x hx).mono (by omega)
      · exact (hr hf.2 (Max.max d p.2) k (by omega) hk hv x hx).mono (by omega)
  | scale o c ih =>
    intro hf d k hd hk hv x hx
    simp only [formC, Bool.and_eq_true] at hf
    simp only [ck] at hx
    split at hx
    · simp at hx
    · split at hx
      · split at hx
        · rename_i h2
          split at hx
          · simp at hx
          · rename_i h3
            exact ih hf.2 d _ hd h3 (mulR_in _ _ h2) x hx
        · simp at hx
      · simp at hx
  | iff o l r hl hr =>
    intro hf d k hd hk hv x hx
    simp only [formC, Bool.and_eq_true] at hf
    simp only [ck] at hx
    split at hx
    · simp at hx
    · split at hx
      · split at hx
        · exact hl hf.1.2 d k hd hk hv x hx
        · exact hr hf.2 d k hd hk hv x hx
      · simp at hx

/-- What is waited for: a day that may be; a choice that is not made, or a name that is not fixed. -/
structure Wt.In (K : KW) (id : ByteArray) (labels : List ByteArray) (d : Int) (y : Wt) : Prop where
  lo : d ≤ y.day
  hi : y.day ≤ 10000
  side : y.side = 0 ∨ y.side = 1
  ch : y.ch = true → y.name = ByteArray.empty ∧ y.label ∈ labels ∧ K.chosen (id, y.label) = none
  nm : y.ch = false → y.label = ByteArray.empty ∧ y.side = 0 ∧ nameGo 0 (runesOf y.name) = true ∧ y.name.size ≤ 2147483648 ∧ K.fixed (y.name, y.day) = none
theorem Wt.In.mono {K : KW} {id : ByteArray} {l l' : List ByteArray} {d d' : Int} {y : Wt} (h : y.In K id l' d') (hd : d ≤ d') (hl : ∀ s ∈ l', s ∈ l) : y.In K id l d :=
  ⟨Int.le_trans hd h.lo, h.hi, h.side, fun x => ⟨(h.ch x).1, hl _ (h.ch x).2.1, (h.ch x).2.2⟩, h.nm⟩
theorem side_in (k : Int) : side k = 0 ∨ side k = 1 := by unfold side; split <;> simp
theorem waitN_in (K : KW) (id : ByteArray) (l : List ByteArray) (d : Int) (hd : d ≤ 10000) (o : O) (hok : o.Ok) (hf : formB o = true) : ∀ y ∈ waitN K d o, y.In K id l d := by
  intro y hy
  obtain ⟨s, hs, rfl⟩ := List.mem_map.1 hy
  have h := lack_mem hs
  exact ⟨Int.le_refl _, hd, .inl rfl, fun h => (by cases h), fun _ => ⟨rfl, rfl, names_form o hf s h.1, Vl.names_small o hok s h.1, h.2⟩⟩
theorem ck_waits (K : KW) (hC : KW.Chs K) (id : ByteArray) (c : C) : formC c = true → c.Ok → ∀ d k, d ≤ 10000 → ∀ y ∈ (ck K id c d k).w, y.In K id c.labels d := by
  induction c with
  | zero => intro _ _ d k _ x hx; simp [ck] at hx
  | one s => intro _ _ d k _ x hx; simp [ck] at hx
  | odd v => intro _ _ d k _ x hx; simp [ck] at hx
  | give c ih => intro hf hok d k hd x hx; exact ih hf hok d (-k) hd x hx
  | when d' c ih =>
    intro hf hok d k hd x hx
    simp only [formC, Bool.and_eq_true] at hf
    have h1 := (dayB_iff d').1 hf.1
    exact (ih hf.2 hok.2 (Max.max d d') k (by omega) x hx).mono (by omega) (fun _ h => h)
  | and l r hl hr =>
    intro hf hok d k hd x hx
    simp only [formC, Bool.and_eq_true] at hf
    simp only [ck, Ck.seq] at hx
    have hL : ∀ x ∈ (ck K id l d k).w, x.In K id (C.and l r).labels d := fun x h => (hl hf.1 hok.1 d k hd x h).mono (Int.le_refl _) (fun s h => by simp [C.labels, h])
    have hR : ∀ x ∈ (ck K id r d k).w, x.In K id (C.and l r).labels d := fun x h => (hr hf.2 hok.2 d k hd x h).mono (Int.le_refl _) (fun s h => by simp [C.labels, h])
    split at hx
    · exact hL x hx
    · rcases List.mem_append.1 hx with h | h
      · exact hL x h
      · exact hR x h
  | or s l r hl hr =>
    intro hf hok d k hd x hx
    simp only [formC, Bool.and_eq_true] at hf
    simp only [ck] at hx
    cases hx2 : K.chosen (id, s) with
    | none =>
      rw [hx2] at hx
      simp at hx
      subst hx
      exact ⟨Int.le_refl _, hd, side_in k, fun _ => ⟨rfl, by simp [chW, C.labels], hx2⟩, fun h => (by cases h)⟩
    | some p =>
      rw [hx2] at hx
      have h1 := chs_at hC hx2
      simp only at hx
      split at hx
      · exact (hl hf.1.2 hok.2.1 (Max.max d p.2) k (by omega) x hx).mono (by omega) (fun s h => by simp [C.labels, h])
      · exact (hr hf.2 hok.2.2 (Max.max d p.2) k (by omega) x hx).mono (by omega) (fun s h => by simp [C.labels, h])
  | scale o c ih =>
    intro hf hok d k hd x hx
    simp only [formC, Bool.and_eq_true] at hf
    simp only [ck] at hx
    split at hx
    · simp at hx
    · split at hx
      · split at hx
        · split at hx
          · simp at hx
          · exact ih hf.2 hok.2 d _ hd x hx
        · simp at hx
      · exact waitN_in K id _ d hd o hok.1 hf.1 x hx
  | iff o l r hl hr =>
    intro hf hok d k hd x hx
    simp only [formC, Bool.and_eq_true] at hf
    simp only [ck] at hx
    split at hx
    · simp at hx
    · split at hx
      · split at hx
        · exact (hl hf.1.2 hok.2.1 d k hd x hx).mono (Int.le_refl _) (fun s h => by simp [C.labels, h])
        · exact (hr hf.2 hok.2.2 d k hd x hx).mono (Int.le_refl _) (fun s h => by simp [C.labels, h])
      · exact waitN_in K id _ d hd o hok.1 hf.1.1 x hx

/-! ### what is known grows -/
def ExtW (K K' : KW) : Prop := Ext K K' ∧ ∀ p v, K.chosen p = some v → K'.chosen p = some v
theorem ck_grows (K K' : KW) (hK : KW.Vals K) (hx : ExtW K K') (id : ByteArray) (c : C) : formC c = true → ∀ d k, (ck K id c d k).e = 0 → (ck K' id c d k).e = 0 → (ck K id c d k).f.Sublist (ck K' id c d k).f := by
  induction c with
  | zero => intro _ d k _ _; exact List.Sublist.refl _
  | one s => intro _ d k _ _; exact List.Sublist.refl _
  | odd v => intro _ d k _ _; exact List.Sublist.refl _
  | give c ih => intro hf d k; exact ih hf d (-k)
  | when d' c ih => intro hf d k; simp only [formC, Bool.and_eq_true] at hf; exact ih hf.2 _ k
  | and l r hl hr =>
    intro hf d k h1 h2
    simp only [formC, Bool.and_eq_true] at hf
    simp only [ck, Ck.seq] at h1 h2 ⊢
    split at h1
    · rename_i h; exact absurd h1 h
    · rename_i h
      split at h2
      · rename_i g; exact absurd h2 g
      · rename_i g
        rw [if_neg h, if_neg g]
        exact (hl hf.1 d k (by simpa using h) (by simpa using g)).append (hr hf.2 d k h1 h2)
  | or s l r hl hr =>
    intro hf d k h1 h2
    simp only [formC, Bool.and_eq_true] at hf
    simp only [ck] at h1 h2 ⊢
    cases hq : K.chosen (id, s) with
    | none => exact List.nil_sublist _
    | some p =>
      rw [hq] at h1
      rw [hx.2 _ _ hq] at h2 ⊢
      simp only at h1 h2 ⊢
      split at h1
      · rename_i h; rw [if_pos h] at h2 ⊢; rw [if_pos h]; exact hl hf.1.2 _ k h1 h2
      · rename_i h; rw [if_neg h] at h2 ⊢; rw [if_neg h]; exact hr hf.2 _ k h1 h2
  | scale o c ih =>
    intro hf d k h1 h2
    simp only [formC, Bool.and_eq_true] at hf
    simp only [ck] at h1 h2 ⊢
    split at h1
    · rename_i h; exact absurd h1 h
    · rename_i h
      rw [if_neg h]
      split at h1
      · rename_i g
        rw [rk_ext hK hx.1 d o hf.1 g, if_neg h, if_pos g] at h2
        rw [if_pos g, rk_ext hK hx.1 d o hf.1 g, if_neg h, if_pos g]
        split at h1
        · rename_i m
          rw [if_pos m] at h2 ⊢
          split at h1
          · rename_i z; rw [if_pos z]; exact List.nil_sublist _
          · rename_i z; rw [if_neg z] at h2 ⊢; rw [if_neg z]; rw [if_pos m]; exact ih hf.2 _ _ h1 h2
        · cases h1
      · rename_i g
        rw [if_neg g]
        exact List.nil_sublist _
  | iff o l r hl hr =>
    intro hf d k h1 h2
    simp only [formC, Bool.and_eq_true] at hf
    simp only [ck] at h1 h2 ⊢
    split at h1
    · rename_i h; exact absurd h1 h
    · rename_i h
      rw [if_neg h]
      split at h1
      · rename_i g
        rw [rk_ext hK hx.1 d o hf.1.1 g, if_neg h, if_pos g] at h2
        rw [if_pos g, rk_ext hK hx.1 d o hf.1.1 g, if_neg h, if_pos g]
        split at h1
        · rename_i z; rw [if_pos z] at h2 ⊢; rw [if_pos z]; exact hl hf.1.2 _ _ h1 h2
        · rename_i z; rw [if_neg z] at h2 ⊢; rw [if_neg z]; exact hr hf.2 _ _ h1 h2
      · rename_i g
        rw [if_neg g]
        exact List.nil_sublist _

/-! ### a row met in another, one by one -/
instance : DecidableEq Fl := fun a b => decidable_of_iff (a.day = b.day ∧ a.cur = b.cur ∧ a.amt = b.amt) (by cases a; cases b; simp)
/-- How many of a are met in b, in their order, k of them already. -/
def metN (a : List Fl) (b : List Fl) (k : Nat) : Nat := b.foldl (fun k x => if a[k]? = some x then k + 1 else k) k
theorem met_all (a : List Fl) : ∀ (b : List Fl) (k : Nat), k ≤ a.length → (a.drop k).Sublist b → metN a b k = a.length := by
  intro b
  induction b with
  | nil =>
    intro k hk h
    have := List.sublist_nil.1 h
    rw [List.drop_eq_nil_iff] at this
    show k = _
    omega
  | cons x b ih =>
    intro k hk h
    show metN a b (if a[k]? = some x then k + 1 else k) = _
    by_cases hlt : k < a.length
    · rw [List.drop_eq_getElem_cons hlt] at h
      split
      · rename_i e
        rw [List.getElem?_eq_getElem hlt] at e
        injection e with e
        rw [e] at h
        exact ih (k + 1) hlt (List.cons_sublist_cons.1 h)
      · rename_i e
        rw [List.getElem?_eq_getElem hlt] at e
        refine ih k hk ?_
        rw [List.drop_eq_getElem_cons hlt]
        cases h with
        | cons _ h => exact h
        | cons_cons _ h => exact absurd rfl e
    · have hk' : k = a.length := by omega
      subst hk'
      rw [List.getElem?_eq_none (Nat.le_refl _), if_neg (by simp)]
      exact ih _ (Nat.le_refl _) (by rw [List.drop_length]; exact List.nil_sublist _)

end Go.Proofs.Ytngjlkdpplmpaab.Ca
namespace Go.Proofs.Ytngjlkdpplmpaab.Ca
open Go.RowKit Wd Cn Vl
set_option linter.unusedVariables false

def Fl.cells (x : Fl) : List Value := [.int .i64 x.day, .string x.cur, .int .i64 x.amt]
def Wt.cells (y : Wt) : List Value := [.bool y.ch, .string y.name, .string y.label, .int .i64 y.day, .int .i64 y.side]
def Wt.val (y : Wt) : Value := .agg #[.bool y.ch, .string y.name, .string y.label, .int .i64 y.day, .int .i64 y.side]
def rowFl (l : List Fl) : List Value := l.flatMap Fl.cells
def rowWt (l : List Wt) : List Value := l.flatMap Wt.cells
theorem rowFl_app (a b : List Fl) : rowFl (a ++ b) = rowFl a ++ rowFl b := by simp [rowFl]
theorem rowWt_app (a b : List Wt) : rowWt (a ++ b) = rowWt a ++ rowWt b := by simp [rowWt]
theorem rowFl_at : ∀ (F : List Fl) (i : Nat) (x : Fl), F[i]? = some x → (rowFl F)[i * 3]? = some (.int .i64 x.day) ∧ (rowFl F)[i * 3 + 1]? = some (.string x.cur) ∧ (rowFl F)[i * 3 + 2]? = some (.int .i64 x.amt)
  | [], i, x, h => by simp at h
  | q :: F, 0, x, h => by simp at h; subst h; simp [rowFl, Fl.cells]
  | q :: F, i + 1, x, h => by
    have ih := rowFl_at F i x (by simpa using h)
    have e : rowFl (q :: F) = Fl.cells q ++ rowFl F := by simp [rowFl]
    rw [e, show (i + 1) * 3 = 3 + i * 3 by omega, show 3 + i * 3 + 1 = 3 + (i * 3 + 1) by omega, show 3 + i * 3 + 2 = 3 + (i * 3 + 2) by omega]
    rw [List.getElem?_append_right (by simp [Fl.cells]), List.getElem?_append_right (by simp [Fl.cells]), List.getElem?_append_right (by simp [Fl.cells])]
    simpa [Fl.cells] using ih
theorem rowWt_at : ∀ (F : List Wt) (i : Nat) (x : Wt), F[i]? = some x → (rowWt F)[i * 5]? = some (.bool x.ch) ∧ (rowWt F)[i * 5 + 1]? = some (.string x.name) ∧ (rowWt F)[i * 5 + 2]? = some (.string x.label) ∧ (rowWt F)[i * 5 + 3]? = some (.int .i64 x.day) ∧ (rowWt F)[i * 5 + 4]? = some (.int .i64 x.side)
  | [], i, x, h => by simp at h
  | q :: F, 0, x, h => by simp at h; subst h; simp [rowWt, Wt.cells]
  | q :: F, i + 1, x, h => by
    have ih := rowWt_at F i x (by simpa using h)
    have e : rowWt (q :: F) = Wt.cells q ++ rowWt F := by simp [rowWt]
    rw [e, show (i + 1) * 5 = 5 + i * 5 by omega, show 5 + i * 5 + 1 = 5 + (i * 5 + 1) by omega, show 5 + i * 5 + 2 = 5 + (i * 5 + 2) by omega, show 5 + i * 5 + 3 = 5 + (i * 5 + 3) by omega, show 5 + i * 5 + 4 = 5 + (i * 5 + 4) by omega]
    rw [List.getElem?_append_right (by simp [Wt.cells]), List.getElem?_append_right (by simp [Wt.cells]), List.getElem?_append_right (by simp [Wt.cells]), List.getElem?_append_right (by simp [Wt.cells]), List.getElem?_append_right (by simp [Wt.cells])]
    simpa [Wt.cells] using ih

/-- Cells of a block, the third of which is the payments', the fourth the waits'. -/
structure Two (mk : Value → Value → Array Value) : Prop where
  g2 : ∀ x y, (mk x y)[2]? = some x
  g3 : ∀ x y, (mk x y)[3]? = some y
  s2 : ∀ x y v, (mk x y).setIfInBounds 2 v = mk v y
  s3 : ∀ x y v, (mk x y).setIfInBounds 3 v = mk x v
/-- What a walk keeps, in memory, from block B on. -/
structure AIn (w : World) (B a : Nat) (T : TypeId) (mk : Value → Value → Array Value) (F : List Fl) (W : List Wt) (vF vW : Value) : Prop where
  blk : w.heap[a]? = some (.cells (mk vF vW) T)
  rf : w.ownsRow B 42 3 vF F.length (rowFl F)
  rw' : w.ownsRow B 58 5 vW W.length (rowWt W)
  ha : B ≤ a
theorem AIn.below {w w' : World} {B a : Nat} {T : TypeId} {mk : Value → Value → Array Value} {F : List Fl} {W : List Wt} {vF vW : Value} (h : AIn w B a T mk F W vF vW) (hb : Below w.heap.size w w') : AIn w' B a T mk F W vF vW := by
  have hg : w.grownBy w' none := ⟨hb.os, hb.tape, hb.output, hb.size, fun k hk _ => hb.block k hk⟩
  refine ⟨(hb.block a (Array.getElem?_eq_some_iff.1 h.blk).1).trans h.blk, h.rf.kept hg ?_, h.rw'.kept hg ?_, h.ha⟩
  · cases hv : vF.ownBlock <;> simp
  · cases hv : vW.ownBlock <;> simp
section
variable {w : World} {B a : Nat} {T : TypeId} {mk : Value → Value → Array Value} {F : List Fl} {W : List Wt} {vF vW : Value}
theorem AIn.neF (h : AIn w B a T mk F W vF vW) (hT : T ≠ 42) : vF.ownBlock ≠ some a := by
  intro e
  obtain ⟨cs, hc⟩ := row_block h.rf e
  have := h.blk
  rw [hc] at this
  injection this with e
  injection e with _ e
  exact hT e.symm
theorem AIn.neW (h : AIn w B a T mk F W vF vW) (hT : T ≠ 58) : vW.ownBlock ≠ some a := by
  intro e
  obtain ⟨cs, hc⟩ := row_block h.rw' e
  have := h.blk
  rw [hc] at this
  injection this with e
  injection e with _ e
  exact hT e.symm
theorem AIn.neFW (h : AIn w B a T mk F W vF vW) : vW.ownBlock = none ∨ vW.ownBlock ≠ vF.ownBlock := by
  cases hc : vW.ownBlock with
  | none => exact .inl rfl
  | some k =>
    right
    intro e
    obtain ⟨cs, h1⟩ := row_block h.rw' hc
    obtain ⟨cs', h2⟩ := row_block h.rf e.symm
    rw [h1] at h2
    cases h2
theorem AIn.cell2 (h : AIn w B a T mk F W vF vW) (hm : Two mk) : w.cell? ⟨a, 2, none⟩ = some vF := cell_blk h.blk (hm.g2 _ _)
theorem AIn.cell3 (h : AIn w B a T mk F W vF vW) (hm : Two mk) : w.cell? ⟨a, 3, none⟩ = some vW := cell_blk h.blk (hm.g3 _ _)
/-- A payment more. -/
theorem AIn.addF {w1 : World} {v' : Value} (h : AIn w B a T mk F W vF vW) (hm : Two mk) (hT1 : T ≠ 42) (hT2 : T ≠ 58) (hB : B ≤ w.heap.size) (x : Fl)
    (hown : w1.ownsRow B 42 3 v' (F.length + 1) (rowFl F ++ x.cells)) (hg : w.grownBy w1 vF.ownBlock) :
    AIn (w1.setCell ⟨a, 2, none⟩ v') B a T mk (F ++ [x]) W v' vW ∧ Below B w (w1.setCell ⟨a, 2, none⟩ v') := by
  have hr : a < w.heap.size := (Array.getElem?_eq_some_iff.1 h.blk).1
  have hb1 : w1.heap[a]? = some (.cells (mk vF vW) T) := (hg.block a hr (fun e => h.neF hT1 e.symm)).trans h.blk
  have hne' : v'.ownBlock ≠ some a := by
    intro e
    obtain ⟨cs, hc⟩ := row_block hown e
    rw [hc] at hb1
    injection hb1 with e
    injection e with _ e
    exact hT1 e.symm
  have hrc : w1.ownsRow B 58 5 vW W.length (rowWt W) := h.rw'.kept hg h.neFW
  refine ⟨⟨?_, ?_, ?_, h.ha⟩, ?_⟩
  · have := heap_setCell_same w1 a 2 _ _ v' hb1
    rw [hm.s2] at this
    exact this
  · have := ownsRow_setCell_other hown (a := ⟨a, 2, none⟩) (by exact hne') v'
    rw [rowFl_app]
    simpa [rowFl] using this
  · exact ownsRow_setCell_other hrc (a := ⟨a, 2, none⟩) (by exact h.neW hT2) v'
  · have hb : Below B w w1 := ⟨hg.os, hg.tape, hg.output, hg.size, fun k hk => hg.block k (by omega) (fun e => by have := (h.rf.lt k e.symm).1; omega)⟩
    exact hb.setCell h.ha v'
/-- A wait more. -/
theorem AIn.addW {w1 : World} {v' : Value} (h : AIn w B a T mk F W vF vW) (hm : Two mk) (hT1 : T ≠ 42) (hT2 : T ≠ 58) (hB : B ≤ w.heap.size) (y : Wt)
    (hown : w1.ownsRow B 58 5 v' (W.length + 1) (rowWt W ++ y.cells)) (hg : w.grownBy w1 vW.ownBlock) :
    AIn (w1.setCell ⟨a, 3, none⟩ v') B a T mk F (W ++ [y]) vF v' ∧ Below B w (w1.setCell ⟨a, 3, none⟩ v') := by
  have hr : a < w.heap.size := (Array.getElem?_eq_some_iff.1 h.blk).1
  have hb1 : w1.heap[a]? = some (.cells (mk vF vW) T) := (hg.block a hr (fun e => h.neW hT2 e.symm)).trans h.blk
  have hne' : v'.ownBlock ≠ some a := by
    intro e
    obtain ⟨cs, hc⟩ := row_block hown e
    rw [hc] at hb1
    injection hb1 with e
    injection e with _ e
    exact hT2 e.symm
  have hrf : w1.ownsRow B 42 3 vF F.length (rowFl F) := h.rf.kept hg (by
    rcases h.neFW with e | e
    · cases hv : vF.ownBlock with
      | none => exact .inl rfl
      | some k => right; rw [e]; simp
    · exact .inr (fun x => e x.symm))
  refine ⟨⟨?_, ?_, ?_, h.ha⟩, ?_⟩
  · have := heap_setCell_same w1 a 3 _ _ v' hb1
    rw [hm.s3] at this
    exact this
  · exact ownsRow_setCell_other hrf (a := ⟨a, 3, none⟩) (by exact h.neF hT1) v'
  · have := ownsRow_setCell_other hown (a := ⟨a, 3, none⟩) (by exact hne') v'
    rw [rowWt_app]
    simpa [rowWt] using this
  · have hb : Below B w w1 := ⟨hg.os, hg.tape, hg.output, hg.size, fun k hk => hg.block k (by omega) (fun e => by have := (h.rw'.lt k e.symm).1; omega)⟩
    exact hb.setCell h.ha v'
end
/-- What a walk may turn: its block, rows of payments and of waits; all else stays. -/
structure Kept (a : Nat) (w w' : World) : Prop where
  size : w.heap.size ≤ w'.heap.size
  kept : ∀ k, k < w.heap.size → k ≠ a → (∀ cs, w.heap[k]? ≠ some (.cells cs 42)) → (∀ cs, w.heap[k]? ≠ some (.cells cs 58)) → w'.heap[k]? = w.heap[k]?
theorem Kept.of_below {a : Nat} {w w' : World} (h : Below w.heap.size w w') : Kept a w w' := ⟨h.size, fun k hk _ _ _ => h.block k hk⟩
theorem Kept.trans {a : Nat} {u v w : World} (h : Kept a u v) (g : Kept a v w) : Kept a u w := by
  refine ⟨Nat.le_trans h.size g.size, fun k hk hka h1 h2 => ?_⟩
  have e := h.kept k hk hka h1 h2
  exact (g.kept k (Nat.lt_of_lt_of_le hk h.size) hka (by rw [e]; exact h1) (by rw [e]; exact h2)).trans e
theorem Kept.cells {a : Nat} {w w' : World} (h : Kept a w w') {k : Nat} {cs : Array Value} {t : TypeId} (hk : w.heap[k]? = some (.cells cs t)) (hr : k ≠ a) (h1 : t ≠ 42) (h2 : t ≠ 58) : w'.heap[k]? = some (.cells cs t) := by
  rw [h.kept k (Array.getElem?_eq_some_iff.1 hk).1 hr (fun cs' e => ?_) (fun cs' e => ?_)]
  · exact hk
  · rw [hk] at e; injection e with e; injection e with _ e; exact h1 e
  · rw [hk] at e; injection e with e; injection e with _ e; exact h2 e
/-- A row of another kind stays. -/
theorem Kept.row {a : Nat} {w w' : World} (h : Kept a w w') {B : Nat} {e : TypeId} {size n : Nat} {v : Value} {xs : List Value} (hr : w.ownsRow B e size v n xs) (hna : v.ownBlock ≠ some a) (h1 : e ≠ 42) (h2 : e ≠ 58) : w'.ownsRow B e size v n xs := by
  refine ⟨hr.1, ?_⟩
  rcases hr.2 with hn | ⟨g, cap, cur, rfl, hb, hg, rest⟩
  · exact .inl hn
  · exact .inr ⟨g, cap, cur, rfl, hb, h.cells hg (fun e => hna (by simp [Value.ownBlock, e])) h1 h2, rest⟩
/-- Behind a store into the walk's block, when a row has grown. -/
theorem Kept.grown {a i : Nat} {w w1 : World} {B : Nat} {e : TypeId} {size n : Nat} {v x : Value} {xs : List Value} (hr : w.ownsRow B e size v n xs) (he : e = 42 ∨ e = 58) (hg : w.grownBy w1 v.ownBlock) : Kept a w (w1.setCell ⟨a, i, none⟩ x) := by
  refine ⟨by simpa using hg.size, fun k hk hka h1 h2 => ?_⟩
  rw [heap_setCell_other w1 ⟨a, i, none⟩ k _ hka]
  refine hg.block k hk (fun e' => ?_)
  obtain ⟨cs, hc⟩ := row_block hr e'.symm
  rcases he with rfl | rfl
  · exact h1 cs hc
  · exact h2 cs hc
/-- What a walk keeps, and what was there when it began. -/
def St (w0 w : World) (a : Nat) (T : TypeId) (mk : Value → Value → Array Value) (F : List Fl) (W : List Wt) : Prop := (∃ vF vW, AIn w w0.heap.size a T mk F W vF vW) ∧ Below w0.heap.size w0 w
theorem St.step {w0 w w' : World} {a : Nat} {T : TypeId} {mk : Value → Value → Array Value} {F : List Fl} {W : List Wt} (h : St w0 w a T mk F W) (hb : Below w.heap.size w w') : St w0 w' a T mk F W := by
  obtain ⟨⟨vF, vW, h1⟩, h2⟩ := h
  exact ⟨⟨vF, vW, h1.below hb⟩, h2.trans (hb.mono h2.size)⟩
theorem St.at_row {w0 w : World} {a : Nat} {T : TypeId} {mk : Value → Value → Array Value} {F : List Fl} {W : List Wt} (h : St w0 w a T mk F W) {B : Nat} {e : TypeId} {size n : Nat} {v : Value} {xs : List Value} (hr : w.ownsRow B e size v n xs) (he : e ≠ T) : v.ownBlock ≠ some a := by
  obtain ⟨⟨vF, vW, h1⟩, _⟩ := h
  intro e'
  obtain ⟨cs, hc⟩ := row_block hr e'
  rw [h1.blk] at hc
  injection hc with e1
  injection e1 with _ e1
  exact he e1.symm
theorem St.at_cells {w0 w : World} {a : Nat} {T : TypeId} {mk : Value → Value → Array Value} {F : List Fl} {W : List Wt} (h : St w0 w a T mk F W) {k : Nat} {cs : Array Value} {t : TypeId} (hk : w.heap[k]? = some (.cells cs t)) (he : t ≠ T) : k ≠ a := by
  obtain ⟨⟨vF, vW, h1⟩, _⟩ := h
  rintro rfl
  rw [h1.blk] at hk
  injection hk with e1
  injection e1 with _ e1
  exact he e1.symm
theorem hidC {p : Prop} (h : p) : Hid p := h

end Go.Proofs.Ytngjlkdpplmpaab.Ca
namespace Go.Proofs.Ytngjlkdpplmpaab.Ca
open Go.RowKit Wd Cn Vl
set_option linter.unusedVariables false

/-- Waits in memory. -/
def HasWts (w : World) (ao : Option Addr) (l : List Wt) : Prop := ∀ i x, l[i]? = some x → ∃ g, ao = some ⟨g, 0, none⟩ ∧ g < w.heap.size ∧ w.cell? ⟨g, i * 5, none⟩ = some (.bool x.ch) ∧ w.cell? ⟨g, i * 5 + 1, none⟩ = some (.string x.name) ∧ w.cell? ⟨g, i * 5 + 2, none⟩ = some (.string x.label) ∧ w.cell? ⟨g, i * 5 + 3, none⟩ = some (.int .i64 x.day) ∧ w.cell? ⟨g, i * 5 + 4, none⟩ = some (.int .i64 x.side)
theorem HasWts.below {w w' : World} {ao : Option Addr} {l : List Wt} (h : HasWts w ao l) (hb : Below w.heap.size w w') : HasWts w' ao l := by
  intro i x hx
  obtain ⟨g, e, hg, h0, h1, h2, h3, h4⟩ := h i x hx
  have hc := fun o => hb.cell (p := ⟨g, o, none⟩) hg
  exact ⟨g, e, Nat.lt_of_lt_of_le hg hb.size, (hc _).trans h0, (hc _).trans h1, (hc _).trans h2, (hc _).trans h3, (hc _).trans h4⟩
theorem own_wts {w : World} {B : Nat} {v : Value} {l : List Wt} (h : w.ownsRow B 58 5 v l.length (rowWt l)) : ∃ ao cap, v = .slice ao l.length cap ∧ HasWts w ao l := by
  obtain ⟨ao, cap, rfl⟩ := row_shape h
  refine ⟨ao, cap, rfl, fun i x hx => ?_⟩
  have hi := (List.getElem?_eq_some_iff.1 hx).1
  obtain ⟨g, cap', e, hg, hc⟩ := row_cells h (by omega)
  injection e with e1 _ _
  obtain ⟨h0, h1, h2, h3, h4⟩ := rowWt_at l i x hx
  exact ⟨g, e1, hg, hc _ _ h0, hc _ _ h1, hc _ _ h2, hc _ _ h3, hc _ _ h4⟩

set_option maxHeartbeats 4000000 in
set_option maxRecDepth 100000 in
theorem index_any (w : World) (ao : Option Addr) (cap : Nat) (l : List Wt) (h : HasWts w ao l) (hl : l.length ≤ 1000000) (y : Wt) :
    Calls Try.prog 74 #[.slice ao l.length cap, y.val] w fun e w' => ∃ n : Int, e = .returned (.int .i64 n) ∧ (0 ≤ n ↔ y ∈ l) ∧ Below w.heap.size w w' := by
  have HH := hidC h
  clear h
  obtain ⟨c, nm, lb, d, s⟩ := y
  unfold Wt.val
  go_enter Try.func74, Try.ntmps74
  go_wp2_with fail
  go_loopw [8] (fun s8 wr => ∃ i : Nat, i ≤ l.length ∧ s8 = .int .i64 i ∧ Hid (∀ j, j < i → l[j]? ≠ some ⟨c, nm, lb, d, s⟩) ∧ Below w.heap.size w wr ∧ wr.heap[w.heap.size]? = some (.cells #[.bool c, .string nm, .string lb, .int .i64 d, .int .i64 s] 58)) (fun s8 _ => l.length - (intOf s8).toNat)
  case atStart => exact ⟨0, by omega, rfl, (fun j hj => absurd hj (by omega)), below_alloc (Below.refl _ _) _, heap_alloc_new _ _⟩
  case round =>
    obtain ⟨i, hi, rfl, HNO, hb, hblk⟩ := hrel
    have HB := hidC hb
    have HK := hidC hblk
    clear hb hblk
    by_cases hlt : i < l.length
    · have hlt' : (i : Int) < (l.length : Int) := by omega
      obtain ⟨x, hx⟩ : ∃ x, l[i]? = some x := ⟨_, List.getElem?_eq_getElem hlt⟩
      obtain ⟨g, rfl, hg, d0, d1, d2, d3, d4⟩ := (HH.out.below HB.out) i x hx
      have b0 := cell_of_row _ _ 0 _ _ _ HK.out
      have b1 := cell_of_row _ _ 1 _ _ _ HK.out
      have b2 := cell_of_row _ _ 2 _ _ _ HK.out
      have b3 := cell_of_row _ _ 3 _ _ _ HK.out
      have b4 := cell_of_row _ _ 4 _ _ _ HK.out
      rw [show (#[.bool c, .string nm, .string lb, .int .i64 d, .int .i64 s] : Array Value)[0]? = some (.bool c) from rfl] at b0
      rw [show (#[.bool c, .string nm, .string lb, .int .i64 d, .int .i64 s] : Array Value)[1]? = some (.string nm) from rfl] at b1
      rw [show (#[.bool c, .string nm, .string lb, .int .i64 d, .int .i64 s] : Array Value)[2]? = some (.string lb) from rfl] at b2
      rw [show (#[.bool c, .string nm, .string lb, .int .i64 d, .int .i64 s] : Array Value)[3]? = some (.int .i64 d) from rfl] at b3
      rw [show (#[.bool c, .string nm, .string lb, .int .i64 d, .int .i64 s] : Array Value)[4]? = some (.int .i64 s) from rfl] at b4
      have HX := hidC hx
      clear hx hg
      obtain ⟨xc, xn, xl, xd, xs⟩ := x
      simp only at d0 d1 d2 d3 d4
      by_cases he : c = xc ∧ nm = xn ∧ lb = xl ∧ d = xd ∧ s = xs
      · obtain ⟨rfl, rfl, rfl, rfl, rfl⟩ := he
        have e1 : (nm.toList == nm.toList) = true := beq_self_eq_true _
        have e2 : (lb.toList == lb.toList) = true := beq_self_eq_true _
        go_wp2_with fail
        go_region
        go_wp2_with fail
        all_goals go_ret
        all_goals exact ⟨_, rfl, ⟨fun _ => List.mem_of_getElem? HX.out, fun _ => by omega⟩, HB.out.drew⟩
      · have HNE := hidC he
        have HNO' : Hid (∀ j, j < i + 1 → l[j]? ≠ some ⟨c, nm, lb, d, s⟩) := fun j hj e => by
          rcases (by omega : j < i ∨ j = i) with h | h
          · exact HNO.out j h e
          · subst h
            rw [HX.out] at e
            injection e with e
            injection e with h0 h1 h2 h3 h4
            exact HNE.out ⟨h0.symm, h1.symm, h2.symm, h3.symm, h4.symm⟩
        have ways : (c = true ∧ xc = false) ∨ (c = false ∧ xc = true) ∨ (c = xc ∧ (nm.toList == xn.toList) = false) ∨ (c = xc ∧ (nm.toList == xn.toList) = true ∧ (lb.toList == xl.toList) = false) ∨ (c = xc ∧ (nm.toList == xn.toList) = true ∧ (lb.toList == xl.toList) = true ∧ (d == xd) = false) ∨ (c = xc ∧ (nm.toList == xn.toList) = true ∧ (lb.toList == xl.toList) = true ∧ (d == xd) = true ∧ (s == xs) = false) := by
          by_cases g0 : c = xc
          · by_cases g1 : nm = xn
            · by_cases g2 : lb = xl
              · by_cases g3 : d = xd
                · have g4 : s ≠ xs := fun g4 => he ⟨g0, g1, g2, g3, g4⟩
                  exact .inr (.inr (.inr (.inr (.inr ⟨g0, by rw [g1]; exact beq_self_eq_true _, by rw [g2]; exact beq_self_eq_true _, by simpa using g3, by simpa using g4⟩))))
                · exact .inr (.inr (.inr (.inr (.inl ⟨g0, by rw [g1]; exact beq_self_eq_true _, by rw [g2]; exact beq_self_eq_true _, by simpa using g3⟩))))
              · exact .inr (.inr (.inr (.inl ⟨g0, by rw [g1]; exact beq_self_eq_true _, beq_eq_false_iff_ne.2 fun e => g2 (bytes_inj e)⟩)))
            · exact .inr (.inr (.inl ⟨g0, beq_eq_false_iff_ne.2 fun e => g1 (bytes_inj e)⟩))
          · cases c <;> cases xc <;> simp at g0 ⊢
        clear he
        rcases ways with ⟨rfl, rfl⟩ | ⟨rfl, rfl⟩ | ⟨rfl, f1⟩ | ⟨rfl, f1, f2⟩ | ⟨rfl, f1, f2, f3⟩ | ⟨rfl, f1, f2, f3, f4⟩
        all_goals
          go_wp2_with fail
          go_region
          go_wp2_with fail
          all_goals go_roundw
          case rel => exact ⟨i + 1, by omega, by go_num, HNO', HB.out.drew, HK.out⟩
          case measure => simp [intOf] <;> omega
    · have hle : i = l.length := by omega
      subst hle
      go_wp2_with fail
      go_ret
      refine ⟨-1, rfl, ⟨fun h => absurd h (by omega), fun h => ?_⟩, HB.out⟩
      obtain ⟨j, hj⟩ := List.mem_iff_getElem?.1 h
      exact absurd hj (HNO.out j (List.getElem?_eq_some_iff.1 hj).1)

set_option maxHeartbeats 1000000 in
theorem contains_any (w : World) (ao : Option Addr) (cap : Nat) (l : List Wt) (h : HasWts w ao l) (hl : l.length ≤ 1000000) (y : Wt) :
    Calls Try.prog 68 #[.slice ao l.length cap, y.val] w fun e w' => e = .returned (.bool (decide (y ∈ l))) ∧ Below w.heap.size w w' := by
  have HI : Hid (∀ W : World, Below w.heap.size w W → Calls Try.prog 74 #[.slice ao l.length cap, .agg #[.bool y.ch, .string y.name, .string y.label, .int .i64 y.day, .int .i64 y.side]] W fun e w' => ∃ n : Int, e = .returned (.int .i64 n) ∧ (0 ≤ n ↔ y ∈ l) ∧ Below W.heap.size W w') := fun W hW => index_any W ao cap l (h.below hW) hl y
  clear h
  have HB := hidC (below_alloc (Below.refl w.heap.size w) (.cells #[.bool y.ch, .string y.name, .string y.label, .int .i64 y.day, .int .i64 y.side] 58))
  unfold Wt.val
  go_enter Try.func68, Try.ntmps68
  go_wp2_with fail
  refine (HI.out _ HB.out).mono ?_
  rintro e w1 ⟨n, rfl, hn, hb⟩
  have HN := hidC hn
  have HB1 := hidC (HB.out.trans (hb.mono HB.out.size))
  clear hb hn
  go_wp2_with fail
  go_ret
  exact ⟨ret_bool (decide_eq_decide.2 HN.out), HB1.out⟩

set_option maxHeartbeats 400000 in
theorem holder_any (k : Int) (w : World) : Calls Try.prog 55 #[.int .i64 k] w fun e w' => e = .returned (.int .i64 (side k)) ∧ w' = w := by
  by_cases h : 0 < k
  · have HS : Hid (side k = 0) := by unfold Hid side; rw [if_pos h]
    go_enter Try.func55, Try.ntmps55
    go_wp2_with fail
    go_ret
    rw [HS.out]
    exact ⟨rfl, rfl⟩
  · have HS : Hid (side k = 1) := by unfold Hid side; rw [if_neg h]
    go_enter Try.func55, Try.ntmps55
    go_wp2_with fail
    go_ret
    rw [HS.out]
    exact ⟨rfl, rfl⟩

end Go.Proofs.Ytngjlkdpplmpaab.Ca
namespace Go.Proofs.Ytngjlkdpplmpaab.Mx
open Go.RowKit
set_option linter.unusedVariables false

section
variable {P : Program} {ops : Array Oper} {md : Region.Mode} {C : World → Prop}
/-- Operation n waits for operation i. -/
def waitsOne (md : Region.Mode) (ops : Array Oper) (n i : Nat) : Bool := (ops[n]?).any fun o => o.after.any fun e => Region.binds md e && e.on == i
def waitsP (md : Region.Mode) (ops : Array Oper) (n : Nat) (plan : List (Nat × Bool)) : Bool := plan.all fun p => p.2 || waitsOne md ops n p.1
theorem last_waits1 {n i : Nat} (h : waitsOne md ops n i = true) {listed : Array Bool} (hun : listed.getD i true = false) : n ∉ Region.ready md ops listed := by
  intro hr
  obtain ⟨_, o', ho', hall⟩ := mem_ready.1 hr
  unfold waitsOne at h
  rw [ho', Option.any_some, Array.any_eq_true] at h
  obtain ⟨j, hj, h2⟩ := h
  simp only [Bool.and_eq_true, beq_iff_eq] at h2
  have h1 := hall _ (Array.getElem_mem hj) h2.1
  rw [h2.2] at h1
  rcases Nat.lt_or_ge i listed.size with h' | h'
  · simp [h'] at hun h1; rw [hun] at h1; cases h1
  · simp [Array.getElem?_eq_none h'] at h1
theorem first5 {jj : Nat} {Q : Act → World → Prop} {i : Nat} {oi : Oper} {u : Value} (hwt : waitsOne md ops jj i = true) (hin : i < jj) (hi : ops[i]? = some oi) (hsel : ∀ (j : Nat) (o : Oper) cs b, ops[j]? = some o → o.op ≠ .select cs b) :
    ∀ (fuel : Nat) (listed : Array Bool) (a : Act) (w : World),
      (∀ j oj, ops[j]? = some oj → j ≠ i → listed.getD j true = false → (∀ e ∈ oj.after, Region.binds md e = true → e.on ≠ i) → oi.apart ops oj = true) →
      i ∈ Region.ready md ops listed → listed.getD jj false = false → ((Region.wanted oi (yielded ops a.tmps) = true ∧ ∀ w, C w → stepK P oi a w (fun u' w' => u' = u ∧ w' = w)) ∨ (Region.wanted oi (yielded ops a.tmps) = false ∧ u = undef)) →
      wpAny4 P md ops C jj Q fuel (listed.setIfInBounds i true) (a.put oi.dst u) w → wpAny4 P md ops C jj Q (fuel + 1) listed a w := by
  have hij : i ≠ jj := by omega
  intro fuel
  induction fuel with
  | zero =>
    intro listed a w hfree hr hlj hst h
    have hc : C w := h.1 (by rw [getD_set_ne false hij]; exact hlj)
    refine ⟨fun _ => hc, fun h0 => (by rw [h0] at hr; cases hr), fun j hj o ho => ?_⟩
    by_cases hji : j = i
    · subst hji
      rw [hi] at ho
      cases ho
      rcases hst with ⟨hw, hst⟩ | ⟨hw, hu⟩
      · exact .inl ⟨hw, stepK_mono (fun u' w' hu => by rw [hu.1, hu.2]; exact h) (hst w hc)⟩
      · exact .inr ⟨hw, by rw [← hu]; exact h⟩
    · have := ready_mono hj hji
      rw [h.2.1] at this
      cases this
  | succ fuel ih =>
    intro listed a w hfree hr hlj hst h
    have hc : C w := h.1 (by rw [getD_set_ne false hij]; exact hlj)
    refine ⟨fun _ => hc, fun h0 => (by rw [h0] at hr; cases hr), fun j hj oj hoj => ?_⟩
    by_cases hji : j = i
    · subst hji
      rw [hi] at hoj
      cases hoj
      rcases hst with ⟨hw, hst⟩ | ⟨hw, hu⟩
      · exact .inl ⟨hw, stepK_mono (fun u' w' hu => by rw [hu.1, hu.2]; exact h) (hst w hc)⟩
      · exact .inr ⟨hw, by rw [← hu]; exact h⟩
    · obtain ⟨hjun, oj', hoj', hall⟩ := mem_ready.1 hj
      rw [hoj] at hoj'
      cases hoj'
      have hjj : j ≠ jj := fun e => last_waits1 hwt (mem_ready.1 hr).1 (e ▸ hj)
      have hnot : ∀ e ∈ oj.after, Region.binds md e = true → e.on ≠ i := fun e he hb heq => by
        have h1 := hall e he hb
        have h0 := (mem_ready.1 hr).1
        rw [heq] at h1
        rcases Nat.lt_or_ge i listed.size with h' | h'
        · simp [h'] at h0 h1; rw [h0] at h1; cases h1
        · simp [Array.getElem?_eq_none h'] at h1
      obtain ⟨p1, p2, p3⟩ := Oper.apart_spec (hfree j oj hoj hji hjun hnot)
      have hfree' : ∀ k ok, ops[k]? = some ok → k ≠ i → (listed.setIfInBounds j true).getD k true = false →
          (∀ e ∈ ok.after, Region.binds md e = true → e.on ≠ i) → oi.apart ops ok = true := fun k ok hk hki hun hno => by
        refine hfree k ok hk hki ?_ hno
        by_cases hjk : j = k
        · subst hjk; exact hjun
        · rw [getD_set_ne true hjk] at hun; exact hun
      have next : ∀ (v : Value) (w' : World), wpAny4 P md ops C jj Q fuel ((listed.setIfInBounds i true).setIfInBounds j true) ((a.put oi.dst u).put oj.dst v) w' → wpAny4 P md ops C jj Q (fuel + 1) (listed.setIfInBounds j true) (a.put oj.dst v) w' := fun v w' hk => by
        refine ih (listed.setIfInBounds j true) (a.put oj.dst v) w' hfree' (ready_mono hr (Ne.symm hji)) (by rw [getD_set_ne false hjj]; exact hlj) ?_ ?_
        · rw [wanted_put oi a oj.dst v p3]
          rcases hst with ⟨hw, hst⟩ | hst
          · refine .inl ⟨hw, fun w hw => ?_⟩
            have := hst w hw
            unfold stepK at this ⊢
            rw [execOp_put oi (fun cs b => hsel i oi cs b hi) a oj.dst v p3]
            exact this
          · exact .inr hst
        · rw [Array.setIfInBounds_comm _ _ hji, ← Act.put_comm a u v p2]
          exact hk
      rcases h.2.2 j (ready_mono hj hji) oj hoj with ⟨h1, h2⟩ | ⟨h1, h2⟩
      · refine .inl ⟨by rw [wanted_put oj a oi.dst u p1] at h1; exact h1, ?_⟩
        unfold stepK at h2 ⊢
        rw [execOp_put oj (fun cs b => hsel j oj cs b hoj) a oi.dst u p1] at h2
        exact stepK_mono (o := oj) (a := a) (w := w) (fun v w' hk => next v w' hk) h2
      · exact .inr ⟨by rw [wanted_put oj a oi.dst u p1] at h1; exact h1, next undef w h2⟩
theorem any5_of_mix {jj : Nat} {Q : Act → World → Prop} (hs : Region.noSelect ops = true) : ∀ (plan : List (Nat × Bool)) (L : List (Oper × Nat × Bool)) (listed : Array Bool) (a : Act) (w : World), plan.map (fun p => (ops[p.1]?, p.1, p.2)) = L.map (fun q => (some q.1, q.2.1, q.2.2)) →
    planB md ops plan listed = true → waitsP md ops jj plan = true → lastB jj plan = true → (listed.getD jj false = true → plan = []) → jj < listed.size → (listed.getD jj false = false → C w) → mix4 P ops C jj Q L a w → wpAny4 P md ops C jj Q plan.length listed a w
  | [], L, listed, a, w, hL, hB, hwt, hlb, hp, hz, hC, h => by
    cases L with
    | nil => exact ⟨hC, by simpa [planB] using hB, h⟩
    | cons q L => simp at hL
  | (i, al) :: r, L, listed, a, w, hL, hB, hwt, hlb, hp, hz, hC, h => by
    cases L with
    | nil => simp at hL
    | cons q L =>
      obtain ⟨o, i', al'⟩ := q
      simp only [List.map_cons, List.cons.injEq, Prod.mk.injEq] at hL
      obtain ⟨⟨ho, rfl, rfl⟩, hL'⟩ := hL
      simp only [planB, Bool.and_eq_true] at hB
      obtain ⟨⟨hr, hf⟩, hB'⟩ := hB
      have hr' : i ∈ Region.ready md ops listed := by simpa using hr
      have hz' : jj < (listed.setIfInBounds i true).size := by simpa using hz
      have hlj : listed.getD jj false = false := by
        cases hx : listed.getD jj false with
        | false => rfl
        | true => have := hp hx; cases this
      simp only [lastB, Bool.and_eq_true] at hlb
      simp only [waitsP, List.all_cons, Bool.and_eq_true] at hwt
      have hp' : (listed.setIfInBounds i true).getD jj false = true → r = [] := fun hx => by
        by_cases e : i = jj
        · have h1 := hlb.1
          subst e
          simpa using h1
        · rw [getD_set_ne false e, hlj] at hx
          cases hx
      cases al with
      | true =>
        simp only [if_true, List.all_eq_true, beq_iff_eq] at hf
        obtain ⟨h1, h2⟩ := h
        refine ⟨hC, fun h0 => (by rw [h0] at hr'; cases hr'), fun j hj oj hoj => ?_⟩
        have hji := hf j hj
        subst hji
        rw [ho] at hoj
        cases hoj
        refine .inl ⟨h1, stepK_mono (fun u w' hk => any5_of_mix hs r L _ _ w' hL' hB' hwt.2 hlb.2 hp' hz' (fun hx => hk.1 (fun e => ?_)) hk.2) h2⟩
        subst e
        simp [hz] at hx
      | false =>
        simp only [Bool.false_eq_true, if_false] at hf
        obtain ⟨hij, u, h2, h3⟩ := h
        exact first5 (by simpa using hwt.1) hij ho (Region.noSelect_spec hs) r.length listed a w (Region.free_spec ho hf) hr' hlj h2 (any5_of_mix hs r L _ _ w hL' hB' hwt.2 hlb.2 hp' hz' (fun hx => hC hlj) h3)
/-- One walk serves every order; the last operation waits for all others. -/
theorem wp_region_mix5 {id : Nat} {Q : Exit → Act → World → Prop} {a : Act} {w : World} {l : List Oper} (C : World → Prop) (jj : Nat) (plan : List (Nat × Bool)) (hm : P.follows .mixedOrders = true)
    (hB : (Region.noSelect l.toArray && planB .any l.toArray plan (Array.replicate l.length false) && lastB jj plan && waitsP .any l.toArray jj plan && plan.length == l.length) = true) (hC : C w.drew)
    (h : mix4 P l.toArray C jj (fun a w => Q .normal a w) (plan.map fun p => (l.getD p.1 default, p.1, p.2)) a w.drew) (hin : (plan.all (fun p => p.1 < l.length) && decide (jj < l.length)) = true) : (Code.region id l.toArray true).wp P Q a w := by
  simp only [Bool.and_eq_true, beq_iff_eq, decide_eq_true_eq] at hB hin
  refine wp_region_any hm (any_of_4 (C := C) (jj := jj) (Q := fun a w => Q .normal a w) (fun _ _ h => h) _ _ _ _ ?_)
  have := any5_of_mix (C := C) (jj := jj) (md := .any) hB.1.1.1.1 plan _ (Array.replicate l.length false) a w.drew (by
    rw [List.map_map]
    apply List.map_congr_left
    intro p hp
    have hlt : p.1 < l.length := by simpa using List.all_eq_true.1 hin.1 p hp
    simp [List.getD, List.getElem?_eq_getElem hlt]) hB.1.1.1.2 hB.1.2 hB.1.1.2 (fun x => by simp [hin.2] at x) (by simpa using hin.2) (fun _ => hC) h
  rw [hB.2] at this
  simpa using this
end

end Go.Proofs.Ytngjlkdpplmpaab.Mx
namespace Go.Proofs.Ytngjlkdpplmpaab.Ca
open Go.RowKit Wd Cn Vl
set_option linter.unusedVariables false

def mkA (id : ByteArray) (p : Nat) (x y : Value) : Array Value := #[.string id, .pointer (some ⟨p, 0, none⟩), x, y]
theorem twoA (id : ByteArray) (p : Nat) : Two (mkA id p) := ⟨fun _ _ => rfl, fun _ _ => rfl, fun _ _ _ => rfl, fun _ _ _ => rfl⟩
/-- The program's walk in memory. -/
def StA (w0 w : World) (a : Nat) (id : ByteArray) (p : Nat) (F : List Fl) (W : List Wt) : Prop := St w0 w a 69 (mkA id p) F W
theorem infoFl : (Try.prog.info? 42).map (fun i => (i.zero, i.size, i.bytes)) = some (some (.agg #[.int .i64 0, .string ByteArray.empty, .int .i64 0]), 3, 32) := by kernel_rfl
theorem infoWt : (Try.prog.info? 58).map (fun i => (i.zero, i.size, i.bytes)) = some (some (.agg #[.bool false, .string ByteArray.empty, .string ByteArray.empty, .int .i64 0, .int .i64 0]), 5, 56) := by kernel_rfl

/-- A payment more behind the row: what the builtin answers, and what stands behind the store. -/
theorem AIn.pushF {w : World} {B a : Nat} {T : TypeId} {mk : Value → Value → Array Value} {F : List Fl} {W : List Wt} {vF vW : Value} (h : AIn w B a T mk F W vF vW) (hm : Two mk) (hT1 : T ≠ 42) (hT2 : T ≠ 58) (hB : B ≤ w.heap.size) (hl : F.length ≤ 100000) (x : Fl) (ab : Nat) (hc : w.heap[ab]? = some (.cells #[.int .i64 x.day, .string x.cur, .int .i64 x.amt] 42)) (ty : TypeId) :
    ∃ v' w', (Builtin.append_ #[33, 33] ty #[vF, .slice (some ⟨ab, 0, none⟩) 1 1]).run Try.prog w = .ok v' w' ∧ w'.cell? ⟨a, 2, none⟩ = some vF ∧ w'.frozen? ⟨a, 2, none⟩ = false ∧ (∃ ao cap, v' = .slice ao (F.length + 1) cap) ∧ w.grownBy w' vF.ownBlock ∧
      AIn (w'.setCell ⟨a, 2, none⟩ v') B a T mk (F ++ [x]) W v' vW ∧ Below B w (w'.setCell ⟨a, 2, none⟩ v') := by
  obtain ⟨i0, hi, hz⟩ := Option.map_eq_some_iff.1 infoFl
  simp only [Prod.mk.injEq] at hz
  obtain ⟨hz0, hz1, hz2⟩ := hz
  obtain ⟨v', w', hr, ho, hg, _⟩ := run_append_own (P := Try.prog) w B 33 ty 42 i0 (.agg #[.int .i64 0, .string ByteArray.empty, .int .i64 0]) 3 32 Try.underlying33 hi hz0 hz1 hz2 rfl (by decide) vF F.length (rowFl F) h.rf ⟨ab, 0, none⟩ 1 1 x.cells rfl
    (by
      intro j u hj
      rw [Addr.add_lit, Nat.zero_add, cell_of_row _ _ _ _ _ _ hc]
      simpa [Fl.cells] using hj)
    (by
      intro u hu
      simp [Fl.cells] at hu
      rcases hu with rfl | rfl | rfl <;> rfl) (by unfold maxLen; omega) (by omega) hB
  have ha : a < w.heap.size := (Array.getElem?_eq_some_iff.1 h.blk).1
  have hb1 : w'.heap[a]? = some (.cells (mk vF vW) T) := (hg.block a ha (fun e => h.neF hT1 e.symm)).trans h.blk
  obtain ⟨k1, k2⟩ := h.addF hm hT1 hT2 hB x ho hg
  exact ⟨v', w', hr, cell_blk hb1 (hm.g2 _ _), frozen_of_row w' a 2 _ _ hb1, row_shape ho, hg, k1, k2⟩
/-- A wait more behind the row: what the builtin answers, and what stands behind the store. -/
theorem AIn.pushW {w : World} {B a : Nat} {T : TypeId} {mk : Value → Value → Array Value} {F : List Fl} {W : List Wt} {vF vW : Value} (h : AIn w B a T mk F W vF vW) (hm : Two mk) (hT1 : T ≠ 42) (hT2 : T ≠ 58) (hB : B ≤ w.heap.size) (hl : W.length ≤ 100000) (x : Wt) (ab : Nat) (hc : w.heap[ab]? = some (.cells #[.bool x.ch, .string x.name, .string x.label, .int .i64 x.day, .int .i64 x.side] 58)) (ty : TypeId) :
    ∃ v' w', (Builtin.append_ #[34, 34] ty #[vW, .slice (some ⟨ab, 0, none⟩) 1 1]).run Try.prog w = .ok v' w' ∧ w'.cell? ⟨a, 3, none⟩ = some vW ∧ w'.frozen? ⟨a, 3, none⟩ = false ∧ (∃ ao cap, v' = .slice ao (W.length + 1) cap) ∧ w.grownBy w' vW.ownBlock ∧
      AIn (w'.setCell ⟨a, 3, none⟩ v') B a T mk F (W ++ [x]) vF v' ∧ Below B w (w'.setCell ⟨a, 3, none⟩ v') := by
  obtain ⟨i0, hi, hz⟩ := Option.map_eq_some_iff.1 infoWt
  simp only [Prod.mk.injEq] at hz
  obtain ⟨hz0, hz1, hz2⟩ := hz
  obtain ⟨v', w', hr, ho, hg, _⟩ := run_append_own (P := Try.prog) w B 34 ty 58 i0 (.agg #[.bool false, .string ByteArray.empty, .string ByteArray.empty, .int .i64 0, .int .i64 0]) 5 56 Try.underlying34 hi hz0 hz1 hz2 rfl (by decide) vW W.length (rowWt W) h.rw' ⟨ab, 0, none⟩ 1 1 x.cells rfl
    (by
      intro j u hj
      rw [Addr.add_lit, Nat.zero_add, cell_of_row _ _ _ _ _ _ hc]
      simpa [Wt.cells] using hj)
    (by
      intro u hu
      simp [Wt.cells] at hu
      rcases hu with rfl | rfl | rfl | rfl | rfl <;> rfl) (by unfold maxLen; omega) (by omega) hB
  have ha : a < w.heap.size := (Array.getElem?_eq_some_iff.1 h.blk).1
  have hb1 : w'.heap[a]? = some (.cells (mk vF vW) T) := (hg.block a ha (fun e => h.neW hT2 e.symm)).trans h.blk
  obtain ⟨k1, k2⟩ := h.addW hm hT1 hT2 hB x ho hg
  exact ⟨v', w', hr, cell_blk hb1 (hm.g3 _ _), frozen_of_row w' a 3 _ _ hb1, row_shape ho, hg, k1, k2⟩

set_option maxHeartbeats 2000000 in
set_option maxRecDepth 100000 in
theorem wait_any (w0 w : World) (a : Nat) (id : ByteArray) (p : Nat) (F : List Fl) (W : List Wt) (h : StA w0 w a id p F W) (hl : W.length ≤ 100000) (y : Wt) :
    Calls Try.prog 54 #[.pointer (some ⟨a, 0, none⟩), y.val] w fun e w' => e = .returned (.tuple #[]) ∧ StA w0 w' a id p F (putW W y) ∧ Kept a w w' := by
  obtain ⟨⟨vF, vW, hin⟩, hb0⟩ := h
  have HB0 := hidC hb0
  have HR := hidC (hin.below (below_alloc (Below.refl w.heap.size w) (.cells #[.bool y.ch, .string y.name, .string y.label, .int .i64 y.day, .int .i64 y.side] 58)))
  have HBA := hidC (below_alloc (Below.refl w.heap.size w) (.cells #[.bool y.ch, .string y.name, .string y.label, .int .i64 y.day, .int .i64 y.side] 58))
  have HY := hidC (heap_alloc_new w (.cells #[.bool y.ch, .string y.name, .string y.label, .int .i64 y.day, .int .i64 y.side] 58))
  have HLT := hidC (fun k (hk : vW.ownBlock = some k) => (hin.rw'.lt k hk).2)
  clear hin hb0
  obtain ⟨ao, cap, rfl, hw⟩ := own_wts HR.out.rw'
  have HW := hidC hw
  clear hw
  unfold Wt.val
  go_enter Try.func54, Try.ntmps54
  go_wp2_with fail
  generalize w.alloc (.cells #[.bool y.ch, .string y.name, .string y.label, .int .i64 y.day, .int .i64 y.side] 58) = V at *
  have HBV := hidC (below_drew (Below.refl V.heap.size V))
  have HF : Hid (∀ w', Below V.heap.size V w' → w'.cell? ⟨a, 3, none⟩ = some (.slice ao W.length cap) ∧ w'.cell? ⟨w.heap.size, 0, none⟩ = some (.bool y.ch) ∧ w'.cell? ⟨w.heap.size, 1, none⟩ = some (.string y.name) ∧ w'.cell? ⟨w.heap.size, 2, none⟩ = some (.string y.label) ∧ w'.cell? ⟨w.heap.size, 3, none⟩ = some (.int .i64 y.day) ∧ w'.cell? ⟨w.heap.size, 4, none⟩ = some (.int .i64 y.side)) := fun w' hw' => by
    have hb := (hw'.block _ (Array.getElem?_eq_some_iff.1 HY.out).1).trans HY.out
    exact ⟨(HR.out.below hw').cell3 (twoA id p), cell_of_row _ _ 0 _ _ _ hb, cell_of_row _ _ 1 _ _ _ hb, cell_of_row _ _ 2 _ _ _ hb, cell_of_row _ _ 3 _ _ _ hb, cell_of_row _ _ 4 _ _ _ hb⟩
  refine Mx.wp_region_mix (fun w' => Below V.heap.size V w') [(0, false), (1, false), (2, false), (3, false), (4, false), (5, true), (6, false)] (by kernel_rfl) (by kernel_rfl) HBV.out ?_ (by kernel_rfl)
  simp only [List.map_cons, List.map_nil, List.getD_cons_zero, List.getD_cons_succ]
  generalize hops : (#[_, _, _, _, _, _, _] : Array Oper) = ops
  clear hops
  refine Mx.m_pure (.pointer (some ⟨a, 0, none⟩)) (Mx.wanted_none rfl) (fun w' hw' => ?_) ?_
  · go_simp
  simp only [Act.put, List.setIfInBounds_toArray, List.set_cons_zero, List.set_cons_succ]
  refine Mx.m_pure (.pointer (some ⟨a, 0, none⟩)) (Mx.wanted_none rfl) (fun w' hw' => ?_) ?_
  · go_simp
  simp only [Act.put, List.setIfInBounds_toArray, List.set_cons_zero, List.set_cons_succ]
  refine Mx.m_pure (.pointer (some ⟨a, 3, none⟩)) (Mx.wanted_none rfl) (fun w' hw' => ?_) ?_
  · go_simp
  simp only [Act.put, List.setIfInBounds_toArray, List.set_cons_zero, List.set_cons_succ]
  refine Mx.m_pure (.slice ao W.length cap) (Mx.wanted_none rfl) (fun w' hw' => ?_) ?_
  · obtain ⟨q0, q1, q2, q3, q4, q5⟩ := HF.out w' hw'
    go_simp
  simp only [Act.put, List.setIfInBounds_toArray, List.set_cons_zero, List.set_cons_succ]
  refine Mx.m_pure (.agg #[.bool y.ch, .string y.name, .string y.label, .int .i64 y.day, .int .i64 y.side]) (Mx.wanted_none rfl) (fun w' hw' => ?_) ?_
  · obtain ⟨q0, q1, q2, q3, q4, q5⟩ := HF.out w' hw'
    go_simp
  simp only [Act.put, List.setIfInBounds_toArray, List.set_cons_zero, List.set_cons_succ]
  refine Mx.m_call 68 #[.slice ao W.length cap, y.val] (Mx.wanted_none rfl) ?_ ?_
  · unfold Wt.val
    go_simp
  refine (contains_any _ ao cap W (HW.out.below HBV.out) (by omega) y).mono ?_
  rintro e w1 ⟨rfl, hb⟩
  have HV1 := hidC (HBV.out.trans (hb.mono HBV.out.size))
  refine ⟨_, rfl, HV1.out, ?_⟩
  clear hb
  simp only [Act.put, List.setIfInBounds_toArray, List.set_cons_zero, List.set_cons_succ]
  refine Mx.m_pure (.bool (!decide (y ∈ W))) (Mx.wanted_none rfl) (fun w' hw' => ?_) ?_
  · go_simp
  simp only [Act.put, List.setIfInBounds_toArray, List.set_cons_zero, List.set_cons_succ]
  refine Mx.m_nil (fun _ => ?_)
  have HB1 := hidC (HBA.out.trans (HV1.out.mono HBA.out.size))
  by_cases hy : y ∈ W
  · have HP : Hid (putW W y = W) := by unfold Hid putW; rw [if_pos hy]
    rw [decide_eq_true hy]
    clear hy
    go_wp2_with fail
    go_end0
    rw [HP.out]
    exact ⟨rfl, ⟨⟨_, _, HR.out.below HV1.out⟩, HB0.out.trans (HB1.out.mono HB0.out.size)⟩, Kept.of_below HB1.out⟩
  · have HP : Hid (putW W y = W ++ [y]) := by unfold Hid putW; rw [if_neg hy]
    rw [decide_eq_false hy]
    clear hy
    go_wp2_with fail
    have HD := hidC (HV1.out.trans ((below_drew (Below.refl w1.heap.size w1)).mono HV1.out.size))
    have HRD := hidC (HR.out.below HD.out)
    have HYD : Hid (w1.drew.heap[w.heap.size]? = some (.cells #[.bool y.ch, .string y.name, .string y.label, .int .i64 y.day, .int .i64 y.side] 58)) := (HD.out.block _ (Array.getElem?_eq_some_iff.1 HY.out).1).trans HY.out
    have HB2 : Hid (Below w.heap.size w w1.drew) := HBA.out.trans (HD.out.mono HBA.out.size)
    have HFC : Hid (∀ w' : World, (w'.cell? ⟨a, 3, none⟩ = some (.slice ao W.length cap) ∧ w'.heap[w.heap.size]? = some (.cells #[.bool y.ch, .string y.name, .string y.label, .int .i64 y.day, .int .i64 y.side] 58)) → w'.cell? ⟨a, 3, none⟩ = some (.slice ao W.length cap) ∧ w'.cell? ⟨w.heap.size, 0, none⟩ = some (.bool y.ch) ∧ w'.cell? ⟨w.heap.size, 1, none⟩ = some (.string y.name) ∧ w'.cell? ⟨w.heap.size, 2, none⟩ = some (.string y.label) ∧ w'.cell? ⟨w.heap.size, 3, none⟩ = some (.int .i64 y.day) ∧ w'.cell? ⟨w.heap.size, 4, none⟩ = some (.int .i64 y.side)) := fun w' hw' =>
      ⟨hw'.1, cell_of_row _ _ 0 _ _ _ hw'.2, cell_of_row _ _ 1 _ _ _ hw'.2, cell_of_row _ _ 2 _ _ _ hw'.2, cell_of_row _ _ 3 _ _ _ hw'.2, cell_of_row _ _ 4 _ _ _ hw'.2⟩
    refine Mx.wp_region_mix5 (fun w' => w'.cell? ⟨a, 3, none⟩ = some (.slice ao W.length cap) ∧ w'.heap[w.heap.size]? = some (.cells #[.bool y.ch, .string y.name, .string y.label, .int .i64 y.day, .int .i64 y.side] 58)) 10 [(0, false), (1, false), (2, false), (3, false), (4, false), (5, false), (6, true), (7, true), (8, true), (9, true), (10, true)] (by kernel_rfl) (by kernel_rfl) ⟨HRD.out.cell3 (twoA id p), HYD.out⟩ ?_ (by kernel_rfl)
    simp only [List.map_cons, List.map_nil, List.getD_cons_zero, List.getD_cons_succ]
    generalize hops : (#[_, _, _, _, _, _, _, _, _, _, _] : Array Oper) = ops
    clear hops
    refine Mx.l_pure (.pointer (some ⟨a, 0, none⟩)) (by decide) (Mx.wanted_none rfl) (fun w' hw' => ?_) ?_
    · go_simp
    simp only [Act.put, List.setIfInBounds_toArray, List.set_cons_zero, List.set_cons_succ]
    refine Mx.l_pure (.pointer (some ⟨a, 0, none⟩)) (by decide) (Mx.wanted_none rfl) (fun w' hw' => ?_) ?_
    · go_simp
    simp only [Act.put, List.setIfInBounds_toArray, List.set_cons_zero, List.set_cons_succ]
    refine Mx.l_pure (.pointer (some ⟨a, 0, none⟩)) (by decide) (Mx.wanted_none rfl) (fun w' hw' => ?_) ?_
    · go_simp
    simp only [Act.put, List.setIfInBounds_toArray, List.set_cons_zero, List.set_cons_succ]
    refine Mx.l_pure (.pointer (some ⟨a, 3, none⟩)) (by decide) (Mx.wanted_none rfl) (fun w' hw' => ?_) ?_
    · go_simp
    simp only [Act.put, List.setIfInBounds_toArray, List.set_cons_zero, List.set_cons_succ]
    refine Mx.l_pure (.slice ao W.length cap) (by decide) (Mx.wanted_none rfl) (fun w' hw' => ?_) ?_
    · obtain ⟨q0, q1, q2, q3, q4, q5⟩ := HFC.out w' hw'
      go_simp
    simp only [Act.put, List.setIfInBounds_toArray, List.set_cons_zero, List.set_cons_succ]
    refine Mx.l_pure (.agg #[.bool y.ch, .string y.name, .string y.label, .int .i64 y.day, .int .i64 y.side]) (by decide) (Mx.wanted_none rfl) (fun w' hw' => ?_) ?_
    · obtain ⟨q0, q1, q2, q3, q4, q5⟩ := HFC.out w' hw'
      go_simp
    simp only [Act.put, List.setIfInBounds_toArray, List.set_cons_zero, List.set_cons_succ]
    generalize hX : w1.drew = X at *
    clear hX
    have HB3 := hidC (below_alloc (Below.refl X.heap.size X) (.cells #[.bool y.ch, .string y.name, .string y.label, .int .i64 y.day, .int .i64 y.side] 58))
    have HRA := hidC (HRD.out.below HB3.out)
    have HYA : Hid ((X.alloc (.cells #[.bool y.ch, .string y.name, .string y.label, .int .i64 y.day, .int .i64 y.side] 58)).heap[w.heap.size]? = some (.cells #[.bool y.ch, .string y.name, .string y.label, .int .i64 y.day, .int .i64 y.side] 58)) := (HB3.out.block _ (Array.getElem?_eq_some_iff.1 HYD.out).1).trans HYD.out
    refine Mx.l_run (.slice (some ⟨X.heap.size, 0, none⟩) 1 1) (Mx.wanted_none rfl) (w' := X.alloc (.cells #[.bool y.ch, .string y.name, .string y.label, .int .i64 y.day, .int .i64 y.side] 58)) ?_ ⟨HRA.out.cell3 (twoA id p), HYA.out⟩ ?_
    · go_simp
    simp only [Act.put, List.setIfInBounds_toArray, List.set_cons_zero, List.set_cons_succ]
    have hB0 : w0.heap.size ≤ (X.alloc (.cells #[.bool y.ch, .string y.name, .string y.label, .int .i64 y.day, .int .i64 y.side] 58)).heap.size := Nat.le_trans HB0.out.size (Nat.le_trans HB2.out.size HB3.out.size)
    obtain ⟨v', w4, hrun, hc3, hf3, ⟨ao2, cap2, hv'⟩, hg, k1, k2⟩ := HRA.out.pushW (twoA id p) (by decide) (by decide) hB0 hl y X.heap.size (heap_alloc_new _ _) 34
    have HK1 := hidC k1
    have HK2 := hidC k2
    have HKP : Hid (Kept a (X.alloc (.cells #[.bool y.ch, .string y.name, .string y.label, .int .i64 y.day, .int .i64 y.side] 58)) (w4.setCell ⟨a, 3, none⟩ v')) := Kept.grown HRA.out.rw' (.inr rfl) hg
    have HY4 : Hid (w4.heap[w.heap.size]? = some (.cells #[.bool y.ch, .string y.name, .string y.label, .int .i64 y.day, .int .i64 y.side] 58)) := (hg.block _ (Array.getElem?_eq_some_iff.1 HYA.out).1 (fun e => by have := HLT.out _ e.symm; omega)).trans HYA.out
    clear hg k1 k2
    generalize X.alloc (.cells #[.bool y.ch, .string y.name, .string y.label, .int .i64 y.day, .int .i64 y.side] 58) = w3 at *
    refine Mx.l_run v' (Mx.wanted_none rfl) (w' := w4) ?_ ⟨hc3, HY4.out⟩ ?_
    · simp [execOp, resolve, invoke, builtin, Act.eval, hrun]
    clear hrun
    subst hv'
    simp only [Act.put, List.setIfInBounds_toArray, List.set_cons_zero, List.set_cons_succ]
    refine Mx.l_run (.pointer (some ⟨a, 0, none⟩)) (Mx.wanted_none rfl) (w' := w4) ?_ ⟨hc3, HY4.out⟩ ?_
    · go_simp
    simp only [Act.put, List.setIfInBounds_toArray, List.set_cons_zero, List.set_cons_succ]
    refine Mx.l_run (.pointer (some ⟨a, 3, none⟩)) (Mx.wanted_none rfl) (w' := w4) ?_ ⟨hc3, HY4.out⟩ ?_
    · go_simp
    simp only [Act.put, List.setIfInBounds_toArray, List.set_cons_zero, List.set_cons_succ]
    refine Mx.l_last (w' := w4.setCell ⟨a, 3, none⟩ (.slice ao2 (W.length + 1) cap2)) (Mx.wanted_none rfl) ?_ ?_
    · go_simp
    simp only [Act.put]
    generalize w4.setCell ⟨a, 3, none⟩ (.slice ao2 (W.length + 1) cap2) = w5 at *
    clear hc3 hf3
    go_wp2_with fail
    go_end0
    rw [HP.out]
    have h1 : Below w.heap.size w w3 := HB2.out.trans (HB3.out.mono HB2.out.size)
    exact ⟨rfl, ⟨⟨_, _, HK1.out⟩, (HB0.out.trans (h1.mono HB0.out.size)).trans HK2.out⟩, (Kept.of_below h1).trans HKP.out⟩

end Go.Proofs.Ytngjlkdpplmpaab.Ca
namespace Go.Proofs.Ytngjlkdpplmpaab.Ca
open Go.RowKit Wd Cn Vl
set_option linter.unusedVariables false

/-- What a walk knows: the program's world in memory, what is known, the contract's name. -/
structure Env (w0 : World) (p f c : Nat) (K : KW) (id : ByteArray) : Prop where
  kin : KIn w0 p f c K
  vals : KW.Vals K
  chs : KW.Chs K
  idl : id.size ≤ 1000000
def numW (K : KW) (d : Int) (o : O) : List Wt := if (rk K d o).e ≠ 0 then [] else if (rk K d o).known = true then [] else waitN K d o
theorem addW_snoc (W ys : List Wt) (y : Wt) : addW W (ys ++ [y]) = putW (addW W ys) y := by rw [addW_app]; rfl
theorem chk_sz {o : O} (h : chk o = 0) : formB o = true ∧ o.nodes ≤ 60 := by
  unfold chk at h
  split at h
  · rename_i h1
    split at h
    · cases h
    · exact ⟨h1, by omega⟩
  · cases h

set_option maxHeartbeats 2000000 in
set_option maxRecDepth 100000 in
theorem number_any {w0 : World} {p f c : Nat} {K : KW} {id : ByteArray} (hE : Env w0 p f c K id) (w : World) (a : Nat) (F : List Fl) (W : List Wt) (h : StA w0 w a id p F W) (hl : W.length ≤ 60000) (o : O) (hok : o.Ok) (hc : chk o = 0) (d : Int) (hd : dayOk d) :
    Calls Try.prog 56 #[.pointer (some ⟨a, 0, none⟩), o.val, .int .i64 d] w fun e w' => e = ofE (rk K d o) ∧ StA w0 w' a id p F (addW W (numW K d o)) ∧ Kept a w w' := by
  obtain ⟨hf, hnd⟩ := chk_sz hc
  have HK := hidC hE.kin
  have HG := hidC (rk_good hE.vals d o hf)
  have HS := hidC h
  obtain ⟨⟨vF, vW, hin⟩, hb0⟩ := h
  have HB0 := hidC hb0
  have c1 : w.cell? ⟨a, 1, none⟩ = some (.pointer (some ⟨p, 0, none⟩)) := cell_blk hin.blk rfl
  have HC1 : Hid (∀ w', Below w.heap.size w w' → w'.cell? ⟨a, 1, none⟩ = some (.pointer (some ⟨p, 0, none⟩))) := fun w' hw' => cell_blk (hin.below hw').blk rfl
  have HOF : Hid (ofR K d o = rk K d o) := Vl.ofR_ok hc
  have HNE : Hid (needR K d o = lackN K d o.names) := by unfold Hid needR; rw [if_pos hc]
  have HLEN := hidC (lackN_len K d o)
  have HOK := hidC hok
  clear hin hb0 hE
  go_enter Try.func56, Try.ntmps56
  go_wp2_with fail
  refine (of_any o hok (by omega) w p f c K d (HK.out.below HB0.out) hd).mono ?_
  rintro e w1 ⟨rfl, hb1⟩
  have HB1 := hidC hb1
  have HS1 := hidC (HS.out.step hb1)
  have c1' := HC1.out w1 hb1
  rw [HOF.out]
  unfold ofE
  clear hb1 c1 hok
  by_cases he : (rk K d o).e = 0
  · by_cases hk : (rk K d o).known = true
    · have HN : Hid (numW K d o = []) := by unfold Hid numW; rw [if_neg (by simpa using he), if_pos hk]
      have HX : Hid (ofE (rk K d o) = Ending.returned (.tuple #[.int .i64 (rk K d o).n, .bool true, .int .i64 0])) := by unfold Hid ofE; rw [he, hk]
      rw [he, hk]
      generalize (rk K d o).n = n at *
      go_wp2_with fail
      go_ret3
      rw [HX.out, HN.out]
      exact ⟨rfl, HS1.out, Kept.of_below HB1.out⟩
    · have HN : Hid (numW K d o = waitN K d o) := by unfold Hid numW; rw [if_neg (by simpa using he), if_neg hk]
      have hk' : (rk K d o).known = false := by simpa using hk
      have hn0 := HG.out.unk hk'
      have HX : Hid (ofE (rk K d o) = Ending.returned (.tuple #[.int .i64 0, .bool false, .int .i64 0])) := by unfold Hid ofE; rw [he, hk', hn0]
      rw [he, hk', hn0]
      clear he hk hk' hn0 HG
      go_wp2_with fail
      refine (needs_any o HOK.out (by omega) w1 p f c K d ((HK.out.below HB0.out).below HB1.out) hd).mono ?_
      rintro e w2 ⟨v2, rfl, hown, hb2⟩
      rw [HNE.out] at hown
      have HS2 := hidC (HS1.out.step hb2)
      have HKP2 := hidC (Kept.of_below (a := a) (HB1.out.trans (hb2.mono HB1.out.size)))
      obtain ⟨ao, cap, rfl⟩ := row_shape hown
      have HOWN := hidC hown
      have hll : (lackN K d o.names).length ≤ 60 := by
        have := HLEN.out
        unfold waitN at this
        rw [List.length_map] at this
        omega
      clear hown hb2 c1'
      have HN2 : Hid (numW K d o = (lackN K d o.names).map (nameW d)) := HN.out
      clear HN
      generalize lackN K d o.names = l at *
      go_wp2_with fail
      go_loopw [38] (fun s38 wr => ∃ i : Nat, i ≤ l.length ∧ s38 = .int .i64 i ∧ StA w0 wr a id p F (addW W ((l.take i).map (nameW d))) ∧ Kept a w wr ∧ wr.ownsRow w1.heap.size 9 1 (.slice ao l.length cap) l.length (strCells l)) (fun s38 _ => l.length - (intOf s38).toNat)
      case atStart => exact ⟨0, by omega, rfl, HS2.out, HKP2.out, HOWN.out⟩
      case round =>
        obtain ⟨i, hi, rfl, hs, hkp, hrow⟩ := hrel
        have HSR := hidC hs
        have HKR := hidC hkp
        have HROW := hidC hrow
        clear hs hkp hrow
        by_cases hlt : i < l.length
        · have hlt' : (i : Int) < (l.length : Int) := by omega
          obtain ⟨ao', cap', he, hcl, _⟩ := own_str HROW.out
          simp only [Value.slice.injEq] at he
          obtain ⟨rfl, -, -⟩ := he
          obtain ⟨g, rfl, hg, hcell⟩ := hcl i hlt
          have HT : Hid (addW W ((l.take (i + 1)).map (nameW d)) = putW (addW W ((l.take i).map (nameW d))) (nameW d l[i])) := by
            unfold Hid
            rw [take_more l i l[i] (List.getElem?_eq_getElem hlt), List.map_append]
            exact addW_snoc _ _ _
          have hal : (addW W ((l.take i).map (nameW d))).length ≤ 100000 := by
            have h1 := addW_len ((l.take i).map (nameW d)) W
            rw [List.length_map, List.length_take] at h1
            omega
          clear hcl
          generalize l[i] = s at *
          generalize addW W ((l.take i).map (nameW d)) = W' at *
          have HWT := hidC (wait_any w0 wr a id p F W' HSR.out hal (nameW d s))
          unfold nameW Wt.val at HWT
          simp only at HWT
          go_wp2_with fail
          refine HWT.out.mono ?_
          rintro e w4 ⟨rfl, hs4, hk4⟩
          have HS4 : Hid (StA w0 w4 a id p F (putW W' (nameW d s))) := hs4
          have HK4 := hidC (HKR.out.trans hk4)
          have HR4 := hidC (hk4.row HROW.out (HSR.out.at_row HROW.out (by decide)) (by decide) (by decide))
          clear hs4 hk4 hcell
          go_wp2_with fail
          go_roundw
          case rel => exact ⟨i + 1, by omega, by go_num, by rw [HT.out]; exact HS4.out, HK4.out, HR4.out⟩
          case measure => simp [intOf] <;> omega
        · have hle : i = l.length := by omega
          subst hle
          rw [List.take_length] at HSR
          go_wp2_with fail
          go_ret3
          rw [HX.out, HN2.out]
          exact ⟨rfl, HSR.out, HKR.out⟩
  · have HN : Hid (numW K d o = []) := by unfold Hid numW; rw [if_pos he]
    have hk' := (HG.out.err he).2
    have he' : ((rk K d o).e != 0) = true := by simpa using he
    have HX : Hid (ofE (rk K d o) = Ending.returned (.tuple #[.int .i64 (rk K d o).n, .bool false, .int .i64 (rk K d o).e])) := by unfold Hid ofE; rw [hk']
    rw [hk']
    generalize (rk K d o).n = n at *
    generalize (rk K d o).e = e6 at *
    go_wp2_with fail
    go_ret3
    rw [HX.out, HN.out]
    exact ⟨rfl, HS1.out, Kept.of_below HB1.out⟩

end Go.Proofs.Ytngjlkdpplmpaab.Ca
namespace Go.Proofs.Ytngjlkdpplmpaab.Ca
open Go.RowKit Wd Cn Vl
set_option linter.unusedVariables false

/-- What a call of the walk does at a contract's value: its error, what it met. -/
def ThF (g : FuncId) (w0 : World) (a : Nat) (id : ByteArray) (p : Nat) (v : Value) (r : Int → Int → Ck) (n : Nat) : Prop := ∀ (w : World) (F : List Fl) (W : List Wt) (d k : Int), StA w0 w a id p F W → 0 ≤ d → d ≤ 10000 → vB k = true → k ≠ 0 → F.length + n ≤ 50000 → W.length + n ≤ 50000 →
  Calls Try.prog g #[.pointer (some ⟨a, 0, none⟩), v, .int .i64 d, .int .i64 k] w fun e w' => e = .returned (.int .i64 (r d k).e) ∧ StA w0 w' a id p (F ++ (r d k).f) (addW W (r d k).w) ∧ Kept a w w'
def ThC (w0 : World) (a : Nat) (id : ByteArray) (p : Nat) (K : KW) (c : C) : Prop := ThF 15 w0 a id p c.val (ck K id c) c.weight
theorem form_val (c : C) (h : formC c = true) : ∃ t x, c.val = .iface t x := by
  cases c <;> first | exact ⟨_, _, rfl⟩ | simp [formC] at h
theorem assert_one {P : Program} {t : TypeId} {u : TypeDesc} (hu : P.underlying t = some u) (hn : ∀ m, u ≠ .interface m) (v : Value) (xT : TypeId) (w : World) :
    (Instr.typeAssert (.iface t v) xT t false).run P w = .ok v w := by
  cases u <;> first | (exfalso; exact hn _ rfl) | simp [Instr.typeAssert, run_underlying hu]
theorem isIf1 (v : Value) (xT : TypeId) (w : World) : (Instr.typeAssert (.iface 79 v) xT 79 false).run Try.prog w = .ok v w := assert_one Try.underlying79 (by intro m h; cases h) v xT w
theorem negR_ok {k : Int} (h : vB k = true) : negR k = (-k, true) := by unfold negR; rw [if_pos h]
theorem vB_i64 {k : Int} (h : vB k = true) : -1000000000000 ≤ k ∧ k ≤ 1000000000000 := (vB_iff k).1 h

set_option maxHeartbeats 2000000 in
set_option maxRecDepth 100000 in
theorem th_zero (w0 : World) (a : Nat) (id : ByteArray) (p : Nat) (K : KW) : ThC w0 a id p K .zero := by
  intro w F W d k hs hd1 hd2 hv hk hlf hlw
  have HS := hidC hs
  have h0 := fun v xT w => isZero v xT w
  have HQ : Hid (ck K id .zero d k = ⟨[], [], 0⟩) := rfl
  clear hs
  unfold C.val
  go_enter Try.func15, Try.ntmps15
  go_wp2_with fail
  go_ret
  rw [HQ.out, List.append_nil]
  exact ⟨rfl, HS.out.step (below_alloc (Below.refl _ _) _), Kept.of_below (below_alloc (Below.refl _ _) _)⟩

set_option maxHeartbeats 2000000 in
set_option maxRecDepth 100000 in
theorem th_one (w0 : World) (a : Nat) (id : ByteArray) (p : Nat) (K : KW) (s : ByteArray) : ThC w0 a id p K (.one s) := by
  intro w F W d k hs hd1 hd2 hv hk hlf hlw
  have HS := hidC hs
  have h0 := fun v xT w => notZero 26 v xT w (by decide)
  have h1 := fun v xT w => isOne v xT w
  have HQ : Hid (ck K id (.one s) d k = ⟨[⟨d, s, k⟩], [], 0⟩) := rfl
  obtain ⟨⟨vF, vW, hin⟩, hb0⟩ := hs
  have HB0 := hidC hb0
  have HB1 := hidC (below_drew (below_alloc (Below.refl w.heap.size w) (.cells #[.string s] 26)))
  have HR := hidC (hin.below HB1.out)
  have HX : Hid ((w.alloc (.cells #[.string s] 26)).drew.heap[w.heap.size]? = some (.cells #[.string s] 26)) := heap_alloc_new _ _
  obtain ⟨ao, cap, hvF⟩ := row_shape hin.rf
  have hFl : F.length ≤ 100000 := by omega
  have HHK := hidC (And.intro hv hk)
  clear hin hb0 hv hk
  subst hvF
  unfold C.val
  go_enter Try.func15, Try.ntmps15
  go_wp2_with fail
  generalize w.alloc (.cells #[.string s] 26) = V at *
  have HFC : Hid (∀ w' : World, (w'.cell? ⟨a, 2, none⟩ = some (.slice ao F.length cap) ∧ w'.heap[w.heap.size]? = some (.cells #[.string s] 26)) → w'.cell? ⟨a, 2, none⟩ = some (.slice ao F.length cap) ∧ w'.cell? ⟨w.heap.size, 0, none⟩ = some (.string s)) := fun w' hw' =>
    ⟨hw'.1, cell_of_row _ _ 0 _ _ _ hw'.2⟩
  refine Mx.wp_region_mix5 (fun w' => w'.cell? ⟨a, 2, none⟩ = some (.slice ao F.length cap) ∧ w'.heap[w.heap.size]? = some (.cells #[.string s] 26)) 14 [(0, false), (1, false), (2, false), (3, false), (4, false), (5, false), (6, false), (7, false), (8, false), (9, false), (10, true), (11, true), (12, true), (13, true), (14, true)] (by kernel_rfl) (by kernel_rfl) ⟨HR.out.cell2 (twoA id p), HX.out⟩ ?_ (by kernel_rfl)
  simp only [List.map_cons, List.map_nil, List.getD_cons_zero, List.getD_cons_succ]
  generalize hops : (#[_, _, _, _, _, _, _, _, _, _, _, _, _, _, _] : Array Oper) = ops
  clear hops
  refine Mx.l_pure (.pointer (some ⟨a, 0, none⟩)) (by decide) (Mx.wanted_none rfl) (fun w' hw' => ?_) ?_
  · go_simp
  simp only [Act.put, List.setIfInBounds_toArray, List.set_cons_zero, List.set_cons_succ]
  refine Mx.l_pure (.pointer (some ⟨a, 0, none⟩)) (by decide) (Mx.wanted_none rfl) (fun w' hw' => ?_) ?_
  · go_simp
  simp only [Act.put, List.setIfInBounds_toArray, List.set_cons_zero, List.set_cons_succ]
  refine Mx.l_pure (.pointer (some ⟨a, 0, none⟩)) (by decide) (Mx.wanted_none rfl) (fun w' hw' => ?_) ?_
  · go_simp
  simp only [Act.put, List.setIfInBounds_toArray, List.set_cons_zero, List.set_cons_succ]
  refine Mx.l_pure (.pointer (some ⟨a, 2, none⟩)) (by decide) (Mx.wanted_none rfl) (fun w' hw' => ?_) ?_
  · go_simp
  simp only [Act.put, List.setIfInBounds_toArray, List.set_cons_zero, List.set_cons_succ]
  refine Mx.l_pure (.slice ao F.length cap) (by decide) (Mx.wanted_none rfl) (fun w' hw' => ?_) ?_
  · obtain ⟨q0, q1⟩ := HFC.out w' hw'
    go_simp
  simp only [Act.put, List.setIfInBounds_toArray, List.set_cons_zero, List.set_cons_succ]
  refine Mx.l_pure (.int .i64 d) (by decide) (Mx.wanted_none rfl) (fun w' hw' => ?_) ?_
  · go_simp
  simp only [Act.put, List.setIfInBounds_toArray, List.set_cons_zero, List.set_cons_succ]
  refine Mx.l_pure (.pointer (some ⟨w.heap.size, 0, none⟩)) (by decide) (Mx.wanted_none rfl) (fun w' hw' => ?_) ?_
  · go_simp
  simp only [Act.put, List.setIfInBounds_toArray, List.set_cons_zero, List.set_cons_succ]
  refine Mx.l_pure (.string s) (by decide) (Mx.wanted_none rfl) (fun w' hw' => ?_) ?_
  · obtain ⟨q0, q1⟩ := HFC.out w' hw'
    go_simp
  simp only [Act.put, List.setIfInBounds_toArray, List.set_cons_zero, List.set_cons_succ]
  refine Mx.l_pure (.int .i64 k) (by decide) (Mx.wanted_none rfl) (fun w' hw' => ?_) ?_
  · go_simp
  simp only [Act.put, List.setIfInBounds_toArray, List.set_cons_zero, List.set_cons_succ]
  refine Mx.l_pure (.agg #[.int .i64 d, .string s, .int .i64 k]) (by decide) (Mx.wanted_none rfl) (fun w' hw' => ?_) ?_
  · go_simp
  simp only [Act.put, List.setIfInBounds_toArray, List.set_cons_zero, List.set_cons_succ]
  generalize hX : V.drew = X at *
  clear hX
  have HB3 := hidC (below_alloc (Below.refl X.heap.size X) (.cells #[.int .i64 d, .string s, .int .i64 k] 42))
  have HRA := hidC (HR.out.below HB3.out)
  have HXA : Hid ((X.alloc (.cells #[.int .i64 d, .string s, .int .i64 k] 42)).heap[w.heap.size]? = some (.cells #[.string s] 26)) := (HB3.out.block _ (Array.getElem?_eq_some_iff.1 HX.out).1).trans HX.out
  refine Mx.l_run (.slice (some ⟨X.heap.size, 0, none⟩) 1 1) (Mx.wanted_none rfl) (w' := X.alloc (.cells #[.int .i64 d, .string s, .int .i64 k] 42)) ?_ ⟨HRA.out.cell2 (twoA id p), HXA.out⟩ ?_
  · go_simp
  simp only [Act.put, List.setIfInBounds_toArray, List.set_cons_zero, List.set_cons_succ]
  have hB0 : w0.heap.size ≤ (X.alloc (.cells #[.int .i64 d, .string s, .int .i64 k] 42)).heap.size := Nat.le_trans HB0.out.size (Nat.le_trans HB1.out.size HB3.out.size)
  obtain ⟨v', w4, hrun, hc3, hf3, ⟨ao2, cap2, hv'⟩, hg, k1, k2⟩ := HRA.out.pushF (twoA id p) (by decide) (by decide) hB0 hFl ⟨d, s, k⟩ X.heap.size (heap_alloc_new _ _) 33
  have HK1 := hidC k1
  have HK2 := hidC k2
  have HKP : Hid (Kept a (X.alloc (.cells #[.int .i64 d, .string s, .int .i64 k] 42)) (w4.setCell ⟨a, 2, none⟩ v')) := Kept.grown HRA.out.rf (.inl rfl) hg
  have HX4 : Hid (w4.heap[w.heap.size]? = some (.cells #[.string s] 26)) := (hg.block _ (Array.getElem?_eq_some_iff.1 HXA.out).1 (fun e => by
    obtain ⟨cs, hc⟩ := row_block HRA.out.rf e.symm
    have := HXA.out
    rw [hc] at this
    injection this with e1
    injection e1 with _ e1
    exact absurd e1 (by decide))).trans HXA.out
  clear hg k1 k2
  generalize X.alloc (.cells #[.int .i64 d, .string s, .int .i64 k] 42) = w3 at *
  refine Mx.l_run v' (Mx.wanted_none rfl) (w' := w4) ?_ ⟨hc3, HX4.out⟩ ?_
  · simp [execOp, resolve, invoke, builtin, Act.eval, hrun]
  clear hrun
  subst hv'
  simp only [Act.put, List.setIfInBounds_toArray, List.set_cons_zero, List.set_cons_succ]
  refine Mx.l_run (.pointer (some ⟨a, 0, none⟩)) (Mx.wanted_none rfl) (w' := w4) ?_ ⟨hc3, HX4.out⟩ ?_
  · go_simp
  simp only [Act.put, List.setIfInBounds_toArray, List.set_cons_zero, List.set_cons_succ]
  refine Mx.l_run (.pointer (some ⟨a, 2, none⟩)) (Mx.wanted_none rfl) (w' := w4) ?_ ⟨hc3, HX4.out⟩ ?_
  · go_simp
  simp only [Act.put, List.setIfInBounds_toArray, List.set_cons_zero, List.set_cons_succ]
  refine Mx.l_last (w' := w4.setCell ⟨a, 2, none⟩ (.slice ao2 (F.length + 1) cap2)) (Mx.wanted_none rfl) ?_ ?_
  · go_simp
  simp only [Act.put]
  generalize w4.setCell ⟨a, 2, none⟩ (.slice ao2 (F.length + 1) cap2) = w5 at *
  clear hc3 hf3
  go_wp2_with fail
  go_ret
  have h1 : Below w.heap.size w w3 := HB1.out.trans (HB3.out.mono HB1.out.size)
  rw [HQ.out]
  exact ⟨rfl, ⟨⟨_, _, HK1.out⟩, (HB0.out.trans (h1.mono HB0.out.size)).trans HK2.out⟩, (Kept.of_below h1).trans HKP.out⟩

set_option maxHeartbeats 2000000 in
set_option maxRecDepth 100000 in
theorem th_give (w0 : World) (a : Nat) (id : ByteArray) (p : Nat) (K : KW) (c : C) (hf : formC c = true) (ih : ThC w0 a id p K c) : ThC w0 a id p K (.give c) := by
  intro w F W d k hs hd1 hd2 hv hk hlf hlw
  have HS := hidC hs
  have h0 := fun v xT w => notZero 32 v xT w (by decide)
  have h1 := fun v xT w => notOne 32 v xT w (by decide)
  have h2 := fun v xT w => isGive v xT w
  have HQ : Hid (ck K id (.give c) d k = ck K id c d (-k)) := rfl
  obtain ⟨t, x, he⟩ := form_val c hf
  unfold ThC at ih
  rw [he] at ih
  have HI := hidC ih
  have hng := negR_ok hv
  have HN : Hid (Calls Try.prog 29 #[.int .i64 k] (w.alloc (.cells #[.iface t x] 32)) fun e w' => e = .returned (.tuple #[.int .i64 (-k), .bool true]) ∧ w' = w.alloc (.cells #[.iface t x] 32)) := by
    have := neg_any k (w.alloc (.cells #[.iface t x] 32))
    rw [hng] at this
    exact this
  have HV := hidC (vB_neg k hv)
  simp only [C.weight] at hlf hlw
  clear hs ih hng hv
  unfold C.val
  rw [he]
  clear he
  go_enter Try.func15, Try.ntmps15
  go_wp2_with fail
  refine calls_same HN.out ?_
  go_wp2_with fail
  refine (HI.out _ F W d (-k) (HS.out.step (below_alloc (Below.refl _ _) _)) hd1 hd2 HV.out (by omega) (by omega) (by omega)).mono ?_
  rintro e w2 ⟨rfl, hs2, hk2⟩
  have HS2 := hidC hs2
  have HK2 := hidC hk2
  clear hs2 hk2
  go_wp2_with fail
  go_ret
  rw [HQ.out]
  exact ⟨rfl, HS2.out, (Kept.of_below (below_alloc (Below.refl _ _) _)).trans HK2.out⟩

set_option maxHeartbeats 2000000 in
set_option maxRecDepth 100000 in
theorem th_when (w0 : World) (a : Nat) (id : ByteArray) (p : Nat) (K : KW) (d' : Int) (c : C) (hf : formC (.when d' c) = true) (ih : ThC w0 a id p K c) : ThC w0 a id p K (.when d' c) := by
  intro w F W d k hs hd1 hd2 hv hk hlf hlw
  have HS := hidC hs
  have h0 := fun v xT w => notZero 61 v xT w (by decide)
  have h1 := fun v xT w => notOne 61 v xT w (by decide)
  have h2 := fun v xT w => notGive 61 v xT w (by decide)
  have h3 := fun v xT w => notAnd 61 v xT w (by decide)
  have h4 := fun v xT w => notOr 61 v xT w (by decide)
  have h5 := fun v xT w => notScale 61 v xT w (by decide)
  have h6 := fun v xT w => isWhen v xT w
  have HQ : Hid (ck K id (.when d' c) d k = ck K id c (Max.max d d') k) := rfl
  simp only [formC, Bool.and_eq_true] at hf
  obtain ⟨g1, g2⟩ := (dayB_iff d').1 hf.1
  obtain ⟨t, x, he⟩ := form_val c hf.2
  unfold ThC at ih
  rw [he] at ih
  have HI := hidC ih
  simp only [C.weight] at hlf hlw
  have HHK := hidC (And.intro hv hk)
  clear hs ih hf hv hk
  unfold C.val
  rw [he]
  clear he
  rcases Int.lt_or_le d d' with hm | hm
  · have HM : Hid (Max.max d d' = d') := by unfold Hid; omega
    rw [HM.out] at HQ
    go_enter Try.func15, Try.ntmps15
    go_wp2_with fail
    refine (HI.out _ F W d' k (HS.out.step (below_alloc (Below.refl _ _) _)) g1 g2 HHK.out.1 HHK.out.2 (by omega) (by omega)).mono ?_
    rintro e w2 ⟨rfl, hs2, hk2⟩
    have HS2 := hidC hs2
    have HK2 := hidC hk2
    clear hs2 hk2
    go_wp2_with fail
    go_ret
    rw [HQ.out]
    exact ⟨rfl, HS2.out, (Kept.of_below (below_alloc (Below.refl _ _) _)).trans HK2.out⟩
  · have HM : Hid (Max.max d d' = d) := by unfold Hid; omega
    rw [HM.out] at HQ
    go_enter Try.func15, Try.ntmps15
    go_wp2_with fail
    refine (HI.out _ F W d k (HS.out.step (below_alloc (Below.refl _ _) _)) hd1 hd2 HHK.out.1 HHK.out.2 (by omega) (by omega)).mono ?_
    rintro e w2 ⟨rfl, hs2, hk2⟩
    have HS2 := hidC hs2
    have HK2 := hidC hk2
    clear hs2 hk2
    go_wp2_with fail
    go_ret
    rw [HQ.out]
    exact ⟨rfl, HS2.out, (Kept.of_below (below_alloc (Below.refl _ _) _)).trans HK2.out⟩

set_option maxHeartbeats 2000000 in
set_option maxRecDepth 100000 in
theorem th_and (w0 : World) (a : Nat) (id : ByteArray) (p : Nat) (K : KW) (l r : C) (hfl : formC l = true) (hfr : formC r = true) (ihl : ThC w0 a id p K l) (ihr : ThC w0 a id p K r) : ThC w0 a id p K (.and l r) := by
  intro w F W d k hs hd1 hd2 hv hk hlf hlw
  have HS := hidC hs
  have h0 := fun v xT w => notZero 76 v xT w (by decide)
  have h1 := fun v xT w => notOne 76 v xT w (by decide)
  have h2 := fun v xT w => notGive 76 v xT w (by decide)
  have h3 := fun v xT w => isAnd v xT w
  have HQ : Hid (ck K id (.and l r) d k = (ck K id l d k).seq (ck K id r d k)) := rfl
  obtain ⟨t, x, he⟩ := form_val l hfl
  obtain ⟨t2, x2, he2⟩ := form_val r hfr
  unfold ThC at ihl ihr
  rw [he] at ihl
  rw [he2] at ihr
  have HL := hidC ihl
  have HR := hidC ihr
  have HLEN := hidC (ck_len K id l d k)
  simp only [C.weight] at hlf hlw
  have HHK := hidC (And.intro hv hk)
  clear hs ihl ihr hfl hfr hv hk
  unfold C.val
  rw [he, he2]
  clear he he2
  go_enter Try.func15, Try.ntmps15
  go_wp2_with fail
  have HBX := hidC (heap_alloc_new w (.cells #[.iface t x, .iface t2 x2] 76))
  have HS1 := hidC (HS.out.step (below_alloc (Below.refl _ _) (.cells #[.iface t x, .iface t2 x2] 76)))
  have HK1 := hidC (Kept.of_below (a := a) (below_alloc (Below.refl w.heap.size w) (.cells #[.iface t x, .iface t2 x2] 76)))
  refine (HL.out _ F W d k HS1.out hd1 hd2 HHK.out.1 HHK.out.2 (by omega) (by omega)).mono ?_
  rintro e w2 ⟨rfl, hs2, hk2⟩
  have hb2 := hk2.cells HBX.out (HS1.out.at_cells HBX.out (by decide)) (by decide) (by decide)
  have c1 : w2.cell? ⟨w.heap.size, 1, none⟩ = some (.iface t2 x2) := cell_of_row _ _ 1 _ _ _ hb2
  have HS2 := hidC hs2
  have HK2 := hidC (HK1.out.trans hk2)
  clear hs2 hk2 hb2
  generalize hA : ck K id l d k = A at *
  by_cases h0 : A.e = 0
  · have HQ2 : Hid (A.seq (ck K id r d k) = ⟨A.f ++ (ck K id r d k).f, A.w ++ (ck K id r d k).w, (ck K id r d k).e⟩) := by unfold Hid Ck.seq; rw [if_neg (by simpa using h0)]
    rw [h0]
    clear h0 hA
    go_wp2_with fail
    refine (HR.out w2 _ _ d k HS2.out hd1 hd2 HHK.out.1 HHK.out.2 (by have := HLEN.out; rw [List.length_append]; omega) (by have := HLEN.out; have := addW_len A.w W; omega)).mono ?_
    rintro e w3 ⟨rfl, hs3, hk3⟩
    have HS3 := hidC hs3
    have HK3 := hidC (HK2.out.trans hk3)
    clear hs3 hk3
    go_wp2_with fail
    go_ret
    rw [HQ.out, HQ2.out]
    simp only
    rw [← List.append_assoc, addW_app]
    exact ⟨rfl, HS3.out, HK3.out⟩
  · have HQ2 : Hid (A.seq (ck K id r d k) = A) := by unfold Hid Ck.seq; rw [if_pos h0]
    have h0' : (A.e != 0) = true := by simpa using h0
    clear hA
    go_wp2_with fail
    go_ret
    rw [HQ.out, HQ2.out]
    exact ⟨rfl, HS2.out, HK2.out⟩

end Go.Proofs.Ytngjlkdpplmpaab.Ca
namespace Go.Proofs.Ytngjlkdpplmpaab.Ca
open Go.RowKit Wd Cn Vl
set_option linter.unusedVariables false

set_option maxHeartbeats 2000000 in
set_option maxRecDepth 100000 in
theorem or_any {w0 : World} {p f c : Nat} {K : KW} {id : ByteArray} (hE : Env w0 p f c K id) (a : Nat) (s : ByteArray) (hsz : s.size ≤ 2147483648) (l r : C) (t t2 : TypeId) (x x2 : Value) (hL : ThF 15 w0 a id p (.iface t x) (ck K id l) l.weight) (hR : ThF 15 w0 a id p (.iface t2 x2) (ck K id r) r.weight) :
    ThF 30 w0 a id p (.agg #[.string s, .iface t x, .iface t2 x2]) (ck K id (.or s l r)) (C.or s l r).weight := by
  intro w F W d k hs hd1 hd2 hv hk hlf hlw
  have HE := hidC hE
  have HL := hidC hL
  have HR := hidC hR
  have HB0 := hidC hs.2
  have HBA := hidC (below_alloc (Below.refl w.heap.size w) (.cells #[.string s, .iface t x, .iface t2 x2] 65))
  have HSV := hidC (hs.step HBA.out)
  have HX := hidC (heap_alloc_new w (.cells #[.string s, .iface t x, .iface t2 x2] 65))
  have HNA := hidC (HSV.out.at_cells HX.out (by decide))
  have HHK := hidC (And.intro hv hk)
  simp only [C.weight] at hlf hlw
  clear hs hv hk hE hL hR
  go_enter Try.func30, Try.ntmps30
  go_wp2_with fail
  generalize w.alloc (.cells #[.string s, .iface t x, .iface t2 x2] 65) = V at *
  have HFC : Hid (∀ w' : World, Below V.heap.size V w' → w'.cell? ⟨a, 0, none⟩ = some (.string id) ∧ w'.cell? ⟨a, 1, none⟩ = some (.pointer (some ⟨p, 0, none⟩)) ∧ w'.cell? ⟨w.heap.size, 0, none⟩ = some (.string s)) := fun w' hw' => by
    obtain ⟨⟨vF, vW, hin⟩, _⟩ := HSV.out
    exact ⟨cell_blk (hin.below hw').blk rfl, cell_blk (hin.below hw').blk rfl, cell_of_row _ _ 0 _ _ _ ((hw'.block _ (Array.getElem?_eq_some_iff.1 HX.out).1).trans HX.out)⟩
  have HD := hidC (below_drew (Below.refl V.heap.size V))
  refine Mx.wp_region_mix (fun w' => Below V.heap.size V w') [(0, false), (1, false), (2, false), (3, false), (4, false), (5, false), (6, false), (7, false), (8, false), (9, false), (10, true), (11, false), (12, false), (13, false), (14, false), (15, false), (16, false), (17, false)] (by kernel_rfl) (by kernel_rfl) HD.out ?_ (by kernel_rfl)
  simp only [List.map_cons, List.map_nil, List.getD_cons_zero, List.getD_cons_succ]
  generalize hops : (#[_, _, _, _, _, _, _, _, _, _, _, _, _, _, _, _, _, _] : Array Oper) = ops
  clear hops
  refine Mx.m_pure (.pointer (some ⟨a, 0, none⟩)) (Mx.wanted_none rfl) (fun w' hw' => ?_) ?_
  · go_simp
  simp only [Act.put, List.setIfInBounds_toArray, List.set_cons_zero, List.set_cons_succ]
  refine Mx.m_pure (.pointer (some ⟨a, 0, none⟩)) (Mx.wanted_none rfl) (fun w' hw' => ?_) ?_
  · go_simp
  simp only [Act.put, List.setIfInBounds_toArray, List.set_cons_zero, List.set_cons_succ]
  refine Mx.m_pure (.pointer (some ⟨a, 1, none⟩)) (Mx.wanted_none rfl) (fun w' hw' => ?_) ?_
  · go_simp
  simp only [Act.put, List.setIfInBounds_toArray, List.set_cons_zero, List.set_cons_succ]
  refine Mx.m_pure (.pointer (some ⟨p, 0, none⟩)) (Mx.wanted_none rfl) (fun w' hw' => ?_) ?_
  · obtain ⟨q0, q1, q2⟩ := HFC.out w' hw'
    go_simp
  simp only [Act.put, List.setIfInBounds_toArray, List.set_cons_zero, List.set_cons_succ]
  refine Mx.m_pure (.pointer (some ⟨a, 0, none⟩)) (Mx.wanted_none rfl) (fun w' hw' => ?_) ?_
  · go_simp
  simp only [Act.put, List.setIfInBounds_toArray, List.set_cons_zero, List.set_cons_succ]
  refine Mx.m_pure (.pointer (some ⟨a, 0, none⟩)) (Mx.wanted_none rfl) (fun w' hw' => ?_) ?_
  · go_simp
  simp only [Act.put, List.setIfInBounds_toArray, List.set_cons_zero, List.set_cons_succ]
  refine Mx.m_pure (.pointer (some ⟨a, 0, none⟩)) (Mx.wanted_none rfl) (fun w' hw' => ?_) ?_
  · go_simp
  simp only [Act.put, List.setIfInBounds_toArray, List.set_cons_zero, List.set_cons_succ]
  refine Mx.m_pure (.string id) (Mx.wanted_none rfl) (fun w' hw' => ?_) ?_
  · obtain ⟨q0, q1, q2⟩ := HFC.out w' hw'
    go_simp
  simp only [Act.put, List.setIfInBounds_toArray, List.set_cons_zero, List.set_cons_succ]
  refine Mx.m_pure (.pointer (some ⟨w.heap.size, 0, none⟩)) (Mx.wanted_none rfl) (fun w' hw' => ?_) ?_
  · go_simp
  simp only [Act.put, List.setIfInBounds_toArray, List.set_cons_zero, List.set_cons_succ]
  refine Mx.m_pure (.string s) (Mx.wanted_none rfl) (fun w' hw' => ?_) ?_
  · obtain ⟨q0, q1, q2⟩ := HFC.out w' hw'
    go_simp
  simp only [Act.put, List.setIfInBounds_toArray, List.set_cons_zero, List.set_cons_succ]
  refine Mx.m_call 53 #[.pointer (some ⟨p, 0, none⟩), .string id, .string s] (Mx.wanted_none rfl) ?_ ?_
  · go_simp
  refine (chosen_any _ p f c K (HE.out.kin.below (HSV.out.2.trans (HD.out.mono HSV.out.2.size))) id s ⟨Nat.le_trans HE.out.idl (by decide), Nat.le_trans hsz (by decide)⟩).mono ?_
  rintro e w1 ⟨rfl, hb⟩
  have HV1 := hidC (HD.out.trans (hb.mono HD.out.size))
  refine ⟨_, rfl, HV1.out, ?_⟩
  clear hb
  obtain ⟨o, ho⟩ : ∃ o, K.chosen (id, s) = o := ⟨_, rfl⟩
  rw [ho]
  have HO := hidC ho
  clear ho
  simp only [Act.put, List.setIfInBounds_toArray, List.set_cons_zero, List.set_cons_succ]
  refine Mx.m_pure (.tuple #[.int .i64 (o.getD (0, 0)).1, .int .i64 (o.getD (0, 0)).2, .bool o.isSome]) (Mx.wanted_none rfl) (fun w' hw' => ?_) ?_
  · go_simp
  simp only [Act.put, List.setIfInBounds_toArray, List.set_cons_zero, List.set_cons_succ]
  refine Mx.m_pure (.int .i64 (o.getD (0, 0)).1) (Mx.wanted_none rfl) (fun w' hw' => ?_) ?_
  · go_simp
  simp only [Act.put, List.setIfInBounds_toArray, List.set_cons_zero, List.set_cons_succ]
  refine Mx.m_pure (.int .i64 (o.getD (0, 0)).2) (Mx.wanted_none rfl) (fun w' hw' => ?_) ?_
  · go_simp
  simp only [Act.put, List.setIfInBounds_toArray, List.set_cons_zero, List.set_cons_succ]
  refine Mx.m_pure (.bool o.isSome) (Mx.wanted_none rfl) (fun w' hw' => ?_) ?_
  · go_simp
  simp only [Act.put, List.setIfInBounds_toArray, List.set_cons_zero, List.set_cons_succ]
  refine Mx.m_pure (.int .i64 (o.getD (0, 0)).1) (Mx.wanted_none rfl) (fun w' hw' => ?_) ?_
  · go_simp
  simp only [Act.put, List.setIfInBounds_toArray, List.set_cons_zero, List.set_cons_succ]
  refine Mx.m_pure (.int .i64 (o.getD (0, 0)).2) (Mx.wanted_none rfl) (fun w' hw' => ?_) ?_
  · go_simp
  simp only [Act.put, List.setIfInBounds_toArray, List.set_cons_zero, List.set_cons_succ]
  refine Mx.m_pure (.bool o.isSome) (Mx.wanted_none rfl) (fun w' hw' => ?_) ?_
  · go_simp
  simp only [Act.put, List.setIfInBounds_toArray, List.set_cons_zero, List.set_cons_succ]
  refine Mx.m_nil (fun _ => ?_)
  have HS1 := hidC (HSV.out.step HV1.out)
  have HX1 : Hid (w1.heap[w.heap.size]? = some (.cells #[.string s, .iface t x, .iface t2 x2] 65)) := (HV1.out.block _ (Array.getElem?_eq_some_iff.1 HX.out).1).trans HX.out
  have HK1 := hidC (Kept.of_below (a := a) (HBA.out.trans (HV1.out.mono HBA.out.size)))
  cases o with
  | none =>
    have HQ : Hid (ck K id (.or s l r) d k = ⟨[], [chW d s k], 0⟩) := by unfold Hid; simp only [ck]; rw [HO.out]
    simp only [Option.getD_none, Option.isSome_none]
    go_wp2_with fail
    have HXD : Hid (w1.drew.heap[w.heap.size]? = some (.cells #[.string s, .iface t x, .iface t2 x2] 65)) := HX1.out
    have HSD := hidC (HS1.out.step (below_drew (Below.refl w1.heap.size w1)))
    have HKD := hidC (HK1.out.trans (Kept.of_below (a := a) (below_drew (Below.refl w1.heap.size w1))))
    have HFC2 : Hid (∀ w' : World, w'.heap[w.heap.size]? = some (.cells #[.string s, .iface t x, .iface t2 x2] 65) → w'.cell? ⟨w.heap.size, 0, none⟩ = some (.string s)) := fun w' hw' => cell_of_row _ _ 0 _ _ _ hw'
    refine Mx.wp_region_mix (fun w' => w'.heap[w.heap.size]? = some (.cells #[.string s, .iface t x, .iface t2 x2] 65)) [(0, false), (1, false), (2, false), (3, false), (4, false), (5, true), (6, false), (7, true)] (by kernel_rfl) (by kernel_rfl) HXD.out ?_ (by kernel_rfl)
    simp only [List.map_cons, List.map_nil, List.getD_cons_zero, List.getD_cons_succ]
    generalize hops : (#[_, _, _, _, _, _, _, _] : Array Oper) = ops
    clear hops
    refine Mx.m_pure (.pointer (some ⟨a, 0, none⟩)) (Mx.wanted_none rfl) (fun w' hw' => ?_) ?_
    · go_simp
    simp only [Act.put, List.setIfInBounds_toArray, List.set_cons_zero, List.set_cons_succ]
    refine Mx.m_pure (.pointer (some ⟨w.heap.size, 0, none⟩)) (Mx.wanted_none rfl) (fun w' hw' => ?_) ?_
    · go_simp
    simp only [Act.put, List.setIfInBounds_toArray, List.set_cons_zero, List.set_cons_succ]
    refine Mx.m_pure (.string s) (Mx.wanted_none rfl) (fun w' hw' => ?_) ?_
    · have q0 := HFC2.out w' hw'
      go_simp
    simp only [Act.put, List.setIfInBounds_toArray, List.set_cons_zero, List.set_cons_succ]
    refine Mx.m_pure (.int .i64 d) (Mx.wanted_none rfl) (fun w' hw' => ?_) ?_
    · go_simp
    simp only [Act.put, List.setIfInBounds_toArray, List.set_cons_zero, List.set_cons_succ]
    refine Mx.m_pure (.int .i64 k) (Mx.wanted_none rfl) (fun w' hw' => ?_) ?_
    · go_simp
    simp only [Act.put, List.setIfInBounds_toArray, List.set_cons_zero, List.set_cons_succ]
    refine Mx.m_call 55 #[.int .i64 k] (Mx.wanted_none rfl) ?_ ?_
    · go_simp
    refine (holder_any k _).mono ?_
    rintro e w2 ⟨rfl, rfl⟩
    refine ⟨_, rfl, HXD.out, ?_⟩
    simp only [Act.put, List.setIfInBounds_toArray, List.set_cons_zero, List.set_cons_succ]
    refine Mx.m_pure (.agg #[.bool true, .string ByteArray.empty, .string s, .int .i64 d, .int .i64 (side k)]) (Mx.wanted_none rfl) (fun w' hw' => ?_) ?_
    · go_simp
      rfl
    simp only [Act.put, List.setIfInBounds_toArray, List.set_cons_zero, List.set_cons_succ]
    refine Mx.m_call 54 #[.pointer (some ⟨a, 0, none⟩), (chW d s k).val] (Mx.wanted_none rfl) ?_ ?_
    · unfold chW Wt.val
      go_simp
    refine (wait_any w0 _ a id p F W HSD.out (by omega) (chW d s k)).mono ?_
    rintro e w3 ⟨rfl, hs3, hk3⟩
    have HS3 := hidC hs3
    have HK3 := hidC (HKD.out.trans hk3)
    refine ⟨_, rfl, hk3.cells HXD.out HNA.out (by decide) (by decide), ?_⟩
    clear hs3 hk3
    simp only [Act.put, List.setIfInBounds_toArray, List.set_cons_zero, List.set_cons_succ]
    refine Mx.m_nil (fun _ => ?_)
    go_wp2_with fail
    go_ret
    rw [HQ.out, List.append_nil]
    exact ⟨rfl, HS3.out, HK3.out⟩
  | some q =>
    obtain ⟨q, d'⟩ := q
    obtain ⟨hq, g1, g2⟩ := chs_at HE.out.chs HO.out
    simp only at hq g1 g2
    have c1 : w1.cell? ⟨w.heap.size, 1, none⟩ = some (.iface t x) := cell_of_row _ _ 1 _ _ _ HX1.out
    have c2 : w1.cell? ⟨w.heap.size, 2, none⟩ = some (.iface t2 x2) := cell_of_row _ _ 2 _ _ _ HX1.out
    have HQ : Hid (ck K id (.or s l r) d k = if q = 0 then ck K id l (Max.max d d') k else ck K id r (Max.max d d') k) := by unfold Hid; simp only [ck]; rw [HO.out]
    simp only [Option.getD_some, Option.isSome_some]
    rcases hq with rfl | rfl
    · have HQ2 : Hid (ck K id (.or s l r) d k = ck K id l (Max.max d d') k) := by unfold Hid; rw [HQ.out]; rfl
      rcases Int.lt_or_le d d' with hm | hm
      · have HM : Hid (Max.max d d' = d') := by unfold Hid; omega
        rw [HM.out] at HQ2
        go_wp2_with fail
        refine (HL.out w1 F W d' k HS1.out g1 g2 HHK.out.1 HHK.out.2 (by omega) (by omega)).mono ?_
        rintro e w2 ⟨rfl, hs2, hk2⟩
        have HS2 := hidC hs2
        have HK2 := hidC (HK1.out.trans hk2)
        clear hs2 hk2
        go_wp2_with fail
        go_ret
        rw [HQ2.out]
        exact ⟨rfl, HS2.out, HK2.out⟩
      · have HM : Hid (Max.max d d' = d) := by unfold Hid; omega
        rw [HM.out] at HQ2
        go_wp2_with fail
        refine (HL.out w1 F W d k HS1.out hd1 hd2 HHK.out.1 HHK.out.2 (by omega) (by omega)).mono ?_
        rintro e w2 ⟨rfl, hs2, hk2⟩
        have HS2 := hidC hs2
        have HK2 := hidC (HK1.out.trans hk2)
        clear hs2 hk2
        go_wp2_with fail
        go_ret
        rw [HQ2.out]
        exact ⟨rfl, HS2.out, HK2.out⟩
    · have HQ2 : Hid (ck K id (.or s l r) d k = ck K id r (Max.max d d') k) := by unfold Hid; rw [HQ.out]; rfl
      rcases Int.lt_or_le d d' with hm | hm
      · have HM : Hid (Max.max d d' = d') := by unfold Hid; omega
        rw [HM.out] at HQ2
        go_wp2_with fail
        refine (HR.out w1 F W d' k HS1.out g1 g2 HHK.out.1 HHK.out.2 (by omega) (by omega)).mono ?_
        rintro e w2 ⟨rfl, hs2, hk2⟩
        have HS2 := hidC hs2
        have HK2 := hidC (HK1.out.trans hk2)
        clear hs2 hk2
        go_wp2_with fail
        go_ret
        rw [HQ2.out]
        exact ⟨rfl, HS2.out, HK2.out⟩
      · have HM : Hid (Max.max d d' = d) := by unfold Hid; omega
        rw [HM.out] at HQ2
        go_wp2_with fail
        refine (HR.out w1 F W d k HS1.out hd1 hd2 HHK.out.1 HHK.out.2 (by omega) (by omega)).mono ?_
        rintro e w2 ⟨rfl, hs2, hk2⟩
        have HS2 := hidC hs2
        have HK2 := hidC (HK1.out.trans hk2)
        clear hs2 hk2
        go_wp2_with fail
        go_ret
        rw [HQ2.out]
        exact ⟨rfl, HS2.out, HK2.out⟩

set_option maxHeartbeats 2000000 in
set_option maxRecDepth 100000 in
theorem scale_any {w0 : World} {p f c : Nat} {K : KW} {id : ByteArray} (hE : Env w0 p f c K id) (a : Nat) (o : O) (hok : o.Ok) (hc : chk o = 0) (cc : C) (t : TypeId) (x : Value) (hL : ThF 15 w0 a id p (.iface t x) (ck K id cc) cc.weight) :
    ThF 31 w0 a id p (.agg #[o.val, .iface t x]) (ck K id (.scale o cc)) (C.scale o cc).weight := by
  intro w F W d k hs hd1 hd2 hv hk hlf hlw
  obtain ⟨tn, xn, ho⟩ := Vl.form_iface o (chk_sz hc).1
  have HL := hidC hL
  have HN := hidC (fun (w : World) (h : StA w0 w a id p F W) => number_any hE w a F W h (by omega) o hok hc d ⟨by omega, by omega⟩)
  rw [ho] at HN
  have HG := hidC (rk_good hE.vals d o (chk_sz hc).1)
  rw [ho]
  clear ho
  have HBA := hidC (below_alloc (Below.refl w.heap.size w) (.cells #[.iface tn xn, .iface t x] 30))
  have HSV := hidC (hs.step HBA.out)
  have HX := hidC (heap_alloc_new w (.cells #[.iface tn xn, .iface t x] 30))
  have HNA := hidC (HSV.out.at_cells HX.out (by decide))
  have HKV := hidC (Kept.of_below (a := a) HBA.out)
  have HHK := hidC (And.intro hv hk)
  have HLN := hidC (Nat.le_trans (lackN_len K d o) (chk_sz hc).2)
  have HQ : Hid (ck K id (.scale o cc) d k = if (rk K d o).e ≠ 0 then ⟨[], [], (rk K d o).e⟩ else if (rk K d o).known = true then (if (mulR k (rk K d o).n).2 = true then (if (mulR k (rk K d o).n).1 = 0 then ⟨[], [], 0⟩ else ck K id cc d (mulR k (rk K d o).n).1) else ⟨[], [], 6⟩) else ⟨[], waitN K d o, 0⟩) := rfl
  have HM := hidC (fun (n : Int) (w : World) => mul_any k n w)
  simp only [C.weight] at hlf hlw
  clear hs hv hk hE hL hok hc
  go_enter Try.func31, Try.ntmps31
  go_wp2_with fail
  refine (HN.out _ HSV.out).mono ?_
  rintro e w1 ⟨rfl, hs1, hk1⟩
  have HX1 := hidC (hk1.cells HX.out HNA.out (by decide) (by decide))
  have HS1 := hidC hs1
  have HK1 := hidC (HKV.out.trans hk1)
  clear hs1 hk1
  have c1 : w1.cell? ⟨w.heap.size, 1, none⟩ = some (.iface t x) := cell_of_row _ _ 1 _ _ _ HX1.out
  unfold numW at HS1
  generalize rk K d o = y at *
  obtain ⟨n, known, e⟩ := y
  simp only at HQ HS1
  unfold ofE
  simp only
  by_cases he : e = 0
  · subst he
    rw [if_neg (by simp)] at HQ HS1
    cases known
    · rw [if_neg (by simp)] at HQ HS1
      go_wp2_with fail
      go_ret
      rw [HQ.out, List.append_nil]
      exact ⟨rfl, HS1.out, HK1.out⟩
    · rw [if_pos rfl] at HQ HS1
      have HM1 := hidC (HM.out n w1)
      have HVM0 : Hid ((mulR k n).2 = true → vB (mulR k n).1 = true) := mulR_in k n
      generalize mulR k n = m at *
      obtain ⟨m, ok⟩ := m
      simp only at HQ HM1 HVM0
      cases ok
      · rw [if_neg (by simp)] at HQ
        go_wp2_with fail
        refine calls_same HM1.out ?_
        go_wp2_with fail
        go_ret
        rw [HQ.out, List.append_nil]
        exact ⟨rfl, HS1.out, HK1.out⟩
      · rw [if_pos rfl] at HQ
        by_cases hm : m = 0
        · subst hm
          rw [if_pos rfl] at HQ
          go_wp2_with fail
          refine calls_same HM1.out ?_
          go_wp2_with fail
          go_ret
          rw [HQ.out, List.append_nil]
          exact ⟨rfl, HS1.out, HK1.out⟩
        · rw [if_neg hm] at HQ
          have hm' : (m == 0) = false := by simpa using hm
          go_wp2_with fail
          refine calls_same HM1.out ?_
          go_wp2_with fail
          refine (HL.out w1 F W d m HS1.out hd1 hd2 (HVM0.out trivial) hm (by omega) (by omega)).mono ?_
          rintro e w2 ⟨rfl, hs2, hk2⟩
          have HS2 := hidC hs2
          have HK2 := hidC (HK1.out.trans hk2)
          clear hs2 hk2
          go_wp2_with fail
          go_ret
          rw [HQ.out]
          exact ⟨rfl, HS2.out, HK2.out⟩
  · rw [if_pos he] at HQ HS1
    have hkn := (HG.out.err he).2
    simp only at hkn
    subst hkn
    go_wp2_with fail
    go_ret
    rw [HQ.out, List.append_nil]
    exact ⟨rfl, HS1.out, HK1.out⟩

set_option maxHeartbeats 2000000 in
set_option maxRecDepth 100000 in
theorem if_any {w0 : World} {p f c : Nat} {K : KW} {id : ByteArray} (hE : Env w0 p f c K id) (a : Nat) (o : O) (hok : o.Ok) (hc : chk o = 0) (l r : C) (t t2 : TypeId) (x x2 : Value) (hL : ThF 15 w0 a id p (.iface t x) (ck K id l) l.weight) (hR : ThF 15 w0 a id p (.iface t2 x2) (ck K id r) r.weight) :
    ThF 32 w0 a id p (.agg #[o.val, .iface t x, .iface t2 x2]) (ck K id (.iff o l r)) (C.iff o l r).weight := by
  intro w F W d k hs hd1 hd2 hv hk hlf hlw
  obtain ⟨tn, xn, ho⟩ := Vl.form_iface o (chk_sz hc).1
  have HL := hidC hL
  have HR := hidC hR
  have HN := hidC (fun (w : World) (h : StA w0 w a id p F W) => number_any hE w a F W h (by omega) o hok hc d ⟨by omega, by omega⟩)
  rw [ho] at HN
  have HG := hidC (rk_good hE.vals d o (chk_sz hc).1)
  rw [ho]
  clear ho
  have HBA := hidC (below_alloc (Below.refl w.heap.size w) (.cells #[.iface tn xn, .iface t x, .iface t2 x2] 79))
  have HSV := hidC (hs.step HBA.out)
  have HX := hidC (heap_alloc_new w (.cells #[.iface tn xn, .iface t x, .iface t2 x2] 79))
  have HNA := hidC (HSV.out.at_cells HX.out (by decide))
  have HKV := hidC (Kept.of_below (a := a) HBA.out)
  have HHK := hidC (And.intro hv hk)
  have HQ : Hid (ck K id (.iff o l r) d k = if (rk K d o).e ≠ 0 then ⟨[], [], (rk K d o).e⟩ else if (rk K d o).known = true then (if 0 < (rk K d o).n then ck K id l d k else ck K id r d k) else ⟨[], waitN K d o, 0⟩) := rfl
  simp only [C.weight] at hlf hlw
  clear hs hv hk hE hL hR hok hc
  go_enter Try.func32, Try.ntmps32
  go_wp2_with fail
  refine (HN.out _ HSV.out).mono ?_
  rintro e w1 ⟨rfl, hs1, hk1⟩
  have HX1 := hidC (hk1.cells HX.out HNA.out (by decide) (by decide))
  have HS1 := hidC hs1
  have HK1 := hidC (HKV.out.trans hk1)
  clear hs1 hk1
  have c1 : w1.cell? ⟨w.heap.size, 1, none⟩ = some (.iface t x) := cell_of_row _ _ 1 _ _ _ HX1.out
  have c2 : w1.cell? ⟨w.heap.size, 2, none⟩ = some (.iface t2 x2) := cell_of_row _ _ 2 _ _ _ HX1.out
  unfold numW at HS1
  generalize rk K d o = y at *
  obtain ⟨n, known, e⟩ := y
  simp only at HQ HS1
  unfold ofE
  simp only
  by_cases he : e = 0
  · subst he
    rw [if_neg (by simp)] at HQ HS1
    cases known
    · rw [if_neg (by simp)] at HQ HS1
      go_wp2_with fail
      go_ret
      rw [HQ.out, List.append_nil]
      exact ⟨rfl, HS1.out, HK1.out⟩
    · rw [if_pos rfl] at HQ HS1
      by_cases hn : 0 < n
      · rw [if_pos hn] at HQ
        go_wp2_with fail
        refine (HL.out w1 F W d k HS1.out hd1 hd2 HHK.out.1 HHK.out.2 (by omega) (by omega)).mono ?_
        rintro e w2 ⟨rfl, hs2, hk2⟩
        have HS2 := hidC hs2
        have HK2 := hidC (HK1.out.trans hk2)
        clear hs2 hk2
        go_wp2_with fail
        go_ret
        rw [HQ.out]
        exact ⟨rfl, HS2.out, HK2.out⟩
      · rw [if_neg hn] at HQ
        go_wp2_with fail
        refine (HR.out w1 F W d k HS1.out hd1 hd2 HHK.out.1 HHK.out.2 (by omega) (by omega)).mono ?_
        rintro e w2 ⟨rfl, hs2, hk2⟩
        have HS2 := hidC hs2
        have HK2 := hidC (HK1.out.trans hk2)
        clear hs2 hk2
        go_wp2_with fail
        go_ret
        rw [HQ.out]
        exact ⟨rfl, HS2.out, HK2.out⟩
  · rw [if_pos he] at HQ HS1
    have hkn := (HG.out.err he).2
    simp only at hkn
    subst hkn
    go_wp2_with fail
    go_ret
    rw [HQ.out, List.append_nil]
    exact ⟨rfl, HS1.out, HK1.out⟩

end Go.Proofs.Ytngjlkdpplmpaab.Ca
namespace Go.Proofs.Ytngjlkdpplmpaab.Ca
open Go.RowKit Wd Cn Vl
set_option linter.unusedVariables false

set_option maxHeartbeats 2000000 in
set_option maxRecDepth 100000 in
theorem th_or {w0 : World} {p f c : Nat} {K : KW} {id : ByteArray} (hE : Env w0 p f c K id) (a : Nat) (s : ByteArray) (hsz : s.size ≤ 2147483648) (l r : C) (hfl : formC l = true) (hfr : formC r = true) (ihl : ThC w0 a id p K l) (ihr : ThC w0 a id p K r) : ThC w0 a id p K (.or s l r) := by
  intro w F W d k hs hd1 hd2 hv hk hlf hlw
  have HS := hidC hs
  have h0 := fun v xT w => notZero 65 v xT w (by decide)
  have h1 := fun v xT w => notOne 65 v xT w (by decide)
  have h2 := fun v xT w => notGive 65 v xT w (by decide)
  have h3 := fun v xT w => notAnd 65 v xT w (by decide)
  have h4 := fun v xT w => isOr v xT w
  obtain ⟨t, x, he⟩ := form_val l hfl
  obtain ⟨t2, x2, he2⟩ := form_val r hfr
  unfold ThC at ihl ihr
  rw [he] at ihl
  rw [he2] at ihr
  have HC := hidC (or_any hE a s hsz l r t t2 x x2 ihl ihr)
  clear ihl ihr hfl hfr
  have HHK := hidC (And.intro hv hk)
  clear hs hv hk hE
  unfold C.val
  rw [he, he2]
  go_enter Try.func15, Try.ntmps15
  go_wp2_with fail
  refine (HC.out _ F W d k (HS.out.step (below_alloc (Below.refl _ _) _)) hd1 hd2 HHK.out.1 HHK.out.2 hlf hlw).mono ?_
  rintro e w2 ⟨rfl, hs2, hk2⟩
  have HS2 := hidC hs2
  have HK2 := hidC hk2
  clear hs2 hk2
  go_wp2_with fail
  go_ret
  exact ⟨rfl, HS2.out, (Kept.of_below (below_alloc (Below.refl _ _) _)).trans HK2.out⟩

set_option maxHeartbeats 2000000 in
set_option maxRecDepth 100000 in
theorem th_scale {w0 : World} {p f c : Nat} {K : KW} {id : ByteArray} (hE : Env w0 p f c K id) (a : Nat) (o : O) (hok : o.Ok) (hc : chk o = 0) (cc : C) (hf : formC cc = true) (ih : ThC w0 a id p K cc) : ThC w0 a id p K (.scale o cc) := by
  intro w F W d k hs hd1 hd2 hv hk hlf hlw
  have HS := hidC hs
  have h0 := fun v xT w => notZero 30 v xT w (by decide)
  have h1 := fun v xT w => notOne 30 v xT w (by decide)
  have h2 := fun v xT w => notGive 30 v xT w (by decide)
  have h3 := fun v xT w => notAnd 30 v xT w (by decide)
  have h4 := fun v xT w => notOr 30 v xT w (by decide)
  have h5 := fun v xT w => isScale v xT w
  obtain ⟨t, x, he⟩ := form_val cc hf
  obtain ⟨tn, xn, ho⟩ := Vl.form_iface o (chk_sz hc).1
  unfold ThC at ih
  rw [he] at ih
  have HC := hidC (scale_any hE a o hok hc cc t x ih)
  rw [ho] at HC
  clear ih hf hok hc
  have HHK := hidC (And.intro hv hk)
  clear hs hv hk hE
  unfold C.val
  rw [ho, he]
  go_enter Try.func15, Try.ntmps15
  go_wp2_with fail
  refine (HC.out _ F W d k (HS.out.step (below_alloc (Below.refl _ _) _)) hd1 hd2 HHK.out.1 HHK.out.2 hlf hlw).mono ?_
  rintro e w2 ⟨rfl, hs2, hk2⟩
  have HS2 := hidC hs2
  have HK2 := hidC hk2
  clear hs2 hk2
  go_wp2_with fail
  go_ret
  exact ⟨rfl, HS2.out, (Kept.of_below (below_alloc (Below.refl _ _) _)).trans HK2.out⟩

set_option maxHeartbeats 2000000 in
set_option maxRecDepth 100000 in
theorem th_if {w0 : World} {p f c : Nat} {K : KW} {id : ByteArray} (hE : Env w0 p f c K id) (a : Nat) (o : O) (hok : o.Ok) (hc : chk o = 0) (l r : C) (hfl : formC l = true) (hfr : formC r = true) (ihl : ThC w0 a id p K l) (ihr : ThC w0 a id p K r) : ThC w0 a id p K (.iff o l r) := by
  intro w F W d k hs hd1 hd2 hv hk hlf hlw
  have HS := hidC hs
  have h0 := fun v xT w => notZero 79 v xT w (by decide)
  have h1 := fun v xT w => notOne 79 v xT w (by decide)
  have h2 := fun v xT w => notGive 79 v xT w (by decide)
  have h3 := fun v xT w => notAnd 79 v xT w (by decide)
  have h4 := fun v xT w => notOr 79 v xT w (by decide)
  have h5 := fun v xT w => notScale 79 v xT w (by decide)
  have h6 := fun v xT w => notWhen 79 v xT w (by decide)
  have h7 := fun v xT w => isIf1 v xT w
  obtain ⟨t, x, he⟩ := form_val l hfl
  obtain ⟨t2, x2, he2⟩ := form_val r hfr
  unfold ThC at ihl ihr
  rw [he] at ihl
  rw [he2] at ihr
  obtain ⟨tn, xn, ho⟩ := Vl.form_iface o (chk_sz hc).1
  have HC := hidC (if_any hE a o hok hc l r t t2 x x2 ihl ihr)
  rw [ho] at HC
  clear ihl ihr hfl hfr hok hc
  have HHK := hidC (And.intro hv hk)
  clear hs hv hk hE
  unfold C.val
  rw [ho, he, he2]
  go_enter Try.func15, Try.ntmps15
  go_wp2_with fail
  refine (HC.out _ F W d k HS.out hd1 hd2 HHK.out.1 HHK.out.2 hlf hlw).mono ?_
  rintro e w2 ⟨rfl, hs2, hk2⟩
  have HS2 := hidC hs2
  have HK2 := hidC hk2
  clear hs2 hk2
  go_wp2_with fail
  go_ret
  exact ⟨rfl, HS2.out, HK2.out⟩

theorem chk_of {o : O} (h : formB o = true) (hn : o.nodes ≤ 60) (hd : o.depth ≤ 12) : chk o = 0 := by
  unfold chk
  rw [if_pos h, if_neg (by omega)]
theorem through_any {w0 : World} {p f q : Nat} {K : KW} {id : ByteArray} (hE : Env w0 p f q K id) (a : Nat) (c : C) : formC c = true → c.Ok → c.nodes ≤ 60 → c.depth ≤ 12 → ThC w0 a id p K c := by
  induction c with
  | zero => intro _ _ _ _; exact th_zero w0 a id p K
  | one s => intro _ _ _ _; exact th_one w0 a id p K s
  | odd v => intro h; simp [formC] at h
  | give c ih => intro hf hok hn hd; simp only [C.nodes, C.depth] at hn hd; exact th_give w0 a id p K c hf (ih hf hok (by omega) (by omega))
  | when d' c ih =>
    intro hf hok hn hd
    simp only [C.nodes, C.depth] at hn hd
    have h2 := hf
    simp only [formC, Bool.and_eq_true] at h2
    exact th_when w0 a id p K d' c hf (ih h2.2 hok.2 (by omega) (by omega))
  | and l r hl hr =>
    intro hf hok hn hd
    simp only [C.nodes, C.depth] at hn hd
    simp only [formC, Bool.and_eq_true] at hf
    exact th_and w0 a id p K l r hf.1 hf.2 (hl hf.1 hok.1 (by omega) (by omega)) (hr hf.2 hok.2 (by omega) (by omega))
  | or s l r hl hr =>
    intro hf hok hn hd
    simp only [C.nodes, C.depth] at hn hd
    simp only [formC, Bool.and_eq_true] at hf
    exact th_or hE a s hok.1 l r hf.1.2 hf.2 (hl hf.1.2 hok.2.1 (by omega) (by omega)) (hr hf.2 hok.2.2 (by omega) (by omega))
  | scale o c ih =>
    intro hf hok hn hd
    simp only [C.nodes, C.depth] at hn hd
    simp only [formC, Bool.and_eq_true] at hf
    exact th_scale hE a o hok.1 (chk_of hf.1 (by omega) (by omega)) c hf.2 (ih hf.2 hok.2 (by omega) (by omega))
  | iff o l r hl hr =>
    intro hf hok hn hd
    simp only [C.nodes, C.depth] at hn hd
    simp only [formC, Bool.and_eq_true] at hf
    exact th_if hE a o hok.1 (chk_of hf.1.1 (by omega) (by omega)) l r hf.1.2 hf.2 (hl hf.1.2 hok.2.1 (by omega) (by omega)) (hr hf.2 hok.2.2 (by omega) (by omega))
theorem form_weight (c : C) (h : formC c = true) : c.weight = c.nodes := by
  induction c with
  | zero => rfl
  | one s => rfl
  | odd v => simp [formC] at h
  | give c ih => simp only [C.weight, C.nodes]; rw [ih h]
  | when d c ih => simp only [formC, Bool.and_eq_true] at h; simp only [C.weight, C.nodes]; rw [ih h.2]
  | and l r hl hr => simp only [formC, Bool.and_eq_true] at h; simp only [C.weight, C.nodes]; rw [hl h.1, hr h.2]
  | or s l r hl hr => simp only [formC, Bool.and_eq_true] at h; simp only [C.weight, C.nodes]; rw [hl h.1.2, hr h.2]
  | scale o c ih => simp only [formC, Bool.and_eq_true] at h; simp only [C.weight, C.nodes]; rw [ih h.2]
  | iff o l r hl hr => simp only [formC, Bool.and_eq_true] at h; simp only [C.weight, C.nodes]; rw [hl h.1.2, hr h.2]
/-- What a right contract is. -/
theorem chkC_ok {c : C} (h : chkC c = 0) : formC c = true ∧ c.nodes ≤ 60 ∧ c.depth ≤ 12 ∧ twice c.labels = false := by
  unfold chkC at h
  split at h
  · rename_i h1
    split at h
    · cases h
    · rename_i h2
      split at h
      · cases h
      · rename_i h3
        exact ⟨h1, by omega, by omega, by simpa using h3⟩
  · cases h
theorem Env.below {w0 w : World} {p f c : Nat} {K : KW} {id : ByteArray} (h : Env w0 p f c K id) (hb : Below w0.heap.size w0 w) : Env w p f c K id := ⟨h.kin.below hb, h.vals, h.chs, h.idl⟩

/-- What cash.Of answers. -/
def ofK (K : KW) (id : ByteArray) (c : C) (d : Int) : Ck := if chkC c = 0 ∧ 0 ≤ d ∧ d ≤ 10000 then (if (ck K id c d 1).e = 0 then ⟨(ck K id c d 1).f, addW [] (ck K id c d 1).w, 0⟩ else ⟨[], [], (ck K id c d 1).e⟩) else ⟨[], [], 1⟩
def OfPost (w : World) (r : Ck) (e : Ending) (w' : World) : Prop := ∃ vF vW, e = .returned (.tuple #[vF, vW, .int .i64 r.e]) ∧ w'.ownsRow w.heap.size 42 3 vF r.f.length (rowFl r.f) ∧ w'.ownsRow w.heap.size 58 5 vW r.w.length (rowWt r.w) ∧ Below w.heap.size w w'
theorem OfPost.none (w w' : World) (e : Int) (h : Below w.heap.size w w') : OfPost w ⟨[], [], e⟩ (.returned (.tuple #[.slice none 0 0, .slice none 0 0, .int .i64 e])) w' := ⟨_, _, rfl, World.ownsRow_nil _ _ _ _, World.ownsRow_nil _ _ _ _, h⟩

set_option maxHeartbeats 2000000 in
set_option maxRecDepth 100000 in
theorem cash_any (c : C) (hok : c.Ok) (hsz : c.weight ≤ 1000000) (w : World) (p f q : Nat) (K : KW) (id : ByteArray) (hE : Env w p f q K id) (d : Int) (hd : dayOk d) :
    Calls Try.prog 7 #[.string id, c.val, .int .i64 d, .pointer (some ⟨p, 0, none⟩)] w (OfPost w (ofK K id c d)) := by
  have HCH := hidC (checkT_any c hok hsz w)
  have HE := hidC hE
  have HOK := hidC hok
  have hd' := hd
  unfold dayOk at hd'
  clear hE hok hd
  by_cases hc : chkC c = 0
  rotate_left
  · have HQ : Hid (ofK K id c d = ⟨[], [], 1⟩) := by unfold Hid ofK; rw [if_neg (fun h => hc h.1)]
    have hc' : (chkC c != 0) = true := by simpa using hc
    go_enter Try.func7, Try.ntmps7
    go_wp2_with fail
    refine HCH.out.mono ?_
    rintro e w1 ⟨rfl, hb1⟩
    go_wp2_with fail
    go_ret3
    rw [HQ.out]
    exact OfPost.none _ _ _ hb1
  · rw [hc] at HCH
    by_cases hr : 0 ≤ d ∧ d ≤ 10000
    rotate_left
    · have HQ : Hid (ofK K id c d = ⟨[], [], 1⟩) := by unfold Hid ofK; rw [if_neg (fun h => hr h.2)]
      rcases (by omega : d < 0 ∨ (0 ≤ d ∧ 10000 < d)) with h1 | ⟨h1, h2⟩
      all_goals
        clear hr
        go_enter Try.func7, Try.ntmps7
        go_wp2_with fail
        refine HCH.out.mono ?_
        rintro e w1 ⟨rfl, hb1⟩
        go_wp2_with fail
        go_ret3
        rw [HQ.out]
        exact OfPost.none _ _ _ hb1
    · obtain ⟨h1, h2⟩ := hr
      have HQ : Hid (ofK K id c d = if (ck K id c d 1).e = 0 then ⟨(ck K id c d 1).f, addW [] (ck K id c d 1).w, 0⟩ else ⟨[], [], (ck K id c d 1).e⟩) := by unfold Hid ofK; rw [if_pos ⟨hc, h1, h2⟩]
      obtain ⟨k1, k2, k3, k4⟩ := chkC_ok hc
      have hw60 : c.weight ≤ 60 := by rw [form_weight c k1]; exact k2
      have HTH := hidC (fun (w0 : World) (a : Nat) (hE : Env w0 p f q K id) => through_any hE a c k1 HOK.out k2 k3)
      clear k1 k2 k3 k4 hc
      go_enter Try.func7, Try.ntmps7
      go_wp2_with fail
      refine HCH.out.mono ?_
      rintro e w1 ⟨rfl, hb1⟩
      have HB1 := hidC hb1
      clear hb1
      go_wp2_with fail
      have HS0 : Hid (StA w1 (w1.alloc (.cells (mkA id p (.slice none 0 0) (.slice none 0 0)) 69)) w1.heap.size id p [] []) :=
        ⟨⟨_, _, ⟨heap_alloc_new _ _, World.ownsRow_nil _ _ _ _, World.ownsRow_nil _ _ _ _, Nat.le_refl _⟩⟩, below_alloc (Below.refl _ _) _⟩
      unfold mkA at HS0
      refine (HTH.out w1 w1.heap.size (HE.out.below HB1.out) _ [] [] d 1 HS0.out h1 h2 (by rfl) (by omega) (by simp; omega) (by simp; omega)).mono ?_
      rintro e w2 ⟨rfl, hs2, hk2⟩
      rw [List.nil_append] at hs2
      obtain ⟨⟨vF, vW, hin⟩, hb2⟩ := hs2
      have HIN := hidC hin
      have HB2 := hidC (HB1.out.trans (hb2.mono HB1.out.size))
      have c2 := hin.cell2 (twoA id p)
      have c3 := hin.cell3 (twoA id p)
      have HBB := hidC HB1.out.size
      clear hin hb2 hk2
      generalize ck K id c d 1 = x at *
      obtain ⟨xf, xw, xe⟩ := x
      simp only at HQ HIN c2 c3 ⊢
      by_cases he : xe = 0
      · subst he
        rw [if_pos rfl] at HQ
        obtain ⟨ao, cap, rfl⟩ := row_shape HIN.out.rf
        obtain ⟨ao2, cap2, rfl⟩ := row_shape HIN.out.rw'
        go_wp2_with fail
        go_region
        go_wp2_with fail
        go_ret3
        rw [HQ.out]
        exact ⟨_, _, rfl, ownsRow_base HIN.out.rf HBB.out, ownsRow_base HIN.out.rw' HBB.out, HB2.out.drew⟩
      · rw [if_neg he] at HQ
        have he' : (xe != 0) = true := by simpa using he
        go_wp2_with fail
        go_ret3
        rw [HQ.out]
        exact OfPost.none _ _ _ HB2.out

end Go.Proofs.Ytngjlkdpplmpaab.Ca
namespace Go.Proofs.Ytngjlkdpplmpaab.Ca
open Go.RowKit Wd Cn Vl
set_option linter.unusedVariables false

/-- Payments in memory. -/
def HasFls (w : World) (ao : Option Addr) (l : List Fl) : Prop := ∀ i x, l[i]? = some x → ∃ g, ao = some ⟨g, 0, none⟩ ∧ g < w.heap.size ∧ w.cell? ⟨g, i * 3, none⟩ = some (.int .i64 x.day) ∧ w.cell? ⟨g, i * 3 + 1, none⟩ = some (.string x.cur) ∧ w.cell? ⟨g, i * 3 + 2, none⟩ = some (.int .i64 x.amt)
theorem HasFls.below {w w' : World} {ao : Option Addr} {l : List Fl} (h : HasFls w ao l) (hb : Below w.heap.size w w') : HasFls w' ao l := by
  intro i x hx
  obtain ⟨g, e, hg, h0, h1, h2⟩ := h i x hx
  have hc := fun o => hb.cell (p := ⟨g, o, none⟩) hg
  exact ⟨g, e, Nat.lt_of_lt_of_le hg hb.size, (hc _).trans h0, (hc _).trans h1, (hc _).trans h2⟩
theorem own_fls {w : World} {B : Nat} {v : Value} {l : List Fl} (h : w.ownsRow B 42 3 v l.length (rowFl l)) : ∃ ao cap, v = .slice ao l.length cap ∧ HasFls w ao l := by
  obtain ⟨ao, cap, rfl⟩ := row_shape h
  refine ⟨ao, cap, rfl, fun i x hx => ?_⟩
  have hi := (List.getElem?_eq_some_iff.1 hx).1
  obtain ⟨g, cap', e, hg, hc⟩ := row_cells h (by omega)
  injection e with e1 _ _
  obtain ⟨h0, h1, h2⟩ := rowFl_at l i x hx
  exact ⟨g, e1, hg, hc _ _ h0, hc _ _ h1, hc _ _ h2⟩
/-- What cash.Of answers, in memory. -/
def OfIn (w : World) (r : Ck) (e : Ending) (w' : World) : Prop := ∃ ao cap bo cap2, e = .returned (.tuple #[.slice ao r.f.length cap, .slice bo r.w.length cap2, .int .i64 r.e]) ∧ HasFls w' ao r.f ∧ HasWts w' bo r.w ∧ Below w.heap.size w w'
theorem cash_at (c : C) (hok : c.Ok) (hsz : c.weight ≤ 1000000) (w : World) (p f q : Nat) (K : KW) (id : ByteArray) (hE : Env w p f q K id) (d : Int) (hd : dayOk d) (r : Ck) (hr : ofK K id c d = r) :
    Calls Try.prog 7 #[.string id, c.val, .int .i64 d, .pointer (some ⟨p, 0, none⟩)] w (OfIn w r) := by
  refine (cash_any c hok hsz w p f q K id hE d hd).mono ?_
  rintro e w' ⟨vF, vW, rfl, h1, h2, hb⟩
  rw [hr] at h1 h2
  obtain ⟨ao, cap, rfl, h3⟩ := own_fls h1
  obtain ⟨bo, cap2, rfl, h4⟩ := own_wts h2
  exact ⟨ao, cap, bo, cap2, by rw [hr], h3, h4, hb⟩
theorem no_vals : KW.Vals ⟨[], []⟩ := fun q hq => by cases hq
theorem no_chs : KW.Chs ⟨[], []⟩ := fun q hq => by cases hq
theorem env_new {w : World} {p f q : Nat} (h : KIn w p f q ⟨[], []⟩) (id : ByteArray) (hid : id.size ≤ 1000000) : Env w p f q ⟨[], []⟩ id := ⟨h, no_vals, no_chs, hid⟩
def usd : ByteArray := ⟨#[117, 115, 100]⟩
theorem ofK_one : ofK ⟨[], []⟩ ⟨#[116]⟩ (.one usd) 3 = ⟨[⟨3, usd, 1⟩], [], 0⟩ := by
  unfold ofK
  rw [if_pos ⟨by rfl, by omega, by omega⟩]
  rfl

set_option maxHeartbeats 1000000 in
theorem wakes10_any (w : World) :
    Calls Try.prog 9 #[] w fun e w' => e = .returned (.bool true) ∧ Below w.heap.size w w' := by
  have HV : Hid ((C.one usd).val = .iface 26 (.agg #[.string ⟨#[117, 115, 100]⟩])) := rfl
  go_enter Try.func9, Try.ntmps9
  go_wp2_with fail
  refine (new_in' w).mono ?_
  rintro e w1 ⟨b, f, c, rfl, hi⟩
  have HI : Hid (In w w1 b f c ⟨[], []⟩) := hi
  clear hi
  go_wp2_with fail
  refine (cash_at (.one usd) (by show usd.size ≤ 2147483648; decide) (by decide) w1 b f c ⟨[], []⟩ ⟨#[116]⟩ (env_new HI.out.kin _ (by decide)) 3 ⟨by omega, by omega⟩ _ ofK_one).mono ?_
  rintro e w2 ⟨ao, cap, bo, cap2, rfl, h1, h2, hb⟩
  obtain ⟨g, rfl, hg, c0, c1, c2⟩ := h1 0 ⟨3, usd, 1⟩ rfl
  have HB := hidC (HI.out.below.trans (hb.mono HI.out.below.size))
  unfold usd at c1
  clear h1 h2 hb
  simp only [List.length_cons, List.length_nil]
  go_wp2_with fail
  go_ret
  exact ⟨rfl, HB.out⟩

def tN : ByteArray := ⟨#[116]⟩
theorem chkC_by {c : C} (h1 : formC c = true) (h2 : c.nodes ≤ 60) (h3 : c.depth ≤ 12) (h4 : twice c.labels = false) : chkC c = 0 := by
  unfold chkC
  rw [if_pos h1, if_neg (by omega), if_neg (by rw [h4]; simp)]
theorem mulR_ok {a b : Int} (h1 : vB a = true) (h2 : vB b = true) (h3 : vB (a * b) = true) : mulR a b = (a * b, true) := by
  unfold mulR
  rw [h1, h2, h3]
  rfl
theorem mulR_no {a b : Int} (h3 : vB (a * b) = false) : mulR a b = (0, false) := by
  unfold mulR
  rw [h3, Bool.and_false]
  rfl

end Go.Proofs.Ytngjlkdpplmpaab.Ca
namespace Go.Proofs.Ytngjlkdpplmpaab.Vl
open Go.RowKit Wd Cn
set_option linter.unusedVariables false

theorem rin_gr {w w' : World} {B r M : Nat} {K : KW} {vF vC : Value} (h : RIn w B r K vF vC) (hg : Gr M w w') (hM : ∃ es cl, w.heap[M]? = some (.map es cl)) : RIn w' B r K vF vC := by
  obtain ⟨es, cl, hm⟩ := hM
  have hr : r ≠ M := by
    rintro rfl
    have := h.blk
    rw [hm] at this
    cases this
  have hgb : w.grownBy w' (some M) := ⟨hg.os, hg.tape, hg.output, hg.size, fun k hk hne => hg.block k hk (fun e => hne (by rw [e]))⟩
  refine ⟨(hg.block r (Array.getElem?_eq_some_iff.1 h.blk).1 hr).trans h.blk, h.rf.kept hgb ?_, h.rc.kept hgb ?_, h.hr⟩
  · right
    intro e
    obtain ⟨cs, hc⟩ := row_block h.rf e
    rw [hm] at hc
    cases hc
  · right
    intro e
    obtain ⟨cs, hc⟩ := row_block h.rc e
    rw [hm] at hc
    cases hc
theorem rt_cells {B r : Nat} {w w' : World} (h : RT B r w w') {k : Nat} {cs : Array Value} {t : TypeId} (hk : w.heap[k]? = some (.cells cs t)) (hr : k ≠ r) (h1 : t ≠ 150) (h2 : t ≠ 125) : w'.heap[k]? = some (.cells cs t) := by
  rw [h.kept k (Array.getElem?_eq_some_iff.1 hk).1 hr (fun cs' e => ?_) (fun cs' e => ?_)]
  · exact hk
  · rw [hk] at e; injection e with e; injection e with _ e; exact h1 e
  · rw [hk] at e; injection e with e; injection e with _ e; exact h2 e
theorem rt_map {B r : Nat} {w w' : World} (h : RT B r w w') {k : Nat} {es : Array MapEntry} {cl : Nat} (hk : w.heap[k]? = some (.map es cl)) (hr : k ≠ r) : w'.heap[k]? = w.heap[k]? :=
  h.kept k (Array.getElem?_eq_some_iff.1 hk).1 hr (fun cs e => by rw [hk] at e; cases e) (fun cs e => by rw [hk] at e; cases e)
theorem in_rt {w0 W W' : World} {p f c r B : Nat} {K Kr : KW} {vF vC : Value} (h : In w0 W p f c K) (hr : RIn W B r Kr vF vC) (hB : w0.heap.size ≤ B) (ht : RT B r W W') : In w0 W' p f c K := by
  have hpr : p ≠ r := by
    rintro rfl
    have := h.kin.blk
    rw [hr.blk] at this
    injection this with e
    injection e with _ e
    exact absurd e (by decide)
  obtain ⟨es1, c1, m1, l1⟩ := h.kin.fix
  obtain ⟨es2, c2, m2, l2⟩ := h.kin.ch
  have hfr : f ≠ r := by
    rintro rfl
    rw [hr.blk] at m1
    cases m1
  have hcr : c ≠ r := by
    rintro rfl
    rw [hr.blk] at m2
    cases m2
  refine ⟨h.kin.same ?_ (rt_map ht m1 hfr) (rt_map ht m2 hcr), h.below.trans (ht.below.mono hB), h.hp, h.hf, h.hc⟩
  rw [rt_cells ht h.kin.blk hpr (by decide) (by decide), h.kin.blk]

/-- Both worlds in memory, with what each knows; the one from w0 on, the other from block B on. -/
structure Bo (w0 W : World) (p f c r B : Nat) (Kc Kr : KW) : Prop where
  i : In w0 W p f c Kc
  rr : ∃ vF vC, RIn W B r Kr vF vC
  hB : w0.heap.size ≤ B
  hBW : B ≤ W.heap.size
theorem Bo.step {w0 W W' : World} {p f c r B : Nat} {Kc Kr : KW} (h : Bo w0 W p f c r B Kc Kr) (hb : Below W.heap.size W W') : Bo w0 W' p f c r B Kc Kr := by
  obtain ⟨vF, vC, hr⟩ := h.rr
  exact ⟨h.i.step hb, ⟨vF, vC, hr.below hb⟩, h.hB, Nat.le_trans h.hBW hb.size⟩
theorem Bo.gr {w0 W W' : World} {p f c r B M : Nat} {Kc Kc' Kr : KW} (h : Bo w0 W p f c r B Kc Kr) (hk : KIn W' p f c Kc') (hg : Gr M W W') (hM : w0.heap.size ≤ M) (hm : ∃ es cl, W.heap[M]? = some (.map es cl)) : Bo w0 W' p f c r B Kc' Kr := by
  obtain ⟨vF, vC, hr⟩ := h.rr
  exact ⟨h.i.gr hk hg hM, ⟨vF, vC, rin_gr hr hg hm⟩, h.hB, Nat.le_trans h.hBW hg.size⟩
theorem Bo.rt {w0 W W' : World} {p f c r B : Nat} {Kc Kr Kr' : KW} (h : Bo w0 W p f c r B Kc Kr) (hk : ∃ vF vC, RIn W' B r Kr' vF vC) (ht : RT B r W W') : Bo w0 W' p f c r B Kc Kr' := by
  obtain ⟨vF, vC, hr⟩ := h.rr
  exact ⟨in_rt h.i hr h.hB ht, hk, h.hB, Nat.le_trans h.hBW ht.below.size⟩
theorem Bo.mapF {w0 W : World} {p f c r B : Nat} {Kc Kr : KW} (h : Bo w0 W p f c r B Kc Kr) : ∃ es cl, W.heap[f]? = some (.map es cl) := by
  obtain ⟨es, cl, hm, _⟩ := h.i.kin.fix
  exact ⟨es, cl, hm⟩
/-- What stands beside both stays: what is neither map, nor the document's world, nor a row of it. -/
theorem bo_fix {w0 W : World} {p f c r B : Nat} {Kc Kr : KW} (h : Bo w0 W p f c r B Kc Kr) (s : ByteArray) (d v : Int) (hk : fixOk (s, d)) :
    Calls Try.prog 37 #[.pointer (some ⟨p, 0, none⟩), .string s, .int .i64 d, .int .i64 v] W fun e w' => e = .returned (.int .i64 (fixE Kc s d v)) ∧ Bo w0 w' p f c r B (fixN Kc s d v) Kr ∧ Gr f W w' :=
  (fix_any W p f c Kc h.i.kin s d v hk).mono fun e w' h1 => ⟨h1.1, h.gr h1.2.1 h1.2.2 h.i.hf h.mapF, h1.2.2⟩
theorem bo_rfix {w0 W : World} {p f c r B : Nat} {Kc Kr : KW} (h : Bo w0 W p f c r B Kc Kr) (s : ByteArray) (d v : Int) (hs : s.size ≤ 1000000) (hl : Kr.F.length ≤ 1000) :
    Calls Try.prog 38 #[.pointer (some ⟨r, 0, none⟩), .string s, .int .i64 d, .int .i64 v] W fun e w' => e = .returned (.int .i64 (fixE Kr s d v)) ∧ Bo w0 w' p f c r B Kc (fixN Kr s d v) ∧ RT B r W w' := by
  obtain ⟨vF, vC, hr⟩ := h.rr
  exact (refFix_any W _ r Kr vF vC hr h.hBW s d v hs hl).mono fun e w' h1 => ⟨h1.1, h.rt h1.2.1 h1.2.2, h1.2.2⟩

end Go.Proofs.Ytngjlkdpplmpaab.Vl
namespace Go.Proofs.Ytngjlkdpplmpaab.Vl
open Go.RowKit Wd Cn
set_option linter.unusedVariables false

theorem tdiv_range (a b : Int) (hb : 2 ≤ b) (h1 : -9223372036854775808 ≤ a) (h2 : a ≤ 9223372036854775807) : -9223372036854775808 ≤ a.tdiv b ∧ a.tdiv b ≤ 9223372036854775807 := by
  by_cases h : 0 ≤ a
  · have h3 := Int.tdiv_nonneg h (by omega : 0 ≤ b)
    have h4 : a.tdiv b ≤ a := Int.tdiv_le_self b h
    omega
  · have h3 := Int.tdiv_nonneg (by omega : 0 ≤ -a) (by omega : 0 ≤ b)
    have h4 : (-a).tdiv b ≤ -a := Int.tdiv_le_self b (by omega)
    rw [Int.neg_tdiv] at h3 h4
    omega
theorem three_cells (w : World) (m : Nat) (hm : m < 3) : ∃ s : ByteArray, s.size ≤ 5 ∧ (w.alloc (.cells #[.string ⟨#[108, 105, 98, 111, 114]⟩, .string ⟨#[114, 97, 105, 110]⟩, .string ⟨#[195, 182, 108]⟩] 9)).cell? ⟨w.heap.size, m, none⟩ = some (.string s) := by
  rcases (by omega : m = 0 ∨ m = 1 ∨ m = 2) with rfl | rfl | rfl
  · exact ⟨_, by decide, cell_of_row _ _ _ _ _ _ (heap_alloc_new _ _)⟩
  · exact ⟨_, by decide, cell_of_row _ _ _ _ _ _ (heap_alloc_new _ _)⟩
  · exact ⟨_, by decide, cell_of_row _ _ _ _ _ _ (heap_alloc_new _ _)⟩

set_option maxHeartbeats 8000000 in
set_option maxRecDepth 100000 in
theorem known_any (w0 w : World) (p f c r B : Nat) (la : Option Addr) (ll lc : Nat) (lf : Nat → Int) (h : Bo w0 w p f c r B ⟨[], []⟩ ⟨[], []⟩) (hl : HasInts w0 la ll lf) (hll : ll ≤ 9223372036854775807) :
    Calls Try.prog 19 #[.pointer (some ⟨p, 0, none⟩), .pointer (some ⟨r, 0, none⟩), .slice la ll lc] w fun e w' => e = .returned (.tuple #[]) ∧ ∃ K, Bo w0 w' p f c r B K K ∧ KW.Vals K ∧ K.F.length ≤ 12 := by
  have HB := hidV h
  have HL := hidV hl
  clear h hl
  go_enter Try.func19, Try.ntmps19
  go_wp2_with fail
  go_loopw [6] (fun s6 wr => ∃ (i : Nat) (K : KW), s6 = .int .i64 i ∧ i ≤ 12 ∧ i ≤ ll ∧ Bo w0 wr p f c r B K K ∧ KW.Vals K ∧ K.F.length ≤ i) (fun s6 _ => 12 - (intOf s6).toNat)
  case atStart => exact ⟨0, ⟨[], []⟩, rfl, by omega, by omega, HB.out, (fun q hq => by simp at hq), by simp⟩
  case round =>
    obtain ⟨i, K, rfl, hi12, hil, hbo, hvals, hlen⟩ := hrel
    have HBO := hidV hbo
    have HVL := hidV hvals
    have HLN := hidV hlen
    clear hbo hvals hlen
    by_cases hlt : i < ll ∧ i < 12
    · obtain ⟨h1, h2⟩ := hlt
      have h1' : (i : Int) < (ll : Int) := by omega
      have h2' : (i : Int) < 12 := by omega
      obtain ⟨lb, lo, rfl, hlb, hlc, hf1, hf2⟩ := HL.out i h1
      have HLC : Hid (∀ w', Below w0.heap.size w0 w' → w'.cell? ⟨lb, lo + i, none⟩ = some (.int .i64 (lf i))) := fun w' hw' => (hw'.cell (p := ⟨lb, lo + i, none⟩) hlb).trans hlc
      obtain ⟨q1, q2⟩ := tdiv_range (lf i) 8 (by omega) hf1 hf2
      have HW40 := hidV (fun w : World => within_any ((lf i).tdiv 8) 40 w (by omega) (by omega) q1 q2)
      have HW8 := hidV (fun w : World => within_any (lf i) 8 w (by omega) (by omega) hf1 hf2)
      obtain ⟨u, hu⟩ : ∃ u : Nat, (lf i).tdiv 8 % 40 = u := ⟨((lf i).tdiv 8 % 40).toNat, by omega⟩
      have hu40 : u < 40 := by omega
      rw [hu] at HW40
      obtain ⟨d, hd⟩ : ∃ d : Nat, lf i % 8 = d := ⟨(lf i % 8).toNat, by omega⟩
      have hd8 : d < 8 := by omega
      rw [hd] at HW8
      clear hlc hu hd
      obtain ⟨m, hm⟩ : ∃ m : Nat, i % 3 = m := ⟨_, rfl⟩
      have hm3 : m < 3 := by omega
      have htm : Int.tmod (i : Int) 3 = (m : Int) := by rw [← hm]; rw [Int.tmod_eq_emod_of_nonneg (by omega)]; omega
      have hm3' : ¬ ((3 : Int) ≤ (m : Int)) := by omega
      obtain ⟨sn, hsz, hcell⟩ := three_cells wr m hm3
      have HSZ := hidV hsz
      clear hm hsz
      have hb0 := HLC.out wr HBO.out.i.below
      have hb1 : (wr.alloc (.cells #[.string ⟨#[108, 105, 98, 111, 114]⟩, .string ⟨#[114, 97, 105, 110]⟩, .string ⟨#[195, 182, 108]⟩] 9)).cell? ⟨lb, lo + i, none⟩ = some (.int .i64 (lf i)) := HLC.out _ (HBO.out.step (below_alloc (Below.refl _ _) _)).i.below
      have HB1 := hidV (HBO.out.step (below_alloc (Below.refl wr.heap.size wr) (.cells #[.string ⟨#[108, 105, 98, 111, 114]⟩, .string ⟨#[114, 97, 105, 110]⟩, .string ⟨#[195, 182, 108]⟩] 9)))
      have HFK : Hid (fixOk (sn, (d : Int))) := ⟨Nat.le_trans HSZ.out (by decide), by omega, by omega⟩
      have HREM : Hid (Int.tmod (lf i) 29 = 28 ∨ (Int.tmod (lf i) 29 == 28) = false) := by
        by_cases h : Int.tmod (lf i) 29 = 28
        · exact .inl h
        · exact .inr (by simpa using h)
      go_wp2_with fail
      refine calls_same (HW40.out _) ?_
      rcases HREM.out with h29 | h29
      all_goals
        go_wp2_with fail
        refine calls_same (HW8.out _) ?_
        go_wp2_with fail
        generalize wr.alloc (.cells #[.string ⟨#[108, 105, 98, 111, 114]⟩, .string ⟨#[114, 97, 105, 110]⟩, .string ⟨#[195, 182, 108]⟩] 9) = W1 at *
        refine (bo_fix HB1.out sn d _ HFK.out).mono ?_
        rintro e w2 ⟨rfl, hb2, hg2⟩
        have HB2 := hidV hb2
        have hb3 := HLC.out w2 HB2.out.i.below
        clear hb2 hg2 hb0 hb1 hcell
        go_wp2_with fail
        refine calls_same (HW8.out _) ?_
        go_wp2_with fail
        refine (bo_rfix HB2.out sn d _ (Nat.le_trans HSZ.out (by decide)) (by have := HLN.out; omega)).mono ?_
        rintro e w3 ⟨rfl, hb4, hr4⟩
        have HB3 := hidV hb4
        clear hb4 hr4 hb3
        go_wp2_with fail
        go_roundw
        case rel => exact ⟨i + 1, _, by go_num, by omega, by omega, HB3.out, fixN_vals _ _ _ _ HVL.out, Nat.le_trans (fixN_length _ _ _ _) (by have := HLN.out; omega)⟩
        case measure => simp [intOf] <;> omega
    · rcases (by omega : ((i : Int) < (ll : Int) ∧ ¬ (i : Int) < 12) ∨ ¬ (i : Int) < (ll : Int)) with ⟨h1, h3⟩ | h1
      all_goals
        clear hlt
        go_wp2_with fail
        go_end0
        exact ⟨rfl, K, HBO.out, HVL.out, Nat.le_trans HLN.out hi12⟩

end Go.Proofs.Ytngjlkdpplmpaab.Vl
namespace Go.Proofs.Ytngjlkdpplmpaab.Ca
open Go.RowKit Wd Cn Vl
set_option linter.unusedVariables false

def nA : ByteArray := ⟨#[97]⟩
/-- A contract from the latest of i days on. -/
structure NestIs (i : Nat) (c : C) (D : Int) : Prop where
  form : formC c = true
  nodes : c.nodes ≤ 1 + i
  depth : c.depth ≤ 1 + i
  labs : c.labels = []
  ok : c.Ok
  wt : c.weight ≤ 1 + i
  pays : ∀ K d k, 0 ≤ d → ck K tN c d k = ⟨[⟨Max.max d D, usd, k⟩], [], 0⟩
  lo : 0 ≤ D
  hi : D ≤ 50
theorem NestIs.zero : NestIs 0 (.one usd) 0 := ⟨by rfl, by decide, by decide, rfl, show usd.size ≤ 2147483648 by decide, by decide, fun K d k hd => by simp only [ck]; rw [show Max.max d 0 = d by omega], by omega, by omega⟩
theorem NestIs.next {i : Nat} {c : C} {D : Int} (h : NestIs i c D) (n m : Int) (h1 : 0 ≤ n) (h2 : n ≤ 50) (hm : Max.max D n = m) : NestIs (i + 1) (.when n c) m := by
  have hlo := h.lo
  have hhi := h.hi
  refine ⟨?_, ?_, ?_, h.labs, ⟨⟨by omega, by omega⟩, h.ok⟩, ?_, ?_, by omega, by omega⟩
  · simp only [formC, h.form, (dayB_iff n).2 ⟨h1, by omega⟩]; rfl
  · simp only [C.nodes]; have := h.nodes; omega
  · simp only [C.depth]; have := h.depth; omega
  · simp only [C.weight]; have := h.wt; omega
  · intro K d k hd
    simp only [ck]
    rw [h.pays K _ k (by omega), show Max.max (Max.max d n) D = Max.max d m by omega]
theorem NestIs.of {i : Nat} {c : C} {D : Int} (h : NestIs i c D) (hi : i ≤ 4) (K : KW) (s r : Int) (h1 : 0 ≤ s) (h2 : s ≤ 10000) (hr : Max.max s D = r) : ofK K tN c s = ⟨[⟨r, usd, 1⟩], [], 0⟩ := by
  have hc : chkC c = 0 := chkC_by h.form (by have := h.nodes; omega) (by have := h.depth; omega) (by rw [h.labs]; rfl)
  unfold ofK
  rw [if_pos ⟨hc, h1, h2⟩, h.pays K s 1 h1, if_pos rfl, hr]
  rfl
def nestO (c : C) : C := .when 10 (.or nA c .zero)
def nestK (e : Int) : KW := ⟨[], [((tN, nA), (0, e))]⟩
theorem nestK_at (e : Int) : (nestK e).chosen (tN, nA) = some (0, e) := by simp [KW.chosen, nestK]
theorem nestK_of (e : Int) (h1 : 0 ≤ e) (h2 : e ≤ 10000) : chE ⟨[], []⟩ tN nA 0 e = 0 ∧ chN ⟨[], []⟩ tN nA 0 e = nestK e := by
  have h : chE ⟨[], []⟩ tN nA 0 e = 0 := by
    unfold chE
    rw [show nameGo 0 (runesOf tN) = true by rfl, show nameGo 0 (runesOf nA) = true by rfl, (Wd.dayB_iff e).2 ⟨h1, h2⟩]
    rfl
  exact ⟨h, by unfold chN; rw [if_pos h]; rfl⟩
theorem nestK_chs (e : Int) (h1 : 0 ≤ e) (h2 : e ≤ 10000) : KW.Chs (nestK e) := by
  intro r hr
  simp [nestK] at hr
  subst hr
  exact ⟨.inl rfl, h1, h2⟩
theorem nestK_vals (e : Int) : KW.Vals (nestK e) := fun r hr => by cases hr
theorem nestO_ok {i : Nat} {c : C} {D : Int} (h : NestIs i c D) : (nestO c).Ok := ⟨⟨by omega, by omega⟩, show nA.size ≤ 2147483648 by decide, h.ok, trivial⟩
theorem nestO_of {i : Nat} {c : C} {D : Int} (h : NestIs i c D) (hi : i ≤ 4) (e s r : Int) (h1 : 0 ≤ s) (h2 : s ≤ 10000) (e1 : 0 ≤ e) (hr : Max.max (Max.max (Max.max s 10) e) D = r) : ofK (nestK e) tN (nestO c) s = ⟨[⟨r, usd, 1⟩], [], 0⟩ := by
  have hc : chkC (nestO c) = 0 := by
    refine chkC_by ?_ (by simp only [nestO, C.nodes]; have := h.nodes; omega) (by simp only [nestO, C.depth]; have := h.depth; omega) (by simp only [nestO, C.labels, h.labs]; rfl)
    simp only [nestO, formC, h.form]
    rfl
  have e : ck (nestK e) tN (nestO c) s 1 = ⟨[⟨r, usd, 1⟩], [], 0⟩ := by
    simp only [nestO, ck]
    rw [nestK_at]
    simp only
    rw [if_pos trivial, h.pays _ _ 1 (by omega), hr]
  unfold ofK
  rw [if_pos ⟨hc, h1, h2⟩, e, if_pos rfl]
  rfl

set_option maxHeartbeats 8000000 in
set_option maxRecDepth 100000 in
theorem nested_walk (da : Option Addr) (dl dc : Nat) (df : Nat → Int) (start chosen : Int) (w : World) (hda : HasInts w da dl df) (hdl : dl ≤ 9223372036854775807) (a1 : -9223372036854775808 ≤ start) (a2 : start ≤ 9223372036854775807) (b1 : -9223372036854775808 ≤ chosen) (b2 : chosen ≤ 9223372036854775807) :
    Calls Try.prog 5 #[.slice da dl dc, .int .i64 start, .int .i64 chosen] w fun e w' => e = .returned (.bool true) ∧ Below w.heap.size w w' := by
  have HD := hidC hda
  have HWA := hidC (fun w : World => within_any start 30 w (by omega) (by omega) a1 a2)
  have HWB := hidC (fun w : World => within_any chosen 60 w (by omega) (by omega) b1 b2)
  obtain ⟨s, hs⟩ : ∃ s, start % 30 = s := ⟨_, rfl⟩
  obtain ⟨e, he⟩ : ∃ e, chosen % 60 = e := ⟨_, rfl⟩
  have hs1 : 0 ≤ s := by omega
  have hs2 : s < 30 := by omega
  have he1 : 0 ≤ e := by omega
  have he2 : e < 60 := by omega
  rw [hs] at HWA
  rw [he] at HWB
  clear hs he a1 a2 b1 b2 hda
  have HZV : Hid ((C.one usd).val = .iface 26 (.agg #[.string ⟨#[117, 115, 100]⟩])) := rfl
  go_enter Try.func5, Try.ntmps5
  go_wp2_with fail
  refine calls_same (HWA.out _) ?_
  go_wp2_with fail
  refine calls_same (HWB.out _) ?_
  go_wp2_with fail
  go_loopw [9, 7, 8] (fun s9 s7 s8 wr => ∃ (i : Nat) (c : C) (D : Int), s9 = .int .i64 i ∧ i ≤ 4 ∧ i ≤ dl ∧ s7 = c.val ∧ s8 = .int .i64 D ∧ NestIs i c D ∧ Below w.heap.size w wr) (fun s9 _ _ _ => 4 - (intOf s9).toNat)
  case atStart => exact ⟨0, .one usd, 0, rfl, by omega, by omega, HZV.out.symm, rfl, NestIs.zero, Below.refl _ _⟩
  case round =>
    obtain ⟨i, c, D, rfl, hi4, hid, rfl, rfl, him, hb⟩ := hrel
    have HIM := hidC him
    have HB := hidC hb
    obtain ⟨t, x, hx⟩ := form_val c him.form
    have HX := hidC hx
    have hD1 := him.lo
    have hD2 := him.hi
    rw [hx]
    clear him hb hx
    by_cases hlt : i < dl ∧ i < 4
    · obtain ⟨g1, g2⟩ := hlt
      have g1' : (i : Int) < (dl : Int) := by omega
      have g2' : (i : Int) < 4 := by omega
      obtain ⟨lb, lo, rfl, hlb, hlc, hf1, hf2⟩ := HD.out i g1
      have q1 := (HB.out.cell (p := ⟨lb, lo + i, none⟩) hlb).trans hlc
      have HW50 := hidC (fun w : World => within_any (df i) 50 w (by omega) (by omega) hf1 hf2)
      obtain ⟨n, hn⟩ : ∃ n, df i % 50 = n := ⟨_, rfl⟩
      have hn1 : 0 ≤ n := by omega
      have hn2 : n < 50 := by omega
      rw [hn] at HW50
      clear hlc hn hf1 hf2
      obtain ⟨m, hm⟩ : ∃ m, Max.max D n = m := ⟨_, rfl⟩
      have HNX := hidC (HIM.out.next n m hn1 (by omega) hm)
      have HVN : Hid ((C.when n c).val = .iface 61 (.agg #[.int .i64 n, c.val])) := rfl
      rw [HX.out] at HVN
      rcases (by omega : (D < n ∧ m = n) ∨ (n ≤ D ∧ m = D)) with ⟨ho, rfl⟩ | ⟨ho, rfl⟩
      all_goals
        clear hm
        go_wp2_with fail
        refine calls_same (HW50.out _) ?_
        go_wp2_with fail
        go_roundw
        case rel => exact ⟨i + 1, _, _, by go_num, by omega, by omega, HVN.out.symm, rfl, HNX.out, HB.out⟩
        case measure => simp [intOf] <;> omega
    · obtain ⟨r, hr⟩ : ∃ r, Max.max s D = r := ⟨_, rfl⟩
      obtain ⟨z, hz⟩ : ∃ z, Max.max (Max.max (Max.max s 10) e) D = z := ⟨_, rfl⟩
      have HOF := hidC (HIM.out.of hi4 ⟨[], []⟩ s r hs1 (by omega) hr)
      have HOO := hidC (nestO_of HIM.out hi4 e s z hs1 (by omega) he1 hz)
      have HOK := hidC HIM.out.ok
      have HOKO := hidC (nestO_ok HIM.out)
      have HWT : Hid (c.weight ≤ 1000000) := Nat.le_trans HIM.out.wt (by omega)
      have HWTO : Hid ((nestO c).weight ≤ 1000000) := by have := HIM.out.wt; simp only [Hid, nestO, C.weight]; omega
      have HVO : Hid ((nestO c).val = .iface 61 (.agg #[.int .i64 10, .iface 65 (.agg #[.string ⟨#[97]⟩, c.val, .iface 63 (.agg #[])])])) := rfl
      rw [HX.out] at HVO
      have HCE : Hid (chE ⟨[], []⟩ ⟨#[116]⟩ ⟨#[97]⟩ 0 e = 0 ∧ chN ⟨[], []⟩ ⟨#[116]⟩ ⟨#[97]⟩ 0 e = nestK e) := nestK_of e he1 (by omega)
      have HC0 := hidC (fun (w : World) (p f q : Nat) (hk : KIn w p f q ⟨[], []⟩) => cash_at c HOK.out HWT.out w p f q ⟨[], []⟩ tN (env_new hk _ (by decide)) s ⟨by omega, by omega⟩ _ HOF.out)
      rw [HX.out] at HC0
      unfold tN at HC0
      have HC1 := hidC (fun (w : World) (p f q : Nat) (hk : KIn w p f q (nestK e)) => cash_at (nestO c) HOKO.out HWTO.out w p f q (nestK e) tN ⟨hk, nestK_vals e, nestK_chs e he1 (by omega), by decide⟩ s ⟨by omega, by omega⟩ _ HOO.out)
      rw [HVO.out] at HC1
      have HCH1 : Hid (∀ (w : World) (p f q : Nat), KIn w p f q (nestK e) → Calls Try.prog 7 #[.string ⟨#[116]⟩, .iface 61 (.agg #[.int .i64 10, .iface 65 (.agg #[.string ⟨#[97]⟩, .iface t x, .iface 63 (.agg #[])])]), .int .i64 s, .pointer (some ⟨p, 0, none⟩)] w (OfIn w ⟨[⟨z, usd, 1⟩], [], 0⟩)) := HC1.out
      have hrr : (r == (if s < D then D else s)) = true := by
        rw [beq_iff_eq, ← hr]; split <;> omega
      have HZZ : Hid ((z == (if (if s < 10 then 10 else s) < (if e < D then D else e) then (if e < D then D else e) else (if s < 10 then 10 else s))) = true) := by
        unfold Hid
        rw [beq_iff_eq, ← hz]
        split
        · split at * <;> split <;> omega
        · split at * <;> split <;> omega
      have HEND : Hid (((i : Int) < (dl : Int) ∧ ¬ (i : Int) < 4) ∨ ¬ (i : Int) < (dl : Int)) := by unfold Hid; omega
      clear hr hz hlt HC1 HOK HOKO HWT HWTO HVO HOF HOO
      rcases HEND.out with ⟨h1, h2⟩ | h1
      all_goals
          go_wp2_with fail
          refine (new_in' wr).mono ?_
          rintro e1 w1 ⟨b, f, q, rfl, hi'⟩
          have HI : Hid (In wr w1 b f q ⟨[], []⟩) := hi'
          clear hi'
          go_wp2_with fail
          refine (HC0.out w1 b f q HI.out.kin).mono ?_
          rintro e2 w2 ⟨ao, cap, co, cap2, rfl, hA, hB, hb2⟩
          have HI2 := hidC (HI.out.step hb2)
          obtain ⟨g, rfl, hg, d0, d1, d2⟩ := hA 0 _ rfl
          simp only [Nat.zero_mul, Nat.zero_add] at d0 d1 d2
          unfold usd at d1
          clear hA hB hb2
          simp only [List.length_cons, List.length_nil]
          go_wp2_with fail
          all_goals
            clear d0 d1 d2
            have HI2b := hidC (HI2.out.step (below_alloc (Below.refl w2.heap.size w2) (.cells #[.int .i64 10, .iface 65 (.agg #[.string ⟨#[97]⟩, .iface t x, .iface 63 (.agg #[])])] 61)))
            have HX2 := hidC (heap_alloc_new w2 (.cells #[.int .i64 10, .iface 65 (.agg #[.string ⟨#[97]⟩, .iface t x, .iface 63 (.agg #[])])] 61))
            generalize w2.alloc (.cells #[.int .i64 10, .iface 65 (.agg #[.string ⟨#[97]⟩, .iface t x, .iface 63 (.agg #[])])] 61) = V at *
            refine (ch_any V b f q ⟨[], []⟩ HI2b.out.kin ⟨#[116]⟩ ⟨#[97]⟩ 0 e ⟨by decide, by decide⟩).mono ?_
            rintro e3 w3 ⟨rfl, hk3, hg3⟩
            have hne : w2.heap.size ≠ q := by
              rintro rfl
              obtain ⟨es, cl, hm, _⟩ := HI2b.out.kin.ch
              have := HX2.out
              rw [hm] at this
              cases this
            have hx3 := (hg3.block _ (Array.getElem?_eq_some_iff.1 HX2.out).1 hne).trans HX2.out
            have t0 : w3.cell? ⟨w2.heap.size, 0, none⟩ = some (.int .i64 10) := cell_of_row _ _ 0 _ _ _ hx3
            have t1 : w3.cell? ⟨w2.heap.size, 1, none⟩ = some (.iface 65 (.agg #[.string ⟨#[97]⟩, .iface t x, .iface 63 (.agg #[])])) := cell_of_row _ _ 1 _ _ _ hx3
            rw [HCE.out.2] at hk3
            have HI3 : Hid (In wr w3 b f q (nestK e)) := HI2b.out.gr hk3 hg3 HI2b.out.hc
            clear hk3 hg3 hne hx3
            rw [HCE.out.1]
            go_wp2_with fail
            clear t0 t1
            refine (HCH1.out w3 b f q HI3.out.kin).mono ?_
            rintro e4 w4 ⟨ao4, cap4, co4, cap5, rfl, hA, hB, hb4⟩
            have HI4 := hidC (HI3.out.step hb4)
            obtain ⟨g4, rfl, hg4, d0, d1, d2⟩ := hA 0 _ rfl
            simp only [Nat.zero_mul, Nat.zero_add] at d0 d1 d2
            clear hA hB hb4 d1 d2
            simp only [List.length_cons, List.length_nil]
            clear hrr
            have hzz := HZZ.out
            go_wp2_with fail
            all_goals
              refine (wakes10_any w4).mono ?_
              rintro e5 w5 ⟨rfl, hb5⟩
              have HI5 := hidC (HI4.out.step hb5)
              clear hb5
              go_wp2_with fail
              go_ret
              exact ⟨rfl, HB.out.trans (HI5.out.below.mono HB.out.size)⟩

end Go.Proofs.Ytngjlkdpplmpaab.Ca
