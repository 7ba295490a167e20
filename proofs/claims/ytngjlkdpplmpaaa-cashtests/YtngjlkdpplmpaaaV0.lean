/- What a number is, by what is known: reckoned as plain functions, and the small calls of package value. -/
import Derived.Test.YtngjlkdpplmpaaaCn
import Derived.Test.YtngjlkdpplmpaaaKi
import Derived.Test.YtngjlkdpplmpaaaSize
import Derived.Shelf.Abstract
namespace Go.Proofs.Ytngjlkdpplmpaaa.Vl
open Go.RowKit Wd Cn
set_option linter.unusedVariables false

/-- What came of a number: the number, whether it is known, the error. -/
structure Rk where
  n : Int
  known : Bool
  e : Int
def Rk.cs (r : Rk) : Array Value := #[.int .i64 r.n, .bool r.known, .int .i64 r.e]
def Rk.val (r : Rk) : Value := .agg r.cs
def inR (p : Int × Bool) : Rk := if p.2 = true then ⟨p.1, true, 0⟩ else ⟨0, false, 6⟩
def gtR (a b : Int) : Int × Bool := (Max.max a b, true)
def bothR (l r : Rk) (j : Int → Int → Int × Bool) : Rk := if l.e ≠ 0 then l else if r.e ≠ 0 then r else if (!l.known || !r.known) = true then ⟨0, false, 0⟩ else inR (j l.n r.n)
def otherR (r : Rk) : Rk := if r.e ≠ 0 ∨ r.known = false then r else inR (negR r.n)
def rk (K : KW) (d : Int) : O → Rk
  | .const n => ⟨n, true, 0⟩
  | .fix s => ⟨(K.fixed (s, d)).getD 0, (K.fixed (s, d)).isSome, 0⟩
  | .add l r => bothR (rk K d l) (rk K d r) addR
  | .neg o => otherR (rk K d o)
  | .mul l r => bothR (rk K d l) (rk K d r) mulR
  | .max l r => bothR (rk K d l) (rk K d r) gtR
  | .odd _ => ⟨0, false, 0⟩

theorem infoR : (Try.prog.info? 210).map (·.size) = some 3 := by kernel_rfl
/-- The result's cell, filled. -/
theorem ret_row {fn : Func} {p : Tmp} (h : fn.results = #[.cell p 210]) (tmps : Array Value) (w : World) (g : Nat) (r : Rk) (hp : tmps.getD p undef = .pointer (some ⟨g, 0, none⟩)) (hg : w.heap[g]? = some (.cells r.cs 210)) :
    (results fn tmps).run Try.prog w = .ok r.val w :=
  results_cell_row h tmps w g 210 r.cs (0, 0) _ hp hg Try.underlying210 rfl infoR

set_option maxHeartbeats 1000000 in
/-- What within answers. -/
theorem in_any (n : Int) (ok : Bool) (w : World) : Calls Try.prog 112 #[.int .i64 n, .bool ok] w fun e w' => e = .returned (inR (n, ok)).val ∧ Below w.heap.size w w' := by
  cases ok
  all_goals
    go_enter Try.func112, Try.ntmps112
    go_wp2
  · refine bodyPost_ret (ret_row rfl _ _ w.heap.size ⟨0, false, 6⟩ rfl ?_) rfl ?_
    · exact heap_alloc_new _ _
    · exact ⟨rfl, below_alloc (Below.refl _ _) _⟩
  · refine bodyPost_ret (ret_row rfl _ _ w.heap.size ⟨n, true, 0⟩ rfl ?_) rfl ?_
    · exact heap_alloc_new _ _
    · exact ⟨rfl, below_alloc (Below.refl _ _) _⟩

set_option maxHeartbeats 1000000 in
theorem gt_any (a b : Int) (w : World) : Calls Try.prog 110 #[.int .i64 a, .int .i64 b] w fun e w' => e = .returned (.tuple #[.int .i64 (gtR a b).1, .bool (gtR a b).2]) ∧ w' = w := by
  rcases Int.lt_or_le a b with h | h
  · have HM : Hid (Max.max a b = b) := by unfold Hid; omega
    go_enter Try.func110, Try.ntmps110
    go_wp2
    go_ret2
    exact ⟨ret_two (by unfold gtR; rw [HM.out]), rfl⟩
  · have HM : Hid (Max.max a b = a) := by unfold Hid; omega
    go_enter Try.func110, Try.ntmps110
    go_wp2
    go_ret2
    exact ⟨ret_two (by unfold gtR; rw [HM.out]), rfl⟩

/-- Three cells of a block, filled one by one. -/
def set3 (W : World) (R : Nat) (a b c : Value) : World := ((W.setCell ⟨R, 0, none⟩ a).setCell ⟨R, 1, none⟩ b).setCell ⟨R, 2, none⟩ c
theorem set3_row {W : World} {R t : Nat} {x y z : Value} (h : W.heap[R]? = some (.cells #[x, y, z] t)) (a b c : Value) : (set3 W R a b c).heap[R]? = some (.cells #[a, b, c] t) :=
  heap_setCell_same _ R 2 _ t c (heap_setCell_same _ R 1 _ t b (heap_setCell_same _ R 0 _ t a h))
theorem set3_below {B R : Nat} {w W : World} (h : Below B w W) (hR : B ≤ R) (a b c : Value) : Below B w (set3 W R a b c) := ((h.setCell hR a).setCell hR b).setCell hR c
theorem row3_cells {W : World} {R t : Nat} {x y z : Value} (h : W.heap[R]? = some (.cells #[x, y, z] t)) :
    W.cell? ⟨R, 0, none⟩ = some x ∧ W.cell? ⟨R, 1, none⟩ = some y ∧ W.cell? ⟨R, 2, none⟩ = some z ∧ W.frozen? ⟨R, 0, none⟩ = false ∧ W.frozen? ⟨R, 1, none⟩ = false ∧ W.frozen? ⟨R, 2, none⟩ = false :=
  ⟨cell_of_row _ _ _ _ _ _ h, cell_of_row _ _ _ _ _ _ h, cell_of_row _ _ _ _ _ _ h, frozen_of_row _ _ _ _ _ h, frozen_of_row _ _ _ _ _ h, frozen_of_row _ _ _ _ _ h⟩

theorem alloc_1 (w : World) (a b : Obj) : ((w.alloc a).alloc b).heap[w.heap.size + 1]? = some b := by
  have h := heap_alloc_new (w.alloc a) b
  rwa [show (w.alloc a).heap.size = w.heap.size + 1 by simp] at h
theorem alloc_2 (w : World) (a b c : Obj) : (((w.alloc a).alloc b).alloc c).heap[w.heap.size + 2]? = some c := by
  have h := heap_alloc_new ((w.alloc a).alloc b) c
  rwa [show ((w.alloc a).alloc b).heap.size = w.heap.size + 2 by simp] at h

set_option maxHeartbeats 1000000 in
theorem other_any (r : Rk) (w : World) : Calls Try.prog 107 #[r.val] w fun e w' => e = .returned (otherR r).val ∧ Below w.heap.size w w' := by
  obtain ⟨n, k, e⟩ := r
  unfold Rk.val Rk.cs
  by_cases he : e = 0
  · subst he
    cases k
    · go_enter Try.func107, Try.ntmps107
      go_wp2_with fail
      refine bodyPost_ret (ret_row rfl _ _ _ ⟨n, false, 0⟩ rfl (alloc_1 _ _ _)) rfl ?_
      exact ⟨by simp [otherR, Rk.val, Rk.cs], below_alloc (below_alloc (Below.refl _ _) _) _⟩
    · go_enter Try.func107, Try.ntmps107
      go_wp2_with fail
      refine (Cn.neg_any _ _).mono ?_
      rintro e w1 ⟨rfl, rfl⟩
      go_wp2_with fail
      refine (in_any _ _ _).mono ?_
      rintro e w1 ⟨rfl, hb⟩
      have HZ : Hid (w1.heap[w.heap.size + 1]? = some (.cells #[.int .i64 0, .bool false, .int .i64 0] 210)) := (hb.block _ (by simp)).trans (alloc_1 _ _ _)
      have HB : Hid (Below w.heap.size w w1) := (below_alloc (below_alloc (Below.refl _ _) _) _).trans (hb.mono (by simp; omega))
      clear hb
      obtain ⟨c0, c1, c2, f0, f1, f2⟩ := row3_cells HZ.out
      have HR : Hid (otherR ⟨n, true, 0⟩ = inR ((negR n).1, (negR n).2)) := by unfold Hid; simp [otherR]
      unfold Rk.val Rk.cs
      generalize inR ((negR n).1, (negR n).2) = x at *
      go_wp2_with fail
      refine bodyPost_ret (ret_row rfl _ _ _ x rfl (set3_row HZ.out _ _ _)) rfl ?_
      exact ⟨by rw [HR.out]; rfl, set3_below HB.out (by omega) _ _ _⟩
  · have h1 : (e != 0) = true := by simpa using he
    go_enter Try.func107, Try.ntmps107
    go_wp2_with fail
    refine bodyPost_ret (ret_row rfl _ _ _ ⟨n, k, e⟩ rfl (alloc_1 _ _ _)) rfl ?_
    exact ⟨by simp [otherR, Rk.val, Rk.cs, he], below_alloc (below_alloc (Below.refl _ _) _) _⟩

set_option maxHeartbeats 1000000 in
theorem both_any (l r : Rk) (f : Nat) (j : Int → Int → Int × Bool) (hent : ∀ (args : Array Value) (w : World), (callFunc f args).run Try.prog w = .ok (.enter f args) w)
    (hj : ∀ a b w, Calls Try.prog f #[.int .i64 a, .int .i64 b] w fun e w' => e = .returned (.tuple #[.int .i64 (j a b).1, .bool (j a b).2]) ∧ w' = w) (w : World) :
    Calls Try.prog 108 #[l.val, r.val, .func (.func f) #[] #[]] w fun e w' => e = .returned (bothR l r j).val ∧ Below w.heap.size w w' := by
  obtain ⟨n, k, e⟩ := l
  obtain ⟨m, q, d⟩ := r
  unfold Rk.val Rk.cs
  have HJ : Hid (∀ a b w, Calls Try.prog f #[.int .i64 a, .int .i64 b] w fun e w' => e = .returned (.tuple #[.int .i64 (j a b).1, .bool (j a b).2]) ∧ w' = w) := hj
  clear hj
  by_cases he : e = 0
  · subst he
    by_cases hd : d = 0
    · subst hd
      cases hk : (!k || !q)
      · obtain rfl : k = true := by cases k <;> simp_all
        obtain rfl : q = true := by cases q <;> simp_all
        clear hk
        go_enter Try.func108, Try.ntmps108
        go_wp2_with fail
        refine (HJ.out _ _ _).mono ?_
        rintro e w1 ⟨rfl, rfl⟩
        go_wp2_with fail
        refine (in_any _ _ _).mono ?_
        rintro e w1 ⟨rfl, hb⟩
        have HZ : Hid (w1.heap[w.heap.size + 2]? = some (.cells #[.int .i64 0, .bool false, .int .i64 0] 210)) := (hb.block _ (by simp)).trans (alloc_2 _ _ _ _)
        have HB : Hid (Below w.heap.size w w1) := (below_alloc (below_alloc (below_alloc (Below.refl _ _) _) _) _).trans (hb.mono (by simp; omega))
        clear hb
        obtain ⟨c0, c1, c2, f0, f1, f2⟩ := row3_cells HZ.out
        have HR : Hid (bothR ⟨n, true, 0⟩ ⟨m, true, 0⟩ j = inR ((j n m).1, (j n m).2)) := by unfold Hid; simp [bothR]
        unfold Rk.val Rk.cs
        generalize inR ((j n m).1, (j n m).2) = x at *
        go_wp2_with fail
        refine bodyPost_ret (ret_row rfl _ _ _ x rfl (set3_row HZ.out _ _ _)) rfl ?_
        exact ⟨by rw [HR.out]; rfl, set3_below HB.out (by omega) _ _ _⟩
      · have HR : Hid (bothR ⟨n, k, 0⟩ ⟨m, q, 0⟩ j = ⟨0, false, 0⟩) := by unfold Hid; simp only [bothR]; rw [if_neg (by simp), if_neg (by simp), if_pos hk]
        rw [HR.out]
        cases k
        all_goals
          cases q
          all_goals
            first
            | (simp at hk; done)
            | (clear hk
               go_enter Try.func108, Try.ntmps108
               go_wp2_with fail
               refine bodyPost_ret (ret_row rfl _ _ _ ⟨0, false, 0⟩ rfl (alloc_2 _ _ _ _)) rfl ?_
               exact ⟨rfl, below_alloc (below_alloc (below_alloc (Below.refl _ _) _) _) _⟩)
    · have h1 : (d != 0) = true := by simpa using hd
      go_enter Try.func108, Try.ntmps108
      go_wp2_with fail
      refine bodyPost_ret (ret_row rfl _ _ _ ⟨m, q, d⟩ rfl (alloc_2 _ _ _ _)) rfl ?_
      exact ⟨by simp [bothR, Rk.val, Rk.cs, hd], below_alloc (below_alloc (below_alloc (Below.refl _ _) _) _) _⟩
  · have h1 : (e != 0) = true := by simpa using he
    go_enter Try.func108, Try.ntmps108
    go_wp2_with fail
    refine bodyPost_ret (ret_row rfl _ _ _ ⟨n, k, e⟩ rfl (alloc_2 _ _ _ _)) rfl ?_
    exact ⟨by simp [bothR, Rk.val, Rk.cs, he], below_alloc (below_alloc (below_alloc (Below.refl _ _) _) _) _⟩

end Go.Proofs.Ytngjlkdpplmpaaa.Vl
