/- Sums of many, of package cents and of the reference; a list cut and copied: what each answers. -/
import Derived.Test.YtmnijlpklgocoaaLawsWalk
import Derived.Laws.AppendOwn
import Derived.Laws.AppendOwnNone
namespace Go.Proofs.Ytmnijlpklgocoaa
open Go.RowKit
set_option linter.unusedVariables false

/-- A list of numbers in memory, element by element. -/
def HasRow (w : World) (a : Option Addr) (len : Nat) (f : Nat → Int) : Prop :=
  ∀ i, i < len → ∃ b off, a = some ⟨b, off, none⟩ ∧ w.cell? ⟨b, off + i, none⟩ = some (.int .i64 (f i))

/-- The sum of the first n, one behind the other. -/
def sumF (f : Nat → Int) : Nat → Int × Bool
  | 0 => (0, true)
  | n + 1 => if (sumF f n).2 then addR (sumF f n).1 (f n) else (0, false)

theorem addR_shape (a b : Int) : (addR a b).2 = false → addR a b = (0, false) := addR_false
theorem sumF_shape (f : Nat → Int) (n : Nat) : (sumF f n).2 = false → sumF f n = (0, false) := by
  cases n with
  | zero => intro h; simp [sumF] at h
  | succ n =>
    intro h
    unfold sumF at *
    split
    · next x => rw [if_pos x] at h; exact addR_false h
    · rfl
theorem sumF_stays (f : Nat → Int) (k : Nat) (h : sumF f k = (0, false)) : ∀ n, k ≤ n → sumF f n = (0, false) := by
  intro n hn
  induction n with
  | zero => have : k = 0 := by omega
            subst this; exact h
  | succ n ih =>
    by_cases e : k = n + 1
    · subst e; exact h
    · have := ih (by omega)
      unfold sumF
      rw [this]; rfl
theorem sumF_step (f : Nat → Int) (k : Nat) (t : Int) (h : sumF f k = (t, true)) : sumF f (k + 1) = addR t (f k) := by
  show (if (sumF f k).2 then addR (sumF f k).1 (f k) else (0, false)) = _
  rw [h]; rfl

set_option maxHeartbeats 1000000 in
set_option maxRecDepth 100000 in
theorem sum_any (ao : Option Addr) (len cap : Nat) (f : Nat → Int) (w : World) (hr : HasRow w ao len f) (hl : len ≤ 9223372036854775807) :
    Calls Try.prog 14 #[.slice ao len cap] w fun e w' => e = .returned (.tuple #[.int .i64 (sumF f len).1, .bool (sumF f len).2]) ∧ w' = w := by
  have HR : Hid (HasRow w ao len f) := hr
  clear hr
  go_enter Try.func14, Try.ntmps14
  go_wp2_with fail
  go_loop [4, 11] (fun s4 s11 => ∃ (k : Nat) (t : Int), k ≤ len ∧ s11 = .int .i64 k ∧ s4 = .int .i64 t ∧ Hid (sumF f k = (t, true))) (fun _ s11 => len - (intOf s11).toNat)
  case atStart => exact ⟨0, 0, by omega, rfl, rfl, rfl⟩
  case round =>
    obtain ⟨k, t, hk, rfl, rfl, HS⟩ := hrel
    by_cases hlt : k < len
    · have hlt' : (k : Int) < (len : Int) := by omega
      obtain ⟨b, off, rfl, hc⟩ := HR.out k hlt
      have HS2 : Hid (sumF f (k + 1) = addR t (f k)) := sumF_step f k t HS.out
      have HS3 : Hid ((addR t (f k)).2 = false → sumF f len = (0, false)) := fun h => sumF_stays f (k + 1) (by rw [HS2.out]; exact addR_false h) len (by omega)
      go_wp2_with fail
      refine calls_same (add_any _ _ _) ?_
      generalize addR t (f k) = r at *
      obtain ⟨t', ok⟩ := r
      cases ok
      · go_wp2_with fail
        go_ret2
        exact ⟨ret_two (by rw [HS3.out trivial]), rfl⟩
      · go_wp2_with fail
        go_round
        case rel => exact ⟨k + 1, t', by omega, by go_num, rfl, HS2.out⟩
        case measure => simp [intOf]; omega
    · have hlt' : ¬ (k : Int) < (len : Int) := by omega
      have hkl : k = len := by omega
      go_wp2_with fail
      go_ret2
      exact ⟨ret_two (by rw [← hkl, HS.out]), rfl⟩

set_option maxHeartbeats 1000000 in
set_option maxRecDepth 100000 in
theorem refSum_any (ao : Option Addr) (len cap : Nat) (f : Nat → Int) (w : World) (hr : HasRow w ao len f) (hl : len ≤ 9223372036854775807) :
    Calls Try.prog 20 #[.slice ao len cap] w fun e w' => e = .returned (.tuple #[.int .i64 (sumF f len).1, .bool (sumF f len).2]) ∧ w' = w := by
  have HR : Hid (HasRow w ao len f) := hr
  clear hr
  go_enter Try.func20, Try.ntmps20
  go_wp2_with fail
  go_loop [4, 10] (fun s4 s11 => ∃ (k : Nat) (t : Int), k ≤ len ∧ s11 = .int .i64 k ∧ s4 = .int .i64 t ∧ Hid (sumF f k = (t, true))) (fun _ s11 => len - (intOf s11).toNat)
  case atStart => exact ⟨0, 0, by omega, rfl, rfl, rfl⟩
  case round =>
    obtain ⟨k, t, hk, rfl, rfl, HS⟩ := hrel
    by_cases hlt : k < len
    · have hlt' : (k : Int) < (len : Int) := by omega
      obtain ⟨b, off, rfl, hc⟩ := HR.out k hlt
      have HS2 : Hid (sumF f (k + 1) = addR t (f k)) := sumF_step f k t HS.out
      have HS3 : Hid ((addR t (f k)).2 = false → sumF f len = (0, false)) := fun h => sumF_stays f (k + 1) (by rw [HS2.out]; exact addR_false h) len (by omega)
      go_wp2_with fail
      refine calls_same (refAdd_any _ _ _) ?_
      generalize addR t (f k) = r at *
      obtain ⟨t', ok⟩ := r
      cases ok
      · go_wp2_with fail
        go_ret2
        exact ⟨ret_two (by rw [HS3.out trivial]), rfl⟩
      · go_wp2_with fail
        go_round
        case rel => exact ⟨k + 1, t', by omega, by go_num, rfl, HS2.out⟩
        case measure => simp [intOf]; omega
    · have hlt' : ¬ (k : Int) < (len : Int) := by omega
      have hkl : k = len := by omega
      go_wp2_with fail
      go_ret2
      exact ⟨ret_two (by rw [← hkl, HS.out]), rfl⟩

theorem infoInt : (Try.prog.info? 3).map (fun i => (i.zero, i.size, i.bytes)) = some (some (.int .i64 0), 1, 8) := by kernel_rfl
def cellsF (f : Nat → Int) (m : Nat) : List Value := (List.range m).map fun i => .int .i64 (f i)
theorem cellsF_length (f : Nat → Int) (m : Nat) : (cellsF f m).length = m := by simp [cellsF]
theorem cellsF_get (f : Nat → Int) (m i : Nat) (h : i < m) : (cellsF f m)[i]? = some (.int .i64 (f i)) := by simp [cellsF, h]

set_option maxHeartbeats 1000000 in
set_option maxRecDepth 100000 in
theorem copy_any (ao : Option Addr) (m c : Nat) (f : Nat → Int) (w : World) (hr : HasRow w ao m f) (hn : ao = none → m = 0 ∧ c = 0) (hm : m ≤ 1000) :
    Calls Try.prog 24 #[.slice ao m c] w fun e w' => ∃ v, e = .returned v ∧ w'.ownsRow w.heap.size 3 1 v m (cellsF f m) ∧ Below w.heap.size w w' := by
  obtain ⟨i0, hi, hz0, hz1, hz2⟩ := info_parts infoInt
  have HR : Hid (HasRow w ao m f) := hr
  clear hr
  cases ao with
  | none =>
    obtain ⟨rfl, rfl⟩ := hn rfl
    go_enter Try.func24, Try.ntmps24
    go_wp2_with (at_builtin; refine wpList_append_own_none rfl (.const (.slice none 0 0)) (.tmp 3) 27 rfl w.heap.size 3 i0 1 Try.underlying27 hi _ _ _ rfl (World.ownsRow_nil _ _ _ _) rfl ?_)
    go_ret
    exact ⟨_, rfl, World.ownsRow_nil _ _ _ _, Below.refl _ _⟩
  | some ad =>
    have hnews : ∀ (j : Nat) (u : Value), (cellsF f m)[j]? = some u → w.cell? (ad.add j) = some u := by
      intro j u hu
      by_cases hj : j < m
      · obtain ⟨b, off, e, hc⟩ := HR.out j hj
        injection e with e
        subst e
        rw [cellsF_get f m j hj] at hu
        injection hu with hu
        rw [← hu, ← hc]
        by_cases j0 : j = 0
        · subst j0; simp [Addr.add]
        · simp [Addr.add, j0]
      · rw [List.getElem?_eq_none (by rw [cellsF_length]; omega)] at hu
        simp at hu
    have HN : Hid (∀ (j : Nat) (u : Value), (cellsF f m)[j]? = some u → w.cell? (ad.add j) = some u) := hnews
    clear hnews hn
    have hone : ∀ u ∈ cellsF f m, u.oneCell' = true := by
      intro u hu
      simp only [cellsF, List.mem_map] at hu
      obtain ⟨i, _, rfl⟩ := hu
      rfl
    have HO : Hid (∀ u ∈ cellsF f m, u.oneCell' = true) := hone
    clear hone
    go_enter Try.func24, Try.ntmps24
    go_wp2_with (at_builtin; refine wpList_append_own _ rfl (.const (.slice none 0 0)) (.tmp 3) 27 rfl w.heap.size 3 i0 (.int .i64 0) 1 8 Try.underlying27 hi hz0 hz1 hz2 rfl (by decide) _ _ _ rfl (World.ownsRow_nil _ _ _ _) ad m c (cellsF f m) rfl (by rw [cellsF_length]; omega) HN.out HO.out (by unfold maxLen; omega) (by omega) (Nat.le_refl _) ?_; intro v2 w2 hown2 hgrow2 _)
    go_ret
    refine ⟨_, rfl, ?_, ?_⟩
    · simpa using hown2
    · exact (Below.refl _ _).grown hgrow2 (Nat.le_refl _) (fun k hk => by simp [Value.ownBlock, Act.eval] at hk)

/-- What is known of a slice that came in. -/
def SliceOk (a : Option Addr) (l c : Nat) : Prop := (a = none → l = 0 ∧ c = 0) ∧ l ≤ c ∧ c ≤ 9223372036854775807

theorem HasRow.cut {w : World} {a : Option Addr} {l m : Nat} {f : Nat → Int} (h : HasRow w a l f) (hm : m ≤ l) : HasRow w a m f := fun i hi => h i (by omega)

set_option maxHeartbeats 1000000 in
set_option maxRecDepth 100000 in
theorem cut_any (ao : Option Addr) (l c n : Nat) (f : Nat → Int) (w : World) (hr : HasRow w ao l f) (hn : SliceOk ao l c) (hm : n ≤ 1000) :
    Calls Try.prog 12 #[.slice ao l c, .int .i64 n] w fun e w' => ∃ v, e = .returned v ∧ w'.ownsRow w.heap.size 3 1 v (min l n) (cellsF f (min l n)) ∧ Below w.heap.size w w' := by
  obtain ⟨hnn, hlc, hc⟩ := hn
  have HR : Hid (HasRow w ao l f) := hr
  clear hr
  cases ao with
  | none =>
    obtain ⟨rfl, rfl⟩ := hnn rfl
    have hnn' : (0 : Int) ≤ (n : Int) := by omega
    go_enter Try.func12, Try.ntmps12
    go_wp2_with fail
    refine (copy_any none 0 0 f w (fun i hi => absurd hi (by omega)) (fun _ => ⟨rfl, rfl⟩) (by omega)).mono ?_
    rintro e w1 ⟨v, rfl, hown, hb⟩
    go_wp2_with fail
    go_ret
    exact ⟨_, rfl, by rw [Nat.zero_min]; exact hown, hb⟩
  | some ad =>
    clear hnn
    by_cases h : l ≤ n
    · have h' : (l : Int) ≤ (n : Int) := by omega
      rw [Nat.min_eq_left h]
      go_enter Try.func12, Try.ntmps12
      go_wp2_with fail
      refine (copy_any (some ad) l _ f w HR.out (fun h => by cases h) (by omega)).mono ?_
      rintro e w1 ⟨v, rfl, hown, hb⟩
      go_wp2_with fail
      go_ret
      exact ⟨_, rfl, hown, hb⟩
    · have h' : (n : Int) < (l : Int) := by omega
      rw [Nat.min_eq_right (by omega)]
      go_enter Try.func12, Try.ntmps12
      go_wp2_with fail
      refine (copy_any (some ad) n _ f w (HR.out.cut (by omega)) (fun h => by cases h) (by omega)).mono ?_
      rintro e w1 ⟨v, rfl, hown, hb⟩
      go_wp2_with fail
      go_ret
      exact ⟨_, rfl, hown, hb⟩

end Go.Proofs.Ytmnijlpklgocoaa
