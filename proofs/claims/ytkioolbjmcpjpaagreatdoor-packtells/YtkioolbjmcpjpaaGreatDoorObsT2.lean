/- The number of any tree. -/
import Derived.Test.YtkioolbjmcpjpaaGreatDoorObsT
namespace Go.Proofs.YtkioolbjmcpjpaaGreatDoor
open Go.RowKit
set_option linter.unusedVariables false

set_option maxHeartbeats 1000000 in
set_option maxRecDepth 100000 in
theorem obsT_const (s : ByteArray) (n : Int) (a : Option Addr) (l cap : Nat) (w : World) :
    Calls Tryz.prog 48 #[.agg #[.int .i64 11, .string s, .int .i64 n, .slice a l cap]] w (ObsPost w (.const n)) := by
  go_enter Tryz.func48, Tryz.ntmps48
  go_wp2_with fail
  go_ret
  exact ⟨rfl, below_alloc (Below.refl _ _) _⟩
set_option maxHeartbeats 1000000 in
set_option maxRecDepth 100000 in
theorem obsT_fix (s : ByteArray) (n : Int) (a : Option Addr) (l cap : Nat) (w : World) :
    Calls Tryz.prog 48 #[.agg #[.int .i64 12, .string s, .int .i64 n, .slice a l cap]] w (ObsPost w (.fix s)) := by
  go_enter Tryz.func48, Tryz.ntmps48
  go_wp2_with fail
  go_ret
  exact ⟨rfl, below_alloc (Below.refl _ _) _⟩
set_option maxHeartbeats 1000000 in
set_option maxRecDepth 100000 in
theorem obsT_none (kind : Int) (s : ByteArray) (n : Int) (a : Option Addr) (l cap : Nat) (w : World) (h1 : kind ≠ 11) (h2 : kind ≠ 12) (h3 : kind ≠ 13) (h4 : kind ≠ 14) (h5 : kind ≠ 15) (h6 : kind ≠ 16) :
    Calls Tryz.prog 48 #[.agg #[.int .i64 kind, .string s, .int .i64 n, .slice a l cap]] w (ObsPost w (.odd .nilIface)) := by
  have e1 : (kind == 11) = false := by simpa using h1
  have e2 : (kind == 12) = false := by simpa using h2
  have e3 : (kind == 13) = false := by simpa using h3
  have e4 : (kind == 14) = false := by simpa using h4
  have e5 : (kind == 15) = false := by simpa using h5
  have e6 : (kind == 16) = false := by simpa using h6
  go_enter Tryz.func48, Tryz.ntmps48
  go_wp2_with fail
  go_ret
  exact ⟨rfl, below_alloc (Below.refl _ _) _⟩
set_option maxHeartbeats 1000000 in
set_option maxRecDepth 100000 in
theorem obsT_neg (k0 : T) (s : ByteArray) (n : Int) (a : Option Addr) (cap : Nat) (w : World) (hcap : 1 ≤ cap) (hcm : cap ≤ 9223372036854775807) (hK : KAt w 0 [k0] a 0) (o0 : O) (hv0 : o0.Ok)
    (ih0 : ∀ w v, TIn w 0 k0 v → Calls Tryz.prog 48 #[v] w (ObsPost w o0)) :
    Calls Tryz.prog 48 #[.agg #[.int .i64 14, .string s, .int .i64 n, .slice a 1 cap]] w (ObsPost w (.neg o0)) := by
  have hb : Below w.heap.size w (w.alloc (.cells #[.int .i64 14, .string s, .int .i64 n, .slice a 1 cap] 33)) := below_alloc (Below.refl _ _) _
  obtain ⟨b, o, ka, ca, rfl, c0, c1, c2, c3, t0⟩ := (hK.below hb).cells (j := 0) (t := k0) rfl
  simp only [Nat.zero_mul, Nat.add_zero] at c0 c1 c2 c3
  have HI0 : Hid (∀ w v, TIn w 0 k0 v → Calls Tryz.prog 48 #[v] w (ObsPost w o0)) := ih0
  have HT0 : Hid (TIn _ 0 k0 _) := t0
  have HB : Hid (Below w.heap.size w (w.alloc (.cells #[.int .i64 14, .string s, .int .i64 n, .slice (some ⟨b, o, none⟩) 1 cap] 33))) := hb
  clear ih0 t0 hK hb
  go_enter Tryz.func48, Tryz.ntmps48
  go_wp2_with fail
  refine (HI0.out _ _ HT0.out).mono ?_
  rintro e w1 ⟨rfl, hb1⟩
  have HB1 : Hid (Below w.heap.size w w1) := HB.out.trans (hb1.mono HB.out.size)
  have HV : Hid ((O.neg o0).val = .iface 168 (.agg #[o0.val])) := rfl
  rcases o0.val_iface hv0 with e | ⟨t, x, e⟩
  all_goals
    have HE := e
    rw [e]
    clear e
    go_wp2_with fail
    go_ret
    exact ⟨by rw [HV.out, HE]; rfl, HB1.out⟩

theorem obsT_any (t : T) : t.Shaped → ∀ w v, TIn w 0 t v → Calls Tryz.prog 48 #[v] w (ObsPost w (obsOf t)) := by
  induction t using T.ind with
  | _ kind s n k ih =>
    intro hs w v hv
    have hs' := hs
    unfold T.Shaped at hs
    obtain ⟨h2, h1, _, hn1, hn2, hsz, hk⟩ := hs
    obtain ⟨a, cap, rfl, hc1, hc2, hK⟩ := hv
    simp only [T.kind, T.s, T.n, T.k] at hc1 hK ⊢
    have ih' : ∀ t ∈ k, ∀ w v, TIn w 0 t v → Calls Tryz.prog 48 #[v] w (ObsPost w (obsOf t)) := fun t ht => ih t ht (shapedL_mem hk t ht)
    have hok : ∀ t ∈ k, (obsOf t).Ok := fun t ht => obsOf_ok t (shapedL_mem hk t ht)
    by_cases e11 : kind = 11
    · subst e11; simp only [obsOf]; exact obsT_const s n a k.length cap w
    by_cases e12 : kind = 12
    · subst e12; simp only [obsOf]; exact obsT_fix s n a k.length cap w
    by_cases e14 : kind = 14
    · subst e14
      match k, h1 rfl, hc1, hK, ih', hok with
      | [k0], _, hc1, hK, ih', hok => simp only [obsOf, obsL]; exact obsT_neg k0 s n a cap w hc1 hc2 hK (obsOf k0) (hok k0 (by simp)) (ih' k0 (by simp))
    by_cases e13 : kind = 13
    · subst e13
      match k, h2 (.inl rfl), hc1, hK, ih', hok with
      | [k0, k1], _, hc1, hK, ih', hok => simp only [obsOf, obsL]; exact obsT_add k0 k1 s n a cap w hc1 hc2 hK (obsOf k0) (obsOf k1) (hok k0 (by simp)) (hok k1 (by simp)) (ih' k0 (by simp)) (ih' k1 (by simp))
    by_cases e15 : kind = 15
    · subst e15
      match k, h2 (.inr (.inl rfl)), hc1, hK, ih', hok with
      | [k0, k1], _, hc1, hK, ih', hok => simp only [obsOf, obsL]; exact obsT_mul k0 k1 s n a cap w hc1 hc2 hK (obsOf k0) (obsOf k1) (hok k0 (by simp)) (hok k1 (by simp)) (ih' k0 (by simp)) (ih' k1 (by simp))
    by_cases e16 : kind = 16
    · subst e16
      match k, h2 (.inr (.inr rfl)), hc1, hK, ih', hok with
      | [k0, k1], _, hc1, hK, ih', hok => simp only [obsOf, obsL]; exact obsT_max k0 k1 s n a cap w hc1 hc2 hK (obsOf k0) (obsOf k1) (hok k0 (by simp)) (hok k1 (by simp)) (ih' k0 (by simp)) (ih' k1 (by simp))
    have hodd : obsOf (.mk kind s n k) = .odd .nilIface := by
      unfold obsOf
      rw [if_neg e11, if_neg e12]
      match k with
      | [] => rfl
      | [a] => simp [obsL, e14]
      | [a, b] => simp [obsL, e13, e15, e16]
      | a :: b :: c :: l => rfl
    rw [hodd]
    exact obsT_none kind s n a k.length cap w e11 e12 e13 e14 e15 e16

end Go.Proofs.YtkioolbjmcpjpaaGreatDoor
