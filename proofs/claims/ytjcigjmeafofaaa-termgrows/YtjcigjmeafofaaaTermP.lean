/- The contract of a tree, as the statements make it. -/
import Derived.Test.YtjcigjmeafofaaaTermP1
import Derived.Test.YtjcigjmeafofaaaTermP2
import Derived.Test.YtjcigjmeafofaaaTermP3
import Derived.Test.YtjcigjmeafofaaaMakerC0
namespace Go.Proofs.Ytjcigjmeafofaaa
open Go.RowKit
set_option linter.unusedVariables false

mutual
/-- The contract that a tree stands for. -/
def termOf : T → C
  | .mk kind s n k => if kind = 1 then .zero else if kind = 2 then .one s else match kind, k with
    | 3, [a] => .give (termOf a)
    | 4, [a, b] => .and (termOf a) (termOf b)
    | 5, [a, b] => .or s (termOf a) (termOf b)
    | 6, [o, a] => .scale (obsOf o) (termOf a)
    | 7, [a] => .when n (termOf a)
    | 8, [o, a, b] => .iff (obsOf o) (termOf a) (termOf b)
    | _, _ => .odd .nilIface
end
/-- A tree whose contracts have as many parts as they need. -/
inductive SC : T → Prop
  | leaf (kind : Int) (s : ByteArray) (n : Int) (k : List T) (h : kind = 0 ∨ kind = 1 ∨ kind = 2 ∨ 8 < kind) (hs : s.size ≤ 2147483648) : SC (.mk kind s n k)
  | give (s : ByteArray) (n : Int) (a : T) (ha : SC a) : SC (.mk 3 s n [a])
  | and (s : ByteArray) (n : Int) (a b : T) (ha : SC a) (hb : SC b) : SC (.mk 4 s n [a, b])
  | or (s : ByteArray) (n : Int) (a b : T) (hs : s.size ≤ 2147483648) (ha : SC a) (hb : SC b) : SC (.mk 5 s n [a, b])
  | scale (s : ByteArray) (n : Int) (o a : T) (ho : o.Shaped) (ha : SC a) : SC (.mk 6 s n [o, a])
  | when (s : ByteArray) (n : Int) (a : T) (hn : -9223372036854775808 ≤ n ∧ n ≤ 9223372036854775807) (ha : SC a) : SC (.mk 7 s n [a])
  | iff (s : ByteArray) (n : Int) (o a b : T) (ho : o.Shaped) (ha : SC a) (hb : SC b) : SC (.mk 8 s n [o, a, b])
theorem termOf_ok {t : T} (h : SC t) : (termOf t).Ok := by
  induction h with
  | leaf kind s n k h hs =>
    unfold termOf
    split
    · trivial
    · split
      · exact hs
      · rcases h with rfl | rfl | rfl | h
        · exact .inl rfl
        · contradiction
        · contradiction
        · split <;> first | omega | exact .inl rfl
  | give s n a ha iha => exact iha
  | and s n a b ha hb iha ihb => exact ⟨iha, ihb⟩
  | or s n a b hs ha hb iha ihb => exact ⟨hs, iha, ihb⟩
  | scale s n o a ho ha iha => exact ⟨obsOf_ok o ho, iha⟩
  | when s n a hn ha iha => exact ⟨hn, iha⟩
  | iff s n o a b ho ha hb iha ihb => exact ⟨obsOf_ok o ho, iha, ihb⟩
def TermPost (w : World) (c : C) (e : Ending) (w' : World) : Prop := e = .returned c.val ∧ Below w.heap.size w w'

set_option maxHeartbeats 1000000 in
set_option maxRecDepth 100000 in
theorem termT_zero (s : ByteArray) (n : Int) (a : Option Addr) (l cap : Nat) (w : World) :
    Calls Try.prog 9 #[.agg #[.int .i64 1, .string s, .int .i64 n, .slice a l cap]] w (TermPost w .zero) := by
  go_enter Try.func9, Try.ntmps9
  go_wp2_with fail
  go_ret
  exact ⟨rfl, below_alloc (Below.refl _ _) _⟩
set_option maxHeartbeats 1000000 in
set_option maxRecDepth 100000 in
theorem termT_one (s : ByteArray) (n : Int) (a : Option Addr) (l cap : Nat) (w : World) :
    Calls Try.prog 9 #[.agg #[.int .i64 2, .string s, .int .i64 n, .slice a l cap]] w (TermPost w (.one s)) := by
  go_enter Try.func9, Try.ntmps9
  go_wp2_with fail
  go_ret
  exact ⟨rfl, below_alloc (Below.refl _ _) _⟩
set_option maxHeartbeats 1000000 in
set_option maxRecDepth 100000 in
theorem termT_none (kind : Int) (s : ByteArray) (n : Int) (a : Option Addr) (l cap : Nat) (w : World) (h : kind = 0 ∨ 8 < kind) :
    Calls Try.prog 9 #[.agg #[.int .i64 kind, .string s, .int .i64 n, .slice a l cap]] w (TermPost w (.odd .nilIface)) := by
  have e1 : (kind == 1) = false := by rw [beq_eq_false_iff_ne]; omega
  have e2 : (kind == 2) = false := by rw [beq_eq_false_iff_ne]; omega
  have e3 : (kind == 3) = false := by rw [beq_eq_false_iff_ne]; omega
  have e4 : (kind == 4) = false := by rw [beq_eq_false_iff_ne]; omega
  have e5 : (kind == 5) = false := by rw [beq_eq_false_iff_ne]; omega
  have e6 : (kind == 6) = false := by rw [beq_eq_false_iff_ne]; omega
  have e7 : (kind == 7) = false := by rw [beq_eq_false_iff_ne]; omega
  have e8 : (kind == 8) = false := by rw [beq_eq_false_iff_ne]; omega
  clear h
  go_enter Try.func9, Try.ntmps9
  go_wp2_with fail
  go_ret
  exact ⟨rfl, below_alloc (Below.refl _ _) _⟩
set_option maxHeartbeats 1000000 in
set_option maxRecDepth 100000 in
theorem termT_give (k0 : T) (s : ByteArray) (n : Int) (a : Option Addr) (cap : Nat) (w : World) (hcap : 1 ≤ cap) (hcm : cap ≤ 9223372036854775807) (hK : KAt w 0 [k0] a 0) (r0 : Value) (q0 : One' r0)
    (ih0 : ∀ w v, TIn w 0 k0 v → Calls Try.prog 9 #[v] w fun e w' => e = .returned r0 ∧ Below w.heap.size w w') :
    Calls Try.prog 9 #[.agg #[.int .i64 3, .string s, .int .i64 n, .slice a 1 cap]] w fun e w' => e = .returned (.iface 37 (.agg #[r0])) ∧ Below w.heap.size w w' := by
  have hb : Below w.heap.size w (w.alloc (.cells #[.int .i64 3, .string s, .int .i64 n, .slice a 1 cap] 30)) := below_alloc (Below.refl _ _) _
  obtain ⟨b, o, ka, ca, rfl, c0, c1, c2, c3, t0⟩ := (hK.below hb).cells (j := 0) (t := k0) rfl
  simp only [Nat.zero_mul, Nat.add_zero] at c0 c1 c2 c3
  have HT0 := hidIn t0
  have HI0 := hidIn ih0
  have cv := q0.cells
  have mv := q0.cells
  unfold Value.cells at mv
  clear hK t0 ih0 q0
  go_enter Try.func9, Try.ntmps9
  go_wp2_with fail
  refine (HI0.out _ _ HT0.out).mono ?_
  rintro e w2 ⟨rfl, hb2⟩
  go_wp2_with fail
  go_ret
  exact ⟨rfl, hb.trans (hb2.mono hb.size)⟩

theorem termT_any {t : T} (h : SC t) : ∀ w v, TIn w 0 t v → Calls Try.prog 9 #[v] w (TermPost w (termOf t)) := by
  induction h with
  | leaf kind s n k h hs =>
    rintro w v ⟨a, cap, rfl, hc1, hc2, hK⟩
    simp only [T.kind, T.s, T.n, T.k]
    by_cases h1 : kind = 1
    · subst h1
      have : termOf (.mk 1 s n k) = .zero := by unfold termOf; rw [if_pos rfl]
      rw [this]
      exact termT_zero s n a k.length cap w
    by_cases h2 : kind = 2
    · subst h2
      have : termOf (.mk 2 s n k) = .one s := by unfold termOf; rw [if_neg (by decide), if_pos rfl]
      rw [this]
      exact termT_one s n a k.length cap w
    have hodd : termOf (.mk kind s n k) = .odd .nilIface := by
      unfold termOf
      rw [if_neg h1, if_neg h2]
      split <;> first | omega | rfl
    rw [hodd]
    exact termT_none kind s n a k.length cap w (by omega)
  | give s n a ha iha =>
    rintro w v ⟨x, cap, rfl, hc1, hc2, hK⟩
    exact termT_give a s n x cap w hc1 hc2 hK _ ((termOf a).one' (termOf_ok ha)) iha
  | and s n a b ha hb iha ihb =>
    rintro w v ⟨x, cap, rfl, hc1, hc2, hK⟩
    exact termT_and a b s n x cap w hc1 hc2 hK _ _ ((termOf a).one' (termOf_ok ha)) ((termOf b).one' (termOf_ok hb)) iha ihb
  | or s n a b hs ha hb iha ihb =>
    rintro w v ⟨x, cap, rfl, hc1, hc2, hK⟩
    exact termT_or a b s n x cap w hc1 hc2 hK _ _ ((termOf a).one' (termOf_ok ha)) ((termOf b).one' (termOf_ok hb)) iha ihb
  | scale s n o a ho ha iha =>
    rintro w v ⟨x, cap, rfl, hc1, hc2, hK⟩
    exact termT_scale o a s n x cap w hc1 hc2 hK _ _ ((obsOf o).one' (obsOf_ok o ho)) ((termOf a).one' (termOf_ok ha)) (obsT_any o ho) iha
  | when s n a hn ha iha =>
    rintro w v ⟨x, cap, rfl, hc1, hc2, hK⟩
    exact termT_when a s n x cap w hc1 hc2 hK _ ((termOf a).one' (termOf_ok ha)) iha
  | iff s n o a b ho ha hb iha ihb =>
    rintro w v ⟨x, cap, rfl, hc1, hc2, hK⟩
    exact termT_iff o a b s n x cap w hc1 hc2 hK _ _ _ ((obsOf o).one' (obsOf_ok o ho)) ((termOf a).one' (termOf_ok ha)) ((termOf b).one' (termOf_ok hb)) (obsT_any o ho) iha ihb

end Go.Proofs.Ytjcigjmeafofaaa
