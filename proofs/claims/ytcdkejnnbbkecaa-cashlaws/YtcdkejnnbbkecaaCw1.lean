/- Package cents on one and two numbers, and the reference beside it: what each answers. -/
import Derived.Test.YtcdkejnnbbkecaaBase
import Derived.Maps.Own
import Derived.Maps.OwnOps
import Derived.Maps.OwnSet
import Derived.DeepKeys4
import Derived.OwnWalk
import Derived.Laws.Externs
import Derived.Test.YtcdkejnnbbkecaaSize
import Derived.Shelf.Abstract
import Derived.Test.YtcdkejnnbbkecaaNames
import Derived.Test.YtcdkejnnbbkecaaKeep
import Derived.Test.YtcdkejnnbbkecaaFormT
import Derived.Test.YtcdkejnnbbkecaaRefLab
import Derived.Lib.OthersKept
namespace Go.Proofs.Ytcdkejnnbbkecaa.Cn
open Go.RowKit
set_option linter.unusedVariables false

theorem ret_two {a b : Int} {p q : Bool} (h : (a, p) = (b, q)) : Ending.returned (.tuple #[.int .i64 a, .bool p]) = .returned (.tuple #[.int .i64 b, .bool q]) := by
  injection h with h1 h2; rw [h1, h2]

def addR (a b : Int) : Int × Bool := if vB a && vB b && vB (a + b) then (a + b, true) else (0, false)
def mulR (a b : Int) : Int × Bool := if vB a && vB b && vB (a * b) then (a * b, true) else (0, false)
def negR (a : Int) : Int × Bool := if vB a then (-a, true) else (0, false)
def absI (a : Int) : Int := if a < 0 then -a else a

set_option maxHeartbeats 400000 in
theorem checked_any (n : Int) (w : World) :
    Calls Try.prog 88 #[.int .i64 n] w fun e w' => e = .returned (.tuple #[.int .i64 (if vB n then n else 0), .bool (vB n)]) ∧ w' = w := by
  cases hv : vB n
  all_goals
    go_enter Try.func88, Try.ntmps88
    go_wp2_with (go_at_call 56; refine calls_same (valid_any _ _) ?_)
    go_ret2
    exact ⟨ret_two (by simp), rfl⟩

set_option maxHeartbeats 400000 in
theorem size_any (n : Int) (w : World) (h1 : -1000000000000 ≤ n) (h2 : n ≤ 1000000000000) :
    Calls Try.prog 80 #[.int .i64 n] w fun e w' => e = .returned (.int .i64 (absI n)) ∧ w' = w := by
  by_cases h : n < 0
  all_goals
    go_enter Try.func80, Try.ntmps80
    go_wp2
    go_ret
    exact ⟨ret_int (by unfold absI; split <;> omega), rfl⟩

set_option maxHeartbeats 400000 in
theorem neg_any (n : Int) (w : World) :
    Calls Try.prog 39 #[.int .i64 n] w fun e w' => e = .returned (.tuple #[.int .i64 (negR n).1, .bool (negR n).2]) ∧ w' = w := by
  cases hv : vB n
  · go_enter Try.func39, Try.ntmps39
    go_wp2_with (go_at_call 56; refine calls_same (valid_any _ _) ?_)
    go_ret2
    exact ⟨ret_two (by simp [negR, hv]), rfl⟩
  · have hb := (vB_iff n).1 hv
    obtain ⟨hb1, hb2⟩ := hb
    go_enter Try.func39, Try.ntmps39
    go_wp2_with (go_at_call 56; refine calls_same (valid_any _ _) ?_)
    go_ret2
    exact ⟨ret_two (by simp [negR, hv]), rfl⟩

set_option maxHeartbeats 400000 in
theorem add_any (a b : Int) (w : World) :
    Calls Try.prog 84 #[.int .i64 a, .int .i64 b] w fun e w' => e = .returned (.tuple #[.int .i64 (addR a b).1, .bool (addR a b).2]) ∧ w' = w := by
  cases ha : vB a
  · go_enter Try.func84, Try.ntmps84
    go_wp2_with (go_at_call 56; refine calls_same (valid_any _ _) ?_)
    go_ret2
    exact ⟨ret_two (by simp [addR, ha]), rfl⟩
  cases hb : vB b
  · go_enter Try.func84, Try.ntmps84
    go_wp2_with (go_at_call 56; refine calls_same (valid_any _ _) ?_)
    go_ret2
    exact ⟨ret_two (by simp [addR, ha, hb]), rfl⟩
  obtain ⟨h1, h2⟩ := (vB_iff a).1 ha
  obtain ⟨h3, h4⟩ := (vB_iff b).1 hb
  cases hc : vB (a + b)
  all_goals
    go_enter Try.func84, Try.ntmps84
    go_wp2_with (first | (go_at_call 56; refine calls_same (valid_any _ _) ?_) | (go_at_call 88; refine calls_same (checked_any _ _) ?_))
    go_ret2
    exact ⟨ret_two (by simp [addR, ha, hb, hc]), rfl⟩

theorem mul_abs (a b : Int) (ha : a ≠ 0) : (decide (1000000000000 / absI a < absI b)) = !vB (a * b) := by
  have h1 : 0 < absI a := by unfold absI; split <;> omega
  have h2 : absI b * absI a = absI (a * b) := by
    unfold absI
    by_cases x : a < 0 <;> by_cases y : b < 0
    · have : ¬ a * b < 0 := by have := Int.mul_pos_of_neg_of_neg x y; omega
      rw [if_pos x, if_pos y, if_neg this, Int.neg_mul_neg, Int.mul_comm]
    · by_cases z : b = 0
      · subst z; simp
      · have : a * b < 0 := Int.mul_neg_of_neg_of_pos x (by omega)
        rw [if_pos x, if_neg y, if_pos this, Int.mul_neg, Int.mul_comm]
    · have : a * b < 0 := Int.mul_neg_of_pos_of_neg (by omega) y
      rw [if_neg x, if_pos y, if_pos this, Int.neg_mul, Int.mul_comm]
    · have : ¬ a * b < 0 := by have := Int.mul_nonneg (show 0 ≤ a by omega) (show 0 ≤ b by omega); omega
      rw [if_neg x, if_neg y, if_neg this, Int.mul_comm]
  have h3 : absI b ≤ 1000000000000 / absI a ↔ absI b * absI a ≤ 1000000000000 := Int.le_ediv_iff_mul_le h1
  rw [h2] at h3
  have h4 : absI (a * b) ≤ 1000000000000 ↔ vB (a * b) = true := by
    rw [vB_iff]; unfold absI; split <;> omega
  cases h5 : vB (a * b)
  · rw [h5] at h4
    have : ¬ absI b ≤ 1000000000000 / absI a := by rw [h3, h4]; simp
    simp; omega
  · rw [h5] at h4
    have : absI b ≤ 1000000000000 / absI a := by rw [h3, h4]
    simp; omega

set_option maxHeartbeats 400000 in
theorem tooMany_any (a b : Int) (w : World) (h1 : -1000000000000 ≤ a) (h2 : a ≤ 1000000000000) (h3 : -1000000000000 ≤ b) (h4 : b ≤ 1000000000000) :
    Calls Try.prog 74 #[.int .i64 a, .int .i64 b] w fun e w' => e = .returned (.bool (!vB (a * b))) ∧ w' = w := by
  by_cases h : a = 0
  · subst h
    have HV : Hid (vB (0 * b) = true) := by rw [Int.zero_mul]; exact rfl
    go_enter Try.func74, Try.ntmps74
    go_wp2_with (go_at_call 80; refine calls_same (size_any _ _ (by omega) (by omega)) ?_)
    go_ret
    exact ⟨ret_bool (by rw [HV.out]; rfl), rfl⟩
  · have e0 : (a != 0) = true := by simpa using h
    have HM : Hid (decide (1000000000000 / absI a < absI b) = !vB (a * b)) := mul_abs a b h
    have hp : 0 < absI a := by unfold absI; split <;> omega
    have hp' : absI a ≤ 1000000000000 := by unfold absI; split <;> omega
    have hq : 0 ≤ absI b := by unfold absI; split <;> omega
    have hq' : absI b ≤ 1000000000000 := by unfold absI; split <;> omega
    go_enter Try.func74, Try.ntmps74
    go_wp2_with (go_at_call 80; refine calls_same (size_any _ _ (by omega) (by omega)) ?_)
    go_ret
    exact ⟨ret_bool (by rw [← HM.out]), rfl⟩

set_option maxHeartbeats 400000 in
theorem mul_any (a b : Int) (w : World) :
    Calls Try.prog 66 #[.int .i64 a, .int .i64 b] w fun e w' => e = .returned (.tuple #[.int .i64 (mulR a b).1, .bool (mulR a b).2]) ∧ w' = w := by
  cases ha : vB a
  · go_enter Try.func66, Try.ntmps66
    go_wp2_with (go_at_call 56; refine calls_same (valid_any _ _) ?_)
    go_ret2
    exact ⟨ret_two (by simp [mulR, ha]), rfl⟩
  cases hb : vB b
  · go_enter Try.func66, Try.ntmps66
    go_wp2_with (go_at_call 56; refine calls_same (valid_any _ _) ?_)
    go_ret2
    exact ⟨ret_two (by simp [mulR, ha, hb]), rfl⟩
  have h12 := (vB_iff a).1 ha
  have h34 := (vB_iff b).1 hb
  cases hc : vB (a * b)
  · go_enter Try.func66, Try.ntmps66
    go_wp2_with (first | (go_at_call 56; refine calls_same (valid_any _ _) ?_) | (go_at_call 74; refine calls_same (tooMany_any _ _ _ h12.1 h12.2 h34.1 h34.2) ?_))
    go_ret2
    exact ⟨ret_two (by simp [mulR, ha, hb, hc]), rfl⟩
  · have h56 := (vB_iff (a * b)).1 hc
    go_enter Try.func66, Try.ntmps66
    go_wp2_with (first | (go_at_call 56; refine calls_same (valid_any _ _) ?_) | (go_at_call 74; refine calls_same (tooMany_any _ _ _ h12.1 h12.2 h34.1 h34.2) ?_))
    go_ret2
    exact ⟨ret_two (by simp [mulR, ha, hb, hc]), rfl⟩

end Go.Proofs.Ytcdkejnnbbkecaa.Cn
namespace Go.Proofs.Ytcdkejnnbbkecaa.Wd
open Go.RowKit Go.Maps
set_option linter.unusedVariables false

/-- A map in memory: its keys and values, in the order in which they came. -/
def MapIs (w : World) (r : Nat) (l : List (Value × Value)) : Prop := ∃ es clock, w.heap[r]? = some (.map es clock) ∧ es.toList.map (fun e => (e.key, e.val)) = l

theorem MapIs.lt {w : World} {r : Nat} {l : List (Value × Value)} (h : MapIs w r l) : r < w.heap.size := by
  obtain ⟨es, clock, hb, _⟩ := h
  exact (Array.getElem?_eq_some_iff.1 hb).1
theorem MapIs.of_block {w w' : World} {r : Nat} {l : List (Value × Value)} (h : MapIs w r l) (e : w'.heap[r]? = w.heap[r]?) : MapIs w' r l := by
  obtain ⟨es, clock, hb, hl⟩ := h
  exact ⟨es, clock, e.trans hb, hl⟩
theorem MapIs.below {w w' : World} {r B : Nat} {l : List (Value × Value)} (h : MapIs w r l) (hb : Below B w w') (hr : r < B) : MapIs w' r l := h.of_block (hb.block r hr)
theorem MapIs.alloc {w : World} {r : Nat} {l : List (Value × Value)} (h : MapIs w r l) (o : Obj) : MapIs (w.alloc o) r l := h.of_block ((MapKept.heap_alloc w o).2 r h.lt)
theorem MapIs.new (w : World) : MapIs (w.alloc (.map #[] 0)) w.heap.size [] := ⟨#[], 0, (MapKept.heap_alloc w _).1, rfl⟩

/-- Keys of a type, all of them told. -/
def KeysOk (P : Program) (k : TypeId) (l : List (Value × Value)) : Prop := ∀ p ∈ l, ∃ kl, keyOf P k p.1 = some kl

section
variable {P : Program} {w : World} {t k e : TypeId} {r : Nat} {l : List (Value × Value)} {x : Value} {kx : Lit}

theorem find_of {es : Array MapEntry} (hl : es.toList.map (fun e => (e.key, e.val)) = l) (hk : KeysOk P k l) : ∀ e ∈ es.toList, ∃ kl, keyOf P k e.key = some kl := by
  intro e he
  subst hl
  exact hk _ (List.mem_map.2 ⟨e, he, rfl⟩)

theorem run_look_no (K : Keyed P k) (ht : P.underlying t = some (.map k e)) {z : Value} (hz : (zeroValue e).run P w = .ok z w) (h : MapIs w r l) (hk : KeysOk P k l) (hx : keyOf P k x = some kx) (hno : ∀ p ∈ l, p.1 ≠ x) (c : Bool) :
    (Instr.lookup t (.map (some r)) x c).run P w = .ok (if c then .tuple #[z, .bool false] else z) w := by
  obtain ⟨es, clock, hb, hl⟩ := h
  rcases K.find w hx es.toList (find_of hl hk) with ⟨h1, h2⟩ | ⟨j, e0, h1, h2, h3⟩
  · simp [Instr.lookup, run_underlying ht, MapKept.run_getObj_map hb, K.check w es.isEmpty hx, h1, hz, Result.andThen]
  · exfalso
    subst hl
    exact hno _ (List.mem_map.2 ⟨e0, List.mem_of_getElem? h2, rfl⟩) h3

theorem run_look_at (K : Keyed P k) (ht : P.underlying t = some (.map k e)) {v : Value} (h : MapIs w r l) (hk : KeysOk P k l) (hx : keyOf P k x = some kx) (hin : (x, v) ∈ l) (hone : ∀ p ∈ l, p.1 = x → p.2 = v) (c : Bool) :
    (Instr.lookup t (.map (some r)) x c).run P w = .ok (if c then .tuple #[v, .bool true] else v) w := by
  obtain ⟨es, clock, hb, hl⟩ := h
  rcases K.find w hx es.toList (find_of hl hk) with ⟨h1, h2⟩ | ⟨j, e0, h1, h2, h3⟩
  · exfalso
    subst hl
    obtain ⟨e0, he0, e1⟩ := List.mem_map.1 hin
    injection e1 with e2 e3
    exact h2 e0 he0 e2
  · have hv : e0.val = v := by
      subst hl
      exact hone _ (List.mem_map.2 ⟨e0, List.mem_of_getElem? h2, rfl⟩) h3
    subst hv
    simp [Instr.lookup, run_underlying ht, MapKept.run_getObj_map hb, K.check w es.isEmpty hx, h1, Result.andThen]

/-- What a store of a new key leaves, in each world that has the same memory. -/
theorem run_put_no (K : Keyed P k) (ht : P.underlying t = some (.map k e)) (h : MapIs w r l) (hk : KeysOk P k l) (hx : keyOf P k x = some kx) (hno : ∀ p ∈ l, p.1 ≠ x) (v : Value) :
    ∃ H, (∀ V : World, V.heap = w.heap → (Instr.mapUpdate t (.map (some r)) x v).run P V = .ok () { V with heap := H }) ∧ MapIs { w with heap := H } r (l ++ [(x, v)]) ∧ w.grownBy { w with heap := H } (some r) := by
  obtain ⟨es, clock, hb, hl⟩ := h
  have hlt : r < w.heap.size := (Array.getElem?_eq_some_iff.1 hb).1
  refine ⟨w.heap.setIfInBounds r (.map (es.push { key := x, val := v, born := clock }) (clock + 1)), ?_, ?_, ?_⟩
  · intro V hV
    have hbV : V.heap[r]? = some (.map es clock) := by rw [hV]; exact hb
    rcases K.find V hx es.toList (find_of hl hk) with ⟨h1, h2⟩ | ⟨j, e0, h1, h2, h3⟩
    · rw [← hV]
      simp [Instr.mapUpdate, run_underlying ht, MapKept.run_getObj_map hbV, K.check V false hx, h1, MapKept.run_setObj_map _ hbV, Result.andThen]
    · exfalso
      subst hl
      exact hno _ (List.mem_map.2 ⟨e0, List.mem_of_getElem? h2, rfl⟩) h3
  · exact ⟨_, _, (MapKept.heap_set hb).1, by simp [hl]⟩
  · exact { os := rfl, tape := rfl, output := rfl, size := by simp, block := fun i hi hne => (MapKept.heap_set hb).2 i (fun e => hne (by rw [e])) }

theorem run_len_map (ht : P.underlying t = some (.map k e)) (h : MapIs w r l) (ty : TypeId) : (Builtin.len_ #[t] ty #[.map (some r)]).run P w = .ok (.int .i64 l.length) w := by
  obtain ⟨es, clock, hb, hl⟩ := h
  have hs : es.size = l.length := by subst hl; simp
  simp [Builtin.len_, run_underlying ht, MapKept.run_getObj_map hb, goInt, hs, Result.andThen]
end

end Go.Proofs.Ytcdkejnnbbkecaa.Wd
namespace Go.Proofs.Ytcdkejnnbbkecaa.Wd
open Go.RowKit Go.Maps
set_option linter.unusedVariables false

theorem laid : laidOutB Try.prog = true := by kernel_rfl
theorem rowF : (143 : TypeId) < Try.prog.types.size := of_decide_eq_true (by kernel_rfl)
theorem rowC : (113 : TypeId) < Try.prog.types.size := of_decide_eq_true (by kernel_rfl)
theorem keyedF : Keyed Try.prog 143 := Keyed.of_law (deep_law_laid laid (m := 2) (by omega) rowF (by kernel_rfl) (by kernel_rfl))
theorem keyedC : Keyed Try.prog 113 := Keyed.of_law (deep_law_laid laid (m := 2) (by omega) rowC (by kernel_rfl) (by kernel_rfl))

/-- A name on a day, as a key; a contract's label; what was picked, and when. -/
def fixK (p : ByteArray × Int) : Value := .agg #[.string p.1, .int .i64 p.2]
def chK (p : ByteArray × ByteArray) : Value := .agg #[.string p.1, .string p.2]
def pkV (p : Int × Int) : Value := .agg #[.int .i64 p.1, .int .i64 p.2]
def fixOk (p : ByteArray × Int) : Prop := p.1.size ≤ maxLen ∧ -9223372036854775808 ≤ p.2 ∧ p.2 ≤ 9223372036854775807
def chOk (p : ByteArray × ByteArray) : Prop := p.1.size ≤ maxLen ∧ p.2.size ≤ maxLen

theorem keyTypeF : Try.prog.keyType 143 = true := by kernel_rfl
theorem keyTypeC : Try.prog.keyType 113 = true := by kernel_rfl
theorem cellsF : Try.prog.cellsOf 143 = 2 := by kernel_rfl
theorem cellsC : Try.prog.cellsOf 113 = 2 := by kernel_rfl
theorem cellsS : Try.prog.cellsOf 9 = 1 := by kernel_rfl
theorem cellsI : Try.prog.cellsOf 3 = 1 := by kernel_rfl
theorem keyOf_two {P : Program} {k : TypeId} {f0 f1 : Field} (hu : P.underlying k = some (.struct #[f0, f1])) (hk : P.keyType k = true) (hc : P.cellsOf k = 2) (n0 : (f0.name != "_") = true) (n1 : (f1.name != "_") = true) (o0 : f0.offset = 0) (o1 : f1.offset = 1)
    (c0 : P.cellsOf f0.type = 1) (c1 : P.cellsOf f1.type = 1) (x y : Value) (lx ly : List Lit) (hx : P.keyLits P.types.size f0.type [x] = some lx) (hy : P.keyLits P.types.size f1.type [y] = some ly) : ∃ kl, keyOf P k (.agg #[x, y]) = some kl := by
  have h1 : P.keyLits (P.types.size + 1) k [x, y] = some (lx ++ ly) := by
    unfold Program.keyLits
    simp only [hu]
    simp [hc, n0, n1, o0, o1, c0, c1, hx, hy]
  refine ⟨.string (keyBytes (lx ++ ly)), ?_⟩
  unfold keyOf
  rw [hu]
  simp [hk, Value.formed, hu, hc, Value.cells, h1]
theorem keyLits_str {P : Program} {t : TypeId} (hu : P.underlying t = some .string) {n : Nat} (hn : 0 < n) (s : ByteArray) (hs : s.size ≤ maxLen) : P.keyLits n t [.string s] = some [.string s.data.toList] := by
  obtain ⟨m, rfl⟩ : ∃ m, n = m + 1 := ⟨n - 1, by omega⟩
  unfold Program.keyLits
  simp only [hu]
  simp [hs]
theorem keyLits_int {P : Program} {t : TypeId} (hu : P.underlying t = some (.int .i64)) {n : Nat} (hn : 0 < n) (d : Int) (hd : (Lit.int .i64 d).wf = true) : P.keyLits n t [.int .i64 d] = some [.int .i64 d] := by
  obtain ⟨m, rfl⟩ : ∃ m, n = m + 1 := ⟨n - 1, by omega⟩
  unfold Program.keyLits
  simp only [hu]
  simp [hd]

theorem keyOf_fix (p : ByteArray × Int) (h : fixOk p) : ∃ kl, keyOf Try.prog 143 (fixK p) = some kl :=
  keyOf_two Try.underlying143 keyTypeF cellsF (by rfl) (by rfl) rfl rfl cellsS cellsI _ _ _ _ (keyLits_str Try.underlying9 (Nat.lt_of_le_of_lt (Nat.zero_le _) rowF) _ h.1)
    (keyLits_int Try.underlying3 (Nat.lt_of_le_of_lt (Nat.zero_le _) rowF) _ (WalkArith.wf_i64 ⟨h.2.1, h.2.2⟩))

theorem keyOf_ch (p : ByteArray × ByteArray) (h : chOk p) : ∃ kl, keyOf Try.prog 113 (chK p) = some kl :=
  keyOf_two Try.underlying113 keyTypeC cellsC (by rfl) (by rfl) rfl rfl cellsS cellsS _ _ _ _ (keyLits_str Try.underlying9 (Nat.lt_of_le_of_lt (Nat.zero_le _) rowF) _ h.1)
    (keyLits_str Try.underlying9 (Nat.lt_of_le_of_lt (Nat.zero_le _) rowF) _ h.2)

theorem fixK_inj {p q : ByteArray × Int} : fixK p = fixK q ↔ p = q := by
  constructor
  · intro h
    simp [fixK] at h
    exact Prod.ext h.1 h.2
  · rintro rfl; rfl
theorem chK_inj {p q : ByteArray × ByteArray} : chK p = chK q ↔ p = q := by
  constructor
  · intro h
    simp [chK] at h
    exact Prod.ext h.1 h.2
  · rintro rfl; rfl

/-- What is known, in the order in which it came to be known. -/
structure KW where
  F : List ((ByteArray × Int) × Int)
  C : List ((ByteArray × ByteArray) × (Int × Int))
def fixL (F : List ((ByteArray × Int) × Int)) : List (Value × Value) := F.map fun p => (fixK p.1, .int .i64 p.2)
def chL (C : List ((ByteArray × ByteArray) × (Int × Int))) : List (Value × Value) := C.map fun p => (chK p.1, pkV p.2)
def KW.fixed (K : KW) (p : ByteArray × Int) : Option Int := (K.F.find? fun q => decide (q.1 = p)).map (·.2)
def KW.chosen (K : KW) (p : ByteArray × ByteArray) : Option (Int × Int) := (K.C.find? fun q => decide (q.1 = p)).map (·.2)
structure KW.Ok (K : KW) : Prop where
  fo : ∀ q ∈ K.F, fixOk q.1
  co : ∀ q ∈ K.C, chOk q.1
  fn : (K.F.map (·.1)).Nodup
  cn : (K.C.map (·.1)).Nodup

theorem keysF {K : KW} (h : K.Ok) : KeysOk Try.prog 143 (fixL K.F) := by
  intro p hp
  obtain ⟨q, hq, rfl⟩ := List.mem_map.1 hp
  exact keyOf_fix _ (h.fo q hq)
theorem keysC {K : KW} (h : K.Ok) : KeysOk Try.prog 113 (chL K.C) := by
  intro p hp
  obtain ⟨q, hq, rfl⟩ := List.mem_map.1 hp
  exact keyOf_ch _ (h.co q hq)

theorem find_none {α β : Type} [DecidableEq α] (l : List (α × β)) (p : α) : (l.find? fun q => decide (q.1 = p)).map (·.2) = none ↔ ∀ q ∈ l, q.1 ≠ p := by
  simp
theorem find_some {α β : Type} [DecidableEq α] (l : List (α × β)) (p : α) (v : β) (h : (l.find? fun q => decide (q.1 = p)).map (·.2) = some v) : (p, v) ∈ l := by
  rw [Option.map_eq_some_iff] at h
  obtain ⟨q, hq, rfl⟩ := h
  have h1 := List.mem_of_find?_eq_some hq
  have h2 := List.find?_some hq
  simp at h2
  subst h2
  exact h1
theorem nodup_one {α β : Type} {l : List (α × β)} (h : (l.map (·.1)).Nodup) {p : α} {v u : β} (h1 : (p, v) ∈ l) (h2 : (p, u) ∈ l) : v = u := by
  induction l with
  | nil => cases h1
  | cons a l ih =>
    simp only [List.map_cons, List.nodup_cons] at h
    rcases List.mem_cons.1 h1 with e1 | e1 <;> rcases List.mem_cons.1 h2 with e2 | e2
    · rw [← e1] at e2; injection e2 with _ e; exact e.symm
    · exact absurd (List.mem_map.2 ⟨_, e2, by rw [← e1]⟩) h.1
    · exact absurd (List.mem_map.2 ⟨_, e1, by rw [← e2]⟩) h.1
    · exact ih h.2 e1 e2

theorem zeroI (w : World) : (zeroValue 3).run Try.prog w = .ok (.int .i64 0) w := by kernel_rfl
theorem zeroP (w : World) : (zeroValue 115).run Try.prog w = .ok (pkV (0, 0)) w := by kernel_rfl

/-- What a look-up answers. -/
theorem look_fix {w : World} {f : Nat} {K : KW} (hK : K.Ok) (h : MapIs w f (fixL K.F)) (p : ByteArray × Int) (hp : fixOk p) :
    (Instr.lookup 104 (.map (some f)) (fixK p) true).run Try.prog w = .ok (.tuple #[.int .i64 ((K.fixed p).getD 0), .bool (K.fixed p).isSome]) w := by
  obtain ⟨kl, hkl⟩ := keyOf_fix p hp
  cases hf : K.fixed p with
  | none =>
    have hn := (find_none K.F p).1 hf
    refine run_look_no keyedF Try.underlying104 (zeroI _) h (keysF hK) hkl ?_ true
    intro q hq e
    obtain ⟨r, hr, rfl⟩ := List.mem_map.1 hq
    exact hn r hr (fixK_inj.1 e)
  | some v =>
    have hin := find_some K.F p v hf
    refine run_look_at keyedF Try.underlying104 h (keysF hK) hkl (List.mem_map.2 ⟨_, hin, rfl⟩) ?_ true
    intro q hq e
    obtain ⟨⟨r1, r2⟩, hr, rfl⟩ := List.mem_map.1 hq
    have e1 : r1 = p := fixK_inj.1 e
    subst e1
    rw [nodup_one hK.fn hr hin]
theorem look_ch {w : World} {f : Nat} {K : KW} (hK : K.Ok) (h : MapIs w f (chL K.C)) (p : ByteArray × ByteArray) (hp : chOk p) :
    (Instr.lookup 105 (.map (some f)) (chK p) true).run Try.prog w = .ok (.tuple #[pkV ((K.chosen p).getD (0, 0)), .bool (K.chosen p).isSome]) w := by
  obtain ⟨kl, hkl⟩ := keyOf_ch p hp
  cases hf : K.chosen p with
  | none =>
    have hn := (find_none K.C p).1 hf
    refine run_look_no keyedC Try.underlying105 (zeroP _) h (keysC hK) hkl ?_ true
    intro q hq e
    obtain ⟨r, hr, rfl⟩ := List.mem_map.1 hq
    exact hn r hr (chK_inj.1 e)
  | some v =>
    have hin := find_some K.C p v hf
    refine run_look_at keyedC Try.underlying105 h (keysC hK) hkl (List.mem_map.2 ⟨_, hin, rfl⟩) ?_ true
    intro q hq e
    obtain ⟨⟨r1, r2⟩, hr, rfl⟩ := List.mem_map.1 hq
    have e1 : r1 = p := chK_inj.1 e
    subst e1
    rw [nodup_one hK.cn hr hin]

/-- The world in memory: a pointer's block p, its maps in the blocks f and c. -/
structure KIn (w : World) (p f c : Nat) (K : KW) : Prop where
  blk : w.heap[p]? = some (.cells #[.map (some f), .map (some c)] 107)
  fix : MapIs w f (fixL K.F)
  ch : MapIs w c (chL K.C)
  fc : f ≠ c
  ok : K.Ok
theorem KIn.pf {w : World} {p f c : Nat} {K : KW} (h : KIn w p f c K) : p ≠ f := by
  rintro rfl
  obtain ⟨es, cl, hb, _⟩ := h.fix
  have := h.blk
  rw [hb] at this
  cases this
theorem KIn.pc {w : World} {p f c : Nat} {K : KW} (h : KIn w p f c K) : p ≠ c := by
  rintro rfl
  obtain ⟨es, cl, hb, _⟩ := h.ch
  have := h.blk
  rw [hb] at this
  cases this
theorem KIn.lt {w : World} {p f c : Nat} {K : KW} (h : KIn w p f c K) : p < w.heap.size ∧ f < w.heap.size ∧ c < w.heap.size := ⟨(Array.getElem?_eq_some_iff.1 h.blk).1, h.fix.lt, h.ch.lt⟩
theorem KIn.same {w w' : World} {p f c : Nat} {K : KW} (h : KIn w p f c K) (h1 : w'.heap[p]? = w.heap[p]?) (h2 : w'.heap[f]? = w.heap[f]?) (h3 : w'.heap[c]? = w.heap[c]?) : KIn w' p f c K :=
  ⟨h1.trans h.blk, h.fix.of_block h2, h.ch.of_block h3, h.fc, h.ok⟩
theorem KIn.below {w w' : World} {p f c : Nat} {K : KW} (h : KIn w p f c K) (hb : Below w.heap.size w w') : KIn w' p f c K :=
  h.same (hb.block _ h.lt.1) (hb.block _ h.lt.2.1) (hb.block _ h.lt.2.2)
theorem KIn.cell0 {w : World} {p f c : Nat} {K : KW} (h : KIn w p f c K) : w.cell? ⟨p, 0, none⟩ = some (.map (some f)) := by simp [World.cell?, h.blk]
theorem KIn.cell1 {w : World} {p f c : Nat} {K : KW} (h : KIn w p f c K) : w.cell? ⟨p, 1, none⟩ = some (.map (some c)) := by simp [World.cell?, h.blk]

end Go.Proofs.Ytcdkejnnbbkecaa.Wd
namespace Go.Proofs.Ytcdkejnnbbkecaa.Wd
open Go.RowKit Go.Maps
set_option linter.unusedVariables false

def dayB (d : Int) : Bool := decide (0 ≤ d) && decide (d ≤ 10000)
def pickB (p : Int) : Bool := decide (p = 0) || decide (p = 1)
def NewAt (w w' : World) (b : Nat) : Prop := ∃ f c, KIn w' b f c ⟨[], []⟩ ∧ w.heap.size ≤ b ∧ w.heap.size ≤ f ∧ w.heap.size ≤ c ∧ Below w.heap.size w w'

set_option maxHeartbeats 400000 in
theorem day_any (d : Int) (w : World) :
    Calls Try.prog 36 #[.int .i64 d] w fun e w' => e = .returned (.bool (dayB d)) ∧ w' = w := by
  by_cases h1 : (0 : Int) ≤ d <;> by_cases h2 : d ≤ (10000 : Int)
  all_goals
    go_enter Try.func36, Try.ntmps36
    go_wp2
    go_ret
    exact ⟨by simp [dayB, h1, h2], rfl⟩

set_option maxHeartbeats 400000 in
theorem pick_any (d : Int) (w : World) :
    Calls Try.prog 35 #[.int .i64 d] w fun e w' => e = .returned (.bool (pickB d)) ∧ w' = w := by
  cases h1 : (d == 0) <;> cases h2 : (d == 1)
  all_goals
    go_enter Try.func35, Try.ntmps35
    go_wp2
    go_ret
    refine ⟨ret_bool ?_, rfl⟩
    simp at h1 h2
    simp [pickB, h1, h2]

theorem size_alloc (w : World) (o : Obj) : (w.alloc o).heap.size = w.heap.size + 1 := by
  show (w.heap.push o).size = _
  simp
theorem below_alloc {w w' : World} (h : Below w.heap.size w w') (o : Obj) : Below w.heap.size w (w'.alloc o) := h.alloc h.size o
theorem blk_new (w : World) (o : Obj) : (w.alloc o).heap[w.heap.size]? = some o := (MapKept.heap_alloc w o).1
theorem blk_old {w : World} {o : Obj} {r : Nat} {x : Obj} (h : w.heap[r]? = some x) : (w.alloc o).heap[r]? = some x := by
  rw [(MapKept.heap_alloc w o).2 r (Array.getElem?_eq_some_iff.1 h).1]; exact h
theorem new_in (w : World) : KIn (((w.alloc (.map #[] 0)).alloc (.map #[] 0)).alloc (.cells #[.map (some w.heap.size), .map (some (w.heap.size + 1))] 107)) (w.heap.size + 2) w.heap.size (w.heap.size + 1) ⟨[], []⟩ := by
  have e1 : (w.alloc (.map #[] 0)).heap.size = w.heap.size + 1 := size_alloc _ _
  have e2 : ((w.alloc (.map #[] 0)).alloc (.map #[] 0)).heap.size = w.heap.size + 2 := by rw [size_alloc, e1]
  refine ⟨?_, ((MapIs.new w).alloc _).alloc _, ?_, by omega, ⟨by simp, by simp, by simp, by simp⟩⟩
  · rw [← e2]; exact blk_new _ _
  · have := (MapIs.new (w.alloc (.map #[] 0))).alloc (.cells #[.map (some w.heap.size), .map (some (w.heap.size + 1))] 107)
    rw [e1] at this
    exact this

set_option maxHeartbeats 1000000 in
theorem new_any (w : World) :
    Calls Try.prog 18 #[] w fun e w' => ∃ b, e = .returned (.pointer (some ⟨b, 0, none⟩)) ∧ NewAt w w' b := by
  have hmm := @run_makeMap Try.prog
  go_enter Try.func18, Try.ntmps18
  go_wp2
  go_ret
  refine ⟨w.heap.size + 2, rfl, _, _, new_in w, by omega, Nat.le_refl _, by omega, ?_⟩
  exact below_alloc (below_alloc (below_alloc (Below.refl _ _) _) _) _

set_option maxHeartbeats 1000000 in
theorem fixed_any (w : World) (p f c : Nat) (K : KW) (h : KIn w p f c K) (s : ByteArray) (d : Int) (hk : fixOk (s, d)) :
    Calls Try.prog 79 #[.pointer (some ⟨p, 0, none⟩), .string s, .int .i64 d] w fun e w' => e = .returned (.tuple #[.int .i64 ((K.fixed (s, d)).getD 0), .bool (K.fixed (s, d)).isSome]) ∧ w' = w := by
  have c0 := h.cell0
  have hl := look_fix h.ok h.fix (s, d) hk
  unfold fixK at hl
  generalize (K.fixed (s, d)).getD 0 = x at *
  generalize (K.fixed (s, d)).isSome = y at *
  clear h hk
  go_enter Try.func79, Try.ntmps79
  go_wp2
  go_ret2
  exact ⟨rfl, rfl⟩

set_option maxHeartbeats 1000000 in
theorem chosen_any (w : World) (p f c : Nat) (K : KW) (h : KIn w p f c K) (s t : ByteArray) (hk : chOk (s, t)) :
    Calls Try.prog 62 #[.pointer (some ⟨p, 0, none⟩), .string s, .string t] w fun e w' => e = .returned (.tuple #[.int .i64 ((K.chosen (s, t)).getD (0, 0)).1, .int .i64 ((K.chosen (s, t)).getD (0, 0)).2, .bool (K.chosen (s, t)).isSome]) ∧ Below w.heap.size w w' := by
  have c0 := h.cell1
  have hl := look_ch h.ok h.ch (s, t) hk
  unfold chK pkV at hl
  generalize (K.chosen (s, t)).getD (0, 0) = x at *
  generalize (K.chosen (s, t)).isSome = y at *
  clear h hk
  go_enter Try.func62, Try.ntmps62
  go_wp2
  go_region
  go_wp2
  go_ret3
  exact ⟨rfl, (below_alloc (Below.refl _ _) _).drew⟩

end Go.Proofs.Ytcdkejnnbbkecaa.Wd
namespace Go.Proofs.Ytcdkejnnbbkecaa.Wd
open Go.RowKit Go.Maps
set_option linter.unusedVariables false

/-- Nothing has turned but block M, and what is new. -/
structure Gr (M : Nat) (w w' : World) : Prop where
  os : w'.os = w.os
  tape : w'.tape = w.tape
  output : w'.output = w.output
  size : w.heap.size ≤ w'.heap.size
  block : ∀ k, k < w.heap.size → k ≠ M → w'.heap[k]? = w.heap[k]?
theorem Gr.of_below {M : Nat} {w w' : World} (h : Below w.heap.size w w') : Gr M w w' := ⟨h.os, h.tape, h.output, h.size, fun k hk _ => h.block k hk⟩
theorem Gr.of_grown {M : Nat} {w w' : World} (h : w.grownBy w' (some M)) : Gr M w w' := ⟨h.os, h.tape, h.output, h.size, fun k hk hne => h.block k hk (fun e => hne (by injection e))⟩
theorem Gr.trans {M : Nat} {u v w : World} (h : Gr M u v) (g : Gr M v w) : Gr M u w :=
  ⟨g.os.trans h.os, g.tape.trans h.tape, g.output.trans h.output, Nat.le_trans h.size g.size, fun k hk hne => (g.block k (Nat.lt_of_lt_of_le hk h.size) hne).trans (h.block k hk hne)⟩
theorem Gr.drew {M : Nat} {u v : World} (h : Gr M u v) : Gr M u v.drew := ⟨h.os, h.tape, h.output, h.size, h.block⟩
theorem Gr.below {M B : Nat} {w w' : World} (h : Gr M w w') (hB : B ≤ w.heap.size) (hM : B ≤ M) : Below B w w' := ⟨h.os, h.tape, h.output, h.size, fun k hk => h.block k (by omega) (by omega)⟩
theorem Gr.drewN {M : Nat} {u v : World} (h : Gr M u v) (n : Nat) : Gr M u (v.drewN n) := ⟨h.os, h.tape, h.output, h.size, h.block⟩
theorem KIn.drewN {w : World} {p f c : Nat} {K : KW} (h : KIn w p f c K) (n : Nat) : KIn (w.drewN n) p f c K := h.same rfl rfl rfl
theorem KIn.drew {w : World} {p f c : Nat} {K : KW} (h : KIn w p f c K) : KIn w.drew p f c K := h.same rfl rfl rfl
theorem KIn.gr {w w' : World} {p f c M : Nat} {K : KW} (h : KIn w p f c K) (hg : Gr M w w') (h1 : p ≠ M) (h2 : f ≠ M) (h3 : c ≠ M) : KIn w' p f c K :=
  h.same (hg.block _ h.lt.1 h1) (hg.block _ h.lt.2.1 h2) (hg.block _ h.lt.2.2 h3)

def fixE (K : KW) (s : ByteArray) (d v : Int) : Int := if (nameGo 0 (runesOf s) && dayB d && vB v) = false then 1 else if (K.fixed (s, d)).isSome = true then 4 else if 32 ≤ K.F.length then 5 else 0
def fixN (K : KW) (s : ByteArray) (d v : Int) : KW := if fixE K s d v = 0 then ⟨K.F ++ [((s, d), v)], K.C⟩ else K
def chE (K : KW) (s t : ByteArray) (p d : Int) : Int := if (nameGo 0 (runesOf s) && nameGo 0 (runesOf t) && pickB p && dayB d) = false then 1 else if (K.chosen (s, t)).isSome = true then 4 else 0
def chN (K : KW) (s t : ByteArray) (p d : Int) : KW := if chE K s t p d = 0 then ⟨K.F, K.C ++ [((s, t), (p, d))]⟩ else K

theorem nodup_snoc {α β : Type} {l : List (α × β)} {p : α} {v : β} (h : (l.map (·.1)).Nodup) (hn : ∀ q ∈ l, q.1 ≠ p) : ((l ++ [(p, v)]).map (·.1)).Nodup := by
  rw [List.map_append]
  refine List.nodup_append.2 ⟨h, by simp, ?_⟩
  intro a ha b hb
  simp at hb
  subst hb
  obtain ⟨q, hq, rfl⟩ := List.mem_map.1 ha
  exact hn q hq

theorem cell_blk {w : World} {b i : Nat} {t : TypeId} {cs : Array Value} {v : Value} (h : w.heap[b]? = some (.cells cs t)) (hi : cs[i]? = some v) : w.cell? ⟨b, i, none⟩ = some v := by simp [World.cell?, h, hi]
/-- A store of a new fixing. -/
theorem put_fix {w : World} {p f c : Nat} {K : KW} (h : KIn w p f c K) (s : ByteArray) (d v : Int) (hk : fixOk (s, d)) (hn : K.fixed (s, d) = none) :
    ∃ H, (∀ V : World, V.heap = w.heap → (Instr.mapUpdate 104 (.map (some f)) (fixK (s, d)) (.int .i64 v)).run Try.prog V = .ok () { V with heap := H }) ∧ KIn { w with heap := H } p f c ⟨K.F ++ [((s, d), v)], K.C⟩ ∧ Gr f w { w with heap := H } := by
  obtain ⟨kl, hkl⟩ := keyOf_fix (s, d) hk
  have hno := (find_none K.F (s, d)).1 hn
  obtain ⟨w1, h1, h2, h3⟩ := run_put_no keyedF Try.underlying104 h.fix (keysF h.ok) hkl (by
    intro q hq e
    obtain ⟨r, hr, rfl⟩ := List.mem_map.1 hq
    exact hno r hr (fixK_inj.1 e)) (.int .i64 v)
  have hg := Gr.of_grown h3
  refine ⟨w1, h1, ⟨(hg.block _ h.lt.1 h.pf).trans h.blk, ?_, h.ch.of_block (hg.block _ h.lt.2.2 (Ne.symm h.fc)), h.fc, ?_⟩, hg⟩
  · simpa [fixL] using h2
  · refine ⟨?_, h.ok.co, nodup_snoc h.ok.fn hno, h.ok.cn⟩
    intro q hq
    rcases List.mem_append.1 hq with hq | hq
    · exact h.ok.fo q hq
    · simp at hq; subst hq; exact hk
theorem put_ch {w : World} {p f c : Nat} {K : KW} (h : KIn w p f c K) (s t : ByteArray) (v : Int × Int) (hk : chOk (s, t)) (hn : K.chosen (s, t) = none) :
    ∃ H, (∀ V : World, V.heap = w.heap → (Instr.mapUpdate 105 (.map (some c)) (chK (s, t)) (pkV v)).run Try.prog V = .ok () { V with heap := H }) ∧ KIn { w with heap := H } p f c ⟨K.F, K.C ++ [((s, t), v)]⟩ ∧ Gr c w { w with heap := H } := by
  obtain ⟨kl, hkl⟩ := keyOf_ch (s, t) hk
  have hno := (find_none K.C (s, t)).1 hn
  obtain ⟨w1, h1, h2, h3⟩ := run_put_no keyedC Try.underlying105 h.ch (keysC h.ok) hkl (by
    intro q hq e
    obtain ⟨r, hr, rfl⟩ := List.mem_map.1 hq
    exact hno r hr (chK_inj.1 e)) (pkV v)
  have hg := Gr.of_grown h3
  refine ⟨w1, h1, ⟨(hg.block _ h.lt.1 h.pc).trans h.blk, h.fix.of_block (hg.block _ h.lt.2.1 h.fc), ?_, h.fc, ?_⟩, hg⟩
  · simpa [chL] using h2
  · refine ⟨h.ok.fo, ?_, h.ok.fn, nodup_snoc h.ok.cn hno⟩
    intro q hq
    rcases List.mem_append.1 hq with hq | hq
    · exact h.ok.co q hq
    · simp at hq; subst hq; exact hk

set_option maxHeartbeats 1000000 in
theorem fix_bad (w : World) (p f c : Nat) (K : KW) (h : KIn w p f c K) (s : ByteArray) (d v : Int) (hb : (nameGo 0 (runesOf s) && dayB d && vB v) = false) :
    Calls Try.prog 32 #[.pointer (some ⟨p, 0, none⟩), .string s, .int .i64 d, .int .i64 v] w fun e w' => e = .returned (.int .i64 1) ∧ Below w.heap.size w w' := by
  clear h
  cases hn : nameGo 0 (runesOf s)
  · go_enter Try.func32, Try.ntmps32
    go_wp2_with (go_at_call 34; refine (name_any _ _).mono ?_; rintro e w' ⟨rfl, pos, rfl⟩)
    go_ret
    exact ⟨rfl, below_iter _ _ _⟩
  · cases hd : dayB d
    · go_enter Try.func32, Try.ntmps32
      go_wp2_with (first | (go_at_call 34; refine (name_any _ _).mono ?_; rintro e w' ⟨rfl, pos, rfl⟩) | (go_at_call 36; refine (day_any _ _).mono ?_; rintro e w' ⟨rfl, rfl⟩))
      go_ret
      exact ⟨rfl, below_iter _ _ _⟩
    · rw [hn, hd] at hb
      have hv : vB v = false := by simpa using hb
      go_enter Try.func32, Try.ntmps32
      go_wp2_with (first | (go_at_call 34; refine (name_any _ _).mono ?_; rintro e w' ⟨rfl, pos, rfl⟩) | (go_at_call 36; refine (day_any _ _).mono ?_; rintro e w' ⟨rfl, rfl⟩) | (go_at_call 56; refine (valid_any _ _).mono ?_; rintro e w' ⟨rfl, rfl⟩))
      go_ret
      exact ⟨rfl, below_iter _ _ _⟩

set_option maxHeartbeats 2000000 in
theorem fix_ok (w : World) (p f c : Nat) (K : KW) (h : KIn w p f c K) (s : ByteArray) (d v : Int) (hk : fixOk (s, d)) (hb : (nameGo 0 (runesOf s) && dayB d && vB v) = true) :
    Calls Try.prog 32 #[.pointer (some ⟨p, 0, none⟩), .string s, .int .i64 d, .int .i64 v] w fun e w' => e = .returned (.int .i64 (fixE K s d v)) ∧ KIn w' p f c (fixN K s d v) ∧ Gr f w w' := by
  have hb0 := hb
  simp only [Bool.and_eq_true] at hb
  obtain ⟨⟨hn, hd⟩, hv⟩ := hb
  have HK : Hid (KIn w p f c K) := h
  have HB : Hid ((nameGo 0 (runesOf s) && dayB d && vB v) = true) := hb0
  clear h hb0
  go_enter Try.func32, Try.ntmps32
  go_wp2_with (first | (go_at_call 34; refine (name_any _ _).mono ?_; rintro e w' ⟨rfl, pos, rfl⟩) | (go_at_call 36; refine (day_any _ _).mono ?_; rintro e w' ⟨rfl, rfl⟩) | (go_at_call 56; refine (valid_any _ _).mono ?_; rintro e w' ⟨rfl, rfl⟩))
  have HW : Hid (KIn (w.iter s pos) p f c K) := HK.out.below (below_iter w s pos)
  have HG : Hid (Gr f w (w.iter s pos)) := Gr.of_below (below_iter w s pos)
  clear HK
  generalize w.iter s pos = W at *
  have HA : Hid (KIn (W.alloc (.cells #[.string s, .int .i64 d] 143)) p f c K) := HW.out.below (below_alloc (Below.refl _ _) _)
  have HG1 : Hid (Gr f w (W.alloc (.cells #[.string s, .int .i64 d] 143))) := HG.out.trans (Gr.of_below (below_alloc (Below.refl _ _) _))
  have ck : (W.alloc (.cells #[.string s, .int .i64 d] 143)).heap[W.heap.size]? = some (.cells #[.string s, .int .i64 d] 143) := blk_new _ _
  have ck0 : (W.alloc (.cells #[.string s, .int .i64 d] 143)).cell? ⟨W.heap.size, 0, none⟩ = some (.string s) := cell_blk ck rfl
  have ck1 : (W.alloc (.cells #[.string s, .int .i64 d] 143)).cell? ⟨W.heap.size, 1, none⟩ = some (.int .i64 d) := cell_blk ck rfl
  generalize hWA : W.alloc (.cells #[.string s, .int .i64 d] 143) = WA at *
  clear hWA ck
  generalize W.heap.size = kb at *
  have c0 := HA.out.cell0
  have hl : ∀ n, (Instr.lookup 104 (.map (some f)) (.agg #[.string s, .int .i64 d]) true).run Try.prog (WA.drewN n) = _ := fun n => look_fix (w := WA.drewN n) HA.out.ok HA.out.fix (s, d) hk
  have hlen : ∀ n ty, (Builtin.len_ #[104] ty #[.map (some f)]).run Try.prog (WA.drewN n) = _ := fun n ty => run_len_map (w := WA.drewN n) Try.underlying104 HA.out.fix ty
  have e1 : (fixL K.F).length = K.F.length := by simp [fixL]
  rw [e1] at hlen
  clear e1
  have HE : Hid (fixE K s d v = if (K.fixed (s, d)).isSome = true then 4 else if 32 ≤ K.F.length then 5 else 0) := by
    show fixE K s d v = _
    unfold fixE
    rw [HB.out]
    rfl
  go_quiet (fail)
  cases hf : K.fixed (s, d) with
  | some x =>
    have he : fixE K s d v = 4 := by rw [HE.out, hf]; rfl
    go_wp2
    go_ret
    refine ⟨by rw [he]; rfl, ?_, ?_⟩
    · rw [fixN, if_neg (by omega)]
      exact HA.out.drewN _
    · exact HG1.out.drewN _
  | none =>
    by_cases h32 : 32 ≤ K.F.length
    · have he : fixE K s d v = 5 := by rw [HE.out, hf]; simp [h32]
      have h32' : (32 : Int) ≤ (K.F.length : Int) := by omega
      go_wp2
      go_ret
      refine ⟨by rw [he]; rfl, ?_, ?_⟩
      · rw [fixN, if_neg (by omega)]
        exact HA.out.drewN _
      · exact HG1.out.drewN _
    · have he : fixE K s d v = 0 := by rw [HE.out, hf]; simp [h32]
      have h32' : ¬ (32 : Int) ≤ (K.F.length : Int) := by omega
      obtain ⟨H, hput, hin, hgr⟩ := put_fix HA.out s d v hk hf
      have HIN : Hid (KIn { WA with heap := H } p f c ⟨K.F ++ [((s, d), v)], K.C⟩) := hin
      have HGR : Hid (Gr f WA { WA with heap := H }) := hgr
      clear hin hgr hl
      unfold fixK at hput
      go_wp2
      clear hlen
      have hput2 := hput (WA.drewN (nq + 1)) rfl
      have HIN2 : Hid (KIn { (WA.drewN (nq + 1)) with heap := H } p f c ⟨K.F ++ [((s, d), v)], K.C⟩) := HIN.out.same rfl rfl rfl
      have HGR2 : Hid (Gr f w { (WA.drewN (nq + 1)) with heap := H }) := HG1.out.trans ⟨HGR.out.os, HGR.out.tape, HGR.out.output, HGR.out.size, HGR.out.block⟩
      generalize ({ (WA.drewN (nq + 1)) with heap := H } : World) = W2 at *
      clear hput HIN HGR
      go_region
      go_wp2
      go_ret
      refine ⟨by rw [he]; rfl, ?_, HGR2.out⟩
      rw [fixN, if_pos he]
      exact HIN2.out

end Go.Proofs.Ytcdkejnnbbkecaa.Wd
namespace Go.Proofs.Ytcdkejnnbbkecaa.Wd
open Go.RowKit Go.Maps
set_option linter.unusedVariables false

theorem fix_any (w : World) (p f c : Nat) (K : KW) (h : KIn w p f c K) (s : ByteArray) (d v : Int) (hk : fixOk (s, d)) :
    Calls Try.prog 32 #[.pointer (some ⟨p, 0, none⟩), .string s, .int .i64 d, .int .i64 v] w fun e w' => e = .returned (.int .i64 (fixE K s d v)) ∧ KIn w' p f c (fixN K s d v) ∧ Gr f w w' := by
  cases hb : (nameGo 0 (runesOf s) && dayB d && vB v)
  · have he : fixE K s d v = 1 := by unfold fixE; rw [hb]; rfl
    refine (fix_bad w p f c K h s d v hb).mono ?_
    rintro e w' ⟨rfl, hB⟩
    refine ⟨by rw [he], ?_, Gr.of_below hB⟩
    rw [fixN, if_neg (by omega)]
    exact h.below hB
  · exact fix_ok w p f c K h s d v hk hb

set_option maxHeartbeats 1000000 in
theorem ch_bad (w : World) (p f c : Nat) (K : KW) (h : KIn w p f c K) (s t : ByteArray) (q d : Int) (hb : (nameGo 0 (runesOf s) && nameGo 0 (runesOf t) && pickB q && dayB d) = false) :
    Calls Try.prog 21 #[.pointer (some ⟨p, 0, none⟩), .string s, .string t, .int .i64 q, .int .i64 d] w fun e w' => e = .returned (.int .i64 1) ∧ Below w.heap.size w w' := by
  clear h
  have bi := below_iter
  cases hn : nameGo 0 (runesOf s)
  · go_enter Try.func21, Try.ntmps21
    go_wp2_with (go_at_call 34; refine (name_any _ _).mono ?_; rintro e w' ⟨rfl, pos, rfl⟩)
    go_ret
    exact ⟨rfl, below_iter _ _ _⟩
  · cases hm : nameGo 0 (runesOf t)
    · go_enter Try.func21, Try.ntmps21
      go_wp2_with (first | (go_at_call 34; refine (name_any _ _).mono ?_; rintro e w' ⟨rfl, pos, rfl⟩))
      go_ret
      exact ⟨rfl, (below_iter _ _ _).trans ((below_iter _ _ _).mono (below_iter _ _ _).size)⟩
    · cases hd : pickB q
      · go_enter Try.func21, Try.ntmps21
        go_wp2_with (first | (go_at_call 34; refine (name_any _ _).mono ?_; rintro e w' ⟨rfl, pos, rfl⟩) | (go_at_call 35; refine (pick_any _ _).mono ?_; rintro e w' ⟨rfl, rfl⟩))
        go_ret
        exact ⟨rfl, (below_iter _ _ _).trans ((below_iter _ _ _).mono (below_iter _ _ _).size)⟩
      · rw [hn, hm, hd] at hb
        have hv : dayB d = false := by simpa using hb
        go_enter Try.func21, Try.ntmps21
        go_wp2_with (first | (go_at_call 34; refine (name_any _ _).mono ?_; rintro e w' ⟨rfl, pos, rfl⟩) | (go_at_call 35; refine (pick_any _ _).mono ?_; rintro e w' ⟨rfl, rfl⟩) | (go_at_call 36; refine (day_any _ _).mono ?_; rintro e w' ⟨rfl, rfl⟩))
        go_ret
        exact ⟨rfl, (below_iter _ _ _).trans ((below_iter _ _ _).mono (below_iter _ _ _).size)⟩

theorem cell_new {w : World} {a : Addr} {v : Value} (h : w.cell? a = some v) (o : Obj) : (w.alloc o).cell? a = some v :=
  ((below_alloc (Below.refl _ _) o).cell (World.block_lt_of_cell? w _ h)).trans h

set_option maxHeartbeats 2000000 in
theorem ch_ok (w : World) (p f c : Nat) (K : KW) (h : KIn w p f c K) (s t : ByteArray) (q d : Int) (hk : chOk (s, t)) (hb : (nameGo 0 (runesOf s) && nameGo 0 (runesOf t) && pickB q && dayB d) = true) :
    Calls Try.prog 21 #[.pointer (some ⟨p, 0, none⟩), .string s, .string t, .int .i64 q, .int .i64 d] w fun e w' => e = .returned (.int .i64 (chE K s t q d)) ∧ KIn w' p f c (chN K s t q d) ∧ Gr c w w' := by
  have hb0 := hb
  simp only [Bool.and_eq_true] at hb
  obtain ⟨⟨⟨hn, hm⟩, hq⟩, hd⟩ := hb
  have HK : Hid (KIn w p f c K) := h
  have HE : Hid (chE K s t q d = if (K.chosen (s, t)).isSome = true then 4 else 0) := by
    show chE K s t q d = _
    unfold chE
    rw [hb0]
    rfl
  clear h hb0
  go_enter Try.func21, Try.ntmps21
  go_wp2_with (first | (go_at_call 34; refine (name_any _ _).mono ?_; rintro e w' ⟨rfl, pos, rfl⟩) | (go_at_call 35; refine (pick_any _ _).mono ?_; rintro e w' ⟨rfl, rfl⟩) | (go_at_call 36; refine (day_any _ _).mono ?_; rintro e w' ⟨rfl, rfl⟩))
  rename_i pos0 _ _ _ _
  have HB2 : Hid (Below w.heap.size w ((w.iter s pos0).iter t pos)) := (below_iter _ _ _).trans ((below_iter _ _ _).mono (below_iter _ _ _).size)
  generalize ((w.iter s pos0).iter t pos) = W at *
  have HA : Hid (KIn (W.alloc (.cells #[.string s, .string t] 113)) p f c K) := HK.out.below (below_alloc HB2.out _)
  have HG1 : Hid (Below w.heap.size w (W.alloc (.cells #[.string s, .string t] 113))) := below_alloc HB2.out _
  have ck : (W.alloc (.cells #[.string s, .string t] 113)).heap[W.heap.size]? = some (.cells #[.string s, .string t] 113) := blk_new _ _
  have ck0 : (W.alloc (.cells #[.string s, .string t] 113)).cell? ⟨W.heap.size, 0, none⟩ = some (.string s) := cell_blk ck rfl
  have ck1 : (W.alloc (.cells #[.string s, .string t] 113)).cell? ⟨W.heap.size, 1, none⟩ = some (.string t) := cell_blk ck rfl
  generalize hWA : W.alloc (.cells #[.string s, .string t] 113) = WA at *
  clear hWA ck
  generalize W.heap.size = kb at *
  have c0 := HA.out.cell1
  have hl : ∀ n, (Instr.lookup 105 (.map (some c)) (.agg #[.string s, .string t]) true).run Try.prog (WA.drewN n) = _ := fun n => look_ch (w := WA.drewN n) HA.out.ok HA.out.ch (s, t) hk
  have hl1 : (Instr.lookup 105 (.map (some c)) (.agg #[.string s, .string t]) true).run Try.prog WA.drew = _ := look_ch (w := WA.drew) HA.out.ok HA.out.ch (s, t) hk
  have hl2 : (Instr.lookup 105 (.map (some c)) (.agg #[.string s, .string t]) true).run Try.prog (WA.alloc (.cells #[.int .i64 0, .int .i64 0] 115)).drew = _ := look_ch (w := (WA.alloc (.cells #[.int .i64 0, .int .i64 0] 115)).drew) HA.out.ok (HA.out.ch.alloc _) (s, t) hk
  have c0b := cell_new c0 (.cells #[.int .i64 0, .int .i64 0] 115)
  have ck0b := cell_new ck0 (.cells #[.int .i64 0, .int .i64 0] 115)
  have ck1b := cell_new ck1 (.cells #[.int .i64 0, .int .i64 0] 115)
  unfold pkV at hl hl1 hl2
  cases hf : K.chosen (s, t) with
  | some x =>
    rw [hf] at hl hl1 hl2
    have he : chE K s t q d = 4 := by rw [HE.out, hf]; rfl
    go_region
    all_goals
      go_wp2
      go_ret
      refine ⟨by rw [he]; rfl, ?_, ?_⟩
      · rw [chN, if_neg (by omega)]
        exact (HA.out.below (below_alloc (Below.refl _ _) _)).drew
      · exact (Gr.of_below (below_alloc HG1.out _)).drew
  | none =>
    rw [hf] at hl hl1 hl2
    have he : chE K s t q d = 0 := by rw [HE.out, hf]; rfl
    go_region
    all_goals
      clear hl hl1 hl2
      have HC : Hid (KIn (WA.alloc (.cells #[.int .i64 0, .int .i64 0] 115)).drew p f c K) := (HA.out.below (below_alloc (Below.refl _ _) _)).drew
      have HGC : Hid (Gr c w (WA.alloc (.cells #[.int .i64 0, .int .i64 0] 115)).drew) := (Gr.of_below (below_alloc HG1.out _)).drew
      have c0c : (WA.alloc (.cells #[.int .i64 0, .int .i64 0] 115)).drew.cell? ⟨p, 1, none⟩ = _ := c0b
      have ck0c : (WA.alloc (.cells #[.int .i64 0, .int .i64 0] 115)).drew.cell? ⟨kb, 0, none⟩ = _ := ck0b
      have ck1c : (WA.alloc (.cells #[.int .i64 0, .int .i64 0] 115)).drew.cell? ⟨kb, 1, none⟩ = _ := ck1b
      go_wp2
      generalize hWC : (WA.alloc (.cells #[.int .i64 0, .int .i64 0] 115)).drew = WC at *
      clear hWC c0b ck0b ck1b c0 ck0 ck1
      obtain ⟨H, hput, hin, hgr⟩ := put_ch HC.out s t (q, d) hk hf
      have hput2 := hput WC.drew rfl
      have HIN2 : Hid (KIn { WC.drew with heap := H } p f c ⟨K.F, K.C ++ [((s, t), (q, d))]⟩) := hin.same rfl rfl rfl
      have HGR2 : Hid (Gr c w { WC.drew with heap := H }) := HGC.out.trans ⟨hgr.os, hgr.tape, hgr.output, hgr.size, hgr.block⟩
      generalize ({ WC.drew with heap := H } : World) = W2 at *
      unfold chK pkV at hput2
      clear hput hin hgr HC HGC
      go_region
      all_goals
        go_wp2
        go_ret
        refine ⟨by first | rfl | (rw [he]; rfl), ?_, HGR2.out⟩
        rw [chN, if_pos he]
        exact HIN2.out

theorem ch_any (w : World) (p f c : Nat) (K : KW) (h : KIn w p f c K) (s t : ByteArray) (q d : Int) (hk : chOk (s, t)) :
    Calls Try.prog 21 #[.pointer (some ⟨p, 0, none⟩), .string s, .string t, .int .i64 q, .int .i64 d] w fun e w' => e = .returned (.int .i64 (chE K s t q d)) ∧ KIn w' p f c (chN K s t q d) ∧ Gr c w w' := by
  cases hb : (nameGo 0 (runesOf s) && nameGo 0 (runesOf t) && pickB q && dayB d)
  · have he : chE K s t q d = 1 := by unfold chE; rw [hb]; rfl
    refine (ch_bad w p f c K h s t q d hb).mono ?_
    rintro e w' ⟨rfl, hB⟩
    refine ⟨by rw [he], ?_, Gr.of_below hB⟩
    rw [chN, if_neg (by omega)]
    exact h.below hB
  · exact ch_ok w p f c K h s t q d hk hb

end Go.Proofs.Ytcdkejnnbbkecaa.Wd
namespace Go.Proofs.Ytcdkejnnbbkecaa.Wd
open Go.RowKit Go.Maps
set_option linter.unusedVariables false

/-- The world in memory that is new since w0. -/
structure In (w0 W : World) (p f c : Nat) (K : KW) : Prop where
  kin : KIn W p f c K
  below : Below w0.heap.size w0 W
  hp : w0.heap.size ≤ p
  hf : w0.heap.size ≤ f
  hc : w0.heap.size ≤ c
theorem In.gr {w0 W W' : World} {p f c M : Nat} {K K' : KW} (h : In w0 W p f c K) (hk : KIn W' p f c K') (hg : Gr M W W') (hM : w0.heap.size ≤ M) : In w0 W' p f c K' :=
  ⟨hk, h.below.trans (hg.below h.below.size hM), h.hp, h.hf, h.hc⟩
theorem In.step {w0 W W' : World} {p f c : Nat} {K : KW} (h : In w0 W p f c K) (hb : Below W.heap.size W W') : In w0 W' p f c K :=
  ⟨h.kin.below hb, h.below.trans (hb.mono h.below.size), h.hp, h.hf, h.hc⟩

theorem fix_in {w0 W : World} {p f c : Nat} {K : KW} (h : In w0 W p f c K) (s : ByteArray) (d v : Int) (hk : fixOk (s, d)) (r : Int) (K' : KW) (hE : fixE K s d v = r) (hN : fixN K s d v = K') :
    Calls Try.prog 32 #[.pointer (some ⟨p, 0, none⟩), .string s, .int .i64 d, .int .i64 v] W fun e w' => e = .returned (.int .i64 r) ∧ In w0 w' p f c K' := by
  refine (fix_any W p f c K h.kin s d v hk).mono ?_
  rintro e w' ⟨rfl, h1, h2⟩
  rw [hN] at h1
  exact ⟨by rw [hE], h.gr h1 h2 h.hf⟩
theorem fixbad_in {w0 W : World} {p f c : Nat} {K : KW} (h : In w0 W p f c K) (s : ByteArray) (d v : Int) (hb : (nameGo 0 (runesOf s) && dayB d && vB v) = false) :
    Calls Try.prog 32 #[.pointer (some ⟨p, 0, none⟩), .string s, .int .i64 d, .int .i64 v] W fun e w' => e = .returned (.int .i64 1) ∧ In w0 w' p f c K := by
  refine (fix_bad W p f c K h.kin s d v hb).mono ?_
  rintro e w' ⟨rfl, hB⟩
  exact ⟨rfl, h.step hB⟩
theorem ch_in {w0 W : World} {p f c : Nat} {K : KW} (h : In w0 W p f c K) (s t : ByteArray) (q d : Int) (hk : chOk (s, t)) (r : Int) (K' : KW) (hE : chE K s t q d = r) (hN : chN K s t q d = K') :
    Calls Try.prog 21 #[.pointer (some ⟨p, 0, none⟩), .string s, .string t, .int .i64 q, .int .i64 d] W fun e w' => e = .returned (.int .i64 r) ∧ In w0 w' p f c K' := by
  refine (ch_any W p f c K h.kin s t q d hk).mono ?_
  rintro e w' ⟨rfl, h1, h2⟩
  rw [hN] at h1
  exact ⟨by rw [hE], h.gr h1 h2 h.hc⟩
theorem chbad_in {w0 W : World} {p f c : Nat} {K : KW} (h : In w0 W p f c K) (s t : ByteArray) (q d : Int) (hb : (nameGo 0 (runesOf s) && nameGo 0 (runesOf t) && pickB q && dayB d) = false) :
    Calls Try.prog 21 #[.pointer (some ⟨p, 0, none⟩), .string s, .string t, .int .i64 q, .int .i64 d] W fun e w' => e = .returned (.int .i64 1) ∧ In w0 w' p f c K := by
  refine (ch_bad W p f c K h.kin s t q d hb).mono ?_
  rintro e w' ⟨rfl, hB⟩
  exact ⟨rfl, h.step hB⟩
theorem fixed_in {w0 W : World} {p f c : Nat} {K : KW} (h : In w0 W p f c K) (s : ByteArray) (d : Int) (hk : fixOk (s, d)) (r : Option Int) (hr : K.fixed (s, d) = r) :
    Calls Try.prog 79 #[.pointer (some ⟨p, 0, none⟩), .string s, .int .i64 d] W fun e w' => e = .returned (.tuple #[.int .i64 (r.getD 0), .bool r.isSome]) ∧ In w0 w' p f c K := by
  refine (fixed_any W p f c K h.kin s d hk).mono ?_
  rintro e w' ⟨rfl, rfl⟩
  exact ⟨by rw [hr], h⟩
theorem chosen_in {w0 W : World} {p f c : Nat} {K : KW} (h : In w0 W p f c K) (s t : ByteArray) (hk : chOk (s, t)) (r : Option (Int × Int)) (hr : K.chosen (s, t) = r) :
    Calls Try.prog 62 #[.pointer (some ⟨p, 0, none⟩), .string s, .string t] W fun e w' => e = .returned (.tuple #[.int .i64 (r.getD (0, 0)).1, .int .i64 (r.getD (0, 0)).2, .bool r.isSome]) ∧ In w0 w' p f c K := by
  refine (chosen_any W p f c K h.kin s t hk).mono ?_
  rintro e w' ⟨rfl, hB⟩
  exact ⟨by rw [hr], h.step hB⟩
theorem new_in' (w : World) :
    Calls Try.prog 18 #[] w fun e w' => ∃ b f c, e = .returned (.pointer (some ⟨b, 0, none⟩)) ∧ In w w' b f c ⟨[], []⟩ := by
  refine (new_any w).mono ?_
  rintro e w' ⟨b, rfl, f, c, h1, h2, h3, h4, h5⟩
  exact ⟨b, f, c, rfl, h1, h5, h2, h3, h4⟩

theorem nmE : nameGo 0 (runesOf ⟨#[]⟩) = false := by kernel_rfl
theorem nmA : nameGo 0 (runesOf ⟨#[65]⟩) = false := by kernel_rfl
theorem nm1 : nameGo 0 (runesOf ⟨#[49]⟩) = false := by kernel_rfl
theorem nmx : nameGo 0 (runesOf ⟨#[120]⟩) = true := by kernel_rfl
theorem nmt : nameGo 0 (runesOf ⟨#[116]⟩) = true := by kernel_rfl
theorem nma : nameGo 0 (runesOf ⟨#[97]⟩) = true := by kernel_rfl
theorem nmb : nameGo 0 (runesOf ⟨#[98]⟩) = true := by kernel_rfl
theorem nml : nameGo 0 (runesOf ⟨#[108]⟩) = true := by kernel_rfl
theorem nmu : nameGo 0 (runesOf ⟨#[117]⟩) = true := by kernel_rfl

end Go.Proofs.Ytcdkejnnbbkecaa.Wd
namespace Go.Proofs.Ytcdkejnnbbkecaa.Vl
open Go.RowKit Wd Cn
set_option linter.unusedVariables false

/-- What came of a number: the number, whether it is known, the error. -/
structure Rk where
  n : Int
  known : Bool
  e : Int
def Rk.cs (r : Rk) : Array Value := #[.int .i64 r.n, .bool r.known, .int .i64 r.e]
def Rk.val (r : Rk) : Value := .agg r.cs
def inR (p : Int × Bool) : Rk := if p.2 = true then ⟨p.1, true, 0⟩ else ⟨0, false, 6⟩
def gtR (a b : Int) : Int × Bool := (Max.max a b, true)
def bothR (l r : Rk) (j : Int → Int → Int × Bool) : Rk := if l.e ≠ 0 then l else if r.e ≠ 0 then r else if (!l.known || !r.known) = true then ⟨0, false, 0⟩ else inR (j l.n r.n)
def otherR (r : Rk) : Rk := if r.e ≠ 0 ∨ r.known = false then r else inR (negR r.n)
def rk (K : KW) (d : Int) : O → Rk
  | .const n => ⟨n, true, 0⟩
  | .fix s => ⟨(K.fixed (s, d)).getD 0, (K.fixed (s, d)).isSome, 0⟩
  | .add l r => bothR (rk K d l) (rk K d r) addR
  | .neg o => otherR (rk K d o)
  | .mul l r => bothR (rk K d l) (rk K d r) mulR
  | .max l r => bothR (rk K d l) (rk K d r) gtR
  | .odd _ => ⟨0, false, 0⟩

theorem infoR : (Try.prog.info? 182).map (·.size) = some 3 := by kernel_rfl
/-- The result's cell, filled. -/
theorem ret_row {fn : Func} {p : Tmp} (h : fn.results = #[.cell p 182]) (tmps : Array Value) (w : World) (g : Nat) (r : Rk) (hp : tmps.getD p undef = .pointer (some ⟨g, 0, none⟩)) (hg : w.heap[g]? = some (.cells r.cs 182)) :
    (results fn tmps).run Try.prog w = .ok r.val w :=
  results_cell_row h tmps w g 182 r.cs (0, 0) _ hp hg Try.underlying182 rfl infoR

set_option maxHeartbeats 1000000 in
/-- What within answers. -/
theorem in_any (n : Int) (ok : Bool) (w : World) : Calls Try.prog 87 #[.int .i64 n, .bool ok] w fun e w' => e = .returned (inR (n, ok)).val ∧ Below w.heap.size w w' := by
  cases ok
  all_goals
    go_enter Try.func87, Try.ntmps87
    go_wp2
  · refine bodyPost_ret (ret_row rfl _ _ w.heap.size ⟨0, false, 6⟩ rfl ?_) rfl ?_
    · exact heap_alloc_new _ _
    · exact ⟨rfl, below_alloc (Below.refl _ _) _⟩
  · refine bodyPost_ret (ret_row rfl _ _ w.heap.size ⟨n, true, 0⟩ rfl ?_) rfl ?_
    · exact heap_alloc_new _ _
    · exact ⟨rfl, below_alloc (Below.refl _ _) _⟩

set_option maxHeartbeats 1000000 in
theorem gt_any (a b : Int) (w : World) : Calls Try.prog 85 #[.int .i64 a, .int .i64 b] w fun e w' => e = .returned (.tuple #[.int .i64 (gtR a b).1, .bool (gtR a b).2]) ∧ w' = w := by
  rcases Int.lt_or_le a b with h | h
  · have HM : Hid (Max.max a b = b) := by unfold Hid; omega
    go_enter Try.func85, Try.ntmps85
    go_wp2
    go_ret2
    exact ⟨ret_two (by unfold gtR; rw [HM.out]), rfl⟩
  · have HM : Hid (Max.max a b = a) := by unfold Hid; omega
    go_enter Try.func85, Try.ntmps85
    go_wp2
    go_ret2
    exact ⟨ret_two (by unfold gtR; rw [HM.out]), rfl⟩

/-- Three cells of a block, filled one by one. -/
def set3 (W : World) (R : Nat) (a b c : Value) : World := ((W.setCell ⟨R, 0, none⟩ a).setCell ⟨R, 1, none⟩ b).setCell ⟨R, 2, none⟩ c
theorem set3_row {W : World} {R t : Nat} {x y z : Value} (h : W.heap[R]? = some (.cells #[x, y, z] t)) (a b c : Value) : (set3 W R a b c).heap[R]? = some (.cells #[a, b, c] t) :=
  heap_setCell_same _ R 2 _ t c (heap_setCell_same _ R 1 _ t b (heap_setCell_same _ R 0 _ t a h))
theorem set3_below {B R : Nat} {w W : World} (h : Below B w W) (hR : B ≤ R) (a b c : Value) : Below B w (set3 W R a b c) := ((h.setCell hR a).setCell hR b).setCell hR c
theorem row3_cells {W : World} {R t : Nat} {x y z : Value} (h : W.heap[R]? = some (.cells #[x, y, z] t)) :
    W.cell? ⟨R, 0, none⟩ = some x ∧ W.cell? ⟨R, 1, none⟩ = some y ∧ W.cell? ⟨R, 2, none⟩ = some z ∧ W.frozen? ⟨R, 0, none⟩ = false ∧ W.frozen? ⟨R, 1, none⟩ = false ∧ W.frozen? ⟨R, 2, none⟩ = false :=
  ⟨cell_of_row _ _ _ _ _ _ h, cell_of_row _ _ _ _ _ _ h, cell_of_row _ _ _ _ _ _ h, frozen_of_row _ _ _ _ _ h, frozen_of_row _ _ _ _ _ h, frozen_of_row _ _ _ _ _ h⟩

theorem alloc_1 (w : World) (a b : Obj) : ((w.alloc a).alloc b).heap[w.heap.size + 1]? = some b := by
  have h := heap_alloc_new (w.alloc a) b
  rwa [show (w.alloc a).heap.size = w.heap.size + 1 by simp] at h
theorem alloc_2 (w : World) (a b c : Obj) : (((w.alloc a).alloc b).alloc c).heap[w.heap.size + 2]? = some c := by
  have h := heap_alloc_new ((w.alloc a).alloc b) c
  rwa [show ((w.alloc a).alloc b).heap.size = w.heap.size + 2 by simp] at h

set_option maxHeartbeats 1000000 in
theorem other_any (r : Rk) (w : World) : Calls Try.prog 82 #[r.val] w fun e w' => e = .returned (otherR r).val ∧ Below w.heap.size w w' := by
  obtain ⟨n, k, e⟩ := r
  unfold Rk.val Rk.cs
  by_cases he : e = 0
  · subst he
    cases k
    · go_enter Try.func82, Try.ntmps82
      go_wp2_with fail
      refine bodyPost_ret (ret_row rfl _ _ _ ⟨n, false, 0⟩ rfl (alloc_1 _ _ _)) rfl ?_
      exact ⟨by simp [otherR, Rk.val, Rk.cs], below_alloc (below_alloc (Below.refl _ _) _) _⟩
    · go_enter Try.func82, Try.ntmps82
      go_wp2_with fail
      refine (Cn.neg_any _ _).mono ?_
      rintro e w1 ⟨rfl, rfl⟩
      go_wp2_with fail
      refine (in_any _ _ _).mono ?_
      rintro e w1 ⟨rfl, hb⟩
      have HZ : Hid (w1.heap[w.heap.size + 1]? = some (.cells #[.int .i64 0, .bool false, .int .i64 0] 182)) := (hb.block _ (by simp)).trans (alloc_1 _ _ _)
      have HB : Hid (Below w.heap.size w w1) := (below_alloc (below_alloc (Below.refl _ _) _) _).trans (hb.mono (by simp; omega))
      clear hb
      obtain ⟨c0, c1, c2, f0, f1, f2⟩ := row3_cells HZ.out
      have HR : Hid (otherR ⟨n, true, 0⟩ = inR ((negR n).1, (negR n).2)) := by unfold Hid; simp [otherR]
      unfold Rk.val Rk.cs
      generalize inR ((negR n).1, (negR n).2) = x at *
      go_wp2_with fail
      refine bodyPost_ret (ret_row rfl _ _ _ x rfl (set3_row HZ.out _ _ _)) rfl ?_
      exact ⟨by rw [HR.out]; rfl, set3_below HB.out (by omega) _ _ _⟩
  · have h1 : (e != 0) = true := by simpa using he
    go_enter Try.func82, Try.ntmps82
    go_wp2_with fail
    refine bodyPost_ret (ret_row rfl _ _ _ ⟨n, k, e⟩ rfl (alloc_1 _ _ _)) rfl ?_
    exact ⟨by simp [otherR, Rk.val, Rk.cs, he], below_alloc (below_alloc (Below.refl _ _) _) _⟩

set_option maxHeartbeats 1000000 in
theorem both_any (l r : Rk) (f : Nat) (j : Int → Int → Int × Bool) (hent : ∀ (args : Array Value) (w : World), (callFunc f args).run Try.prog w = .ok (.enter f args) w)
    (hj : ∀ a b w, Calls Try.prog f #[.int .i64 a, .int .i64 b] w fun e w' => e = .returned (.tuple #[.int .i64 (j a b).1, .bool (j a b).2]) ∧ w' = w) (w : World) :
    Calls Try.prog 83 #[l.val, r.val, .func (.func f) #[] #[]] w fun e w' => e = .returned (bothR l r j).val ∧ Below w.heap.size w w' := by
  obtain ⟨n, k, e⟩ := l
  obtain ⟨m, q, d⟩ := r
  unfold Rk.val Rk.cs
  have HJ : Hid (∀ a b w, Calls Try.prog f #[.int .i64 a, .int .i64 b] w fun e w' => e = .returned (.tuple #[.int .i64 (j a b).1, .bool (j a b).2]) ∧ w' = w) := hj
  clear hj
  by_cases he : e = 0
  · subst he
    by_cases hd : d = 0
    · subst hd
      cases hk : (!k || !q)
      · obtain rfl : k = true := by cases k <;> simp_all
        obtain rfl : q = true := by cases q <;> simp_all
        clear hk
        go_enter Try.func83, Try.ntmps83
        go_wp2_with fail
        refine (HJ.out _ _ _).mono ?_
        rintro e w1 ⟨rfl, rfl⟩
        go_wp2_with fail
        refine (in_any _ _ _).mono ?_
        rintro e w1 ⟨rfl, hb⟩
        have HZ : Hid (w1.heap[w.heap.size + 2]? = some (.cells #[.int .i64 0, .bool false, .int .i64 0] 182)) := (hb.block _ (by simp)).trans (alloc_2 _ _ _ _)
        have HB : Hid (Below w.heap.size w w1) := (below_alloc (below_alloc (below_alloc (Below.refl _ _) _) _) _).trans (hb.mono (by simp; omega))
        clear hb
        obtain ⟨c0, c1, c2, f0, f1, f2⟩ := row3_cells HZ.out
        have HR : Hid (bothR ⟨n, true, 0⟩ ⟨m, true, 0⟩ j = inR ((j n m).1, (j n m).2)) := by unfold Hid; simp [bothR]
        unfold Rk.val Rk.cs
        generalize inR ((j n m).1, (j n m).2) = x at *
        go_wp2_with fail
        refine bodyPost_ret (ret_row rfl _ _ _ x rfl (set3_row HZ.out _ _ _)) rfl ?_
        exact ⟨by rw [HR.out]; rfl, set3_below HB.out (by omega) _ _ _⟩
      · have HR : Hid (bothR ⟨n, k, 0⟩ ⟨m, q, 0⟩ j = ⟨0, false, 0⟩) := by unfold Hid; simp only [bothR]; rw [if_neg (by simp), if_neg (by simp), if_pos hk]
        rw [HR.out]
        cases k
        all_goals
          cases q
          all_goals
            first
            | (simp at hk; done)
            | (clear hk
               go_enter Try.func83, Try.ntmps83
               go_wp2_with fail
               refine bodyPost_ret (ret_row rfl _ _ _ ⟨0, false, 0⟩ rfl (alloc_2 _ _ _ _)) rfl ?_
               exact ⟨rfl, below_alloc (below_alloc (below_alloc (Below.refl _ _) _) _) _⟩)
    · have h1 : (d != 0) = true := by simpa using hd
      go_enter Try.func83, Try.ntmps83
      go_wp2_with fail
      refine bodyPost_ret (ret_row rfl _ _ _ ⟨m, q, d⟩ rfl (alloc_2 _ _ _ _)) rfl ?_
      exact ⟨by simp [bothR, Rk.val, Rk.cs, hd], below_alloc (below_alloc (below_alloc (Below.refl _ _) _) _) _⟩
  · have h1 : (e != 0) = true := by simpa using he
    go_enter Try.func83, Try.ntmps83
    go_wp2_with fail
    refine bodyPost_ret (ret_row rfl _ _ _ ⟨n, k, e⟩ rfl (alloc_2 _ _ _ _)) rfl ?_
    exact ⟨by simp [bothR, Rk.val, Rk.cs, he], below_alloc (below_alloc (below_alloc (Below.refl _ _) _) _) _⟩

end Go.Proofs.Ytcdkejnnbbkecaa.Vl
namespace Go.Proofs.Ytcdkejnnbbkecaa.Mx
open Go.RowKit
set_option linter.unusedVariables false

section
variable {P : Program} {ops : Array Oper} {md : Region.Mode} {C : World → Prop}

/-- An operation run to its end. -/
def uponK (P : Program) (K : Value → World → Prop) (w : World) : Result Next → Prop
  | .ok (.value u) w' => K u w'
  | .ok .skip w' => K undef w'
  | .ok (.enter f args) w' => w' = w ∧ Calls P f args w (fun e w'' => ∃ v, e = .returned v ∧ K v w'')
  | _ => False
def stepK (P : Program) (o : Oper) (a : Act) (w : World) (K : Value → World → Prop) : Prop := uponK P K w ((execOp a.eval o).run P w)
theorem stepK_mono {o : Oper} {a : Act} {w : World} {K K' : Value → World → Prop} (h : ∀ u w', K u w' → K' u w') (hh : stepK P o a w K) : stepK P o a w K' := by
  unfold stepK at *
  generalize (execOp a.eval o).run P w = r at *
  cases r with
  | ok n w' =>
    cases n <;> simp only [uponK] at hh ⊢
    case value u => exact h _ _ hh
    case skip => exact h _ _ hh
    case enter f args => exact ⟨hh.1, hh.2.mono fun e w'' ⟨v, he, hk⟩ => ⟨v, he, h _ _ hk⟩⟩
  | halt x w' => simp only [uponK] at hh
theorem wp_of_stepK {o : Oper} {a : Act} {w : World} {K : Act → World → Prop} {Q : Exit → Act → World → Prop} (hh : stepK P o a w (fun u w' => K (a.put o.dst u) w')) : o.wp P a w K Q := by
  unfold stepK at hh
  unfold Oper.wp
  generalize (execOp a.eval o).run P w = r at *
  cases r with
  | ok n w' =>
    cases n <;> simp only [uponK] at hh <;> simp only [Oper.upon]
    case value u => exact hh
    case skip => exact hh
    case enter f args =>
      obtain ⟨e1, hc⟩ := hh
      rw [e1]
      refine hc.mono fun e w'' ⟨v, he, hk⟩ => ?_
      subst he
      exact hk
  | halt x w' => simp only [uponK] at hh
def wpAnyC (P : Program) (md : Region.Mode) (ops : Array Oper) (C : World → Prop) (Q : Act → World → Prop) : Nat → Array Bool → Act → World → Prop
  | 0, listed, a, w => C w ∧ Region.ready md ops listed = [] ∧ Q a w
  | fuel + 1, listed, a, w => C w ∧ Region.ready md ops listed ≠ [] ∧ ∀ i ∈ Region.ready md ops listed, ∀ o, ops[i]? = some o →
      Region.wanted o (yielded ops a.tmps) = true ∧ stepK P o a w (fun u w' => wpAnyC P md ops C Q fuel (listed.setIfInBounds i true) (a.put o.dst u) w')
theorem wpAnyC_c {Q : Act → World → Prop} : ∀ {fuel : Nat} {listed : Array Bool} {a : Act} {w : World}, wpAnyC P md ops C Q fuel listed a w → C w
  | 0, _, _, _, h => h.1
  | _ + 1, _, _, _, h => h.1
theorem any_of_C {Q : Act → World → Prop} {Q' : Exit → Act → World → Prop} (hQ : ∀ a w, Q a w → Q' .normal a w) : ∀ (fuel : Nat) (listed : Array Bool) (a : Act) (w : World), wpAnyC P md ops C Q fuel listed a w → wpAny P md ops Q' fuel listed a w
  | 0, _, _, _, h => ⟨h.2.1, hQ _ _ h.2.2⟩
  | fuel + 1, listed, a, w, h => ⟨fun h0 => absurd h0 h.2.1, fun i hi => by
      obtain ⟨_, o, ho, _⟩ := mem_ready.1 hi
      obtain ⟨h1, h2⟩ := h.2.2 i hi o ho
      unfold wpOp
      simp only [ho]
      rw [if_pos h1]
      exact .inl (wp_of_stepK (stepK_mono (fun u w' hk => any_of_C hQ fuel _ _ w' hk) h2))⟩
theorem first {Q : Act → World → Prop} {i : Nat} {oi : Oper} {u : Value} (hi : ops[i]? = some oi) (hsel : ∀ (j : Nat) (o : Oper) cs b, ops[j]? = some o → o.op ≠ .select cs b) :
    ∀ (fuel : Nat) (listed : Array Bool) (a : Act) (w : World),
      (∀ j oj, ops[j]? = some oj → j ≠ i → listed.getD j true = false → (∀ e ∈ oj.after, Region.binds md e = true → e.on ≠ i) → oi.apart ops oj = true) →
      i ∈ Region.ready md ops listed → Region.wanted oi (yielded ops a.tmps) = true → (∀ w, C w → (execOp a.eval oi).run P w = .ok (.value u) w) →
      wpAnyC P md ops C Q fuel (listed.setIfInBounds i true) (a.put oi.dst u) w → wpAnyC P md ops C Q (fuel + 1) listed a w := by
  intro fuel
  induction fuel with
  | zero =>
    intro listed a w hfree hr hw hst h
    refine ⟨h.1, fun h0 => (by rw [h0] at hr; cases hr), fun j hj o ho => ?_⟩
    by_cases hji : j = i
    · subst hji
      rw [hi] at ho
      cases ho
      refine ⟨hw, ?_⟩
      unfold stepK
      rw [hst w h.1]
      exact h
    · have := ready_mono hj hji
      rw [h.2.1] at this
      cases this
  | succ fuel ih =>
    intro listed a w hfree hr hw hst h
    refine ⟨h.1, fun h0 => (by rw [h0] at hr; cases hr), fun j hj oj hoj => ?_⟩
    by_cases hji : j = i
    · subst hji
      rw [hi] at hoj
      cases hoj
      refine ⟨hw, ?_⟩
      unfold stepK
      rw [hst w h.1]
      exact h
    · obtain ⟨h1, h2⟩ := h.2.2 j (ready_mono hj hji) oj hoj
      obtain ⟨hjun, oj', hoj', hall⟩ := mem_ready.1 hj
      rw [hoj] at hoj'
      cases hoj'
      have hnot : ∀ e ∈ oj.after, Region.binds md e = true → e.on ≠ i := fun e he hb heq => by
        have h1 := hall e he hb
        have h0 := (mem_ready.1 hr).1
        rw [heq] at h1
        rcases Nat.lt_or_ge i listed.size with h' | h'
        · simp [h'] at h0 h1; rw [h0] at h1; cases h1
        · simp [Array.getElem?_eq_none h'] at h1
      obtain ⟨p1, p2, p3⟩ := Oper.apart_spec (hfree j oj hoj hji hjun hnot)
      have hfree' : ∀ k ok, ops[k]? = some ok → k ≠ i → (listed.setIfInBounds j true).getD k true = false →
          (∀ e ∈ ok.after, Region.binds md e = true → e.on ≠ i) → oi.apart ops ok = true := fun k ok hk hki hun hno => by
        refine hfree k ok hk hki ?_ hno
        by_cases hjk : j = k
        · subst hjk; exact hjun
        · rw [getD_set_ne true hjk] at hun; exact hun
      refine ⟨by rw [wanted_put oj a oi.dst u p1] at h1; exact h1, ?_⟩
      unfold stepK at h2 ⊢
      rw [execOp_put oj (fun cs b => hsel j oj cs b hoj) a oi.dst u p1] at h2
      refine stepK_mono (o := oj) (a := a) (w := w) (fun v w' hk => ?_) h2
      refine ih (listed.setIfInBounds j true) (a.put oj.dst v) w' hfree' (ready_mono hr (Ne.symm hji)) ?_ ?_ ?_
      · rw [wanted_put oi a oj.dst v p3]; exact hw
      · intro w hw
        rw [execOp_put oi (fun cs b => hsel i oi cs b hi) a oj.dst v p3]
        exact hst w hw
      · rw [Array.setIfInBounds_comm _ _ hji, ← Act.put_comm a u v p2]
        exact hk
/-- The order of the one walk: which comes when, and whether it comes alone. -/
def planB (md : Region.Mode) (ops : Array Oper) : List (Nat × Bool) → Array Bool → Bool
  | [], listed => (Region.ready md ops listed).isEmpty
  | (i, al) :: r, listed => (Region.ready md ops listed).contains i && (if al then (Region.ready md ops listed).all (· == i) else Region.free md ops listed i) && planB md ops r (listed.setIfInBounds i true)
def mix (P : Program) (ops : Array Oper) (C : World → Prop) (Q : Act → World → Prop) : List (Oper × Bool) → Act → World → Prop
  | [], a, w => C w → Q a w
  | (o, true) :: r, a, w => Region.wanted o (yielded ops a.tmps) = true ∧ stepK P o a w (fun u w' => C w' ∧ mix P ops C Q r (a.put o.dst u) w')
  | (o, false) :: r, a, w => Region.wanted o (yielded ops a.tmps) = true ∧ ∃ u, (∀ w, C w → (execOp a.eval o).run P w = .ok (.value u) w) ∧ mix P ops C Q r (a.put o.dst u) w
theorem C_of_mix {Q : Act → World → Prop} (hs : Region.noSelect ops = true) : ∀ (plan : List (Nat × Bool)) (L : List (Oper × Bool)) (listed : Array Bool) (a : Act) (w : World), plan.map (fun p => ((ops[p.1]?), p.2)) = L.map (fun q => (some q.1, q.2)) →
    planB md ops plan listed = true → C w → mix P ops C Q L a w → wpAnyC P md ops C Q plan.length listed a w
  | [], L, listed, a, w, hL, hB, hC, h => by
    cases L with
    | nil => exact ⟨hC, by simpa [planB] using hB, h hC⟩
    | cons q L => simp at hL
  | (i, al) :: r, L, listed, a, w, hL, hB, hC, h => by
    cases L with
    | nil => simp at hL
    | cons q L =>
      obtain ⟨o, al'⟩ := q
      simp only [List.map_cons, List.cons.injEq, Prod.mk.injEq] at hL
      obtain ⟨⟨ho, rfl⟩, hL'⟩ := hL
      simp only [planB, Bool.and_eq_true] at hB
      obtain ⟨⟨hr, hf⟩, hB'⟩ := hB
      have hr' : i ∈ Region.ready md ops listed := by simpa using hr
      cases al with
      | true =>
        simp only [if_true, List.all_eq_true, beq_iff_eq] at hf
        obtain ⟨h1, h2⟩ := h
        refine ⟨hC, fun h0 => (by rw [h0] at hr'; cases hr'), fun j hj oj hoj => ?_⟩
        have hji := hf j hj
        subst hji
        rw [ho] at hoj
        cases hoj
        exact ⟨h1, stepK_mono (fun u w' hk => C_of_mix hs r L _ _ w' hL' hB' hk.1 hk.2) h2⟩
      | false =>
        simp only [Bool.false_eq_true, if_false] at hf
        obtain ⟨h1, u, h2, h3⟩ := h
        exact first ho (Region.noSelect_spec hs) r.length listed a w (Region.free_spec ho hf) hr' h1 h2 (C_of_mix hs r L _ _ w hL' hB' hC h3)
/-- One walk serves every order. -/
theorem wp_region_mix {id : Nat} {Q : Exit → Act → World → Prop} {a : Act} {w : World} {l : List Oper} (C : World → Prop) (plan : List (Nat × Bool)) (hm : P.follows .mixedOrders = true)
    (hB : (Region.noSelect l.toArray && planB .any l.toArray plan (Array.replicate l.length false) && plan.length == l.length) = true) (hC : C w.drew)
    (h : mix P l.toArray C (fun a w => Q .normal a w) (plan.map fun p => (l.getD p.1 default, p.2)) a w.drew) (hin : plan.all (fun p => p.1 < l.length) = true) : (Code.region id l.toArray true).wp P Q a w := by
  simp only [Bool.and_eq_true, beq_iff_eq] at hB
  refine wp_region_any hm (any_of_C (C := C) (Q := fun a w => Q .normal a w) (fun _ _ h => h) _ _ _ _ ?_)
  have := C_of_mix (C := C) (md := .any) hB.1.1 plan _ (Array.replicate l.length false) a w.drew (by
    rw [List.map_map]
    apply List.map_congr_left
    intro p hp
    have hlt : p.1 < l.length := by simpa using List.all_eq_true.1 hin p hp
    simp [List.getD, List.getElem?_eq_getElem hlt]) hB.1.2 hC h
  rw [hB.2] at this
  simpa using this
variable {Q : Act → World → Prop}
/-- What only reads what stays. -/
theorem m_pure {o : Oper} {r : List (Oper × Bool)} {a : Act} {w : World} (v : Value) (hw : Region.wanted o (yielded ops a.tmps) = true) (h : ∀ w, C w → (execOp a.eval o).run P w = .ok (.value v) w) (hk : mix P ops C Q r (a.put o.dst v) w) : mix P ops C Q ((o, false) :: r) a w := ⟨hw, v, h, hk⟩
/-- A call. -/
theorem m_call {o : Oper} {r : List (Oper × Bool)} {a : Act} {w : World} (f : FuncId) (args : Array Value) (hw : Region.wanted o (yielded ops a.tmps) = true) (h : (execOp a.eval o).run P w = .ok (.enter f args) w)
    (hc : Calls P f args w (fun e w' => ∃ v, e = .returned v ∧ C w' ∧ mix P ops C Q r (a.put o.dst v) w')) : mix P ops C Q ((o, true) :: r) a w := by
  refine ⟨hw, ?_⟩
  unfold stepK
  rw [h]
  exact ⟨rfl, hc⟩
/-- An operation that comes alone. -/
theorem m_run {o : Oper} {r : List (Oper × Bool)} {a : Act} {w w' : World} (v : Value) (hw : Region.wanted o (yielded ops a.tmps) = true) (h : (execOp a.eval o).run P w = .ok (.value v) w') (hC : C w') (hk : mix P ops C Q r (a.put o.dst v) w') : mix P ops C Q ((o, true) :: r) a w := by
  refine ⟨hw, ?_⟩
  unfold stepK
  rw [h]
  exact ⟨hC, hk⟩
theorem m_nil {a : Act} {w : World} (h : C w → Q a w) : mix P ops C Q [] a w := h
theorem wanted_none {o : Oper} {y : Nat → Option Bool} (hg : o.guard = none) : Region.wanted o y = true := by unfold Region.wanted; rw [hg]
theorem wanted_met {ops : Array Oper} {a : Act} {o : Oper} (j d : Nat) (want : Bool) (hg : o.guard = some (j, want)) (hd : (ops[j]?).bind (·.dst) = some d) (hv : a.tmps[d]? = some (.bool want)) : Region.wanted o (yielded ops a.tmps) = true := by
  unfold Region.wanted yielded
  rw [hg]
  simp only [hd, Option.bind_some, hv]
  simp
end

end Go.Proofs.Ytcdkejnnbbkecaa.Mx
namespace Go.Proofs.Ytcdkejnnbbkecaa.Vl
open Go.RowKit Wd Cn
set_option linter.unusedVariables false

def dayOk (d : Int) : Prop := -9223372036854775808 ≤ d ∧ d ≤ 9223372036854775807
def RkPost (K : KW) (d : Int) (o : O) (w : World) (e : Ending) (w' : World) : Prop := e = .returned (rk K d o).val ∧ Below w.heap.size w w'
def RkCalls (o : O) : Prop := ∀ (w : World) (p f c : Nat) (K : KW) (d : Int), KIn w p f c K → dayOk d → Calls Try.prog 77 #[o.val, .int .i64 d, .pointer (some ⟨p, 0, none⟩)] w (RkPost K d o w)
theorem form_iface (o : O) (h : formB o = true) : ∃ t x, o.val = .iface t x := by
  cases o <;> first | exact ⟨_, _, rfl⟩ | simp [formB] at h
theorem alloc_0 (w : World) (a b : Obj) : ((w.alloc a).alloc b).heap[w.heap.size]? = some a :=
  (below_alloc (Below.refl _ _) b).block _ (by simp) |>.trans (heap_alloc_new _ _)
theorem heap_alloc_1 (w : World) (a b : Obj) : ((w.alloc a).alloc b).heap[w.heap.size + 1]? = some b := alloc_1 w a b
/-- What stays while a number of two parts is reckoned. -/
def BinC (w : World) (u v : Value) (T : TypeId) (w' : World) : Prop := Below w.heap.size w w' ∧ w'.heap[w.heap.size + 1]? = some (.cells #[u, v] T)
theorem BinC.step {w w' w'' : World} {u v : Value} {T : TypeId} (h : BinC w u v T w') (hb : Below w'.heap.size w' w'') : BinC w u v T w'' :=
  ⟨h.1.trans (hb.mono h.1.size), (hb.block _ (Array.getElem?_eq_some_iff.1 h.2).1).trans h.2⟩
theorem BinC.set3 {w w' : World} {u v : Value} {T : TypeId} (h : BinC w u v T w') (a b c : Value) : BinC w u v T (set3 w' w.heap.size a b c) :=
  ⟨set3_below h.1 (Nat.le_refl _) _ _ _, ((heap_setCell_other _ _ _ _ (by simp)).trans ((heap_setCell_other _ _ _ _ (by simp)).trans (heap_setCell_other _ _ _ _ (by simp)))).trans h.2⟩
theorem m_skip {P : Program} {ops : Array Oper} {C : World → Prop} {Q : Act → World → Prop} {o : Oper} {r : List (Oper × Bool)} {a : Act} {w w' : World} (hw : Region.wanted o (yielded ops a.tmps) = true) (h : (execOp a.eval o).run P w = .ok .skip w') (hC : C w') (hk : Mx.mix P ops C Q r (a.put o.dst undef) w') : Mx.mix P ops C Q ((o, true) :: r) a w := by
  refine ⟨hw, ?_⟩
  unfold Mx.stepK
  rw [h]
  exact ⟨hC, hk⟩
theorem assert_one {P : Program} {t : TypeId} {u : TypeDesc} (hu : P.underlying t = some u) (hn : ∀ m, u ≠ .interface m) (v : Value) (xT : TypeId) (w : World) :
    (Instr.typeAssert (.iface t v) xT t false).run P w = .ok v w := by
  cases u <;> first | (exfalso; exact hn _ rfl) | simp [Instr.typeAssert, run_underlying hu]
theorem isMax1 (v : Value) (xT : TypeId) (w : World) : (Instr.typeAssert (.iface 96 v) xT 96 false).run Try.prog w = .ok v w := assert_one Try.underlying96 (by intro m h; cases h) v xT w

set_option maxHeartbeats 1000000 in
set_option maxRecDepth 100000 in
theorem reckon_const (n : Int) : RkCalls (.const n) := by
  intro w p f c K d hk hd
  clear hk
  have h0 := fun v xT w => isConst v xT w
  unfold O.val
  go_enter Try.func77, Try.ntmps77
  go_wp2_with fail
  refine bodyPost_ret (ret_row rfl _ _ _ ⟨n, true, 0⟩ rfl (alloc_0 _ _ _)) rfl ?_
  exact ⟨rfl, below_alloc (below_alloc (Below.refl _ _) _) _⟩

set_option maxHeartbeats 1000000 in
set_option maxRecDepth 100000 in
theorem reckon_fix (s : ByteArray) (hok : (O.fix s).Ok) : RkCalls (.fix s) := by
  intro w p f c K d hk hd
  have HF : Hid (fixOk (s, d)) := ⟨Nat.le_trans hok (by decide), hd.1, hd.2⟩
  have HK : Hid (KIn w p f c K) := hk
  clear hk hok hd
  have h0 := fun v xT w => notConst 90 v xT w (by decide)
  have h1 := fun v xT w => isFix v xT w
  unfold O.val
  go_enter Try.func77, Try.ntmps77
  go_wp2_with fail
  refine (fixed_any _ p f c K (HK.out.below (below_alloc (below_alloc (Below.refl _ _) _) _)) s d HF.out).mono ?_
  rintro e w1 ⟨rfl, rfl⟩
  have HR : Hid (rk K d (.fix s) = ⟨(K.fixed (s, d)).getD 0, (K.fixed (s, d)).isSome, 0⟩) := rfl
  generalize (K.fixed (s, d)).getD 0 = n at *
  generalize (K.fixed (s, d)).isSome = q at *
  go_wp2_with fail
  refine bodyPost_ret (ret_row rfl _ _ _ ⟨n, q, 0⟩ rfl (alloc_0 _ _ _)) rfl ?_
  exact ⟨by rw [HR.out], below_alloc (below_alloc (Below.refl _ _) _) _⟩

set_option maxHeartbeats 1000000 in
set_option maxRecDepth 100000 in
theorem reckon_neg (o : O) (hf : formB o = true) (ih : RkCalls o) : RkCalls (.neg o) := by
  intro w p f c K d hk hd
  have HK : Hid (KIn w p f c K) := hk
  have HI : Hid (RkCalls o) := ih
  have HD : Hid (dayOk d) := hd
  clear hk ih hd
  have h0 := fun v xT w => notConst 94 v xT w (by decide)
  have h1 := fun v xT w => notFix 94 v xT w (by decide)
  have h2 := fun v xT w => isNeg v xT w
  obtain ⟨t, x, he⟩ := form_iface o hf
  have HE : Hid (o.val = .iface t x) := he
  clear hf
  unfold O.val
  rw [he]
  clear he
  go_enter Try.func77, Try.ntmps77
  go_wp2_with fail
  have hcall := HI.out _ p f c K d (HK.out.below (below_alloc (below_alloc (Below.refl _ _) (.cells #[.int .i64 0, .bool false, .int .i64 0] 182)) (.cells #[.iface t x] 94))) HD.out
  rw [HE.out] at hcall
  refine hcall.mono ?_
  clear hcall
  rintro e w1 ⟨rfl, hb⟩
  have HZ : Hid (w1.heap[w.heap.size]? = some (.cells #[.int .i64 0, .bool false, .int .i64 0] 182)) := (hb.block _ (by simp; omega)).trans (alloc_0 _ _ _)
  have HB : Hid (Below w.heap.size w w1) := (below_alloc (below_alloc (Below.refl _ _) _) _).trans (hb.mono (by simp; omega))
  clear hb
  go_wp2_with fail
  refine (other_any _ _).mono ?_
  rintro e w2 ⟨rfl, hb⟩
  have HZ2 : Hid (w2.heap[w.heap.size]? = some (.cells #[.int .i64 0, .bool false, .int .i64 0] 182)) := (hb.block _ (Array.getElem?_eq_some_iff.1 HZ.out).1).trans HZ.out
  have HB2 : Hid (Below w.heap.size w w2) := HB.out.trans (hb.mono HB.out.size)
  clear hb
  obtain ⟨c0, c1, c2, f0, f1, f2⟩ := row3_cells HZ2.out
  have HR : Hid (rk K d (.neg o) = otherR (rk K d o)) := rfl
  generalize otherR (rk K d o) = y at *
  unfold Rk.val Rk.cs
  go_wp2_with fail
  refine bodyPost_ret (ret_row rfl _ _ _ y rfl (set3_row HZ2.out _ _ _)) rfl ?_
  exact ⟨by rw [HR.out], set3_below HB2.out (by omega) _ _ _⟩

set_option maxHeartbeats 2000000 in
set_option maxRecDepth 100000 in
theorem reckon_add (l r : O) (hl : formB l = true) (hr : formB r = true) (ihl : RkCalls l) (ihr : RkCalls r) : RkCalls (.add l r) := by
  intro w p f c K d hk hd
  have HL : Hid (RkCalls l) := ihl
  have HRR : Hid (RkCalls r) := ihr
  have HD : Hid (dayOk d) := hd
  have h0 := fun v xT w => notConst 92 v xT w (by decide)
  have h1 := fun v xT w => notFix 92 v xT w (by decide)
  have h2 := fun v xT w => notNeg 92 v xT w (by decide)
  have h3 := fun v xT w => isAdd v xT w
  obtain ⟨t, x, he⟩ := form_iface l hl
  obtain ⟨t2, x2, he2⟩ := form_iface r hr
  have HE : Hid (l.val = .iface t x) := he
  have HE2 : Hid (r.val = .iface t2 x2) := he2
  have HK0 : Hid (KIn w p f c K) := hk
  clear hl hr hd ihl ihr hk
  unfold O.val
  rw [he, he2]
  clear he he2
  go_enter Try.func77, Try.ntmps77
  go_wp2_with fail
  have hz := alloc_0 w (.cells #[.int .i64 0, .bool false, .int .i64 0] 182) (.cells #[.iface t x, .iface t2 x2] 92)
  have hx := alloc_1 w (.cells #[.int .i64 0, .bool false, .int .i64 0] 182) (.cells #[.iface t x, .iface t2 x2] 92)
  have hb := below_alloc (below_alloc (Below.refl w.heap.size w) (.cells #[.int .i64 0, .bool false, .int .i64 0] 182)) (.cells #[.iface t x, .iface t2 x2] 92)
  generalize (w.alloc (.cells #[.int .i64 0, .bool false, .int .i64 0] 182)).alloc (.cells #[.iface t x, .iface t2 x2] 92) = W at *
  have HZ : Hid (W.heap[w.heap.size]? = some (.cells #[.int .i64 0, .bool false, .int .i64 0] 182)) := hz
  have HC0 : Hid (BinC w l.val r.val 92 W.drew) := by
    unfold Hid
    rw [HE.out, HE2.out]
    exact ⟨below_drew hb, hx⟩
  have HF : Hid (∀ w', BinC w l.val r.val 92 w' → w'.cell? ⟨w.heap.size + 1, 0, none⟩ = some l.val ∧ w'.cell? ⟨w.heap.size + 1, 1, none⟩ = some r.val) := fun w' hw' => ⟨cell_of_row _ _ _ _ _ _ hw'.2, cell_of_row _ _ _ _ _ _ hw'.2⟩
  clear hz hx hb
  have HRES : Hid (rk K d (.add l r) = bothR (rk K d l) (rk K d r) addR) := rfl
  refine Mx.wp_region_mix (fun w' => BinC w l.val r.val 92 w') [(0, false), (1, false), (2, false), (3, false), (5, false), (6, false), (7, false), (8, false), (4, true), (9, true), (10, true), (11, true)] (by kernel_rfl) (by kernel_rfl) HC0.out ?_ (by kernel_rfl)
  simp only [List.map_cons, List.map_nil, List.getD_cons_zero, List.getD_cons_succ]
  generalize hops : (#[_, _, _, _, _, _, _, _, _, _, _, _] : Array Oper) = ops
  clear hops
  refine Mx.m_pure (.pointer (some ⟨w.heap.size + 1, 0, none⟩)) (Mx.wanted_none rfl) (fun w' hw' => ?_) ?_
  · go_simp
  simp only [Act.put, List.setIfInBounds_toArray, List.set_cons_zero, List.set_cons_succ]
  refine Mx.m_pure (l.val) (Mx.wanted_none rfl) (fun w' hw' => ?_) ?_
  · obtain ⟨q0, q1⟩ := HF.out w' hw'
    go_simp
  simp only [Act.put, List.setIfInBounds_toArray, List.set_cons_zero, List.set_cons_succ]
  refine Mx.m_pure (.int .i64 d) (Mx.wanted_none rfl) (fun w' hw' => ?_) ?_
  · go_simp
  simp only [Act.put, List.setIfInBounds_toArray, List.set_cons_zero, List.set_cons_succ]
  refine Mx.m_pure (.pointer (some ⟨p, 0, none⟩)) (Mx.wanted_none rfl) (fun w' hw' => ?_) ?_
  · go_simp
  simp only [Act.put, List.setIfInBounds_toArray, List.set_cons_zero, List.set_cons_succ]
  refine Mx.m_pure (.pointer (some ⟨w.heap.size + 1, 1, none⟩)) (Mx.wanted_none rfl) (fun w' hw' => ?_) ?_
  · go_simp
  simp only [Act.put, List.setIfInBounds_toArray, List.set_cons_zero, List.set_cons_succ]
  refine Mx.m_pure (r.val) (Mx.wanted_none rfl) (fun w' hw' => ?_) ?_
  · obtain ⟨q0, q1⟩ := HF.out w' hw'
    go_simp
  simp only [Act.put, List.setIfInBounds_toArray, List.set_cons_zero, List.set_cons_succ]
  refine Mx.m_pure (.int .i64 d) (Mx.wanted_none rfl) (fun w' hw' => ?_) ?_
  · go_simp
  simp only [Act.put, List.setIfInBounds_toArray, List.set_cons_zero, List.set_cons_succ]
  refine Mx.m_pure (.pointer (some ⟨p, 0, none⟩)) (Mx.wanted_none rfl) (fun w' hw' => ?_) ?_
  · go_simp
  simp only [Act.put, List.setIfInBounds_toArray, List.set_cons_zero, List.set_cons_succ]
  refine Mx.m_call 77 #[l.val, .int .i64 d, .pointer (some ⟨p, 0, none⟩)] (Mx.wanted_none rfl) ?_ ?_
  · go_simp
  refine (HL.out _ p f c K d (HK0.out.below HC0.out.1) HD.out).mono ?_
  rintro e w1 ⟨rfl, hb⟩
  have HC1 : Hid (BinC w l.val r.val 92 w1) := HC0.out.step hb
  have HZ1 : Hid (w1.heap[w.heap.size]? = some (.cells #[.int .i64 0, .bool false, .int .i64 0] 182)) := (hb.block _ (Array.getElem?_eq_some_iff.1 HZ.out).1).trans HZ.out
  refine ⟨_, rfl, HC1.out, ?_⟩
  clear hb
  simp only [Act.put, List.setIfInBounds_toArray, List.set_cons_zero, List.set_cons_succ]
  refine Mx.m_call 77 #[r.val, .int .i64 d, .pointer (some ⟨p, 0, none⟩)] (Mx.wanted_none rfl) ?_ ?_
  · go_simp
  refine (HRR.out _ p f c K d (HK0.out.below HC1.out.1) HD.out).mono ?_
  rintro e w2 ⟨rfl, hb⟩
  have HC2 : Hid (BinC w l.val r.val 92 w2) := HC1.out.step hb
  have HZ2 : Hid (w2.heap[w.heap.size]? = some (.cells #[.int .i64 0, .bool false, .int .i64 0] 182)) := (hb.block _ (Array.getElem?_eq_some_iff.1 HZ1.out).1).trans HZ1.out
  refine ⟨_, rfl, HC2.out, ?_⟩
  clear hb
  simp only [Act.put, List.setIfInBounds_toArray, List.set_cons_zero, List.set_cons_succ]
  refine Mx.m_call 83 #[(rk K d l).val, (rk K d r).val, .func (.func 84) #[] #[]] (Mx.wanted_none rfl) ?_ ?_
  · go_simp
  refine (both_any _ _ _ addR (fun args w => rfl) add_any _).mono ?_
  rintro e w3 ⟨rfl, hb⟩
  have HC3 : Hid (BinC w l.val r.val 92 w3) := HC2.out.step hb
  refine ⟨_, rfl, HC3.out, ?_⟩
  have HZ3 : Hid (w3.heap[w.heap.size]? = some (.cells #[.int .i64 0, .bool false, .int .i64 0] 182)) := (hb.block _ (Array.getElem?_eq_some_iff.1 HZ2.out).1).trans HZ2.out
  clear hb
  obtain ⟨c0, c1, c2, f0, f1, f2⟩ := row3_cells HZ3.out
  generalize bothR (rk K d l) (rk K d r) addR = y at *
  unfold Rk.val Rk.cs
  simp only [Act.put, List.setIfInBounds_toArray, List.set_cons_zero, List.set_cons_succ]
  refine m_skip (Mx.wanted_none rfl) ?_ (HC3.out.set3 (.int .i64 y.n) (.bool y.known) (.int .i64 y.e)) ?_
  · unfold set3
    go_simp
  simp only [Act.put]
  refine Mx.m_nil ?_
  intro _
  go_wp2_with fail
  refine bodyPost_ret (ret_row rfl _ _ _ y rfl (set3_row HZ3.out _ _ _)) rfl ?_
  exact ⟨by rw [HRES.out], set3_below HC3.out.1 (Nat.le_refl _) _ _ _⟩

set_option maxHeartbeats 2000000 in
set_option maxRecDepth 100000 in
theorem reckon_mul (l r : O) (hl : formB l = true) (hr : formB r = true) (ihl : RkCalls l) (ihr : RkCalls r) : RkCalls (.mul l r) := by
  intro w p f c K d hk hd
  have HL : Hid (RkCalls l) := ihl
  have HRR : Hid (RkCalls r) := ihr
  have HD : Hid (dayOk d) := hd
  have h0 := fun v xT w => notConst 95 v xT w (by decide)
  have h1 := fun v xT w => notFix 95 v xT w (by decide)
  have h2 := fun v xT w => notNeg 95 v xT w (by decide)
  have h3 := fun v xT w => notAdd 95 v xT w (by decide)
  have h4 := fun v xT w => isMul v xT w
  obtain ⟨t, x, he⟩ := form_iface l hl
  obtain ⟨t2, x2, he2⟩ := form_iface r hr
  have HE : Hid (l.val = .iface t x) := he
  have HE2 : Hid (r.val = .iface t2 x2) := he2
  have HK0 : Hid (KIn w p f c K) := hk
  clear hl hr hd ihl ihr hk
  unfold O.val
  rw [he, he2]
  clear he he2
  go_enter Try.func77, Try.ntmps77
  go_wp2_with fail
  have hz := alloc_0 w (.cells #[.int .i64 0, .bool false, .int .i64 0] 182) (.cells #[.iface t x, .iface t2 x2] 95)
  have hx := alloc_1 w (.cells #[.int .i64 0, .bool false, .int .i64 0] 182) (.cells #[.iface t x, .iface t2 x2] 95)
  have hb := below_alloc (below_alloc (Below.refl w.heap.size w) (.cells #[.int .i64 0, .bool false, .int .i64 0] 182)) (.cells #[.iface t x, .iface t2 x2] 95)
  generalize (w.alloc (.cells #[.int .i64 0, .bool false, .int .i64 0] 182)).alloc (.cells #[.iface t x, .iface t2 x2] 95) = W at *
  have HZ : Hid (W.heap[w.heap.size]? = some (.cells #[.int .i64 0, .bool false, .int .i64 0] 182)) := hz
  have HC0 : Hid (BinC w l.val r.val 95 W.drew) := by
    unfold Hid
    rw [HE.out, HE2.out]
    exact ⟨below_drew hb, hx⟩
  have HF : Hid (∀ w', BinC w l.val r.val 95 w' → w'.cell? ⟨w.heap.size + 1, 0, none⟩ = some l.val ∧ w'.cell? ⟨w.heap.size + 1, 1, none⟩ = some r.val) := fun w' hw' => ⟨cell_of_row _ _ _ _ _ _ hw'.2, cell_of_row _ _ _ _ _ _ hw'.2⟩
  clear hz hx hb
  have HRES : Hid (rk K d (.mul l r) = bothR (rk K d l) (rk K d r) mulR) := rfl
  refine Mx.wp_region_mix (fun w' => BinC w l.val r.val 95 w') [(0, false), (1, false), (2, false), (3, false), (5, false), (6, false), (7, false), (8, false), (4, true), (9, true), (10, true), (11, true)] (by kernel_rfl) (by kernel_rfl) HC0.out ?_ (by kernel_rfl)
  simp only [List.map_cons, List.map_nil, List.getD_cons_zero, List.getD_cons_succ]
  generalize hops : (#[_, _, _, _, _, _, _, _, _, _, _, _] : Array Oper) = ops
  clear hops
  refine Mx.m_pure (.pointer (some ⟨w.heap.size + 1, 0, none⟩)) (Mx.wanted_none rfl) (fun w' hw' => ?_) ?_
  · go_simp
  simp only [Act.put, List.setIfInBounds_toArray, List.set_cons_zero, List.set_cons_succ]
  refine Mx.m_pure (l.val) (Mx.wanted_none rfl) (fun w' hw' => ?_) ?_
  · obtain ⟨q0, q1⟩ := HF.out w' hw'
    go_simp
  simp only [Act.put, List.setIfInBounds_toArray, List.set_cons_zero, List.set_cons_succ]
  refine Mx.m_pure (.int .i64 d) (Mx.wanted_none rfl) (fun w' hw' => ?_) ?_
  · go_simp
  simp only [Act.put, List.setIfInBounds_toArray, List.set_cons_zero, List.set_cons_succ]
  refine Mx.m_pure (.pointer (some ⟨p, 0, none⟩)) (Mx.wanted_none rfl) (fun w' hw' => ?_) ?_
  · go_simp
  simp only [Act.put, List.setIfInBounds_toArray, List.set_cons_zero, List.set_cons_succ]
  refine Mx.m_pure (.pointer (some ⟨w.heap.size + 1, 1, none⟩)) (Mx.wanted_none rfl) (fun w' hw' => ?_) ?_
  · go_simp
  simp only [Act.put, List.setIfInBounds_toArray, List.set_cons_zero, List.set_cons_succ]
  refine Mx.m_pure (r.val) (Mx.wanted_none rfl) (fun w' hw' => ?_) ?_
  · obtain ⟨q0, q1⟩ := HF.out w' hw'
    go_simp
  simp only [Act.put, List.setIfInBounds_toArray, List.set_cons_zero, List.set_cons_succ]
  refine Mx.m_pure (.int .i64 d) (Mx.wanted_none rfl) (fun w' hw' => ?_) ?_
  · go_simp
  simp only [Act.put, List.setIfInBounds_toArray, List.set_cons_zero, List.set_cons_succ]
  refine Mx.m_pure (.pointer (some ⟨p, 0, none⟩)) (Mx.wanted_none rfl) (fun w' hw' => ?_) ?_
  · go_simp
  simp only [Act.put, List.setIfInBounds_toArray, List.set_cons_zero, List.set_cons_succ]
  refine Mx.m_call 77 #[l.val, .int .i64 d, .pointer (some ⟨p, 0, none⟩)] (Mx.wanted_none rfl) ?_ ?_
  · go_simp
  refine (HL.out _ p f c K d (HK0.out.below HC0.out.1) HD.out).mono ?_
  rintro e w1 ⟨rfl, hb⟩
  have HC1 : Hid (BinC w l.val r.val 95 w1) := HC0.out.step hb
  have HZ1 : Hid (w1.heap[w.heap.size]? = some (.cells #[.int .i64 0, .bool false, .int .i64 0] 182)) := (hb.block _ (Array.getElem?_eq_some_iff.1 HZ.out).1).trans HZ.out
  refine ⟨_, rfl, HC1.out, ?_⟩
  clear hb
  simp only [Act.put, List.setIfInBounds_toArray, List.set_cons_zero, List.set_cons_succ]
  refine Mx.m_call 77 #[r.val, .int .i64 d, .pointer (some ⟨p, 0, none⟩)] (Mx.wanted_none rfl) ?_ ?_
  · go_simp
  refine (HRR.out _ p f c K d (HK0.out.below HC1.out.1) HD.out).mono ?_
  rintro e w2 ⟨rfl, hb⟩
  have HC2 : Hid (BinC w l.val r.val 95 w2) := HC1.out.step hb
  have HZ2 : Hid (w2.heap[w.heap.size]? = some (.cells #[.int .i64 0, .bool false, .int .i64 0] 182)) := (hb.block _ (Array.getElem?_eq_some_iff.1 HZ1.out).1).trans HZ1.out
  refine ⟨_, rfl, HC2.out, ?_⟩
  clear hb
  simp only [Act.put, List.setIfInBounds_toArray, List.set_cons_zero, List.set_cons_succ]
  refine Mx.m_call 83 #[(rk K d l).val, (rk K d r).val, .func (.func 66) #[] #[]] (Mx.wanted_none rfl) ?_ ?_
  · go_simp
  refine (both_any _ _ _ mulR (fun args w => rfl) mul_any _).mono ?_
  rintro e w3 ⟨rfl, hb⟩
  have HC3 : Hid (BinC w l.val r.val 95 w3) := HC2.out.step hb
  refine ⟨_, rfl, HC3.out, ?_⟩
  have HZ3 : Hid (w3.heap[w.heap.size]? = some (.cells #[.int .i64 0, .bool false, .int .i64 0] 182)) := (hb.block _ (Array.getElem?_eq_some_iff.1 HZ2.out).1).trans HZ2.out
  clear hb
  obtain ⟨c0, c1, c2, f0, f1, f2⟩ := row3_cells HZ3.out
  generalize bothR (rk K d l) (rk K d r) mulR = y at *
  unfold Rk.val Rk.cs
  simp only [Act.put, List.setIfInBounds_toArray, List.set_cons_zero, List.set_cons_succ]
  refine m_skip (Mx.wanted_none rfl) ?_ (HC3.out.set3 (.int .i64 y.n) (.bool y.known) (.int .i64 y.e)) ?_
  · unfold set3
    go_simp
  simp only [Act.put]
  refine Mx.m_nil ?_
  intro _
  go_wp2_with fail
  refine bodyPost_ret (ret_row rfl _ _ _ y rfl (set3_row HZ3.out _ _ _)) rfl ?_
  exact ⟨by rw [HRES.out], set3_below HC3.out.1 (Nat.le_refl _) _ _ _⟩

set_option maxHeartbeats 2000000 in
set_option maxRecDepth 100000 in
theorem reckon_max (l r : O) (hl : formB l = true) (hr : formB r = true) (ihl : RkCalls l) (ihr : RkCalls r) : RkCalls (.max l r) := by
  intro w p f c K d hk hd
  have HL : Hid (RkCalls l) := ihl
  have HRR : Hid (RkCalls r) := ihr
  have HD : Hid (dayOk d) := hd
  have h0 := fun v xT w => notConst 96 v xT w (by decide)
  have h1 := fun v xT w => notFix 96 v xT w (by decide)
  have h2 := fun v xT w => notNeg 96 v xT w (by decide)
  have h3 := fun v xT w => notAdd 96 v xT w (by decide)
  have h4 := fun v xT w => notMul 96 v xT w (by decide)
  have h5 := fun v xT w => isMax1 v xT w
  obtain ⟨t, x, he⟩ := form_iface l hl
  obtain ⟨t2, x2, he2⟩ := form_iface r hr
  have HE : Hid (l.val = .iface t x) := he
  have HE2 : Hid (r.val = .iface t2 x2) := he2
  have HK0 : Hid (KIn w p f c K) := hk
  clear hl hr hd ihl ihr hk
  unfold O.val
  rw [he, he2]
  clear he he2
  go_enter Try.func77, Try.ntmps77
  go_wp2_with fail
  have hz := alloc_0 w (.cells #[.int .i64 0, .bool false, .int .i64 0] 182) (.cells #[.iface t x, .iface t2 x2] 96)
  have hx := alloc_1 w (.cells #[.int .i64 0, .bool false, .int .i64 0] 182) (.cells #[.iface t x, .iface t2 x2] 96)
  have hb := below_alloc (below_alloc (Below.refl w.heap.size w) (.cells #[.int .i64 0, .bool false, .int .i64 0] 182)) (.cells #[.iface t x, .iface t2 x2] 96)
  generalize (w.alloc (.cells #[.int .i64 0, .bool false, .int .i64 0] 182)).alloc (.cells #[.iface t x, .iface t2 x2] 96) = W at *
  have HZ : Hid (W.heap[w.heap.size]? = some (.cells #[.int .i64 0, .bool false, .int .i64 0] 182)) := hz
  have HC0 : Hid (BinC w l.val r.val 96 W.drew) := by
    unfold Hid
    rw [HE.out, HE2.out]
    exact ⟨below_drew hb, hx⟩
  have HF : Hid (∀ w', BinC w l.val r.val 96 w' → w'.cell? ⟨w.heap.size + 1, 0, none⟩ = some l.val ∧ w'.cell? ⟨w.heap.size + 1, 1, none⟩ = some r.val) := fun w' hw' => ⟨cell_of_row _ _ _ _ _ _ hw'.2, cell_of_row _ _ _ _ _ _ hw'.2⟩
  clear hz hx hb
  have HRES : Hid (rk K d (.max l r) = bothR (rk K d l) (rk K d r) gtR) := rfl
  refine Mx.wp_region_mix (fun w' => BinC w l.val r.val 96 w') [(0, false), (1, false), (2, false), (3, false), (5, false), (6, false), (7, false), (8, false), (4, true), (9, true), (10, true), (11, true)] (by kernel_rfl) (by kernel_rfl) HC0.out ?_ (by kernel_rfl)
  simp only [List.map_cons, List.map_nil, List.getD_cons_zero, List.getD_cons_succ]
  generalize hops : (#[_, _, _, _, _, _, _, _, _, _, _, _] : Array Oper) = ops
  clear hops
  refine Mx.m_pure (.pointer (some ⟨w.heap.size + 1, 0, none⟩)) (Mx.wanted_none rfl) (fun w' hw' => ?_) ?_
  · go_simp
  simp only [Act.put, List.setIfInBounds_toArray, List.set_cons_zero, List.set_cons_succ]
  refine Mx.m_pure (l.val) (Mx.wanted_none rfl) (fun w' hw' => ?_) ?_
  · obtain ⟨q0, q1⟩ := HF.out w' hw'
    go_simp
  simp only [Act.put, List.setIfInBounds_toArray, List.set_cons_zero, List.set_cons_succ]
  refine Mx.m_pure (.int .i64 d) (Mx.wanted_none rfl) (fun w' hw' => ?_) ?_
  · go_simp
  simp only [Act.put, List.setIfInBounds_toArray, List.set_cons_zero, List.set_cons_succ]
  refine Mx.m_pure (.pointer (some ⟨p, 0, none⟩)) (Mx.wanted_none rfl) (fun w' hw' => ?_) ?_
  · go_simp
  simp only [Act.put, List.setIfInBounds_toArray, List.set_cons_zero, List.set_cons_succ]
  refine Mx.m_pure (.pointer (some ⟨w.heap.size + 1, 1, none⟩)) (Mx.wanted_none rfl) (fun w' hw' => ?_) ?_
  · go_simp
  simp only [Act.put, List.setIfInBounds_toArray, List.set_cons_zero, List.set_cons_succ]
  refine Mx.m_pure (r.val) (Mx.wanted_none rfl) (fun w' hw' => ?_) ?_
  · obtain ⟨q0, q1⟩ := HF.out w' hw'
    go_simp
  simp only [Act.put, List.setIfInBounds_toArray, List.set_cons_zero, List.set_cons_succ]
  refine Mx.m_pure (.int .i64 d) (Mx.wanted_none rfl) (fun w' hw' => ?_) ?_
  · go_simp
  simp only [Act.put, List.setIfInBounds_toArray, List.set_cons_zero, List.set_cons_succ]
  refine Mx.m_pure (.pointer (some ⟨p, 0, none⟩)) (Mx.wanted_none rfl) (fun w' hw' => ?_) ?_
  · go_simp
  simp only [Act.put, List.setIfInBounds_toArray, List.set_cons_zero, List.set_cons_succ]
  refine Mx.m_call 77 #[l.val, .int .i64 d, .pointer (some ⟨p, 0, none⟩)] (Mx.wanted_none rfl) ?_ ?_
  · go_simp
  refine (HL.out _ p f c K d (HK0.out.below HC0.out.1) HD.out).mono ?_
  rintro e w1 ⟨rfl, hb⟩
  have HC1 : Hid (BinC w l.val r.val 96 w1) := HC0.out.step hb
  have HZ1 : Hid (w1.heap[w.heap.size]? = some (.cells #[.int .i64 0, .bool false, .int .i64 0] 182)) := (hb.block _ (Array.getElem?_eq_some_iff.1 HZ.out).1).trans HZ.out
  refine ⟨_, rfl, HC1.out, ?_⟩
  clear hb
  simp only [Act.put, List.setIfInBounds_toArray, List.set_cons_zero, List.set_cons_succ]
  refine Mx.m_call 77 #[r.val, .int .i64 d, .pointer (some ⟨p, 0, none⟩)] (Mx.wanted_none rfl) ?_ ?_
  · go_simp
  refine (HRR.out _ p f c K d (HK0.out.below HC1.out.1) HD.out).mono ?_
  rintro e w2 ⟨rfl, hb⟩
  have HC2 : Hid (BinC w l.val r.val 96 w2) := HC1.out.step hb
  have HZ2 : Hid (w2.heap[w.heap.size]? = some (.cells #[.int .i64 0, .bool false, .int .i64 0] 182)) := (hb.block _ (Array.getElem?_eq_some_iff.1 HZ1.out).1).trans HZ1.out
  refine ⟨_, rfl, HC2.out, ?_⟩
  clear hb
  simp only [Act.put, List.setIfInBounds_toArray, List.set_cons_zero, List.set_cons_succ]
  refine Mx.m_call 83 #[(rk K d l).val, (rk K d r).val, .func (.func 85) #[] #[]] (Mx.wanted_none rfl) ?_ ?_
  · go_simp
  refine (both_any _ _ _ gtR (fun args w => rfl) gt_any _).mono ?_
  rintro e w3 ⟨rfl, hb⟩
  have HC3 : Hid (BinC w l.val r.val 96 w3) := HC2.out.step hb
  refine ⟨_, rfl, HC3.out, ?_⟩
  have HZ3 : Hid (w3.heap[w.heap.size]? = some (.cells #[.int .i64 0, .bool false, .int .i64 0] 182)) := (hb.block _ (Array.getElem?_eq_some_iff.1 HZ2.out).1).trans HZ2.out
  clear hb
  obtain ⟨c0, c1, c2, f0, f1, f2⟩ := row3_cells HZ3.out
  generalize bothR (rk K d l) (rk K d r) gtR = y at *
  unfold Rk.val Rk.cs
  simp only [Act.put, List.setIfInBounds_toArray, List.set_cons_zero, List.set_cons_succ]
  refine m_skip (Mx.wanted_none rfl) ?_ (HC3.out.set3 (.int .i64 y.n) (.bool y.known) (.int .i64 y.e)) ?_
  · unfold set3
    go_simp
  simp only [Act.put]
  refine Mx.m_nil ?_
  intro _
  go_wp2_with fail
  refine bodyPost_ret (ret_row rfl _ _ _ y rfl (set3_row HZ3.out _ _ _)) rfl ?_
  exact ⟨by rw [HRES.out], set3_below HC3.out.1 (Nat.le_refl _) _ _ _⟩

/-- What reckon answers. -/
theorem reckon_any (o : O) : o.Ok → formB o = true → RkCalls o := by
  induction o with
  | const n => exact fun _ _ => reckon_const n
  | fix s => exact fun h _ => reckon_fix s h
  | add l r hl hr => intro h hf; simp only [formB, Bool.and_eq_true] at hf; exact reckon_add l r hf.1 hf.2 (hl h.1 hf.1) (hr h.2 hf.2)
  | neg o ho => intro h hf; simp only [formB] at hf; exact reckon_neg o hf (ho h hf)
  | mul l r hl hr => intro h hf; simp only [formB, Bool.and_eq_true] at hf; exact reckon_mul l r hf.1 hf.2 (hl h.1 hf.1) (hr h.2 hf.2)
  | max l r hl hr => intro h hf; simp only [formB, Bool.and_eq_true] at hf; exact reckon_max l r hf.1 hf.2 (hl h.1 hf.1) (hr h.2 hf.2)
  | odd v => intro _ hf; simp [formB] at hf

end Go.Proofs.Ytcdkejnnbbkecaa.Vl
namespace Go.Proofs.Ytcdkejnnbbkecaa.Vl
open Go.RowKit Wd Cn
set_option linter.unusedVariables false

/-- What Of answers. -/
def ofR (K : KW) (d : Int) (o : O) : Rk := if chk o = 0 then rk K d o else ⟨0, false, 2⟩
def ofE (r : Rk) : Ending := .returned (.tuple #[.int .i64 r.n, .bool r.known, .int .i64 r.e])
theorem chk_form {o : O} (h : chk o = 0) : formB o = true := by
  unfold chk at h
  split at h
  · assumption
  · cases h

set_option maxHeartbeats 1000000 in
theorem of_any (o : O) (hok : o.Ok) (hsz : o.nodes ≤ 1000000) (w : World) (p f c : Nat) (K : KW) (d : Int) (hk : KIn w p f c K) (hd : dayOk d) :
    Calls Try.prog 72 #[o.val, .int .i64 d, .pointer (some ⟨p, 0, none⟩)] w fun e w' => e = ofE (ofR K d o) ∧ Below w.heap.size w w' := by
  have HK : Hid (KIn w p f c K) := hk
  clear hk
  by_cases hc : chk o = 0
  · have HF : Hid (ofR K d o = rk K d o) := by unfold Hid ofR; rw [if_pos hc]
    go_enter Try.func72, Try.ntmps72
    go_wp2_with fail
    refine (check_any o hok hsz w).mono ?_
    rintro e w1 ⟨rfl, hb1⟩
    rw [hc]
    go_wp2_with fail
    refine (reckon_any o hok (chk_form hc) w1 p f c K d (HK.out.below hb1) hd).mono ?_
    rintro e w2 ⟨rfl, hb2⟩
    have HB : Hid (Below w.heap.size w w2) := hb1.trans (hb2.mono hb1.size)
    clear hb1 hb2
    generalize rk K d o = x at *
    unfold Rk.val Rk.cs
    go_wp2_with fail
    go_region
    go_wp2_with fail
    go_ret3
    rw [HF.out]
    exact ⟨rfl, (below_alloc HB.out _).drew⟩
  · have HF : Hid (ofR K d o = ⟨0, false, 2⟩) := by unfold Hid ofR; rw [if_neg hc]
    have hc1 : (chk o != 0) = true := by simpa using hc
    go_enter Try.func72, Try.ntmps72
    go_wp2_with fail
    refine (check_any o hok hsz w).mono ?_
    rintro e w1 ⟨rfl, hb1⟩
    go_wp2_with fail
    go_ret3
    rw [HF.out]
    exact ⟨rfl, hb1⟩

/-- The names that are not fixed. -/
def lackN (K : KW) (d : Int) (l : List ByteArray) : List ByteArray := l.filter fun s => !(K.fixed (s, d)).isSome
def needR (K : KW) (d : Int) (o : O) : List ByteArray := if chk o = 0 then lackN K d o.names else []
theorem lackN_snoc (K : KW) (d : Int) (l : List ByteArray) (s : ByteArray) : lackN K d (l ++ [s]) = if (K.fixed (s, d)).isSome = true then lackN K d l else lackN K d l ++ [s] := by
  unfold lackN
  rw [List.filter_append]
  cases h : K.fixed (s, d) <;> simp [h]
theorem lackN_length (K : KW) (d : Int) (l : List ByteArray) : (lackN K d l).length ≤ l.length := List.length_filter_le _ _
theorem all_small (o : O) (h : o.Ok) : ∀ s ∈ o.all, s.size ≤ 2147483648 := by
  induction o with
  | const n => intro s hs; simp [O.all] at hs
  | fix t => intro s hs; simp [O.all] at hs; subst hs; exact h
  | add l r hl hr => intro s hs; simp only [O.all, List.mem_append] at hs; exact hs.elim (hl h.1 s) (hr h.2 s)
  | neg o ho => intro s hs; exact ho h s hs
  | mul l r hl hr => intro s hs; simp only [O.all, List.mem_append] at hs; exact hs.elim (hl h.1 s) (hr h.2 s)
  | max l r hl hr => intro s hs; simp only [O.all, List.mem_append] at hs; exact hs.elim (hl h.1 s) (hr h.2 s)
  | odd v => intro s hs; simp [O.all] at hs
theorem addAll_mem (l : List ByteArray) : ∀ (acc : List ByteArray) (s : ByteArray), s ∈ addAll acc l → s ∈ acc ∨ s ∈ l := by
  induction l with
  | nil => intro acc s h; exact .inl h
  | cons x l ih =>
    intro acc s h
    rcases ih (addN acc x) s h with h1 | h1
    · unfold addN at h1
      split at h1
      · exact .inl h1
      · rcases List.mem_append.1 h1 with h2 | h2
        · exact .inl h2
        · exact .inr (by simp at h2; simp [h2])
    · exact .inr (List.mem_cons_of_mem _ h1)
theorem names_small (o : O) (h : o.Ok) : ∀ s ∈ o.names, s.size ≤ 2147483648 := fun s hs => by
  rcases addAll_mem _ _ _ hs with h1 | h1
  · simp at h1
  · exact all_small o h s h1
theorem names_length (o : O) : o.names.length ≤ o.nodes := by
  have h1 := addAll_length o.all []
  have h2 := all_nodes o
  simp at h1
  show (addAll [] o.all).length ≤ _
  omega
theorem hidV {p : Prop} (h : p) : Hid p := h

set_option maxHeartbeats 1000000 in
set_option maxRecDepth 100000 in
theorem needs_any (o : O) (hok : o.Ok) (hsz : o.nodes ≤ 1000000) (w : World) (p f c : Nat) (K : KW) (d : Int) (hk : KIn w p f c K) (hd : dayOk d) :
    Calls Try.prog 73 #[o.val, .int .i64 d, .pointer (some ⟨p, 0, none⟩)] w fun e w' => ∃ v, e = .returned v ∧ w'.ownsRow w.heap.size 9 1 v (needR K d o).length (strCells (needR K d o)) ∧ Below w.heap.size w w' := by
  obtain ⟨i0, gi, gz0, gz1, gz2⟩ := info_parts infoStr
  have HK : Hid (KIn w p f c K) := hk
  clear hk
  by_cases hc : chk o = 0
  rotate_left
  · have HF : Hid (needR K d o = []) := by unfold Hid needR; rw [if_neg hc]
    have hc1 : (chk o != 0) = true := by simpa using hc
    go_enter Try.func73, Try.ntmps73
    go_wp2_with fail
    refine (check_any o hok hsz w).mono ?_
    rintro e w1 ⟨rfl, hb1⟩
    go_wp2_with fail
    go_ret
    rw [HF.out]
    exact ⟨_, rfl, World.ownsRow_nil _ _ _ _, hb1⟩
  · have HF : Hid (needR K d o = lackN K d o.names) := by unfold Hid needR; rw [if_pos hc]
    have HS := hidV (names_small o hok)
    have hnl := names_length o
    have HD := hidV hd
    clear hd
    go_enter Try.func73, Try.ntmps73
    go_wp2_with fail
    refine (check_any o hok hsz w).mono ?_
    rintro e w1 ⟨rfl, hb1⟩
    rw [hc]
    go_wp2_with fail
    refine (names_any o hok hsz w1).mono ?_
    rintro e w2 ⟨v2, rfl, hown, hb2⟩
    obtain ⟨ao, cap, rfl, hcl, hll⟩ := own_str hown
    have HC := hidV hcl
    have HB2 : Hid (Below w.heap.size w w2) := hb1.trans (hb2.mono hb1.size)
    have hn1 : o.names.length ≤ 1000000 := by omega
    clear hcl hown hb1 hb2 hsz hok hc hnl
    generalize o.names = l at *
    go_wp2_with fail
    go_loopw [18, 7] (fun s18 s7 wr => ∃ i : Nat, i ≤ l.length ∧ s18 = .int .i64 i ∧ wr.ownsRow w2.heap.size 9 1 s7 (lackN K d (l.take i)).length (strCells (lackN K d (l.take i))) ∧ Below w2.heap.size w2 wr) (fun s18 _ _ => l.length - (intOf s18).toNat)
    case atStart => exact ⟨0, by omega, rfl, World.ownsRow_nil _ _ _ _, Below.refl _ _⟩
    case round =>
      obtain ⟨i, hi, rfl, hrow, hbr⟩ := hrel
      have HBR := hidV hbr
      have HROW := hidV hrow
      clear hbr
      by_cases hlt : i < l.length
      · have hlt' : (i : Int) < (l.length : Int) := by omega
        obtain ⟨g, rfl, hg, hc⟩ := HC.out i hlt
        have hcr : wr.cell? ⟨g, i, none⟩ = some (.string l[i]) := (HBR.out.cell (p := ⟨g, i, none⟩) hg).trans hc
        have HT : Hid (lackN K d (l.take (i + 1)) = if (K.fixed (l[i], d)).isSome = true then lackN K d (l.take i) else lackN K d (l.take i) ++ [l[i]]) := by
          unfold Hid
          rw [take_more l i l[i] (List.getElem?_eq_getElem hlt), lackN_snoc]
        have HSI : Hid (fixOk (l[i], d)) := ⟨Nat.le_trans (HS.out _ (List.getElem_mem hlt)) (by decide), HD.out.1, HD.out.2⟩
        have hal : (lackN K d (l.take i)).length ≤ 1000000 := by
          have h1 := lackN_length K d (l.take i)
          have h3 : (l.take i).length ≤ l.length := by rw [List.length_take]; omega
          omega
        clear hc
        generalize l[i] = s at *
        generalize lackN K d (l.take i) = ac at *
        go_wp2_with fail
        refine calls_same (fixed_any wr p f c K ((HK.out.below HB2.out).below HBR.out) s d HSI.out) ?_
        cases hf : (K.fixed (s, d)).isSome
        · have HT2 : Hid (lackN K d (l.take (i + 1)) = ac ++ [s]) := by unfold Hid; rw [HT.out, if_neg (by rw [hf]; simp)]
          clear HT hf
          go_wp2_with (first
            | (at_builtin; refine wpList_append_own _ rfl _ _ 23 rfl w2.heap.size 9 i0 (.string ByteArray.empty) 1 16 Try.underlying23 gi gz0 gz1 gz2 rfl (by decide) _ _ _ rfl ((hidV hrow).out.alloc _) ⟨wr.heap.size, 0, none⟩ 1 1 [.string s] rfl rfl (cell_one_at wr _ _) (by intro u hu; simp at hu; subst hu; rfl) (by unfold maxLen; omega) (by omega) (by have := HBR.out.size; simp; omega) ?_; intro v4 w4 hown4 hgrow4 _)
            | go_in)
          have HR4 : Hid (w4.ownsRow w2.heap.size 9 1 v4 (ac ++ [s]).length (strCells (ac ++ [s]))) := by simpa [strCells, Hid] using hown4
          have HB4 : Hid (Below w2.heap.size w2 w4) := (HBR.out.alloc HBR.out.size _).grown hgrow4 (by have := HBR.out.size; simp; omega) (fun j hj => (HROW.out.lt j hj).1)
          clear hown4 hgrow4 hrow HROW
          go_wp2_with fail
          go_roundw
          case rel => exact ⟨i + 1, by omega, by go_num, by rw [HT2.out]; exact HR4.out, HB4.out⟩
          case measure => simp [intOf]; omega
        · have HT2 : Hid (lackN K d (l.take (i + 1)) = ac) := by unfold Hid; rw [HT.out, if_pos hf]
          clear HT hf hrow
          go_wp2_with fail
          go_roundw
          case rel => exact ⟨i + 1, by omega, by go_num, by rw [HT2.out]; exact HROW.out, HBR.out⟩
          case measure => simp [intOf]; omega
      · have hle : i = l.length := by omega
        subst hle
        rw [List.take_length] at hrow
        have HR4 := hidV hrow
        clear hrow HROW
        go_wp2_with fail
        go_ret
        rw [HF.out]
        refine ⟨_, rfl, ?_, HB2.out.trans (HBR.out.mono HB2.out.size)⟩
        have h := HR4.out
        refine ⟨h.1, ?_⟩
        rcases h.2 with h | ⟨g, cap, cur, h1, h2, h3⟩
        · exact .inl h
        · exact .inr ⟨g, cap, cur, h1, Nat.le_trans HB2.out.size h2, h3⟩

end Go.Proofs.Ytcdkejnnbbkecaa.Vl
namespace Go.Proofs.Ytcdkejnnbbkecaa.Vl
open Go.RowKit Wd Cn
set_option linter.unusedVariables false

theorem wakes_const : ofR ⟨[], []⟩ 0 (.const 7) = ⟨7, true, 0⟩ := by
  unfold ofR
  rw [if_pos (by rfl)]
  rfl

theorem of_in {w0 W : World} {p f c : Nat} {K : KW} (h : In w0 W p f c K) (o : O) (hok : o.Ok) (hsz : o.nodes ≤ 1000000) (d : Int) (hd : dayOk d) (r : Rk) (hr : ofR K d o = r) :
    Calls Try.prog 72 #[o.val, .int .i64 d, .pointer (some ⟨p, 0, none⟩)] W fun e w' => e = ofE r ∧ In w0 w' p f c K := by
  refine (of_any o hok hsz W p f c K d h.kin hd).mono ?_
  rintro e w' ⟨rfl, hB⟩
  exact ⟨by rw [hr], h.step hB⟩
/-! ### what is true of every number -/
/-- What is fixed is in range. -/
def KW.Vals (K : KW) : Prop := ∀ q ∈ K.F, vB q.2 = true
theorem KW.Vals.fixed {K : KW} (h : KW.Vals K) {p : ByteArray × Int} {v : Int} (hf : K.fixed p = some v) : vB v = true :=
  h _ (find_some K.F p v hf)
/-- A number as it may come: an error leaves nothing, what is not known is 0, what is known is in range. -/
structure Rk.Good (r : Rk) : Prop where
  errs : r.e = 0 ∨ r.e = 6
  err : r.e ≠ 0 → r.n = 0 ∧ r.known = false
  unk : r.known = false → r.n = 0
  val : r.known = true → vB r.n = true
theorem vB0 : vB 0 = true := by rfl
theorem inR_good (p : Int × Bool) (h : p.2 = true → vB p.1 = true) : (inR p).Good := by
  unfold inR
  split
  · rename_i h1
    exact ⟨.inl rfl, fun h => absurd rfl h, fun h => (by cases h), fun _ => h h1⟩
  · exact ⟨.inr rfl, fun _ => ⟨rfl, rfl⟩, fun _ => rfl, fun h => (by cases h)⟩
theorem addR_in (a b : Int) (h : (addR a b).2 = true) : vB (addR a b).1 = true := by
  unfold addR at h ⊢
  split
  · rename_i h1; simp only [Bool.and_eq_true] at h1; exact h1.2
  · rfl
theorem mulR_in (a b : Int) (h : (mulR a b).2 = true) : vB (mulR a b).1 = true := by
  unfold mulR at h ⊢
  split
  · rename_i h1; simp only [Bool.and_eq_true] at h1; exact h1.2
  · rfl
theorem vB_neg (a : Int) (h : vB a = true) : vB (-a) = true := by
  rw [vB_iff] at *; omega
theorem negR_in (a : Int) (h : (negR a).2 = true) : vB (negR a).1 = true := by
  unfold negR at h ⊢
  split
  · rename_i h1; exact vB_neg a h1
  · rfl
theorem gtR_in (a b : Int) (ha : vB a = true) (hb : vB b = true) : vB (gtR a b).1 = true := by
  unfold gtR
  rw [vB_iff] at *
  simp only
  omega
theorem bothR_good {l r : Rk} {j : Int → Int → Int × Bool} (hl : l.Good) (hr : r.Good) (hj : ∀ a b, vB a = true → vB b = true → (j a b).2 = true → vB (j a b).1 = true) : (bothR l r j).Good := by
  unfold bothR
  split
  · exact hl
  · split
    · exact hr
    · split
      · exact ⟨.inl rfl, fun h => absurd rfl h, fun _ => rfl, fun h => (by cases h)⟩
      · rename_i h
        simp only [Bool.or_eq_true, Bool.not_eq_true', not_or, Bool.not_eq_false] at h
        exact inR_good _ (hj _ _ (hl.val h.1) (hr.val h.2))
theorem otherR_good {r : Rk} (h : r.Good) : (otherR r).Good := by
  unfold otherR
  split
  · exact h
  · rename_i h1
    exact inR_good _ (negR_in _)
theorem rk_good {K : KW} (hK : KW.Vals K) (d : Int) (o : O) (hf : formB o = true) : (rk K d o).Good := by
  induction o with
  | const n => exact ⟨.inl rfl, fun h => absurd rfl h, fun h => (by cases h), fun _ => hf⟩
  | fix s =>
    refine ⟨.inl rfl, fun h => absurd rfl h, ?_, ?_⟩
    · intro h
      simp only [rk] at h ⊢
      cases hx : K.fixed (s, d) with
      | none => rfl
      | some v => rw [hx] at h; cases h
    · intro h
      simp only [rk] at h ⊢
      cases hx : K.fixed (s, d) with
      | none => rw [hx] at h; cases h
      | some v => exact hK.fixed hx
  | add l r hl hr => simp only [formB, Bool.and_eq_true] at hf; exact bothR_good (hl hf.1) (hr hf.2) (fun a b _ _ => addR_in a b)
  | neg o ho => exact otherR_good (ho hf)
  | mul l r hl hr => simp only [formB, Bool.and_eq_true] at hf; exact bothR_good (hl hf.1) (hr hf.2) (fun a b _ _ => mulR_in a b)
  | max l r hl hr => simp only [formB, Bool.and_eq_true] at hf; exact bothR_good (hl hf.1) (hr hf.2) (fun a b ha hb _ => gtR_in a b ha hb)
  | odd v => simp [formB] at hf

/-- Known or running over: where no error stands it is known just if nothing lacks. -/
theorem bothR_known (l r : Rk) (j : Int → Int → Int × Bool) (h : (bothR l r j).e = 0) : l.e = 0 ∧ r.e = 0 ∧ (bothR l r j).known = (l.known && r.known) := by
  unfold bothR at h ⊢
  split at h
  · contradiction
  · rename_i h1
    split at h
    · contradiction
    · rename_i h2
      rw [if_neg h1, if_neg h2]
      refine ⟨by omega, by omega, ?_⟩
      split
      · rename_i h3
        simp at h3 ⊢
        intro hl
        rcases h3 with h3 | h3
        · rw [h3] at hl; cases hl
        · exact h3
      · rename_i h3
        rw [if_neg h3] at h
        unfold inR at h ⊢
        split
        · simp at h3 ⊢; exact ⟨h3.1, h3.2⟩
        · rename_i h4; rw [if_neg h4] at h; cases h
theorem rk_known {K : KW} (d : Int) (o : O) (hf : formB o = true) (h : (rk K d o).e = 0) : (rk K d o).known = o.all.all fun s => (K.fixed (s, d)).isSome := by
  induction o with
  | const n => rfl
  | fix s => simp [rk, O.all]
  | add l r hl hr =>
    simp only [formB, Bool.and_eq_true] at hf
    obtain ⟨h1, h2, h3⟩ := bothR_known _ _ _ h
    simp only [O.all, List.all_append, ← hl hf.1 h1, ← hr hf.2 h2]
    exact h3
  | neg o ho =>
    simp only [formB] at hf
    simp only [rk, otherR, O.all] at h ⊢
    split at h
    · rename_i h1
      rw [if_pos h1]
      exact ho hf (by simpa using h)
    · rename_i h1
      rw [if_neg h1]
      have h2 : (rk K d o).e = 0 := by
        rcases Decidable.em ((rk K d o).e = 0) with h2 | h2
        · exact h2
        · exact absurd (.inl h2) h1
      rw [← ho hf h2]
      unfold inR at h ⊢
      split
      · have : ¬ (rk K d o).known = false := fun hx => h1 (.inr hx)
        simpa using this
      · rename_i h4; rw [if_neg h4] at h; cases h
  | mul l r hl hr =>
    simp only [formB, Bool.and_eq_true] at hf
    obtain ⟨h1, h2, h3⟩ := bothR_known _ _ _ h
    simp only [O.all, List.all_append, ← hl hf.1 h1, ← hr hf.2 h2]
    exact h3
  | max l r hl hr =>
    simp only [formB, Bool.and_eq_true] at hf
    obtain ⟨h1, h2, h3⟩ := bothR_known _ _ _ h
    simp only [O.all, List.all_append, ← hl hf.1 h1, ← hr hf.2 h2]
    exact h3
  | odd v => simp [formB] at hf
theorem mem_addAll' (l : List ByteArray) : ∀ (acc : List ByteArray) (s : ByteArray), s ∈ acc ∨ s ∈ l → s ∈ addAll acc l := by
  induction l with
  | nil => intro acc s h; exact h.elim id (fun h => by simp at h)
  | cons x l ih =>
    intro acc s h
    refine ih (addN acc x) s ?_
    unfold addN
    rcases h with h | h
    · left; split <;> simp [h]
    · rcases List.mem_cons.1 h with h | h
      · left; subst h
        split
        · rename_i h2; exact (inN_iff _ _).1 h2
        · simp
      · exact .inr h
theorem mem_names (o : O) (s : ByteArray) : s ∈ o.names ↔ s ∈ o.all :=
  ⟨fun h => (addAll_mem _ _ _ h).elim (fun h => by simp at h) id, fun h => mem_addAll' _ _ _ (.inr h)⟩
theorem lack_nil (K : KW) (d : Int) (o : O) : (lackN K d o.names).length = 0 ↔ (o.all.all fun s => (K.fixed (s, d)).isSome) = true := by
  unfold lackN
  rw [List.length_eq_zero_iff, List.filter_eq_nil_iff, List.all_eq_true]
  simp only [Bool.not_eq_true', Bool.not_eq_false]
  exact ⟨fun h s hs => h s ((mem_names o s).2 hs), fun h s hs => h s ((mem_names o s).1 hs)⟩
/-- Where nothing runs over, it is known just if it needs nothing. -/
theorem of_needs (K : KW) (d : Int) (o : O) (h : (ofR K d o).e = 0) : (ofR K d o).known = decide ((needR K d o).length = 0) := by
  unfold ofR needR at *
  split at h
  · rename_i hc
    rw [if_pos hc, if_pos hc, rk_known d o (chk_form hc) h, Bool.eq_iff_iff, decide_eq_true_iff]
    exact (lack_nil K d o).symm
  · cases h

end Go.Proofs.Ytcdkejnnbbkecaa.Vl
namespace Go.Proofs.Ytcdkejnnbbkecaa.Vl
open Go.RowKit Wd Cn
set_option linter.unusedVariables false

def addK (K : KW) (d v : Int) (l : List ByteArray) : KW := ⟨K.F ++ l.map fun s => ((s, d), v), K.C⟩
theorem addK_nil (K : KW) (d v : Int) : addK K d v [] = K := by simp [addK]
theorem addK_snoc (K : KW) (d v : Int) (l : List ByteArray) (s : ByteArray) : (⟨(addK K d v l).F ++ [((s, d), v)], (addK K d v l).C⟩ : KW) = addK K d v (l ++ [s]) := by simp [addK]
theorem fixed_none (K : KW) (p : ByteArray × Int) : K.fixed p = none ↔ ∀ q ∈ K.F, q.1 ≠ p := find_none K.F p
theorem addK_none (K : KW) (d v : Int) (l : List ByteArray) (s : ByteArray) : (addK K d v l).fixed (s, d) = none ↔ K.fixed (s, d) = none ∧ s ∉ l := by
  rw [fixed_none, fixed_none]
  simp only [addK, List.mem_append, List.mem_map]
  constructor
  · intro h
    exact ⟨fun q hq => h q (.inl hq), fun hs => h _ (.inr ⟨s, hs, rfl⟩) rfl⟩
  · rintro ⟨h1, h2⟩ q (hq | ⟨t, ht, rfl⟩)
    · exact h1 q hq
    · intro e
      simp at e
      subst e
      exact h2 ht
theorem addN_nodup (acc : List ByteArray) (s : ByteArray) (h : acc.Nodup) : (addN acc s).Nodup := by
  unfold addN
  split
  · exact h
  · rename_i h1
    rw [inN_iff] at h1
    rw [List.nodup_append]
    refine ⟨h, by simp, ?_⟩
    intro a ha b hb e
    simp at hb
    subst hb e
    exact h1 ha
theorem addAll_nodup (l : List ByteArray) : ∀ acc : List ByteArray, acc.Nodup → (addAll acc l).Nodup := by
  induction l with
  | nil => intro acc h; exact h
  | cons x l ih => intro acc h; exact ih _ (addN_nodup acc x h)
theorem names_nodup (o : O) : o.names.Nodup := addAll_nodup _ _ (by simp)
theorem lackN_nodup (K : KW) (d : Int) (l : List ByteArray) (h : l.Nodup) : (lackN K d l).Nodup := h.filter _
theorem leaves (o : O) : o.all.length * 2 ≤ o.nodes + 1 := by
  induction o <;> simp [O.all, O.nodes] <;> omega
theorem names_few (o : O) : o.names.length * 2 ≤ o.nodes + 1 := by
  have h1 := addAll_length o.all []
  have h2 := leaves o
  simp at h1
  show (addAll [] o.all).length * 2 ≤ _
  omega
theorem all_names (o : O) (h : formB o = true) : ∀ s ∈ o.all, nameGo 0 (runesOf s) = true := by
  induction o with
  | const n => intro s hs; simp [O.all] at hs
  | fix t => intro s hs; simp [O.all] at hs; subst hs; exact h
  | add l r hl hr => simp only [formB, Bool.and_eq_true] at h; intro s hs; simp only [O.all, List.mem_append] at hs; exact hs.elim (hl h.1 s) (hr h.2 s)
  | neg o ho => intro s hs; exact ho h s hs
  | mul l r hl hr => simp only [formB, Bool.and_eq_true] at h; intro s hs; simp only [O.all, List.mem_append] at hs; exact hs.elim (hl h.1 s) (hr h.2 s)
  | max l r hl hr => simp only [formB, Bool.and_eq_true] at h; intro s hs; simp only [O.all, List.mem_append] at hs; exact hs.elim (hl h.1 s) (hr h.2 s)
  | odd v => intro s hs; simp [O.all] at hs
theorem names_form (o : O) (h : formB o = true) : ∀ s ∈ o.names, nameGo 0 (runesOf s) = true := fun s hs => all_names o h s ((mem_names o s).1 hs)
theorem lack_mem {K : KW} {d : Int} {l : List ByteArray} {s : ByteArray} (h : s ∈ lackN K d l) : s ∈ l ∧ K.fixed (s, d) = none := by
  unfold lackN at h
  rw [List.mem_filter] at h
  refine ⟨h.1, ?_⟩
  cases hx : K.fixed (s, d) with
  | none => rfl
  | some v => rw [hx] at h; simp at h
/-- What is told of a step: the name lacks, and stands next among those that lack. -/
theorem lack_take (K : KW) (d : Int) (l : List ByteArray) (i : Nat) (hi : i < l.length) (h : (K.fixed (l[i], d)).isSome = false) :
    ∃ hk : (lackN K d (l.take i)).length < (lackN K d l).length, (lackN K d l)[(lackN K d (l.take i)).length]'hk = l[i] := by
  have e : lackN K d l = lackN K d (l.take i) ++ (l[i] :: lackN K d (l.drop (i + 1))) := by
    have e1 : l = l.take i ++ (l[i] :: l.drop (i + 1)) := by rw [← List.drop_eq_getElem_cons hi, List.take_append_drop]
    conv => lhs; rw [e1]
    unfold lackN
    rw [List.filter_append, List.filter_cons_of_pos (by simp [h])]
  refine ⟨by rw [e]; simp, ?_⟩
  simp only [e, List.getElem_append_right (Nat.le_refl _), Nat.sub_self, List.getElem_cons_zero]
theorem addK_all (K : KW) (d v : Int) (o : O) (hc : chk o = 0) : needR (addK K d v (lackN K d o.names)) d o = [] := by
  unfold needR
  rw [if_pos hc]
  unfold lackN
  rw [List.filter_eq_nil_iff]
  intro s hs
  simp only [Bool.not_eq_true', Bool.not_eq_false]
  cases hx : (addK K d v (List.filter (fun s => !(K.fixed (s, d)).isSome) o.names)).fixed (s, d) with
  | some u => rfl
  | none =>
    exfalso
    obtain ⟨h1, h2⟩ := (addK_none _ _ _ _ _).1 hx
    apply h2
    rw [List.mem_filter]
    exact ⟨hs, by rw [h1]; rfl⟩
theorem addK_vals (K : KW) (d v : Int) (l : List ByteArray) (h : KW.Vals K) (hv : vB v = true) : KW.Vals (addK K d v l) := by
  intro q hq
  simp only [addK, List.mem_append, List.mem_map] at hq
  rcases hq with hq | ⟨t, ht, rfl⟩
  · exact h q hq
  · exact hv
/-- What is known where no name lacks. -/
theorem full_of (K : KW) (hK : KW.Vals K) (d : Int) (o : O) (hc : chk o = 0) (hn : needR K d o = []) : (ofR K d o).e = 0 ∧ (ofR K d o).known = true ∨ (ofR K d o).e = 6 ∧ (ofR K d o).known = false := by
  have hg := rk_good hK d o (chk_form hc)
  have ho : ofR K d o = rk K d o := by unfold ofR; rw [if_pos hc]
  rcases hg.errs with h | h
  · left
    refine ⟨by rw [ho]; exact h, ?_⟩
    have := of_needs K d o (by rw [ho]; exact h)
    rw [this, hn]
    rfl
  · right
    rw [ho]
    exact ⟨h, (hg.err (by rw [h]; decide)).2⟩
theorem fixN_vals (K : KW) (s : ByteArray) (d v : Int) (h : KW.Vals K) : KW.Vals (fixN K s d v) := by
  unfold fixN
  split
  · rename_i h0
    intro q hq
    simp only [List.mem_append, List.mem_singleton] at hq
    rcases hq with hq | rfl
    · exact h q hq
    · unfold fixE at h0
      split at h0
      · cases h0
      · rename_i h1
        have : (nameGo 0 (runesOf s) && Wd.dayB d && vB v) = true := by
          cases hx : (nameGo 0 (runesOf s) && Wd.dayB d && vB v)
          · exact absurd hx h1
          · rfl
        simp only [Bool.and_eq_true] at this
        exact this.2
  · exact h
theorem fixN_length (K : KW) (s : ByteArray) (d v : Int) : (fixN K s d v).F.length ≤ K.F.length + 1 := by
  unfold fixN
  split <;> simp
theorem in_base {w W W' : World} {p f c : Nat} {K : KW} (h : In W W' p f c K) (hb : Below w.heap.size w W) : In w W' p f c K :=
  ⟨h.kin, hb.trans (h.below.mono hb.size), Nat.le_trans hb.size h.hp, Nat.le_trans hb.size h.hf, Nat.le_trans hb.size h.hc⟩
theorem step_fixE (K : KW) (d v : Int) (l : List ByteArray) (i : Nat) (hi : i < l.length) (hnd : l.Nodup) (hn : nameGo 0 (runesOf l[i]) = true) (hd : Wd.dayB d = true) (hv : vB v = true) (hf : K.fixed (l[i], d) = none) (hlen : K.F.length + l.length < 32) :
    fixE (addK K d v (l.take i)) l[i] d v = 0 ∧ fixN (addK K d v (l.take i)) l[i] d v = addK K d v (l.take (i + 1)) := by
  have hmem : l[i] ∉ l.take i := by
    intro h
    obtain ⟨j, hj, e⟩ := List.getElem_of_mem h
    rw [List.getElem_take] at e
    have hj' : j < i := by rw [List.length_take] at hj; omega
    exact (List.pairwise_iff_getElem.1 hnd) j i (by omega) hi hj' e
  have hx : (addK K d v (l.take i)).fixed (l[i], d) = none := (addK_none _ _ _ _ _).2 ⟨hf, hmem⟩
  have h0 : fixE (addK K d v (l.take i)) l[i] d v = 0 := by
    unfold fixE
    rw [hn, hd, hv, hx]
    have : ¬ 32 ≤ (addK K d v (l.take i)).F.length := by simp [addK]; omega
    rw [if_neg (by simp), if_neg (by simp), if_neg this]
  refine ⟨h0, ?_⟩
  unfold fixN
  rw [if_pos h0, addK_snoc, take_more l i l[i] (List.getElem?_eq_getElem hi)]

end Go.Proofs.Ytcdkejnnbbkecaa.Vl
namespace Go.Proofs.Ytcdkejnnbbkecaa.Wd
open Go.RowKit Go.Maps
set_option linter.unusedVariables false

section
variable {P : Program} (w : World)
theorem run_eqNilIn (d : Nat) (t k e : TypeId) (p : Option Nat) (h : P.underlying t = some (.map k e)) : (Op.equalIn (d + 1) t (.map p) (.map none)).run P w = .ok p.isNone w := by
  cases p <;> simp [Op.equalIn, run_underlying h]
theorem run_eqNil (t k e : TypeId) (p : Option Nat) (h : P.underlying t = some (.map k e)) : (binOp .eql t (.map p) (.map none)).run P w = .ok (.bool p.isNone) w := by
  simp only [binOp]
  simp [show Op.equal t (.map p) (.map none) = Op.equalIn (9999 + 1) t (.map p) (.map none) from rfl, run_eqNilIn w 9999 t k e p h]
theorem run_assertMap (t xT k e : TypeId) (v : Value) (h : P.underlying t = some (.map k e)) : (Instr.typeAssert (.iface t v) xT t false).run P w = .ok v w := by
  simp [Instr.typeAssert, run_underlying h, go_sem, Result.andThen]
theorem run_cloneMap {r : Nat} {es : Array MapEntry} {clock : Nat} (t : TypeId) (hb : w.heap[r]? = some (.map es clock)) :
    (Extern.MapsClone.clone #[.iface t (.map (some r))]).run P w = .ok (.iface t (.map (some w.heap.size))) (w.alloc (.map es clock)) := by
  have e : Extern.MapsClone.clone #[.iface t (.map (some r))] = (getObj r >>= fun o => match o with
      | .map entries clock => (newObj (.map entries clock) >>= fun n => pure (.iface t (.map (some n))))
      | _ => stuck "maps.clone: a map expected") := rfl
  rw [e]
  simp [MapKept.run_getObj_map hb, Result.andThen, go_sem]
end

def CloneAt (w w' : World) (K : KW) (b : Nat) : Prop := ∃ f c, KIn w' b f c K ∧ w.heap.size ≤ b ∧ w.heap.size ≤ f ∧ w.heap.size ≤ c ∧ Below w.heap.size w w'

theorem clone_kin (w : World) (K : KW) (es1 es2 : Array MapEntry) (k1 k2 : Nat) (hK : K.Ok) (h1 : es1.toList.map (fun e => (e.key, e.val)) = fixL K.F) (h2 : es2.toList.map (fun e => (e.key, e.val)) = chL K.C) :
    KIn (((w.alloc (.map es1 k1)).alloc (.map es2 k2)).alloc (.cells #[.map (some w.heap.size), .map (some (w.heap.size + 1))] 107)) (w.heap.size + 1 + 1) w.heap.size (w.heap.size + 1) K := by
  have e1 : (w.alloc (.map es1 k1)).heap.size = w.heap.size + 1 := size_alloc _ _
  have e2 : ((w.alloc (.map es1 k1)).alloc (.map es2 k2)).heap.size = w.heap.size + 1 + 1 := by rw [size_alloc, e1]
  refine ⟨?_, ⟨es1, k1, blk_old (blk_old (blk_new _ _)), h1⟩, ⟨es2, k2, ?_, h2⟩, by omega, hK⟩
  · rw [← e2]; exact blk_new _ _
  · apply blk_old
    rw [← e1]
    exact blk_new _ _

end Go.Proofs.Ytcdkejnnbbkecaa.Wd
namespace Go.Proofs.Ytcdkejnnbbkecaa.Vl
open Go.RowKit Wd Cn
set_option linter.unusedVariables false

def Ext (K K' : KW) : Prop := ∀ p v, K.fixed p = some v → K'.fixed p = some v
theorem Ext.refl (K : KW) : Ext K K := fun _ _ h => h
theorem Ext.trans {K K' K'' : KW} (h : Ext K K') (g : Ext K' K'') : Ext K K'' := fun p v hp => g p v (h p v hp)
theorem ext_fixN (K : KW) (s : ByteArray) (d v : Int) : Ext K (fixN K s d v) := by
  intro p u h
  unfold fixN
  split
  · unfold KW.fixed at h ⊢
    simp only [List.find?_append]
    cases hx : K.F.find? fun q => decide (q.1 = p) with
    | none => rw [hx] at h; cases h
    | some q => rw [hx] at h; simpa using h
  · exact h
theorem bothR_ok {l r : Rk} {j : Int → Int → Int × Bool} (h : (bothR l r j).known = true) (hl : l.Good) (hr : r.Good) : l.e = 0 ∧ r.e = 0 ∧ l.known = true ∧ r.known = true ∧ (j l.n r.n).2 = true ∧ bothR l r j = ⟨(j l.n r.n).1, true, 0⟩ := by
  unfold bothR at h ⊢
  split at h
  · rename_i h1; rw [(hl.err h1).2] at h; cases h
  · rename_i h1
    split at h
    · rename_i h2; rw [(hr.err h2).2] at h; cases h
    · rename_i h2
      split at h
      · cases h
      · rename_i h3
        rw [if_neg h1, if_neg h2, if_neg h3]
        simp only [Bool.or_eq_true, Bool.not_eq_true', not_or, Bool.not_eq_false] at h3
        unfold inR at h ⊢
        split
        · rename_i h4; exact ⟨by omega, by omega, h3.1, h3.2, h4, rfl⟩
        · rename_i h4; rw [if_neg h4] at h; cases h
theorem otherR_ok {r : Rk} (h : (otherR r).known = true) (hr : r.Good) : r.e = 0 ∧ r.known = true ∧ otherR r = ⟨-r.n, true, 0⟩ := by
  unfold otherR at h ⊢
  split at h
  · rename_i h1
    rcases h1 with h1 | h1
    · rw [(hr.err h1).2] at h; cases h
    · rw [h1] at h; cases h
  · rename_i h1
    rw [if_neg h1]
    have h2 : r.e = 0 := by
      rcases Decidable.em (r.e = 0) with h2 | h2
      · exact h2
      · exact absurd (.inl h2) h1
    have h3 : r.known = true := by
      cases hk : r.known
      · exact absurd (.inr hk) h1
      · rfl
    refine ⟨h2, h3, ?_⟩
    unfold inR negR
    rw [hr.val h3]
    rfl
/-- What is known stays known, as it was. -/
theorem rk_ext {K K' : KW} (hK : KW.Vals K) (hx : Ext K K') (d : Int) (o : O) (hf : formB o = true) (h : (rk K d o).known = true) : rk K' d o = rk K d o := by
  induction o with
  | const n => rfl
  | fix s =>
    simp only [rk] at h ⊢
    cases hq : K.fixed (s, d) with
    | none => rw [hq] at h; cases h
    | some v => rw [hx _ _ hq]
  | add l r hl hr =>
    simp only [formB, Bool.and_eq_true] at hf
    obtain ⟨_, _, h3, h4, _, _⟩ := bothR_ok h (rk_good hK d l hf.1) (rk_good hK d r hf.2)
    simp only [rk]
    rw [hl hf.1 h3, hr hf.2 h4]
  | neg o ho =>
    simp only [formB] at hf
    obtain ⟨_, h3, _⟩ := otherR_ok h (rk_good hK d o hf)
    simp only [rk]
    rw [ho hf h3]
  | mul l r hl hr =>
    simp only [formB, Bool.and_eq_true] at hf
    obtain ⟨_, _, h3, h4, _, _⟩ := bothR_ok h (rk_good hK d l hf.1) (rk_good hK d r hf.2)
    simp only [rk]
    rw [hl hf.1 h3, hr hf.2 h4]
  | max l r hl hr =>
    simp only [formB, Bool.and_eq_true] at hf
    obtain ⟨_, _, h3, h4, _, _⟩ := bothR_ok h (rk_good hK d l hf.1) (rk_good hK d r hf.2)
    simp only [rk]
    rw [hl hf.1 h3, hr hf.2 h4]
  | odd v => simp [formB] at hf
theorem ofR_ok {K : KW} {d : Int} {o : O} (hc : chk o = 0) : ofR K d o = rk K d o := by unfold ofR; rw [if_pos hc]
theorem ofR_no {K : KW} {d : Int} {o : O} (hc : chk o ≠ 0) : ofR K d o = ⟨0, false, 2⟩ := by unfold ofR; rw [if_neg hc]
/-- The other sign of what is known. -/
theorem neg_ok {K : KW} (hK : KW.Vals K) (d : Int) (a : O) (hf : formB a = true) (h : (ofR K d (.neg a)).known = true) : (ofR K d (.neg a)).n = -(rk K d a).n := by
  unfold ofR at h ⊢
  split at h
  · rename_i hc
    rw [if_pos hc]
    simp only [rk] at h ⊢
    rw [(otherR_ok h (rk_good hK d a hf)).2.2]
  · cases h
theorem max_ok {K : KW} (hK : KW.Vals K) (d : Int) (a b : O) (hf : formB a = true) (hg : formB b = true) (h : (ofR K d (.max a b)).known = true) : (ofR K d (.max a b)).n = Max.max (rk K d a).n (rk K d b).n := by
  unfold ofR at h ⊢
  split at h
  · rename_i hc
    rw [if_pos hc]
    simp only [rk] at h ⊢
    rw [(bothR_ok h (rk_good hK d a hf) (rk_good hK d b hg)).2.2.2.2.2]
    rfl
  · cases h

end Go.Proofs.Ytcdkejnnbbkecaa.Vl
namespace Go.Proofs.Ytcdkejnnbbkecaa
open Go.RowKit
set_option linter.unusedVariables false

theorem addAll_len : ∀ (l acc : List ByteArray), (addAll acc l).length < acc.length + l.length ↔ ¬ (l.Nodup ∧ ∀ s ∈ l, s ∉ acc) := by
  intro l
  induction l with
  | nil => intro acc; simp [addAll]
  | cons s l ih =>
    intro acc
    show (addAll (addN acc s) l).length < _ ↔ _
    by_cases hs : s ∈ acc
    · rw [addN_twice acc s hs]
      have h := addAll_length l acc
      constructor
      · intro _ hn
        exact hn.2 s (by simp) hs
      · intro _
        simp only [List.length_cons]
        omega
    · have e : addN acc s = acc ++ [s] := by
        unfold addN
        rw [if_neg (fun e => hs ((inN_iff acc s).1 e))]
      have h := ih (acc ++ [s])
      rw [e]
      have hl : (acc ++ [s]).length + l.length = acc.length + (s :: l).length := by simp; omega
      rw [hl] at h
      rw [h]
      constructor
      · intro hn hc
        apply hn
        refine ⟨(List.nodup_cons.1 hc.1).2, fun x hx => ?_⟩
        simp only [List.mem_append, List.mem_singleton, not_or]
        exact ⟨hc.2 x (by simp [hx]), fun ex => (List.nodup_cons.1 hc.1).1 (ex ▸ hx)⟩
      · intro hn hc
        apply hn
        refine ⟨List.nodup_cons.2 ⟨fun hx => ?_, hc.1⟩, fun x hx => ?_⟩
        · have := hc.2 s hx
          simp at this
        · simp only [List.mem_cons] at hx
          rcases hx with rfl | hx
          · exact hs
          · have := hc.2 x hx
            simp only [List.mem_append, List.mem_singleton, not_or] at this
            exact this.1
theorem twice_iff (l : List ByteArray) : twice l = true ↔ ¬ l.Nodup := by
  have h := addAll_len l []
  simp only [List.length_nil, Nat.zero_add, List.not_mem_nil, not_false_eq_true, implies_true, and_true] at h
  unfold twice
  rw [decide_eq_true_iff]
  exact h
/-- What the document's Check answers. -/
def chkT (t : T) (nb : Bool) : Int := if formT t nb = true then (if 60 < t.nodes ∨ 12 < t.depth then 5 else if twice t.labs = true then 4 else 0) else 2
theorem nodup_take {l : List ByteArray} {i : Nat} {s : ByteArray} (h : (l.take i).Nodup) (hs : l[i]? = some s) (hn : ∀ b, b < i → l[b]? ≠ some s) : (l.take (i + 1)).Nodup := by
  rw [take_more _ _ _ hs, List.nodup_append]
  refine ⟨h, by simp, fun x hx y hy => ?_⟩
  simp at hy
  subst hy
  intro e
  subst e
  obtain ⟨b, hb, he⟩ := List.mem_iff_getElem.1 hx
  rw [List.length_take] at hb
  refine hn b (by omega) ?_
  rw [← he, List.getElem_take]
  exact List.getElem?_eq_getElem (by omega)
theorem nodup_get {l : List ByteArray} (h : l.Nodup) {i j : Nat} {s : ByteArray} (hi : l[i]? = some s) (hj : l[j]? = some s) : i = j := by
  obtain ⟨h1, e1⟩ := List.getElem?_eq_some_iff.1 hi
  obtain ⟨h2, e2⟩ := List.getElem?_eq_some_iff.1 hj
  exact (List.getElem_inj h).1 (e1.trans e2.symm)

set_option maxHeartbeats 4000000 in
set_option maxRecDepth 100000 in
theorem refCheck_any (t : T) (hsz : t.Sized) (hcnt : t.cnt ≤ 999990) (hnd : t.nodes ≤ 1000000) (nb : Bool) (w : World) (v : Value) (hv : TIn w 0 t v) : Calls Try.prog 17 #[v, .bool nb] w fun e w' => e = .returned (.int .i64 (chkT t nb)) ∧ Below w.heap.size w w' := by
  have HV := hidIn hv
  have hdn := T_depth_nodes t
  obtain ⟨a, cap, rfl, hc1, hc2, hK⟩ := hv
  have HSZ := hidIn hsz
  have HLN := hidIn (labs_cnt t)
  have HCN := hidIn hcnt
  obtain ⟨W, hW⟩ : ∃ W, W = w.alloc (.cells #[.int .i64 t.kind, .string t.s, .int .i64 t.n, .slice a t.k.length cap] 30) := ⟨_, rfl⟩
  have HB : Hid (Below w.heap.size w W) := by rw [hW]; exact below_alloc (Below.refl _ _) _
  have HBK : Hid (W.heap[w.heap.size]? = some (.cells #[.int .i64 t.kind, .string t.s, .int .i64 t.n, .slice a t.k.length cap] 30 (0, 0))) := by rw [hW]; exact heap_alloc_new _ _
  have HF : Hid (∀ X, Below W.heap.size W X → (X.cell? ⟨w.heap.size, 0, none⟩ = some (.int .i64 t.kind) ∧ X.cell? ⟨w.heap.size, 1, none⟩ = some (.string t.s) ∧ X.cell? ⟨w.heap.size, 2, none⟩ = some (.int .i64 t.n) ∧ X.cell? ⟨w.heap.size, 3, none⟩ = some (.slice a t.k.length cap)) ∧ TIn X 0 t (.agg #[.int .i64 t.kind, .string t.s, .int .i64 t.n, .slice a t.k.length cap])) := fun X hX => by
    have h := (hX.block _ (Array.getElem?_eq_some_iff.1 HBK.out).1).trans HBK.out
    exact ⟨⟨(cell_of_row _ _ _ _ _ _ h).trans rfl, (cell_of_row _ _ _ _ _ _ h).trans rfl, (cell_of_row _ _ _ _ _ _ h).trans rfl, (cell_of_row _ _ _ _ _ _ h).trans rfl⟩, (HV.out.below HB.out).below hX⟩
  clear hK hsz hcnt
  go_enter Try.func17, Try.ntmps17
  go_wp2_with fail
  rw [← hW]
  clear hW HBK HV
  refine (form_any t HSZ.out nb W _ (HF.out W (Below.refl _ _)).2).mono ?_
  rintro e w1 ⟨rfl, hb1⟩
  obtain ⟨⟨c0, c1, c2, c3⟩, t1⟩ := HF.out w1 hb1
  have HT1 := hidIn t1
  have HB1 := hidIn hb1
  clear t1 hb1
  cases hf : formT t nb
  · go_wp2_with fail
    go_ret
    exact ⟨by unfold chkT; rw [if_neg (by rw [hf]; simp)]; rfl, HB.out.trans (HB1.out.mono HB.out.size)⟩
  · have HC : Hid (chkT t nb = if 60 < t.nodes ∨ 12 < t.depth then 5 else if twice t.labs = true then 4 else 0) := by unfold Hid chkT; rw [if_pos hf]
    go_wp2_with fail
    refine (refSize_any t w1 _ HT1.out hnd).mono ?_
    rintro e w2 ⟨rfl, hb2⟩
    have hx2 := HB1.out.trans (hb2.mono HB1.out.size)
    have HX2 := hidIn hx2
    obtain ⟨⟨d0, d1, d2, d3⟩, t2⟩ := HF.out w2 hx2
    have HT2 := hidIn t2
    have HB2 := hidIn (HB.out.trans (hx2.mono HB.out.size))
    clear t2 hb2 hx2 c0 c1 c2 c3
    by_cases h1 : 60 < t.nodes
    · have h1' : (60 : Int) < (t.nodes : Int) := by omega
      go_wp2_with fail
      go_ret
      exact ⟨by rw [HC.out, if_pos (.inl h1)]; rfl, HB2.out⟩
    · have h1' : ¬ (60 : Int) < (t.nodes : Int) := by omega
      have h1d : decide ((60 : Int) < (t.nodes : Int)) = false := by simpa using h1'
      by_cases h2 : 12 < t.depth
      · have h2' : (12 : Int) < (t.depth : Int) := by omega
        go_wp2_with fail
        go_ret
        exact ⟨by rw [HC.out, if_pos (.inr h2)]; rfl, HB2.out⟩
      · have h2' : ¬ (12 : Int) < (t.depth : Int) := by omega
        have HC2 : Hid (chkT t nb = if twice t.labs = true then 4 else 0) := by unfold Hid; rw [HC.out, if_neg (by omega)]
        go_wp2_with fail
        refine (refLabels_any t HCN.out w2 _ HT2.out).mono ?_
        rintro e w3 ⟨v3, rfl, hrow3, hb3⟩
        have HB3 := hidIn (HB2.out.trans (hb3.mono HB2.out.size))
        obtain ⟨ao, lc, rfl, htx, hll, _⟩ := own_txt hrow3
        have HTX := hidIn htx
        have hlen : t.labs.length ≤ 1000000 := by have := HLN.out; have := HCN.out; omega
        clear hrow3 hb3 htx d0 d1 d2 d3 HC HT1 HT2 HX2 HB2
        generalize t.labs = l at *
        go_wp2_with fail
        go_loopw [29] (fun s29 wr => ∃ i : Nat, i ≤ l.length ∧ s29 = .int .i64 i ∧ Hid ((l.take i).Nodup) ∧ Below w3.heap.size w3 wr) (fun s29 _ => l.length - (intOf s29).toNat)
        case atStart => exact ⟨0, by omega, rfl, by unfold Hid; simp, Below.refl _ _⟩
        case round =>
          obtain ⟨i, hi, rfl, HN, hbr⟩ := hrel
          obtain ⟨wA, hwA⟩ : ∃ y, y = wr := ⟨_, rfl⟩
          subst hwA
          have HBA := hidIn hbr
          clear hbr
          by_cases hlt : i < l.length
          · have hlt' : (i : Int) < (l.length : Int) := by omega
            obtain ⟨s, hs⟩ : ∃ s, l[i]? = some s := ⟨_, List.getElem?_eq_getElem hlt⟩
            have HS := hidIn hs
            clear hs
            go_wp2_with fail
            go_loopw [9] (fun s9 wr => ∃ j : Nat, j ≤ i ∧ s9 = .int .i64 j ∧ Hid (∀ b, b < j → l[b]? ≠ some s) ∧ Below w3.heap.size w3 wr) (fun s9 _ => i - (intOf s9).toNat)
            case atStart => exact ⟨0, by omega, rfl, by intro b hb; omega, HBA.out⟩
            case round =>
              obtain ⟨j, hj, rfl, HJ, hbr⟩ := hrel
              by_cases hjl : j < i
              · have hjl' : (j : Int) < (i : Int) := by omega
                have hjl2 : (j : Int) < (l.length : Int) := by omega
                obtain ⟨y, hy⟩ : ∃ y, l[j]? = some y := ⟨_, List.getElem?_eq_getElem (by omega)⟩
                obtain ⟨g, rfl, k0⟩ := (HTX.out.below hbr) i s HS.out
                obtain ⟨g', eg, k1⟩ := (HTX.out.below hbr) j y hy
                have hgg : g' = g := by injection eg with eg; injection eg with eg; exact eg.symm
                subst hgg
                have HY := hidIn hy
                clear hy eg
                by_cases he : s = y
                · subst he
                  have HTW : Hid (twice l = true) := (twice_iff l).2 (fun hn => by have := nodup_get hn HS.out HY.out; omega)
                  go_wp2_with fail
                  go_quiet (fail)
                  go_wp2_with fail
                  go_ret
                  exact ⟨by rw [HC2.out, HTW.out]; rfl, HB3.out.trans ((below_drewN hbr _).mono HB3.out.size)⟩
                · have he' : ¬ s.toList = y.toList := fun e => he (toList_inj e)
                  have heb : (s.toList == y.toList) = false := by rw [beq_eq_false_iff_ne]; exact he'
                  go_wp2_with fail
                  go_quiet (fail)
                  go_wp2_with fail
                  go_roundw
                  case rel =>
                    refine ⟨j + 1, by omega, by go_num, fun b hb => ?_, below_drewN hbr _⟩
                    by_cases hbj : b = j
                    · subst hbj
                      rw [HY.out]
                      intro e
                      injection e with e
                      exact he e.symm
                    · exact HJ.out b (by omega)
                  case measure => simp [intOf]; omega
              · have hji : j = i := by omega
                subst hji
                have HN2 : Hid ((l.take (j + 1)).Nodup) := nodup_take HN.out HS.out HJ.out
                clear HJ HN hjl
                go_wp2_with fail
                go_roundw
                case rel => exact ⟨j + 1, by omega, by go_num, HN2, hbr⟩
                case measure => simp [intOf]; omega
          · have hle : i = l.length := by omega
            subst hle
            have HTW : Hid (twice l = false) := by
              have h := HN.out
              rw [List.take_length] at h
              show twice l = false
              cases ht : twice l
              · rfl
              · exact absurd h ((twice_iff l).1 ht)
            clear HN hlt
            go_wp2_with fail
            go_ret
            exact ⟨by rw [HC2.out, HTW.out]; rfl, HB3.out.trans (HBA.out.mono HB3.out.size)⟩

end Go.Proofs.Ytcdkejnnbbkecaa
namespace Go.Proofs.Ytcdkejnnbbkecaa.Ca
open Go.RowKit Wd Cn Vl
set_option linter.unusedVariables false

/-- A payment. -/
structure Fl where
  day : Int
  cur : ByteArray
  amt : Int
/-- What is waited for. -/
structure Wt where
  ch : Bool
  name : ByteArray
  label : ByteArray
  day : Int
  side : Int
theorem wt_iff (a b : Wt) : (a.ch = b.ch ∧ a.name = b.name ∧ a.label = b.label ∧ a.day = b.day ∧ a.side = b.side) ↔ a = b := by
  cases a; cases b; simp
instance : DecidableEq Wt := fun a b => decidable_of_iff _ (wt_iff a b)
/-- What a walk meets: payments, waits (each as often as it is met), the first error. -/
structure Ck where
  f : List Fl
  w : List Wt
  e : Int
def Ck.seq (a b : Ck) : Ck := if a.e ≠ 0 then a else ⟨a.f ++ b.f, a.w ++ b.w, b.e⟩
def side (k : Int) : Int := if 0 < k then 0 else 1
def nameW (d : Int) (s : ByteArray) : Wt := ⟨false, s, ByteArray.empty, d, 0⟩
def chW (d : Int) (s : ByteArray) (k : Int) : Wt := ⟨true, ByteArray.empty, s, d, side k⟩
def waitN (K : KW) (d : Int) (o : O) : List Wt := (lackN K d o.names).map (nameW d)
def ck (K : KW) (id : ByteArray) : C → Int → Int → Ck
  | .zero, _, _ => ⟨[], [], 0⟩
  | .one s, d, k => ⟨[⟨d, s, k⟩], [], 0⟩
  | .give c, d, k => ck K id c d (-k)
  | .and l r, d, k => (ck K id l d k).seq (ck K id r d k)
  | .when d' c, d, k => ck K id c (Max.max d d') k
  | .or s l r, d, k => match K.chosen (id, s) with
    | none => ⟨[], [chW d s k], 0⟩
    | some p => if p.1 = 0 then ck K id l (Max.max d p.2) k else ck K id r (Max.max d p.2) k
  | .scale o c, d, k => if (rk K d o).e ≠ 0 then ⟨[], [], (rk K d o).e⟩ else if (rk K d o).known = true then (if (mulR k (rk K d o).n).2 = true then (if (mulR k (rk K d o).n).1 = 0 then ⟨[], [], 0⟩ else ck K id c d (mulR k (rk K d o).n).1) else ⟨[], [], 6⟩) else ⟨[], waitN K d o, 0⟩
  | .iff o l r, d, k => if (rk K d o).e ≠ 0 then ⟨[], [], (rk K d o).e⟩ else if (rk K d o).known = true then (if 0 < (rk K d o).n then ck K id l d k else ck K id r d k) else ⟨[], waitN K d o, 0⟩
  | .odd _, _, _ => ⟨[], [], 0⟩

/-- A wait more, but once. -/
def putW (W : List Wt) (y : Wt) : List Wt := if y ∈ W then W else W ++ [y]
def addW (W ys : List Wt) : List Wt := ys.foldl putW W
/-- As the document keeps them: a name's but once. -/
def putR (W : List Wt) (y : Wt) : List Wt := if y.ch = false ∧ y ∈ W then W else W ++ [y]
def addRf (W ys : List Wt) : List Wt := ys.foldl putR W
theorem addW_app (W a b : List Wt) : addW W (a ++ b) = addW (addW W a) b := by simp [addW]
theorem addRf_app (W a b : List Wt) : addRf W (a ++ b) = addRf (addRf W a) b := by simp [addRf]
theorem addW_nil (W : List Wt) : addW W [] = W := rfl
theorem addRf_nil (W : List Wt) : addRf W [] = W := rfl
theorem putW_len (W : List Wt) (y : Wt) : (putW W y).length ≤ W.length + 1 := by unfold putW; split <;> simp
theorem putR_len (W : List Wt) (y : Wt) : (putR W y).length ≤ W.length + 1 := by unfold putR; split <;> simp
theorem addW_len (ys : List Wt) : ∀ W, (addW W ys).length ≤ W.length + ys.length := by
  induction ys with
  | nil => intro W; simp [addW]
  | cons y ys ih => intro W; have h1 := ih (putW W y); have h2 := putW_len W y; simp only [addW, List.foldl_cons, List.length_cons] at h1 ⊢; omega
theorem addRf_len (ys : List Wt) : ∀ W, (addRf W ys).length ≤ W.length + ys.length := by
  induction ys with
  | nil => intro W; simp [addRf]
  | cons y ys ih => intro W; have h1 := ih (putR W y); have h2 := putR_len W y; simp only [addRf, List.foldl_cons, List.length_cons] at h1 ⊢; omega
theorem putW_mem (W : List Wt) (y z : Wt) : z ∈ putW W y ↔ z ∈ W ∨ z = y := by
  unfold putW
  split
  · rename_i h
    exact ⟨.inl, fun h1 => h1.elim id (fun e => by rw [e]; exact h)⟩
  · simp
theorem addW_mem (ys : List Wt) : ∀ (W : List Wt) (z : Wt), z ∈ addW W ys ↔ z ∈ W ∨ z ∈ ys := by
  induction ys with
  | nil => intro W z; simp [addW]
  | cons y ys ih =>
    intro W z
    have h := ih (putW W y) z
    simp only [addW, List.foldl_cons, List.mem_cons] at h ⊢
    rw [h, putW_mem, or_assoc]

/-! ### labels stand once, so the document's waits are the program's -/
def chLab (ys : List Wt) : List ByteArray := (ys.filter (·.ch)).map (·.label)
theorem chLab_app (a b : List Wt) : chLab (a ++ b) = chLab a ++ chLab b := by simp [chLab]
theorem chLab_names (d : Int) (l : List ByteArray) : chLab (l.map (nameW d)) = [] := by
  induction l with
  | nil => rfl
  | cons s l ih => simp [chLab, nameW]
theorem ck_labels (K : KW) (id : ByteArray) (c : C) : ∀ d k, (chLab (ck K id c d k).w).Sublist c.labels := by
  induction c with
  | zero => intro d k; exact List.nil_sublist _
  | one s => intro d k; exact List.nil_sublist _
  | odd v => intro d k; exact List.nil_sublist _
  | give c ih => intro d k; exact ih d (-k)
  | when d' c ih => intro d k; exact ih _ k
  | and l r hl hr =>
    intro d k
    simp only [ck, Ck.seq, C.labels]
    split
    · exact (hl d k).trans (List.sublist_append_left _ _)
    · simp only [chLab_app]
      exact (hl d k).append (hr d k)
  | or s l r hl hr =>
    intro d k
    simp only [ck, C.labels]
    cases K.chosen (id, s) with
    | none => simp [chLab, chW]
    | some p =>
      simp only
      split
      · exact ((hl _ k).trans (List.sublist_append_left _ _)).cons _
      · exact ((hr _ k).trans (List.sublist_append_right _ _)).cons _
  | scale o c ih =>
    intro d k
    simp only [ck, C.labels]
    split
    · exact List.nil_sublist _
    · split
      · split
        · split
          · exact List.nil_sublist _
          · exact ih _ _
        · exact List.nil_sublist _
      · show (chLab (waitN K d o)).Sublist _
        unfold waitN
        rw [chLab_names]
        exact List.nil_sublist _
  | iff o l r hl hr =>
    intro d k
    simp only [ck, C.labels]
    split
    · exact List.nil_sublist _
    · split
      · split
        · exact (hl _ k).trans (List.sublist_append_left _ _)
        · exact (hr _ k).trans (List.sublist_append_right _ _)
      · show (chLab (waitN K d o)).Sublist _
        unfold waitN
        rw [chLab_names]
        exact List.nil_sublist _
theorem addRf_eq (ys : List Wt) : ∀ W : List Wt, (chLab ys).Nodup → (∀ z ∈ W, z.ch = true → z.label ∉ chLab ys) → addRf W ys = addW W ys := by
  induction ys with
  | nil => intro W _ _; rfl
  | cons y ys ih =>
    intro W hn hd
    have e : putR W y = putW W y := by
      unfold putR putW
      cases hy : y.ch
      · simp
      · rw [if_neg (by simp)]
        rw [if_neg (fun hm => hd y hm hy (by simp [chLab, hy]))]
    show addRf (putR W y) ys = addW (putW W y) ys
    rw [e]
    refine ih _ ?_ ?_
    · cases hy : y.ch
      · simpa [chLab, hy] using hn
      · simp [chLab, hy] at hn; exact hn.2
    · intro z hz hc
      rcases (putW_mem W y z).1 hz with h | h
      · intro h2
        refine hd z h hc ?_
        cases hy : y.ch
        · simpa [chLab, hy] using h2
        · simp only [chLab, List.filter_cons, hy, if_true, List.map_cons, List.mem_cons]; exact .inr h2
      · subst h
        simp [chLab, hc] at hn
        intro h2
        obtain ⟨u, hu, hl⟩ := List.mem_map.1 h2
        rw [List.mem_filter] at hu
        exact hn.1 u hu.1 hu.2 hl
/-- The waits of a contract whose labels stand once. -/
theorem ck_once (K : KW) (id : ByteArray) (c : C) (d k : Int) (h : twice c.labels = false) : addRf [] (ck K id c d k).w = addW [] (ck K id c d k).w := by
  refine addRf_eq _ _ ?_ (by simp)
  refine (ck_labels K id c d k).nodup ?_
  apply Classical.byContradiction
  intro hn
  rw [(twice_iff c.labels).2 hn] at h
  cases h

/-! ### how much -/
theorem lackN_len (K : KW) (d : Int) (o : O) : (waitN K d o).length ≤ o.nodes := by
  unfold waitN
  rw [List.length_map]
  exact Nat.le_trans (lackN_length _ _ _) (names_length o)
theorem ck_len (K : KW) (id : ByteArray) (c : C) : ∀ d k, (ck K id c d k).f.length ≤ c.weight ∧ (ck K id c d k).w.length ≤ c.weight := by
  induction c with
  | zero => intro d k; simp [ck]
  | one s => intro d k; simp [ck, C.weight]
  | odd v => intro d k; simp [ck]
  | give c ih => intro d k; have := ih d (-k); simp only [ck, C.weight]; omega
  | when d' c ih => intro d k; have := ih (Max.max d d') k; simp only [ck, C.weight]; omega
  | and l r hl hr =>
    intro d k
    have h1 := hl d k
    have h2 := hr d k
    simp only [ck, Ck.seq, C.weight]
    split
    · omega
    · simp only [List.length_append]; omega
  | or s l r hl hr =>
    intro d k
    simp only [ck, C.weight]
    cases K.chosen (id, s) with
    | none => simp
    | some p =>
      have h1 := hl (Max.max d p.2) k
      have h2 := hr (Max.max d p.2) k
      simp only
      split <;> omega
  | scale o c ih =>
    intro d k
    have h1 := ih d (mulR k (rk K d o).n).1
    have h2 := lackN_len K d o
    simp only [ck, C.weight]
    split
    · simp
    · split
      · split
        · split
          · simp
          · omega
        · simp
      · simp only [List.length_nil]; omega
  | iff o l r hl hr =>
    intro d k
    have h1 := hl d k
    have h3 := hr d k
    have h2 := lackN_len K d o
    simp only [ck, C.weight]
    split
    · simp
    · split
      · split <;> omega
      · simp only [List.length_nil]; omega

/-! ### so many times -/
def Fl.times (n : Int) (x : Fl) : Fl := ⟨x.day, x.cur, n * x.amt⟩
def Wt.turn (n : Int) (y : Wt) : Wt := if y.ch = true ∧ n < 0 then ⟨y.ch, y.name, y.label, y.day, 1 - y.side⟩ else y
theorem turn_name (n d : Int) (s : ByteArray) : (nameW d s).turn n = nameW d s := by simp [Wt.turn, nameW]
theorem vB_less (n y : Int) (hn : n ≠ 0) (h : vB (n * y) = true) : vB y = true := by
  rw [vB_iff] at *
  have h1 : (n * y).natAbs = n.natAbs * y.natAbs := Int.natAbs_mul n y
  have h2 : 1 ≤ n.natAbs := by omega
  have h3 : y.natAbs ≤ n.natAbs * y.natAbs := Nat.le_mul_of_pos_left _ h2
  omega
theorem side_times (n k : Int) (hn : n ≠ 0) (hk : k ≠ 0) : side (n * k) = if n < 0 then 1 - side k else side k := by
  unfold side
  rcases Int.lt_or_gt_of_ne hn with h | h
  · rcases Int.lt_or_gt_of_ne hk with g | g
    · have := Int.mul_pos_of_neg_of_neg h g
      rw [if_pos this, if_pos h, if_neg (by omega)]; rfl
    · have := Int.mul_neg_of_neg_of_pos h g
      rw [if_neg (by omega), if_pos h, if_pos g]; rfl
  · rcases Int.lt_or_gt_of_ne hk with g | g
    · have := Int.mul_neg_of_pos_of_neg h g
      rw [if_neg (by omega), if_neg (by omega), if_neg (by omega)]
    · have := Int.mul_pos h g
      rw [if_pos this, if_neg (by omega), if_pos g]
theorem turn_ch (n d k : Int) (s : ByteArray) (hn : n ≠ 0) (hk : k ≠ 0) : (chW d s k).turn n = chW d s (n * k) := by
  unfold chW
  rw [side_times n k hn hk]
  unfold Wt.turn
  by_cases h : n < 0
  · rw [if_pos ⟨rfl, h⟩, if_pos h]
  · rw [if_neg (fun x => h x.2), if_neg h]
theorem mulR_iff (a b : Int) : (mulR a b).2 = true ↔ vB a = true ∧ vB b = true ∧ vB (a * b) = true := by
  unfold mulR
  split
  · rename_i h; simp only [Bool.and_eq_true] at h; simp [h]
  · rename_i h; simp only [Bool.and_eq_true] at h; simp; intro x y; cases hz : vB (a * b)
    · rfl
    · exact absurd ⟨⟨x, y⟩, hz⟩ h
theorem mulR_val (a b : Int) (h : (mulR a b).2 = true) : (mulR a b).1 = a * b := by
  obtain ⟨h1, h2, h3⟩ := (mulR_iff a b).1 h
  unfold mulR
  rw [h1, h2, h3]
  rfl
theorem ck_times (K : KW) (hK : KW.Vals K) (id : ByteArray) (n : Int) (hn : n ≠ 0) (c : C) : formC c = true → ∀ d k, k ≠ 0 → (ck K id c d (n * k)).e = 0 →
    (ck K id c d k).e = 0 ∧ (ck K id c d (n * k)).f = (ck K id c d k).f.map (Fl.times n) ∧ (ck K id c d (n * k)).w = (ck K id c d k).w.map (Wt.turn n) := by
  induction c with
  | zero => intro _ d k _ _; exact ⟨rfl, rfl, rfl⟩
  | one s => intro _ d k _ _; exact ⟨rfl, rfl, rfl⟩
  | odd v => intro _ d k _ _; exact ⟨rfl, rfl, rfl⟩
  | give c ih =>
    intro hf d k hk he
    simp only [ck] at he ⊢
    rw [show -(n * k) = n * (-k) by rw [Int.mul_neg]] at he ⊢
    exact ih hf d (-k) (by omega) he
  | when d' c ih =>
    intro hf d k hk he
    simp only [formC, Bool.and_eq_true] at hf
    exact ih hf.2 _ k hk he
  | and l r hl hr =>
    intro hf d k hk he
    simp only [formC, Bool.and_eq_true] at hf
    simp only [ck, Ck.seq] at he ⊢
    split at he
    · rename_i h; exact absurd he h
    · rename_i h
      have h0 : (ck K id l d (n * k)).e = 0 := by simpa using h
      obtain ⟨a1, a2, a3⟩ := hl hf.1 d k hk h0
      obtain ⟨b1, b2, b3⟩ := hr hf.2 d k hk he
      rw [if_neg h, if_neg (by simpa using a1)]
      exact ⟨b1, by simp only [List.map_append, a2, b2], by simp only [List.map_append, a3, b3]⟩
  | or s l r hl hr =>
    intro hf d k hk he
    simp only [formC, Bool.and_eq_true] at hf
    simp only [ck] at he ⊢
    cases hx : K.chosen (id, s) with
    | none =>
      refine ⟨rfl, rfl, ?_⟩
      simp only [List.map_cons, List.map_nil]
      rw [turn_ch n d k s hn hk]
    | some p =>
      rw [hx] at he
      simp only at he ⊢
      split at he
      · rename_i h; rw [if_pos h, if_pos h]; exact hl hf.1.2 _ k hk he
      · rename_i h; rw [if_neg h, if_neg h]; exact hr hf.2 _ k hk he
  | scale o c ih =>
    intro hf d k hk he
    simp only [formC, Bool.and_eq_true] at hf
    simp only [ck] at he ⊢
    split at he
    · rename_i h; exact absurd he h
    · rename_i h
      rw [if_neg h, if_neg h]
      split at he
      · rename_i h1
        rw [if_pos h1, if_pos h1]
        split at he
        · rename_i h2
          obtain ⟨g1, g2, g3⟩ := (mulR_iff _ _).1 h2
          have e1 := mulR_val _ _ h2
          rw [Int.mul_assoc] at g3 e1
          have h3 : (mulR k (rk K d o).n).2 = true := (mulR_iff _ _).2 ⟨vB_less n k hn g1, g2, vB_less n _ hn g3⟩
          have e2 := mulR_val _ _ h3
          rw [if_pos h2, if_pos h3, e1, e2]
          rw [e1] at he
          by_cases h4 : k * (rk K d o).n = 0
          · rw [if_pos h4, h4, Int.mul_zero, if_pos rfl]; exact ⟨rfl, rfl, rfl⟩
          · have h5 : n * (k * (rk K d o).n) ≠ 0 := Int.mul_ne_zero hn h4
            rw [if_neg h5] at he
            rw [if_neg h4, if_neg h5]
            exact ih hf.2 d _ h4 he
        · cases he
      · rename_i h1
        rw [if_neg h1, if_neg h1]
        refine ⟨rfl, rfl, ?_⟩
        unfold waitN
        rw [List.map_map]
        refine (List.map_congr_left fun s _ => ?_)
        exact (turn_name n d s).symm
  | iff o l r hl hr =>
    intro hf d k hk he
    simp only [formC, Bool.and_eq_true] at hf
    simp only [ck] at he ⊢
    split at he
    · rename_i h; exact absurd he h
    · rename_i h
      rw [if_neg h, if_neg h]
      split at he
      · rename_i h1
        rw [if_pos h1, if_pos h1]
        split at he
        · rename_i h2; rw [if_pos h2, if_pos h2]; exact hl hf.1.2 d k hk he
        · rename_i h2; rw [if_neg h2, if_neg h2]; exact hr hf.2 d k hk he
      · rename_i h1
        rw [if_neg h1, if_neg h1]
        refine ⟨rfl, rfl, ?_⟩
        unfold waitN
        rw [List.map_map]
        refine (List.map_congr_left fun s _ => ?_)
        exact (turn_name n d s).symm
theorem turn_turn (n : Int) (y : Wt) : (y.turn n).turn n = y := by
  unfold Wt.turn
  by_cases h : y.ch = true ∧ n < 0
  · rw [if_pos h, if_pos ⟨h.1, h.2⟩]
    cases y
    simp only [Wt.mk.injEq, true_and]
    omega
  · rw [if_neg h, if_neg h]
theorem turn_inj (n : Int) {a b : Wt} (h : a.turn n = b.turn n) : a = b := by
  rw [← turn_turn n a, h, turn_turn]
theorem addW_turn (n : Int) (ys : List Wt) : ∀ W, addW (W.map (Wt.turn n)) (ys.map (Wt.turn n)) = (addW W ys).map (Wt.turn n) := by
  induction ys with
  | nil => intro W; rfl
  | cons y ys ih =>
    intro W
    show addW (putW (W.map (Wt.turn n)) (y.turn n)) (ys.map (Wt.turn n)) = (addW (putW W y) ys).map (Wt.turn n)
    rw [← ih (putW W y)]
    congr 1
    unfold putW
    by_cases h : y ∈ W
    · rw [if_pos h, if_pos (List.mem_map_of_mem h)]
    · rw [if_neg h, if_neg (fun hm => by obtain ⟨z, hz, e⟩ := List.mem_map.1 hm; rw [turn_inj n e] at hz; exact h hz)]
      simp

end Go.Proofs.Ytcdkejnnbbkecaa.Ca
namespace Go.Proofs.Ytcdkejnnbbkecaa.Ca
open Go.RowKit Wd Cn Vl
set_option linter.unusedVariables false

/-- What was chosen is in range. -/
def KW.Chs (K : KW) : Prop := ∀ q ∈ K.C, (q.2.1 = 0 ∨ q.2.1 = 1) ∧ 0 ≤ q.2.2 ∧ q.2.2 ≤ 10000
theorem chs_at {K : KW} (h : KW.Chs K) {p : ByteArray × ByteArray} {v : Int × Int} (hf : K.chosen p = some v) : (v.1 = 0 ∨ v.1 = 1) ∧ 0 ≤ v.2 ∧ v.2 ≤ 10000 :=
  h _ (find_some K.C p v hf)
theorem dayB_iff (d : Int) : dayB d = true ↔ 0 ≤ d ∧ d ≤ 10000 := by simp [dayB]

/-- The error is that of an amount that is too great, or none. -/
theorem ck_errs (K : KW) (hK : KW.Vals K) (id : ByteArray) (c : C) : formC c = true → ∀ d k, (ck K id c d k).e = 0 ∨ (ck K id c d k).e = 6 := by
  induction c with
  | zero => intro _ d k; exact .inl rfl
  | one s => intro _ d k; exact .inl rfl
  | odd v => intro _ d k; exact .inl rfl
  | give c ih => intro hf d k; exact ih hf d (-k)
  | when d' c ih => intro hf d k; simp only [formC, Bool.and_eq_true] at hf; exact ih hf.2 _ k
  | and l r hl hr =>
    intro hf d k
    simp only [formC, Bool.and_eq_true] at hf
    simp only [ck, Ck.seq]
    split
    · exact hl hf.1 d k
    · exact hr hf.2 d k
  | or s l r hl hr =>
    intro hf d k
    simp only [formC, Bool.and_eq_true] at hf
    simp only [ck]
    cases K.chosen (id, s) with
    | none => exact .inl rfl
    | some p =>
      simp only
      split
      · exact hl hf.1.2 _ k
      · exact hr hf.2 _ k
  | scale o c ih =>
    intro hf d k
    simp only [formC, Bool.and_eq_true] at hf
    simp only [ck]
    split
    · exact (rk_good hK d o hf.1).errs
    · split
      · split
        · split
          · exact .inl rfl
          · exact ih hf.2 _ _
        · exact .inr rfl
      · exact .inl rfl
  | iff o l r hl hr =>
    intro hf d k
    simp only [formC, Bool.and_eq_true] at hf
    simp only [ck]
    split
    · exact (rk_good hK d o hf.1.1).errs
    · split
      · split
        · exact hl hf.1.2 d k
        · exact hr hf.2 d k
      · exact .inl rfl

def Fl.In (d : Int) (x : Fl) : Prop := d ≤ x.day ∧ x.day ≤ 10000 ∧ x.amt ≠ 0 ∧ vB x.amt = true
theorem Fl.In.mono {d d' : Int} {x : Fl} (h : x.In d') (hd : d ≤ d') : x.In d := ⟨Int.le_trans hd h.1, h.2⟩
/-- What is paid is paid on a day from d on, and is not nothing. -/
theorem ck_flows (K : KW) (hC : KW.Chs K) (id : ByteArray) (c : C) : formC c = true → ∀ d k, d ≤ 10000 → k ≠ 0 → vB k = true → ∀ x ∈ (ck K id c d k).f, x.In d := by
  induction c with
  | zero => intro _ d k _ _ _ x hx; simp [ck] at hx
  | one s => intro _ d k hd hk hv x hx; simp [ck] at hx; subst hx; exact ⟨Int.le_refl _, hd, hk, hv⟩
  | odd v => intro _ d k _ _ _ x hx; simp [ck] at hx
  | give c ih => intro hf d k hd hk hv x hx; exact ih hf d (-k) hd (by omega) (vB_neg k hv) x hx
  | when d' c ih =>
    intro hf d k hd hk hv x hx
    simp only [formC, Bool.and_eq_true] at hf
    have h1 := (dayB_iff d').1 hf.1
    exact (ih hf.2 (Max.max d d') k (by omega) hk hv x hx).mono (by omega)
  | and l r hl hr =>
    intro hf d k hd hk hv x hx
    simp only [formC, Bool.and_eq_true] at hf
    simp only [ck, Ck.seq] at hx
    split at hx
    · exact hl hf.1 d k hd hk hv x hx
    · rcases List.mem_append.1 hx with h | h
      · exact hl hf.1 d k hd hk hv x h
      · exact hr hf.2 d k hd hk hv x h
  | or s l r hl hr =>
    intro hf d k hd hk hv x hx
    simp only [formC, Bool.and_eq_true] at hf
    simp only [ck] at hx
    cases hx2 : K.chosen (id, s) with
    | none => rw [hx2] at hx; simp at hx
    | some p =>
      rw [hx2] at hx
      have h1 := chs_at hC hx2
      simp only at hx
      split at hx
      · exact (hl hf.1.2 (Max.max d p.2) k (by omega) hk hv x hx).mono (by omega)
      · exact (hr hf.2 (Max.max d p.2) k (by omega) hk hv x hx).mono (by omega)
  | scale o c ih =>
    intro hf d k hd hk hv x hx
    simp only [formC, Bool.and_eq_true] at hf
    simp only [ck] at hx
    split at hx
    · simp at hx
    · split at hx
      · split at hx
        · rename_i h2
          split at hx
          · simp at hx
          · rename_i h3
            exact ih hf.2 d _ hd h3 (mulR_in _ _ h2) x hx
        · simp at hx
      · simp at hx
  | iff o l r hl hr =>
    intro hf d k hd hk hv x hx
    simp only [formC, Bool.and_eq_true] at hf
    simp only [ck] at hx
    split at hx
    · simp at hx
    · split at hx
      · split at hx
        · exact hl hf.1.2 d k hd hk hv x hx
        · exact hr hf.2 d k hd hk hv x hx
      · simp at hx

/-- What is waited for: a day that may be; a choice that is not made, or a name that is not fixed. -/
structure Wt.In (K : KW) (id : ByteArray) (labels : List ByteArray) (d : Int) (y : Wt) : Prop where
  lo : d ≤ y.day
  hi : y.day ≤ 10000
  side : y.side = 0 ∨ y.side = 1
  ch : y.ch = true → y.name = ByteArray.empty ∧ y.label ∈ labels ∧ K.chosen (id, y.label) = none
  nm : y.ch = false → y.label = ByteArray.empty ∧ y.side = 0 ∧ nameGo 0 (runesOf y.name) = true ∧ y.name.size ≤ 2147483648 ∧ K.fixed (y.name, y.day) = none
theorem Wt.In.mono {K : KW} {id : ByteArray} {l l' : List ByteArray} {d d' : Int} {y : Wt} (h : y.In K id l' d') (hd : d ≤ d') (hl : ∀ s ∈ l', s ∈ l) : y.In K id l d :=
  ⟨Int.le_trans hd h.lo, h.hi, h.side, fun x => ⟨(h.ch x).1, hl _ (h.ch x).2.1, (h.ch x).2.2⟩, h.nm⟩
theorem side_in (k : Int) : side k = 0 ∨ side k = 1 := by unfold side; split <;> simp
theorem waitN_in (K : KW) (id : ByteArray) (l : List ByteArray) (d : Int) (hd : d ≤ 10000) (o : O) (hok : o.Ok) (hf : formB o = true) : ∀ y ∈ waitN K d o, y.In K id l d := by
  intro y hy
  obtain ⟨s, hs, rfl⟩ := List.mem_map.1 hy
  have h := lack_mem hs
  exact ⟨Int.le_refl _, hd, .inl rfl, fun h => (by cases h), fun _ => ⟨rfl, rfl, names_form o hf s h.1, Vl.names_small o hok s h.1, h.2⟩⟩
theorem ck_waits (K : KW) (hC : KW.Chs K) (id : ByteArray) (c : C) : formC c = true → c.Ok → ∀ d k, d ≤ 10000 → ∀ y ∈ (ck K id c d k).w, y.In K id c.labels d := by
  induction c with
  | zero => intro _ _ d k _ x hx; simp [ck] at hx
  | one s => intro _ _ d k _ x hx; simp [ck] at hx
  | odd v => intro _ _ d k _ x hx; simp [ck] at hx
  | give c ih => intro hf hok d k hd x hx; exact ih hf hok d (-k) hd x hx
  | when d' c ih =>
    intro hf hok d k hd x hx
    simp only [formC, Bool.and_eq_true] at hf
    have h1 := (dayB_iff d').1 hf.1
    exact (ih hf.2 hok.2 (Max.max d d') k (by omega) x hx).mono (by omega) (fun _ h => h)
  | and l r hl hr =>
    intro hf hok d k hd x hx
    simp only [formC, Bool.and_eq_true] at hf
    simp only [ck, Ck.seq] at hx
    have hL : ∀ x ∈ (ck K id l d k).w, x.In K id (C.and l r).labels d := fun x h => (hl hf.1 hok.1 d k hd x h).mono (Int.le_refl _) (fun s h => by simp [C.labels, h])
    have hR : ∀ x ∈ (ck K id r d k).w, x.In K id (C.and l r).labels d := fun x h => (hr hf.2 hok.2 d k hd x h).mono (Int.le_refl _) (fun s h => by simp [C.labels, h])
    split at hx
    · exact hL x hx
    · rcases List.mem_append.1 hx with h | h
      · exact hL x h
      · exact hR x h
  | or s l r hl hr =>
    intro hf hok d k hd x hx
    simp only [formC, Bool.and_eq_true] at hf
    simp only [ck] at hx
    cases hx2 : K.chosen (id, s) with
    | none =>
      rw [hx2] at hx
      simp at hx
      subst hx
      exact ⟨Int.le_refl _, hd, side_in k, fun _ => ⟨rfl, by simp [chW, C.labels], hx2⟩, fun h => (by cases h)⟩
    | some p =>
      rw [hx2] at hx
      have h1 := chs_at hC hx2
      simp only at hx
      split at hx
      · exact (hl hf.1.2 hok.2.1 (Max.max d p.2) k (by omega) x hx).mono (by omega) (fun s h => by simp [C.labels, h])
      · exact (hr hf.2 hok.2.2 (Max.max d p.2) k (by omega) x hx).mono (by omega) (fun s h => by simp [C.labels, h])
  | scale o c ih =>
    intro hf hok d k hd x hx
    simp only [formC, Bool.and_eq_true] at hf
    simp only [ck] at hx
    split at hx
    · simp at hx
    · split at hx
      · split at hx
        · split at hx
          · simp at hx
          · exact ih hf.2 hok.2 d _ hd x hx
        · simp at hx
      · exact waitN_in K id _ d hd o hok.1 hf.1 x hx
  | iff o l r hl hr =>
    intro hf hok d k hd x hx
    simp only [formC, Bool.and_eq_true] at hf
    simp only [ck] at hx
    split at hx
    · simp at hx
    · split at hx
      · split at hx
        · exact (hl hf.1.2 hok.2.1 d k hd x hx).mono (Int.le_refl _) (fun s h => by simp [C.labels, h])
        · exact (hr hf.2 hok.2.2 d k hd x hx).mono (Int.le_refl _) (fun s h => by simp [C.labels, h])
      · exact waitN_in K id _ d hd o hok.1 hf.1.1 x hx

/-! ### what is known grows -/
def ExtW (K K' : KW) : Prop := Ext K K' ∧ ∀ p v, K.chosen p = some v → K'.chosen p = some v
theorem ck_grows (K K' : KW) (hK : KW.Vals K) (hx : ExtW K K') (id : ByteArray) (c : C) : formC c = true → ∀ d k, (ck K id c d k).e = 0 → (ck K' id c d k).e = 0 → (ck K id c d k).f.Sublist (ck K' id c d k).f := by
  induction c with
  | zero => intro _ d k _ _; exact List.Sublist.refl _
  | one s => intro _ d k _ _; exact List.Sublist.refl _
  | odd v => intro _ d k _ _; exact List.Sublist.refl _
  | give c ih => intro hf d k; exact ih hf d (-k)
  | when d' c ih => intro hf d k; simp only [formC, Bool.and_eq_true] at hf; exact ih hf.2 _ k
  | and l r hl hr =>
    intro hf d k h1 h2
    simp only [formC, Bool.and_eq_true] at hf
    simp only [ck, Ck.seq] at h1 h2 ⊢
    split at h1
    · rename_i h; exact absurd h1 h
    · rename_i h
      split at h2
      · rename_i g; exact absurd h2 g
      · rename_i g
        rw [if_neg h, if_neg g]
        exact (hl hf.1 d k (by simpa using h) (by simpa using g)).append (hr hf.2 d k h1 h2)
  | or s l r hl hr =>
    intro hf d k h1 h2
    simp only [formC, Bool.and_eq_true] at hf
    simp only [ck] at h1 h2 ⊢
    cases hq : K.chosen (id, s) with
    | none => exact List.nil_sublist _
    | some p =>
      rw [hq] at h1
      rw [hx.2 _ _ hq] at h2 ⊢
      simp only at h1 h2 ⊢
      split at h1
      · rename_i h; rw [if_pos h] at h2 ⊢; rw [if_pos h]; exact hl hf.1.2 _ k h1 h2
      · rename_i h; rw [if_neg h] at h2 ⊢; rw [if_neg h]; exact hr hf.2 _ k h1 h2
  | scale o c ih =>
    intro hf d k h1 h2
    simp only [formC, Bool.and_eq_true] at hf
    simp only [ck] at h1 h2 ⊢
    split at h1
    · rename_i h; exact absurd h1 h
    · rename_i h
      rw [if_neg h]
      split at h1
      · rename_i g
        rw [rk_ext hK hx.1 d o hf.1 g, if_neg h, if_pos g] at h2
        rw [if_pos g, rk_ext hK hx.1 d o hf.1 g, if_neg h, if_pos g]
        split at h1
        · rename_i m
          rw [if_pos m] at h2 ⊢
          split at h1
          · rename_i z; rw [if_pos z]; exact List.nil_sublist _
          · rename_i z; rw [if_neg z] at h2 ⊢; rw [if_neg z]; rw [if_pos m]; exact ih hf.2 _ _ h1 h2
        · cases h1
      · rename_i g
        rw [if_neg g]
        exact List.nil_sublist _
  | iff o l r hl hr =>
    intro hf d k h1 h2
    simp only [formC, Bool.and_eq_true] at hf
    simp only [ck] at h1 h2 ⊢
    split at h1
    · rename_i h; exact absurd h1 h
    · rename_i h
      rw [if_neg h]
      split at h1
      · rename_i g
        rw [rk_ext hK hx.1 d o hf.1.1 g, if_neg h, if_pos g] at h2
        rw [if_pos g, rk_ext hK hx.1 d o hf.1.1 g, if_neg h, if_pos g]
        split at h1
        · rename_i z; rw [if_pos z] at h2 ⊢; rw [if_pos z]; exact hl hf.1.2 _ _ h1 h2
        · rename_i z; rw [if_neg z] at h2 ⊢; rw [if_neg z]; exact hr hf.2 _ _ h1 h2
      · rename_i g
        rw [if_neg g]
        exact List.nil_sublist _

/-! ### a row met in another, one by one -/
instance : DecidableEq Fl := fun a b => decidable_of_iff (a.day = b.day ∧ a.cur = b.cur ∧ a.amt = b.amt) (by cases a; cases b; simp)
/-- How many of a are met in b, in their order, k of them already. -/
def metN (a : List Fl) (b : List Fl) (k : Nat) : Nat := b.foldl (fun k x => if a[k]? = some x then k + 1 else k) k
theorem met_all (a : List Fl) : ∀ (b : List Fl) (k : Nat), k ≤ a.length → (a.drop k).Sublist b → metN a b k = a.length := by
  intro b
  induction b with
  | nil =>
    intro k hk h
    have := List.sublist_nil.1 h
    rw [List.drop_eq_nil_iff] at this
    show k = _
    omega
  | cons x b ih =>
    intro k hk h
    show metN a b (if a[k]? = some x then k + 1 else k) = _
    by_cases hlt : k < a.length
    · rw [List.drop_eq_getElem_cons hlt] at h
      split
      · rename_i e
        rw [List.getElem?_eq_getElem hlt] at e
        injection e with e
        rw [e] at h
        exact ih (k + 1) hlt (List.cons_sublist_cons.1 h)
      · rename_i e
        rw [List.getElem?_eq_getElem hlt] at e
        refine ih k hk ?_
        rw [List.drop_eq_getElem_cons hlt]
        cases h with
        | cons _ h => exact h
        | cons_cons _ h => exact absurd rfl e
    · have hk' : k = a.length := by omega
      subst hk'
      rw [List.getElem?_eq_none (Nat.le_refl _), if_neg (by simp)]
      exact ih _ (Nat.le_refl _) (by rw [List.drop_length]; exact List.nil_sublist _)

end Go.Proofs.Ytcdkejnnbbkecaa.Ca
namespace Go.Proofs.Ytcdkejnnbbkecaa.Wd
open Go.RowKit Go.Maps
set_option linter.unusedVariables false

def rF (F : List ((ByteArray × Int) × Int)) : List Value := F.flatMap fun q => [.string q.1.1, .int .i64 q.1.2, .int .i64 q.2]
def rC (C : List ((ByteArray × ByteArray) × (Int × Int))) : List Value := C.flatMap fun q => [.string q.1.1, .string q.1.2, .int .i64 q.2.1, .int .i64 q.2.2]
theorem rF_app (a b : List ((ByteArray × Int) × Int)) : rF (a ++ b) = rF a ++ rF b := by simp [rF]
theorem rC_app (a b : List ((ByteArray × ByteArray) × (Int × Int))) : rC (a ++ b) = rC a ++ rC b := by simp [rC]
theorem rF_at : ∀ (F : List ((ByteArray × Int) × Int)) (i : Nat) (h : i < F.length), (rF F)[i * 3]? = some (.string F[i].1.1) ∧ (rF F)[i * 3 + 1]? = some (.int .i64 F[i].1.2) ∧ (rF F)[i * 3 + 2]? = some (.int .i64 F[i].2)
  | [], i, h => by simp at h
  | q :: F, 0, _ => by simp [rF]
  | q :: F, i + 1, h => by
    have ih := rF_at F i (by simpa using h)
    have e : rF (q :: F) = [.string q.1.1, .int .i64 q.1.2, .int .i64 q.2] ++ rF F := by simp [rF]
    rw [e, show (i + 1) * 3 = 3 + i * 3 by omega, show 3 + i * 3 + 1 = 3 + (i * 3 + 1) by omega, show 3 + i * 3 + 2 = 3 + (i * 3 + 2) by omega]
    rw [List.getElem?_append_right (by simp), List.getElem?_append_right (by simp), List.getElem?_append_right (by simp)]
    simpa using ih
theorem rC_at : ∀ (F : List ((ByteArray × ByteArray) × (Int × Int))) (i : Nat) (h : i < F.length), (rC F)[i * 4]? = some (.string F[i].1.1) ∧ (rC F)[i * 4 + 1]? = some (.string F[i].1.2) ∧ (rC F)[i * 4 + 2]? = some (.int .i64 F[i].2.1) ∧ (rC F)[i * 4 + 3]? = some (.int .i64 F[i].2.2)
  | [], i, h => by simp at h
  | q :: F, 0, _ => by simp [rC]
  | q :: F, i + 1, h => by
    have ih := rC_at F i (by simpa using h)
    have e : rC (q :: F) = [.string q.1.1, .string q.1.2, .int .i64 q.2.1, .int .i64 q.2.2] ++ rC F := by simp [rC]
    rw [e, show (i + 1) * 4 = 4 + i * 4 by omega, show 4 + i * 4 + 1 = 4 + (i * 4 + 1) by omega, show 4 + i * 4 + 2 = 4 + (i * 4 + 2) by omega, show 4 + i * 4 + 3 = 4 + (i * 4 + 3) by omega]
    rw [List.getElem?_append_right (by simp), List.getElem?_append_right (by simp), List.getElem?_append_right (by simp), List.getElem?_append_right (by simp)]
    simpa using ih

/-- The document's world in memory, from block B on. -/
structure RIn (w : World) (B r : Nat) (K : KW) (vF vC : Value) : Prop where
  blk : w.heap[r]? = some (.cells #[vF, vC] 77)
  rf : w.ownsRow B 146 3 vF K.F.length (rF K.F)
  rc : w.ownsRow B 120 4 vC K.C.length (rC K.C)
  hr : B ≤ r
theorem row_shape {w : World} {B : Nat} {e : TypeId} {size n : Nat} {v : Value} {xs : List Value} (h : w.ownsRow B e size v n xs) : ∃ ao cap, v = .slice ao n cap := by
  rcases h.2 with ⟨rfl, h0⟩ | ⟨g, cap, cur, rfl, _⟩
  · subst h0; exact ⟨_, _, rfl⟩
  · exact ⟨_, _, rfl⟩
theorem row_cells {w : World} {B : Nat} {e : TypeId} {size n : Nat} {v : Value} {xs : List Value} (h : w.ownsRow B e size v n xs) (hn : 0 < n) : ∃ g cap, v = .slice (some ⟨g, 0, none⟩) n cap ∧ g < w.heap.size ∧ ∀ j u, xs[j]? = some u → w.cell? ⟨g, j, none⟩ = some u := by
  have hc := fun g hg => h.cells (g := g) hg
  have hlt := h.lt
  rcases h.2 with ⟨rfl, h0⟩ | ⟨g, cap, cur, rfl, _⟩
  · omega
  · refine ⟨g, cap, rfl, (hlt g rfl).2, fun j u hu => ?_⟩
    have := hc g rfl j u hu
    rw [Addr.add_lit, Nat.zero_add] at this
    exact this

theorem toList_loop (b : ByteArray) : ∀ n i r, b.size - i = n → ByteArray.toList.loop b i r = r.reverse ++ b.data.toList.drop i := by
  have hs : b.data.toList.length = b.size := by simp
  intro n
  induction n with
  | zero =>
    intro i r h
    rw [ByteArray.toList.loop, if_neg (by omega), List.drop_eq_nil_of_le (by omega)]
    simp
  | succ n ih =>
    intro i r h
    have hi : i < b.size := by omega
    rw [ByteArray.toList.loop, if_pos hi, ih (i + 1) _ (by omega), List.drop_eq_getElem_cons (by omega : i < b.data.toList.length)]
    have hg : b.get! i = b.data.toList[i]'(by omega) := by
      cases b with
      | mk d => simp [ByteArray.get!]; exact getElem!_pos d i hi
    simp [hg]
theorem bytes_inj {a b : ByteArray} (h : a.toList = b.toList) : a = b := by
  unfold ByteArray.toList at h
  rw [toList_loop a _ 0 [] rfl, toList_loop b _ 0 [] rfl] at h
  simp at h
  cases a; cases b
  simp at h
  rw [h]
theorem find_first {α β : Type} [DecidableEq α] : ∀ (l : List (α × β)) (p : α) (i : Nat) (q : α × β), l[i]? = some q → q.1 = p → (∀ j (hj : j < l.length), j < i → l[j].1 ≠ p) → (l.find? fun q => decide (q.1 = p)).map (·.2) = some q.2
  | [], p, i, q, h, _, _ => by simp at h
  | x :: l, p, 0, q, h, hq, _ => by
    simp at h
    subst h
    simp [hq]
  | x :: l, p, i + 1, q, h, hq, hn => by
    have h0 := hn 0 (by simp) (by omega)
    simp only [List.getElem_cons_zero] at h0
    rw [List.find?_cons_of_neg (by simpa using h0)]
    refine find_first l p i q (by simpa using h) hq (fun j hj hji => ?_)
    have := hn (j + 1) (by simpa using hj) (by omega)
    simpa using this
theorem hidInW {p : Prop} (h : p) : Hid p := h
set_option maxHeartbeats 2000000 in
set_option maxRecDepth 100000 in
theorem refFixed_any (w : World) (B r : Nat) (K : KW) (vF vC : Value) (h : RIn w B r K vF vC) (s : ByteArray) (d : Int) (hlen : K.F.length ≤ 1000000) :
    Calls Try.prog 57 #[.pointer (some ⟨r, 0, none⟩), .string s, .int .i64 d] w fun e w' => e = .returned (.tuple #[.int .i64 ((K.fixed (s, d)).getD 0), .bool (K.fixed (s, d)).isSome]) ∧ Below w.heap.size w w' := by
  have c0 : w.cell? ⟨r, 0, none⟩ = some vF := cell_blk h.blk rfl
  obtain ⟨ao, cap, rfl⟩ := row_shape h.rf
  have HR : Hid (w.ownsRow B 146 3 (.slice ao K.F.length cap) K.F.length (rF K.F)) := h.rf
  have HK : Hid (K.fixed (s, d) = (K.F.find? fun q => decide (q.1 = (s, d))).map (·.2)) := rfl
  clear h
  generalize hF : K.F = F at *
  go_enter Try.func57, Try.ntmps57
  go_wp2_with fail
  go_loopw [15] (fun s15 wr => ∃ i : Nat, i ≤ F.length ∧ s15 = .int .i64 i ∧ Below w.heap.size w wr ∧ ∀ j (hj : j < F.length), j < i → F[j].1 ≠ (s, d)) (fun s15 _ => F.length - (intOf s15).toNat)
  case atStart => exact ⟨0, by omega, rfl, Below.refl _ _, fun j _ hj => absurd hj (by omega)⟩
  case round =>
    obtain ⟨i, hi, rfl, hb, hno⟩ := hrel
    have HB := hidInW hb
    have HNO := hidInW hno
    clear hb hno
    by_cases hil : i < F.length
    · have a1 : (i : Int) < (F.length : Int) := by omega
      obtain ⟨g, cap', hv, hg, hcl⟩ := row_cells HR.out (by omega)
      simp only [Value.slice.injEq] at hv
      obtain ⟨rfl, _, _⟩ := hv
      obtain ⟨q0, q1, q2⟩ := rF_at F i hil
      have d0 : wr.cell? ⟨g, i * 3, none⟩ = some (.string F[i].1.1) := (HB.out.cell (p := ⟨g, i * 3, none⟩) hg).trans (hcl _ _ q0)
      have d1 : wr.cell? ⟨g, i * 3 + 1, none⟩ = some (.int .i64 F[i].1.2) := (HB.out.cell (p := ⟨g, i * 3 + 1, none⟩) hg).trans (hcl _ _ q1)
      have d2 : wr.cell? ⟨g, i * 3 + 2, none⟩ = some (.int .i64 F[i].2) := (HB.out.cell (p := ⟨g, i * 3 + 2, none⟩) hg).trans (hcl _ _ q2)
      clear hcl q0 q1 q2
      generalize hq : F[i] = q at *
      have hqi : F[i]? = some q := by rw [List.getElem?_eq_getElem hil, hq]
      by_cases e0 : q.1.1.toList = s.toList
      · have e1 : (q.1.1.toList == s.toList) = true := by rw [beq_iff_eq]; exact e0
        have HE0 := hidInW e0
        clear e0
        cases e2 : (q.1.2 == d) with
        | false =>
          go_wp2_with fail
          go_roundw
          case rel =>
            refine ⟨i + 1, by omega, by go_num, below_alloc HB.out _, fun j hj hji => ?_⟩
            by_cases hje : j = i
            · subst hje
              rw [hq]
              intro e
              rw [e] at e2
              simp at e2
            · exact HNO.out j hj (by omega)
          case measure => simp [intOf]; omega
        | true =>
          go_wp2_with fail
          go_ret2
          have hqe : q.1 = (s, d) := Prod.ext (bytes_inj HE0.out) (by simpa using e2)
          have hfd := find_first F (s, d) i q hqi hqe (fun j hj hji => HNO.out j hj hji)
          refine ⟨?_, below_alloc HB.out _⟩
          rw [HK.out, hfd]
          rfl
      · have e1 : (q.1.1.toList == s.toList) = false := by rw [beq_eq_false_iff_ne]; exact e0
        have HE0 := hidInW e0
        clear e0
        go_wp2_with fail
        go_roundw
        case rel =>
          refine ⟨i + 1, by omega, by go_num, below_alloc HB.out _, fun j hj hji => ?_⟩
          by_cases hje : j = i
          · subst hje
            rw [hq]
            intro e
            have := HE0.out
            rw [e] at this
            exact this rfl
          · exact HNO.out j hj (by omega)
        case measure => simp [intOf]; omega
    · have a1 : ¬ (i : Int) < (F.length : Int) := by omega
      go_wp2_with fail
      go_ret2
      refine ⟨?_, HB.out⟩
      have hn : (F.find? fun q => decide (q.1 = (s, d))).map (·.2) = none := by
        rw [find_none]
        intro q hq
        obtain ⟨j, hj, rfl⟩ := List.getElem_of_mem hq
        exact HNO.out j hj (by omega)
      rw [HK.out, hn]
      rfl

set_option maxHeartbeats 2000000 in
set_option maxRecDepth 100000 in
theorem refChosen_any (w : World) (B r : Nat) (K : KW) (vF vC : Value) (h : RIn w B r K vF vC) (s d : ByteArray) (hlen : K.C.length ≤ 1000000) :
    Calls Try.prog 38 #[.pointer (some ⟨r, 0, none⟩), .string s, .string d] w fun e w' => e = .returned (.tuple #[.int .i64 ((K.chosen (s, d)).getD (0, 0)).1, .int .i64 ((K.chosen (s, d)).getD (0, 0)).2, .bool (K.chosen (s, d)).isSome]) ∧ Below w.heap.size w w' := by
  have c0 : w.cell? ⟨r, 1, none⟩ = some vC := cell_blk h.blk rfl
  obtain ⟨ao, cap, rfl⟩ := row_shape h.rc
  have HR : Hid (w.ownsRow B 120 4 (.slice ao K.C.length cap) K.C.length (rC K.C)) := h.rc
  have HK : Hid (K.chosen (s, d) = (K.C.find? fun q => decide (q.1 = (s, d))).map (·.2)) := rfl
  clear h
  generalize hF : K.C = F at *
  go_enter Try.func38, Try.ntmps38
  go_wp2_with fail
  go_loopw [16] (fun s15 wr => ∃ i : Nat, i ≤ F.length ∧ s15 = .int .i64 i ∧ Below w.heap.size w wr ∧ ∀ j (hj : j < F.length), j < i → F[j].1 ≠ (s, d)) (fun s15 _ => F.length - (intOf s15).toNat)
  case atStart => exact ⟨0, by omega, rfl, Below.refl _ _, fun j _ hj => absurd hj (by omega)⟩
  case round =>
    obtain ⟨i, hi, rfl, hb, hno⟩ := hrel
    have HB := hidInW hb
    have HNO := hidInW hno
    clear hb hno
    by_cases hil : i < F.length
    · have a1 : (i : Int) < (F.length : Int) := by omega
      obtain ⟨g, cap', hv, hg, hcl⟩ := row_cells HR.out (by omega)
      simp only [Value.slice.injEq] at hv
      obtain ⟨rfl, _, _⟩ := hv
      obtain ⟨q0, q1, q2, q3⟩ := rC_at F i hil
      have d0 : wr.cell? ⟨g, i * 4, none⟩ = some (.string F[i].1.1) := (HB.out.cell (p := ⟨g, i * 4, none⟩) hg).trans (hcl _ _ q0)
      have d1 : wr.cell? ⟨g, i * 4 + 1, none⟩ = some (.string F[i].1.2) := (HB.out.cell (p := ⟨g, i * 4 + 1, none⟩) hg).trans (hcl _ _ q1)
      have d2 : wr.cell? ⟨g, i * 4 + 2, none⟩ = some (.int .i64 F[i].2.1) := (HB.out.cell (p := ⟨g, i * 4 + 2, none⟩) hg).trans (hcl _ _ q2)
      have d3 : wr.cell? ⟨g, i * 4 + 3, none⟩ = some (.int .i64 F[i].2.2) := (HB.out.cell (p := ⟨g, i * 4 + 3, none⟩) hg).trans (hcl _ _ q3)
      clear hcl q0 q1 q2 q3
      generalize hq : F[i] = q at *
      have hqi : F[i]? = some q := by rw [List.getElem?_eq_getElem hil, hq]
      by_cases e0 : q.1.1.toList = s.toList
      · have e1 : (q.1.1.toList == s.toList) = true := by rw [beq_iff_eq]; exact e0
        have HE0 := hidInW e0
        clear e0
        by_cases e3 : q.1.2.toList = d.toList
        rotate_left
        · have e2 : (q.1.2.toList == d.toList) = false := by rw [beq_eq_false_iff_ne]; exact e3
          have HE3 := hidInW e3
          clear e3
          go_wp2_with fail
          go_roundw
          case rel =>
            refine ⟨i + 1, by omega, by go_num, below_alloc HB.out _, fun j hj hji => ?_⟩
            by_cases hje : j = i
            · subst hje
              rw [hq]
              intro e
              have := HE3.out
              rw [e] at this
              exact this rfl
            · exact HNO.out j hj (by omega)
          case measure => simp [intOf]; omega
        · have e2 : (q.1.2.toList == d.toList) = true := by rw [beq_iff_eq]; exact e3
          have HE3 := hidInW e3
          clear e3
          go_wp2_with fail
          go_region
          go_wp2_with fail
          go_ret3
          have hqe : q.1 = (s, d) := Prod.ext (bytes_inj HE0.out) (bytes_inj HE3.out)
          have hfd := find_first F (s, d) i q hqi hqe (fun j hj hji => HNO.out j hj hji)
          refine ⟨?_, (below_alloc HB.out _).drew⟩
          rw [HK.out, hfd]
          rfl
      · have e1 : (q.1.1.toList == s.toList) = false := by rw [beq_eq_false_iff_ne]; exact e0
        have HE0 := hidInW e0
        clear e0
        go_wp2_with fail
        go_roundw
        case rel =>
          refine ⟨i + 1, by omega, by go_num, below_alloc HB.out _, fun j hj hji => ?_⟩
          by_cases hje : j = i
          · subst hje
            rw [hq]
            intro e
            have := HE0.out
            rw [e] at this
            exact this rfl
          · exact HNO.out j hj (by omega)
        case measure => simp [intOf]; omega
    · have a1 : ¬ (i : Int) < (F.length : Int) := by omega
      go_wp2_with fail
      go_ret3
      refine ⟨?_, HB.out⟩
      have hn : (F.find? fun q => decide (q.1 = (s, d))).map (·.2) = none := by
        rw [find_none]
        intro q hq
        obtain ⟨j, hj, rfl⟩ := List.getElem_of_mem hq
        exact HNO.out j hj (by omega)
      rw [HK.out, hn]
      rfl

end Go.Proofs.Ytcdkejnnbbkecaa.Wd
namespace Go.Proofs.Ytcdkejnnbbkecaa.Wd
open Go.RowKit
set_option linter.unusedVariables false

theorem cell_one_at (w : World) (x : Value) (t : TypeId) : ∀ j u, [x][j]? = some u → (w.alloc (.cells #[x] t)).cell? ((⟨w.heap.size, 0, none⟩ : Addr).add j) = some u := by
  intro j u hu
  match j, hu with
  | 0, hu =>
    simp at hu
    subst hu
    rw [Addr.add_lit, cell_of_row _ _ _ _ _ _ (heap_alloc_new _ _)]
    rfl
theorem infoRune : (Try.prog.info? 21).map (fun i => (i.zero, i.size, i.bytes)) = some (some (.int .i32 0), 1, 4) := by kernel_rfl
def runCells (run : List Int) : List Value := run.map (Value.int .i32)
theorem iter_kept {K : Nat} {s : ByteArray} {pos : Nat} {wr w1 : World} {B : Nat} {e : TypeId} {size : Nat} {v : Value} {n : Nat} {xs : List Value}
    (h1 : wr.heap[K]? = some (.stringIter s pos)) (hv : wr.ownsRow B e size v n xs) (hB : K < B) (hg : wr.grownBy w1 v.ownBlock) : w1.heap[K]? = some (.stringIter s pos) := by
  rw [hg.block K (Array.getElem?_eq_some_iff.1 h1).1 (by
    intro h
    have := (hv.lt K h.symm).1
    omega)]
  exact h1

theorem below_kept {K : Nat} {w wr w1 : World} {B : Nat} {e : TypeId} {size : Nat} {v : Value} {n : Nat} {xs : List Value}
    (h4 : Below K w wr) (h5 : K + 1 ≤ wr.heap.size) (hv : wr.ownsRow B e size v n xs) (hB : K < B) (hg : wr.grownBy w1 v.ownBlock) : Below K w w1 :=
  h4.grown hg (by omega) (fun k hk => by have := (hv.lt k hk).1; omega)

/- handfastref01.Name (r4/RefName above Base alone). -/
def RInv (K : Nat) (w : World) (s : ByteArray) (pos : Nat) (run : List Int) (u : Value) (wr : World) : Prop :=
  wr.heap[K]? = some (.stringIter s pos) ∧ wr.ownsRow (K + 1) 21 1 u run.length (runCells run) ∧ Below K w wr ∧ K + 1 ≤ wr.heap.size

theorem RInv.iter {K : Nat} {w : World} {s : ByteArray} {pos : Nat} {run : List Int} {u : Value} {wr : World} (h : RInv K w s pos run u wr) (pos' : Nat) : RInv K w s pos' run u (wr.iterAt K s pos') := by
  obtain ⟨h1, h3, h4, h5⟩ := h
  exact ⟨Lib.iterAt_heap wr K s pos pos' h1, ownsRow_iterAt h3 (by omega) s pos', Lib.below_iterAt h4 (Nat.le_refl _) s pos', by rw [Lib.iterAt_size]; exact h5⟩
theorem RInv.alloc {K : Nat} {w : World} {s : ByteArray} {pos : Nat} {run : List Int} {u : Value} {wr : World} (h : RInv K w s pos run u wr) (o : Obj) : RInv K w s pos run u (wr.alloc o) := by
  obtain ⟨h1, h3, h4, h5⟩ := h
  exact ⟨(heap_alloc_old wr o (by omega)).trans h1, h3.alloc o, h4.alloc (by omega) o, by simp; omega⟩
theorem RInv.run {K : Nat} {w : World} {s : ByteArray} {pos : Nat} {run run' : List Int} {u u' : Value} {wr w1 : World} (h : RInv K w s pos run u wr)
    (hu' : w1.ownsRow (K + 1) 21 1 u' run'.length (runCells run')) (hg : wr.grownBy w1 u.ownBlock) : RInv K w s pos run' u' w1 := by
  obtain ⟨h1, h3, h4, h5⟩ := h
  exact ⟨iter_kept h1 h3 (by omega) hg, hu', below_kept h4 h5 h3 (by omega) hg, by have := hg.size; omega⟩

theorem ownsRow_lower {w : World} {B B' : Nat} {e : TypeId} {size : Nat} {v : Value} {n : Nat} {xs : List Value} (h : w.ownsRow B e size v n xs) (hB : B' ≤ B) : w.ownsRow B' e size v n xs := by
  refine ⟨h.1, ?_⟩
  rcases h.2 with h | ⟨g, cap, cur, h1, h2, h3⟩
  · exact .inl h
  · exact .inr ⟨g, cap, cur, h1, by omega, h3⟩

set_option maxHeartbeats 1000000 in
set_option maxRecDepth 100000 in
theorem refRunes_any (s : ByteArray) (w : World) (hs : s.size ≤ 2147483648) :
    Calls Try.prog 60 #[.string s] w fun e w' => ∃ v, e = .returned v ∧ w'.ownsRow w.heap.size 21 1 v (runesOf s).length (runCells (runesOf s)) ∧ Below w.heap.size w w' := by
  obtain ⟨i1, gi, gz0, gz1, gz2⟩ := info_parts infoRune
  go_enter Try.func60, Try.ntmps60
  go_wp2
  go_loopw [3] (fun u wr => ∃ (pos : Nat) (run : List Int), RInv w.heap.size w s pos run u wr ∧ run.length + (rest s pos).length ≤ s.size ∧ run ++ rest s pos = runesOf s) (fun _ w' => s.size - w'.iterPos w.heap.size)
  case atStart =>
    refine ⟨0, [], ⟨?_, World.ownsRow_nil _ _ _ _, below_iter _ _ _, ?_⟩, by have := rest_length s 0; simpa using this, rfl⟩
    · exact World.iter_heap w s 0
    · simp [World.iter]
  case round =>
    obtain ⟨pos, run, hinv, hps, hc⟩ := hrel
    by_cases hp : pos < s.size
    · have hwd := width_pos s pos hp
      have hst := rest_step s pos hp
      rw [hst] at hps hc
      simp only [List.length_cons] at hps
      have HC : Hid (run ++ (((Utf8.decode s pos).1 : Int) :: rest s (pos + (Utf8.decode s pos).2)) = runesOf s) := hc
      have HS : Hid (run.length + ((rest s (pos + (Utf8.decode s pos).2)).length + 1) ≤ s.size) := hps
      have hp1 : run.length + 1 ≤ s.size := by omega
      obtain ⟨wr2, hw2⟩ : ∃ x, x = wr.iterAt w.heap.size s (pos + (Utf8.decode s pos).2) := ⟨_, rfl⟩
      have hnx : ∀ ty, (Instr.next (.pointer (some ⟨w.heap.size, 0, none⟩)) true ty).run Try.prog wr = .ok (.tuple #[.bool true, .int .i64 pos, .int .i32 (Utf8.decode s pos).1]) wr2 := fun ty => by rw [hw2]; exact Lib.run_next_any_at wr w.heap.size s pos ty hinv.1 hp
      have hinv2 := hinv.iter (pos + (Utf8.decode s pos).2)
      rw [← hw2] at hinv2
      have hpos : Hid (wr.iterPos w.heap.size = pos) := iterPos_of hinv.1
      clear hc hst hps hw2 hinv
      generalize hr : ((Utf8.decode s pos).1 : Int) = r at *
      generalize hwi : (Utf8.decode s pos).2 = wi at *
      clear hr hwi
      go_wp2_with (at_builtin; refine wpList_append_own _ rfl _ _ 148 rfl (w.heap.size + 1) 21 i1 (.int .i32 0) 1 4 Try.underlying148 gi gz0 gz1 gz2 rfl (by decide) _ _ _ rfl (hinv2.2.1.alloc _) ⟨wr2.heap.size, 0, none⟩ 1 1 [.int .i32 r] rfl rfl (cell_one_at wr2 _ _) (by intro u hu; simp at hu; subst hu; rfl) (by unfold maxLen; omega) (by omega) (by have := hinv2.2.2.2; simp; omega) ?_; intro u' w1 hown' hgrow _)
      have hown2 : w1.ownsRow (w.heap.size + 1) 21 1 u' (run ++ [r]).length (runCells (run ++ [r])) := by simpa [runCells] using hown'
      have hinv3 := (hinv2.alloc _).run hown2 hgrow
      go_roundw
      case rel => exact ⟨pos + wi, run ++ [r], hinv3, by have := HS.out; simp; omega, by rw [← HC.out]; simp⟩
      case measure => have := iterPos_of hinv3.1; have := hpos.out; omega
    · have hnx : ∀ ty, (Instr.next (.pointer (some ⟨w.heap.size, 0, none⟩)) true ty).run Try.prog wr = _ := fun ty => Lib.run_next_end_at wr w.heap.size s pos ty hinv.1 hp
      rw [rest_end s pos hp, List.append_nil] at hc
      subst hc
      go_wp2
      go_ret
      exact ⟨_, rfl, ownsRow_lower hinv.2.1 (by omega), hinv.2.2.1⟩

/- handfastref01.Name (r4/RefName above Base alone). -/
def fname (rs : List Int) : Bool := rs.all letB && !(rs.headD 0 |> digB) && decide (1 ≤ rs.length) && decide (rs.length ≤ 12)

theorem nameGo_tail (rs : List Int) : ∀ c : Nat, 1 ≤ c → c ≤ 12 → nameGo c rs = (rs.all letB && decide (c + rs.length ≤ 12)) := by
  induction rs with
  | nil => intro c h1 h2; simp [nameGo]; omega
  | cons r rs ih =>
    intro c h1 h2
    cases hl : letB r
    · rw [nameGo_no _ _ _ (by simp [hl])]; simp [hl]
    · by_cases h12 : c = 12
      · subst h12
        rw [nameGo_no _ _ _ (by simp)]
        simp
      · rw [nameGo_yes c r rs hl (by simp; omega) (by simpa using h12), ih (c + 1) (by omega) (by omega)]
        simp only [List.all_cons, hl, Bool.true_and, List.length_cons]
        congr 1
        rw [Bool.eq_iff_iff]; simp; omega

theorem nameGo_fname (rs : List Int) : nameGo 0 rs = fname rs := by
  cases rs with
  | nil => simp [nameGo, fname]
  | cons r rs =>
    cases hl : letB r
    · rw [nameGo_no _ _ _ (by simp [hl])]; simp [fname, hl]
    · cases hd : digB r
      · rw [nameGo_yes 0 r rs hl (by simp [hd]) (by rfl), nameGo_tail rs 1 (by omega) (by omega)]
        simp only [fname, List.all_cons, hl, Bool.true_and, List.headD_cons, hd, Bool.not_false, Bool.and_true, List.length_cons]
        simp
        congr 1
        rw [Bool.eq_iff_iff]; simp; omega
      · rw [nameGo_no _ _ _ (by simp [hd])]; simp [fname, hd]

/- handfastref01.Name (r4/RefName above Base alone). -/
theorem row_at {w : World} {B : Nat} {v : Value} {rs : List Int} (h : w.ownsRow B 21 1 v rs.length (runCells rs)) : ∀ k (hk : k < rs.length), ∃ g cap, v = .slice (some ⟨g, 0, none⟩) rs.length cap ∧ w.cell? ⟨g, k, none⟩ = some (.int .i32 rs[k]) := by
  intro k hk
  rcases h.2 with ⟨rfl, h0⟩ | ⟨g, cap, cur, rfl, _⟩
  · omega
  · refine ⟨g, cap, rfl, ?_⟩
    rw [h.cellAt k (by omega)]
    simp [runCells, hk]
theorem row_shapeN {w : World} {B : Nat} {e : TypeId} {size n : Nat} {v : Value} {xs : List Value} (h : w.ownsRow B e size v n xs) : ∃ ao cap, v = .slice ao n cap := by
  rcases h.2 with ⟨rfl, rfl⟩ | ⟨g, cap, cur, rfl, _⟩
  · exact ⟨_, _, rfl⟩
  · exact ⟨_, _, rfl⟩

theorem fname_no (rs : List Int) (k : Nat) (hk : k < rs.length) (h : letB rs[k] = false) : fname rs = false := by
  have : rs.all letB = false := by
    rw [List.all_eq_false]
    exact ⟨rs[k], List.getElem_mem hk, by rw [h]; simp⟩
  simp [fname, this]
theorem fname_dig (rs : List Int) (hk : 0 < rs.length) (h : digB rs[0] = true) : fname rs = false := by
  cases rs with
  | nil => simp at hk
  | cons r rs => simp at h; simp [fname, h]
theorem fname_all (rs : List Int) (h : ∀ j (hj : j < rs.length), letB rs[j] = true) (h0 : ∀ hk : 0 < rs.length, digB rs[0] = false) : fname rs = (decide (1 ≤ rs.length) && decide (rs.length ≤ 12)) := by
  have ha : rs.all letB = true := by
    rw [List.all_eq_true]
    intro x hx
    obtain ⟨j, hj, rfl⟩ := List.getElem_of_mem hx
    exact h j hj
  cases rs with
  | nil => simp [fname]
  | cons r rs =>
    have := h0 (by simp)
    simp at this
    unfold fname
    rw [ha, List.headD_cons, this]
    rfl

set_option maxHeartbeats 1000000 in
set_option maxRecDepth 100000 in
theorem refName_any (s : ByteArray) (w : World) (hs : s.size ≤ 2147483648) :
    Calls Try.prog 37 #[.string s] w fun e w' => e = .returned (.bool (nameGo 0 (runesOf s))) ∧ Below w.heap.size w w' := by
  rw [nameGo_fname]
  have hlen := rest_length s 0
  change (runesOf s).length ≤ s.size - 0 at hlen
  go_enter Try.func37, Try.ntmps37
  go_wp2_with fail
  refine (refRunes_any s w hs).mono ?_
  rintro e w1 ⟨v, rfl, hown, hb⟩
  obtain ⟨rs, hrs⟩ : ∃ rs, runesOf s = rs := ⟨_, rfl⟩
  rw [hrs] at hown hlen
  have HRS : Hid (runesOf s = rs) := hrs
  clear hrs
  have hl : rs.length ≤ 2147483648 := by omega
  clear hlen
  obtain ⟨ao, cap, hv⟩ := row_shapeN hown
  have hcells := row_at hown
  subst hv
  have HC : Hid (∀ k (hk : k < rs.length), w1.cell? ⟨(ao.getD ⟨0, 0, none⟩).block, k, none⟩ = some (.int .i32 rs[k]) ∧ ao = some ⟨(ao.getD ⟨0, 0, none⟩).block, 0, none⟩) := by
    intro k hk
    obtain ⟨g, cap', h1, h2⟩ := hcells k hk
    injection h1 with h3 h4 h5
    subst h3
    exact ⟨h2, rfl⟩
  clear hcells hown
  go_wp2_with fail
  go_loop [9] (fun i => ∃ k : Nat, k ≤ rs.length ∧ i = .int .i64 k ∧ Hid (∀ j (hj : j < rs.length), j < k → letB rs[j] = true) ∧ Hid (0 < k → ∀ hk : 0 < rs.length, digB rs[0] = false)) (fun i => rs.length - (intOf i).toNat)
  case atStart => exact ⟨0, by omega, rfl, fun j hj h => absurd h (by omega), fun h => absurd h (by omega)⟩
  case round =>
    obtain ⟨k, hk, rfl, HL, HD⟩ := hrel
    by_cases hlt : k < rs.length
    · obtain ⟨hc, hao⟩ := HC.out k hlt
      generalize (ao.getD ⟨0, 0, none⟩).block = g at *
      subst hao
      have hlt' : (k : Int) < (rs.length : Int) := by omega
      have HX : Hid (∀ (h : letB rs[k] = false), fname rs = false) := fun h => fname_no rs k hlt h
      obtain ⟨r, hr⟩ : ∃ r, r = rs[k] := ⟨_, rfl⟩
      rw [← hr] at hc
      have HR : Hid (r = rs[k]) := hr
      clear hr
      cases hlb : letB r
      · go_wp2_with (go_at_call 61; refine calls_same (refLet_any _ _) ?_)
        go_ret
        have h1 := HR.out
        rw [h1] at hlb
        rw [HRS.out, fname_no rs k hlt hlb]
        exact ⟨rfl, hb⟩
      · by_cases hk0 : k = 0
        · subst hk0
          by_cases hd1 : (48 : Int) ≤ r <;> by_cases hd2 : r ≤ (57 : Int)
          rotate_right
          · exfalso; omega
          · go_wp2_with (go_at_call 61; refine calls_same (refLet_any _ _) ?_)
            go_ret
            have h1 := HR.out
            rw [HRS.out, fname_dig rs hlt (by rw [← h1]; simp [digB, hd1, hd2])]
            exact ⟨rfl, hb⟩
          all_goals
            go_wp2_with (go_at_call 61; refine calls_same (refLet_any _ _) ?_)
            go_round
            case rel =>
              refine ⟨1, by omega, by go_num, ?_, ?_⟩
              · intro j hj h
                have hj0 : j = 0 := by omega
                subst hj0
                rw [← HR.out]; exact hlb
              · intro _ _
                rw [← HR.out]
                simp [digB]; omega
            case measure => simp [intOf]; omega
        · have e0 : ((k : Int) == 0) = false := by rw [beq_eq_false_iff_ne]; omega
          go_wp2_with (go_at_call 61; refine calls_same (refLet_any _ _) ?_)
          go_round
          case rel =>
            refine ⟨k + 1, by omega, by go_num, ?_, ?_⟩
            · intro j hj h
              by_cases hjk : j = k
              · subst hjk; rw [← HR.out]; exact hlb
              · exact HL.out j hj (by omega)
            · intro _ h
              exact HD.out (by omega) h
          case measure => simp [intOf]; omega
    · have hkl : k = rs.length := by omega
      have HF : Hid (fname rs = (decide (1 ≤ rs.length) && decide (rs.length ≤ 12))) := fname_all rs (fun j hj => HL.out j hj (by omega)) (fun h => HD.out (by omega) h)
      subst hkl
      by_cases h1 : 1 ≤ rs.length
      · have h1' : (1 : Int) ≤ (rs.length : Int) := by omega
        go_wp2_with fail
        go_ret
        rw [HRS.out, HF.out]
        refine ⟨ret_bool ?_, hb⟩
        rw [Bool.eq_iff_iff]; simp; omega
      · have h1' : ¬ (1 : Int) ≤ (rs.length : Int) := by omega
        have h1d : decide ((1 : Int) ≤ (rs.length : Int)) = false := by simpa using h1'
        go_wp2_with fail
        go_ret
        rw [HRS.out, HF.out]
        refine ⟨ret_bool ?_, hb⟩
        rw [Bool.eq_iff_iff]; simp; omega

end Go.Proofs.Ytcdkejnnbbkecaa.Wd
namespace Go.Proofs.Ytcdkejnnbbkecaa.Wd
open Go.RowKit Go.Maps
set_option linter.unusedVariables false

/-- What the document's world may turn: its own block, and rows of fixings and of choices, from block B on. -/
structure RT (B r : Nat) (w w' : World) : Prop where
  below : Below B w w'
  kept : ∀ k, k < w.heap.size → k ≠ r → (∀ cs, w.heap[k]? ≠ some (.cells cs 146)) → (∀ cs, w.heap[k]? ≠ some (.cells cs 120)) → w'.heap[k]? = w.heap[k]?
theorem RT.of_below {B r : Nat} {w w' : World} (h : Below w.heap.size w w') (hB : B ≤ w.heap.size) : RT B r w w' := ⟨h.mono hB, fun k hk _ _ _ => h.block k hk⟩
theorem RT.after {B r : Nat} {w w1 w2 : World} (h : RT B r w1 w2) (hb : Below w.heap.size w w1) (hB : B ≤ w.heap.size) : RT B r w w2 :=
  ⟨(hb.mono hB).trans h.below, fun k hk hkr h1 h2 => by
    have e := hb.block k hk
    exact (h.kept k (Nat.lt_of_lt_of_le hk hb.size) hkr (by rw [e]; exact h1) (by rw [e]; exact h2)).trans e⟩
theorem RIn.below {w w' : World} {B r : Nat} {K : KW} {vF vC : Value} (h : RIn w B r K vF vC) (hb : Below w.heap.size w w') : RIn w' B r K vF vC := by
  have hg : w.grownBy w' none := ⟨hb.os, hb.tape, hb.output, hb.size, fun k hk _ => hb.block k hk⟩
  refine ⟨(hb.block r (Array.getElem?_eq_some_iff.1 h.blk).1).trans h.blk, h.rf.kept hg ?_, h.rc.kept hg ?_, h.hr⟩
  · cases hv : vF.ownBlock <;> simp
  · cases hv : vC.ownBlock <;> simp
/-- A row's block holds elements of its type. -/
theorem row_block {w : World} {B : Nat} {e : TypeId} {size n : Nat} {v : Value} {xs : List Value} (h : w.ownsRow B e size v n xs) {k : Nat} (hk : v.ownBlock = some k) : ∃ cs, w.heap[k]? = some (.cells cs e) := by
  rcases h.2 with ⟨rfl, _⟩ | ⟨g, cap, cur, rfl, hb, hg, _⟩
  · simp [Value.ownBlock] at hk
  · simp [Value.ownBlock] at hk
    subst hk
    exact ⟨cur, hg⟩
theorem RIn.neF {w : World} {B r : Nat} {K : KW} {vF vC : Value} (h : RIn w B r K vF vC) : vF.ownBlock ≠ some r := by
  intro e
  obtain ⟨cs, hc⟩ := row_block h.rf e
  have := h.blk
  rw [hc] at this
  cases this
theorem RIn.neC {w : World} {B r : Nat} {K : KW} {vF vC : Value} (h : RIn w B r K vF vC) : vC.ownBlock ≠ some r := by
  intro e
  obtain ⟨cs, hc⟩ := row_block h.rc e
  have := h.blk
  rw [hc] at this
  cases this
theorem RIn.neFC {w : World} {B r : Nat} {K : KW} {vF vC : Value} (h : RIn w B r K vF vC) : vC.ownBlock = none ∨ vC.ownBlock ≠ vF.ownBlock := by
  cases hc : vC.ownBlock with
  | none => exact .inl rfl
  | some k =>
    right
    intro e
    obtain ⟨cs, h1⟩ := row_block h.rc hc
    obtain ⟨cs', h2⟩ := row_block h.rf e.symm
    rw [h1] at h2
    cases h2
theorem RIn.cell0 {w : World} {B r : Nat} {K : KW} {vF vC : Value} (h : RIn w B r K vF vC) : w.cell? ⟨r, 0, none⟩ = some vF := cell_blk h.blk rfl
theorem RIn.cell1 {w : World} {B r : Nat} {K : KW} {vF vC : Value} (h : RIn w B r K vF vC) : w.cell? ⟨r, 1, none⟩ = some vC := cell_blk h.blk rfl
/-- What a fixing more leaves. -/
theorem RIn.addF {w w1 : World} {B r : Nat} {K : KW} {vF vC v' : Value} (h : RIn w B r K vF vC) (hB : B ≤ w.heap.size) (q : (ByteArray × Int) × Int)
    (hown : w1.ownsRow B 146 3 v' (K.F.length + 1) (rF K.F ++ [.string q.1.1, .int .i64 q.1.2, .int .i64 q.2])) (hg : w.grownBy w1 vF.ownBlock) :
    RIn (w1.setCell ⟨r, 0, none⟩ v') B r ⟨K.F ++ [q], K.C⟩ v' vC ∧ RT B r w (w1.setCell ⟨r, 0, none⟩ v') := by
  have hr : r < w.heap.size := (Array.getElem?_eq_some_iff.1 h.blk).1
  have hb1 : w1.heap[r]? = some (.cells #[vF, vC] 77) := (hg.block r hr (fun e => h.neF e.symm)).trans h.blk
  have hne' : v'.ownBlock ≠ some r := by
    intro e
    obtain ⟨cs, hc⟩ := row_block hown e
    rw [hc] at hb1
    cases hb1
  have hrc : w1.ownsRow B 120 4 vC K.C.length (rC K.C) := h.rc.kept hg h.neFC
  refine ⟨⟨heap_setCell_same w1 r 0 _ _ _ hb1, ?_, ?_, h.hr⟩, ⟨?_, ?_⟩⟩
  · have := ownsRow_setCell_other hown (a := ⟨r, 0, none⟩) (by exact hne') v'
    rw [rF_app]
    simpa [rF] using this
  · exact ownsRow_setCell_other hrc (a := ⟨r, 0, none⟩) (by exact h.neC) v'
  · have hb : Below B w w1 := ⟨hg.os, hg.tape, hg.output, hg.size, fun k hk => hg.block k (by omega) (fun e => by have := (h.rf.lt k e.symm).1; omega)⟩
    exact hb.setCell h.hr v'
  · intro k hk hkr h1 h2
    rw [heap_setCell_other w1 ⟨r, 0, none⟩ k _ hkr]
    refine hg.block k hk (fun e => ?_)
    obtain ⟨cs, hc⟩ := row_block h.rf e.symm
    exact h1 cs hc
theorem RIn.addC {w w1 : World} {B r : Nat} {K : KW} {vF vC v' : Value} (h : RIn w B r K vF vC) (hB : B ≤ w.heap.size) (q : (ByteArray × ByteArray) × (Int × Int))
    (hown : w1.ownsRow B 120 4 v' (K.C.length + 1) (rC K.C ++ [.string q.1.1, .string q.1.2, .int .i64 q.2.1, .int .i64 q.2.2])) (hg : w.grownBy w1 vC.ownBlock) :
    RIn (w1.setCell ⟨r, 1, none⟩ v') B r ⟨K.F, K.C ++ [q]⟩ vF v' ∧ RT B r w (w1.setCell ⟨r, 1, none⟩ v') := by
  have hr : r < w.heap.size := (Array.getElem?_eq_some_iff.1 h.blk).1
  have hb1 : w1.heap[r]? = some (.cells #[vF, vC] 77) := (hg.block r hr (fun e => h.neC e.symm)).trans h.blk
  have hne' : v'.ownBlock ≠ some r := by
    intro e
    obtain ⟨cs, hc⟩ := row_block hown e
    rw [hc] at hb1
    cases hb1
  have hrf : w1.ownsRow B 146 3 vF K.F.length (rF K.F) := h.rf.kept hg (by
    rcases h.neFC with e | e
    · cases hv : vF.ownBlock with
      | none => exact .inl rfl
      | some k => right; rw [e]; simp
    · exact .inr (fun x => e x.symm))
  refine ⟨⟨heap_setCell_same w1 r 1 _ _ _ hb1, ?_, ?_, h.hr⟩, ⟨?_, ?_⟩⟩
  · exact ownsRow_setCell_other hrf (a := ⟨r, 1, none⟩) (by exact h.neF) v'
  · have := ownsRow_setCell_other hown (a := ⟨r, 1, none⟩) (by exact hne') v'
    rw [rC_app]
    simpa [rC] using this
  · have hb : Below B w w1 := ⟨hg.os, hg.tape, hg.output, hg.size, fun k hk => hg.block k (by omega) (fun e => by have := (h.rc.lt k e.symm).1; omega)⟩
    exact hb.setCell h.hr v'
  · intro k hk hkr h1 h2
    rw [heap_setCell_other w1 ⟨r, 1, none⟩ k _ hkr]
    refine hg.block k hk (fun e => ?_)
    obtain ⟨cs, hc⟩ := row_block h.rc e.symm
    exact h2 cs hc

end Go.Proofs.Ytcdkejnnbbkecaa.Wd
namespace Go.Proofs.Ytcdkejnnbbkecaa.Ca
open Go.RowKit Wd Cn Vl
set_option linter.unusedVariables false

def Fl.cells (x : Fl) : List Value := [.int .i64 x.day, .string x.cur, .int .i64 x.amt]
def Wt.cells (y : Wt) : List Value := [.bool y.ch, .string y.name, .string y.label, .int .i64 y.day, .int .i64 y.side]
def Wt.val (y : Wt) : Value := .agg #[.bool y.ch, .string y.name, .string y.label, .int .i64 y.day, .int .i64 y.side]
def rowFl (l : List Fl) : List Value := l.flatMap Fl.cells
def rowWt (l : List Wt) : List Value := l.flatMap Wt.cells
theorem rowFl_app (a b : List Fl) : rowFl (a ++ b) = rowFl a ++ rowFl b := by simp [rowFl]
theorem rowWt_app (a b : List Wt) : rowWt (a ++ b) = rowWt a ++ rowWt b := by simp [rowWt]
theorem rowFl_at : ∀ (F : List Fl) (i : Nat) (x : Fl), F[i]? = some x → (rowFl F)[i * 3]? = some (.int .i64 x.day) ∧ (rowFl F)[i * 3 + 1]? = some (.string x.cur) ∧ (rowFl F)[i * 3 + 2]? = some (.int .i64 x.amt)
  | [], i, x, h => by simp at h
  | q :: F, 0, x, h => by simp at h; subst h; simp [rowFl, Fl.cells]
  | q :: F, i + 1, x, h => by
    have ih := rowFl_at F i x (by simpa using h)
    have e : rowFl (q :: F) = Fl.cells q ++ rowFl F := by simp [rowFl]
    rw [e, show (i + 1) * 3 = 3 + i * 3 by omega, show 3 + i * 3 + 1 = 3 + (i * 3 + 1) by omega, show 3 + i * 3 + 2 = 3 + (i * 3 + 2) by omega]
    rw [List.getElem?_append_right (by simp [Fl.cells]), List.getElem?_append_right (by simp [Fl.cells]), List.getElem?_append_right (by simp [Fl.cells])]
    simpa [Fl.cells] using ih
theorem rowWt_at : ∀ (F : List Wt) (i : Nat) (x : Wt), F[i]? = some x → (rowWt F)[i * 5]? = some (.bool x.ch) ∧ (rowWt F)[i * 5 + 1]? = some (.string x.name) ∧ (rowWt F)[i * 5 + 2]? = some (.string x.label) ∧ (rowWt F)[i * 5 + 3]? = some (.int .i64 x.day) ∧ (rowWt F)[i * 5 + 4]? = some (.int .i64 x.side)
  | [], i, x, h => by simp at h
  | q :: F, 0, x, h => by simp at h; subst h; simp [rowWt, Wt.cells]
  | q :: F, i + 1, x, h => by
    have ih := rowWt_at F i x (by simpa using h)
    have e : rowWt (q :: F) = Wt.cells q ++ rowWt F := by simp [rowWt]
    rw [e, show (i + 1) * 5 = 5 + i * 5 by omega, show 5 + i * 5 + 1 = 5 + (i * 5 + 1) by omega, show 5 + i * 5 + 2 = 5 + (i * 5 + 2) by omega, show 5 + i * 5 + 3 = 5 + (i * 5 + 3) by omega, show 5 + i * 5 + 4 = 5 + (i * 5 + 4) by omega]
    rw [List.getElem?_append_right (by simp [Wt.cells]), List.getElem?_append_right (by simp [Wt.cells]), List.getElem?_append_right (by simp [Wt.cells]), List.getElem?_append_right (by simp [Wt.cells]), List.getElem?_append_right (by simp [Wt.cells])]
    simpa [Wt.cells] using ih

/-- Cells of a block, the third of which is the payments', the fourth the waits'. -/
structure Two (mk : Value → Value → Array Value) : Prop where
  g2 : ∀ x y, (mk x y)[2]? = some x
  g3 : ∀ x y, (mk x y)[3]? = some y
  s2 : ∀ x y v, (mk x y).setIfInBounds 2 v = mk v y
  s3 : ∀ x y v, (mk x y).setIfInBounds 3 v = mk x v
/-- What a walk keeps, in memory, from block B on. -/
structure AIn (w : World) (B a : Nat) (T : TypeId) (mk : Value → Value → Array Value) (F : List Fl) (W : List Wt) (vF vW : Value) : Prop where
  blk : w.heap[a]? = some (.cells (mk vF vW) T)
  rf : w.ownsRow B 44 3 vF F.length (rowFl F)
  rw' : w.ownsRow B 51 5 vW W.length (rowWt W)
  ha : B ≤ a
theorem AIn.below {w w' : World} {B a : Nat} {T : TypeId} {mk : Value → Value → Array Value} {F : List Fl} {W : List Wt} {vF vW : Value} (h : AIn w B a T mk F W vF vW) (hb : Below w.heap.size w w') : AIn w' B a T mk F W vF vW := by
  have hg : w.grownBy w' none := ⟨hb.os, hb.tape, hb.output, hb.size, fun k hk _ => hb.block k hk⟩
  refine ⟨(hb.block a (Array.getElem?_eq_some_iff.1 h.blk).1).trans h.blk, h.rf.kept hg ?_, h.rw'.kept hg ?_, h.ha⟩
  · cases hv : vF.ownBlock <;> simp
  · cases hv : vW.ownBlock <;> simp
section
variable {w : World} {B a : Nat} {T : TypeId} {mk : Value → Value → Array Value} {F : List Fl} {W : List Wt} {vF vW : Value}
theorem AIn.neF (h : AIn w B a T mk F W vF vW) (hT : T ≠ 44) : vF.ownBlock ≠ some a := by
  intro e
  obtain ⟨cs, hc⟩ := row_block h.rf e
  have := h.blk
  rw [hc] at this
  injection this with e
  injection e with _ e
  exact hT e.symm
theorem AIn.neW (h : AIn w B a T mk F W vF vW) (hT : T ≠ 51) : vW.ownBlock ≠ some a := by
  intro e
  obtain ⟨cs, hc⟩ := row_block h.rw' e
  have := h.blk
  rw [hc] at this
  injection this with e
  injection e with _ e
  exact hT e.symm
theorem AIn.neFW (h : AIn w B a T mk F W vF vW) : vW.ownBlock = none ∨ vW.ownBlock ≠ vF.ownBlock := by
  cases hc : vW.ownBlock with
  | none => exact .inl rfl
  | some k =>
    right
    intro e
    obtain ⟨cs, h1⟩ := row_block h.rw' hc
    obtain ⟨cs', h2⟩ := row_block h.rf e.symm
    rw [h1] at h2
    cases h2
theorem AIn.cell2 (h : AIn w B a T mk F W vF vW) (hm : Two mk) : w.cell? ⟨a, 2, none⟩ = some vF := cell_blk h.blk (hm.g2 _ _)
theorem AIn.cell3 (h : AIn w B a T mk F W vF vW) (hm : Two mk) : w.cell? ⟨a, 3, none⟩ = some vW := cell_blk h.blk (hm.g3 _ _)
/-- A payment more. -/
theorem AIn.addF {w1 : World} {v' : Value} (h : AIn w B a T mk F W vF vW) (hm : Two mk) (hT1 : T ≠ 44) (hT2 : T ≠ 51) (hB : B ≤ w.heap.size) (x : Fl)
    (hown : w1.ownsRow B 44 3 v' (F.length + 1) (rowFl F ++ x.cells)) (hg : w.grownBy w1 vF.ownBlock) :
    AIn (w1.setCell ⟨a, 2, none⟩ v') B a T mk (F ++ [x]) W v' vW ∧ Below B w (w1.setCell ⟨a, 2, none⟩ v') := by
  have hr : a < w.heap.size := (Array.getElem?_eq_some_iff.1 h.blk).1
  have hb1 : w1.heap[a]? = some (.cells (mk vF vW) T) := (hg.block a hr (fun e => h.neF hT1 e.symm)).trans h.blk
  have hne' : v'.ownBlock ≠ some a := by
    intro e
    obtain ⟨cs, hc⟩ := row_block hown e
    rw [hc] at hb1
    injection hb1 with e
    injection e with _ e
    exact hT1 e.symm
  have hrc : w1.ownsRow B 51 5 vW W.length (rowWt W) := h.rw'.kept hg h.neFW
  refine ⟨⟨?_, ?_, ?_, h.ha⟩, ?_⟩
  · have := heap_setCell_same w1 a 2 _ _ v' hb1
    rw [hm.s2] at this
    exact this
  · have := ownsRow_setCell_other hown (a := ⟨a, 2, none⟩) (by exact hne') v'
    rw [rowFl_app]
    simpa [rowFl] using this
  · exact ownsRow_setCell_other hrc (a := ⟨a, 2, none⟩) (by exact h.neW hT2) v'
  · have hb : Below B w w1 := ⟨hg.os, hg.tape, hg.output, hg.size, fun k hk => hg.block k (by omega) (fun e => by have := (h.rf.lt k e.symm).1; omega)⟩
    exact hb.setCell h.ha v'
/-- A wait more. -/
theorem AIn.addW {w1 : World} {v' : Value} (h : AIn w B a T mk F W vF vW) (hm : Two mk) (hT1 : T ≠ 44) (hT2 : T ≠ 51) (hB : B ≤ w.heap.size) (y : Wt)
    (hown : w1.ownsRow B 51 5 v' (W.length + 1) (rowWt W ++ y.cells)) (hg : w.grownBy w1 vW.ownBlock) :
    AIn (w1.setCell ⟨a, 3, none⟩ v') B a T mk F (W ++ [y]) vF v' ∧ Below B w (w1.setCell ⟨a, 3, none⟩ v') := by
  have hr : a < w.heap.size := (Array.getElem?_eq_some_iff.1 h.blk).1
  have hb1 : w1.heap[a]? = some (.cells (mk vF vW) T) := (hg.block a hr (fun e => h.neW hT2 e.symm)).trans h.blk
  have hne' : v'.ownBlock ≠ some a := by
    intro e
    obtain ⟨cs, hc⟩ := row_block hown e
    rw [hc] at hb1
    injection hb1 with e
    injection e with _ e
    exact hT2 e.symm
  have hrf : w1.ownsRow B 44 3 vF F.length (rowFl F) := h.rf.kept hg (by
    rcases h.neFW with e | e
    · cases hv : vF.ownBlock with
      | none => exact .inl rfl
      | some k => right; rw [e]; simp
    · exact .inr (fun x => e x.symm))
  refine ⟨⟨?_, ?_, ?_, h.ha⟩, ?_⟩
  · have := heap_setCell_same w1 a 3 _ _ v' hb1
    rw [hm.s3] at this
    exact this
  · exact ownsRow_setCell_other hrf (a := ⟨a, 3, none⟩) (by exact h.neF hT1) v'
  · have := ownsRow_setCell_other hown (a := ⟨a, 3, none⟩) (by exact hne') v'
    rw [rowWt_app]
    simpa [rowWt] using this
  · have hb : Below B w w1 := ⟨hg.os, hg.tape, hg.output, hg.size, fun k hk => hg.block k (by omega) (fun e => by have := (h.rw'.lt k e.symm).1; omega)⟩
    exact hb.setCell h.ha v'
end
/-- What a walk may turn: its block, rows of payments and of waits; all else stays. -/
structure Kept (a : Nat) (w w' : World) : Prop where
  size : w.heap.size ≤ w'.heap.size
  kept : ∀ k, k < w.heap.size → k ≠ a → (∀ cs, w.heap[k]? ≠ some (.cells cs 44)) → (∀ cs, w.heap[k]? ≠ some (.cells cs 51)) → w'.heap[k]? = w.heap[k]?
theorem Kept.of_below {a : Nat} {w w' : World} (h : Below w.heap.size w w') : Kept a w w' := ⟨h.size, fun k hk _ _ _ => h.block k hk⟩
theorem Kept.trans {a : Nat} {u v w : World} (h : Kept a u v) (g : Kept a v w) : Kept a u w := by
  refine ⟨Nat.le_trans h.size g.size, fun k hk hka h1 h2 => ?_⟩
  have e := h.kept k hk hka h1 h2
  exact (g.kept k (Nat.lt_of_lt_of_le hk h.size) hka (by rw [e]; exact h1) (by rw [e]; exact h2)).trans e
theorem Kept.cells {a : Nat} {w w' : World} (h : Kept a w w') {k : Nat} {cs : Array Value} {t : TypeId} (hk : w.heap[k]? = some (.cells cs t)) (hr : k ≠ a) (h1 : t ≠ 44) (h2 : t ≠ 51) : w'.heap[k]? = some (.cells cs t) := by
  rw [h.kept k (Array.getElem?_eq_some_iff.1 hk).1 hr (fun cs' e => ?_) (fun cs' e => ?_)]
  · exact hk
  · rw [hk] at e; injection e with e; injection e with _ e; exact h1 e
  · rw [hk] at e; injection e with e; injection e with _ e; exact h2 e
/-- A row of another kind stays. -/
theorem Kept.row {a : Nat} {w w' : World} (h : Kept a w w') {B : Nat} {e : TypeId} {size n : Nat} {v : Value} {xs : List Value} (hr : w.ownsRow B e size v n xs) (hna : v.ownBlock ≠ some a) (h1 : e ≠ 44) (h2 : e ≠ 51) : w'.ownsRow B e size v n xs := by
  refine ⟨hr.1, ?_⟩
  rcases hr.2 with hn | ⟨g, cap, cur, rfl, hb, hg, rest⟩
  · exact .inl hn
  · exact .inr ⟨g, cap, cur, rfl, hb, h.cells hg (fun e => hna (by simp [Value.ownBlock, e])) h1 h2, rest⟩
/-- Behind a store into the walk's block, when a row has grown. -/
theorem Kept.grown {a i : Nat} {w w1 : World} {B : Nat} {e : TypeId} {size n : Nat} {v x : Value} {xs : List Value} (hr : w.ownsRow B e size v n xs) (he : e = 44 ∨ e = 51) (hg : w.grownBy w1 v.ownBlock) : Kept a w (w1.setCell ⟨a, i, none⟩ x) := by
  refine ⟨by simpa using hg.size, fun k hk hka h1 h2 => ?_⟩
  rw [heap_setCell_other w1 ⟨a, i, none⟩ k _ hka]
  refine hg.block k hk (fun e' => ?_)
  obtain ⟨cs, hc⟩ := row_block hr e'.symm
  rcases he with rfl | rfl
  · exact h1 cs hc
  · exact h2 cs hc
/-- What a walk keeps, and what was there when it began. -/
def St (w0 w : World) (a : Nat) (T : TypeId) (mk : Value → Value → Array Value) (F : List Fl) (W : List Wt) : Prop := (∃ vF vW, AIn w w0.heap.size a T mk F W vF vW) ∧ Below w0.heap.size w0 w
theorem St.step {w0 w w' : World} {a : Nat} {T : TypeId} {mk : Value → Value → Array Value} {F : List Fl} {W : List Wt} (h : St w0 w a T mk F W) (hb : Below w.heap.size w w') : St w0 w' a T mk F W := by
  obtain ⟨⟨vF, vW, h1⟩, h2⟩ := h
  exact ⟨⟨vF, vW, h1.below hb⟩, h2.trans (hb.mono h2.size)⟩
theorem St.at_row {w0 w : World} {a : Nat} {T : TypeId} {mk : Value → Value → Array Value} {F : List Fl} {W : List Wt} (h : St w0 w a T mk F W) {B : Nat} {e : TypeId} {size n : Nat} {v : Value} {xs : List Value} (hr : w.ownsRow B e size v n xs) (he : e ≠ T) : v.ownBlock ≠ some a := by
  obtain ⟨⟨vF, vW, h1⟩, _⟩ := h
  intro e'
  obtain ⟨cs, hc⟩ := row_block hr e'
  rw [h1.blk] at hc
  injection hc with e1
  injection e1 with _ e1
  exact he e1.symm
theorem St.at_cells {w0 w : World} {a : Nat} {T : TypeId} {mk : Value → Value → Array Value} {F : List Fl} {W : List Wt} (h : St w0 w a T mk F W) {k : Nat} {cs : Array Value} {t : TypeId} (hk : w.heap[k]? = some (.cells cs t)) (he : t ≠ T) : k ≠ a := by
  obtain ⟨⟨vF, vW, h1⟩, _⟩ := h
  rintro rfl
  rw [h1.blk] at hk
  injection hk with e1
  injection e1 with _ e1
  exact he e1.symm
theorem hidC {p : Prop} (h : p) : Hid p := h

end Go.Proofs.Ytcdkejnnbbkecaa.Ca
namespace Go.Proofs.Ytcdkejnnbbkecaa.Ca
open Go.RowKit Wd Cn Vl
set_option linter.unusedVariables false

/-- Waits in memory. -/
def HasWts (w : World) (ao : Option Addr) (l : List Wt) : Prop := ∀ i x, l[i]? = some x → ∃ g, ao = some ⟨g, 0, none⟩ ∧ g < w.heap.size ∧ w.cell? ⟨g, i * 5, none⟩ = some (.bool x.ch) ∧ w.cell? ⟨g, i * 5 + 1, none⟩ = some (.string x.name) ∧ w.cell? ⟨g, i * 5 + 2, none⟩ = some (.string x.label) ∧ w.cell? ⟨g, i * 5 + 3, none⟩ = some (.int .i64 x.day) ∧ w.cell? ⟨g, i * 5 + 4, none⟩ = some (.int .i64 x.side)
theorem HasWts.below {w w' : World} {ao : Option Addr} {l : List Wt} (h : HasWts w ao l) (hb : Below w.heap.size w w') : HasWts w' ao l := by
  intro i x hx
  obtain ⟨g, e, hg, h0, h1, h2, h3, h4⟩ := h i x hx
  have hc := fun o => hb.cell (p := ⟨g, o, none⟩) hg
  exact ⟨g, e, Nat.lt_of_lt_of_le hg hb.size, (hc _).trans h0, (hc _).trans h1, (hc _).trans h2, (hc _).trans h3, (hc _).trans h4⟩
theorem own_wts {w : World} {B : Nat} {v : Value} {l : List Wt} (h : w.ownsRow B 51 5 v l.length (rowWt l)) : ∃ ao cap, v = .slice ao l.length cap ∧ HasWts w ao l := by
  obtain ⟨ao, cap, rfl⟩ := row_shape h
  refine ⟨ao, cap, rfl, fun i x hx => ?_⟩
  have hi := (List.getElem?_eq_some_iff.1 hx).1
  obtain ⟨g, cap', e, hg, hc⟩ := row_cells h (by omega)
  injection e with e1 _ _
  obtain ⟨h0, h1, h2, h3, h4⟩ := rowWt_at l i x hx
  exact ⟨g, e1, hg, hc _ _ h0, hc _ _ h1, hc _ _ h2, hc _ _ h3, hc _ _ h4⟩

set_option maxHeartbeats 4000000 in
set_option maxRecDepth 100000 in
theorem index_any (w : World) (ao : Option Addr) (cap : Nat) (l : List Wt) (h : HasWts w ao l) (hl : l.length ≤ 1000000) (y : Wt) :
    Calls Try.prog 76 #[.slice ao l.length cap, y.val] w fun e w' => ∃ n : Int, e = .returned (.int .i64 n) ∧ (0 ≤ n ↔ y ∈ l) ∧ Below w.heap.size w w' := by
  have HH := hidC h
  clear h
  obtain ⟨c, nm, lb, d, s⟩ := y
  unfold Wt.val
  go_enter Try.func76, Try.ntmps76
  go_wp2_with fail
  go_loopw [8] (fun s8 wr => ∃ i : Nat, i ≤ l.length ∧ s8 = .int .i64 i ∧ Hid (∀ j, j < i → l[j]? ≠ some ⟨c, nm, lb, d, s⟩) ∧ Below w.heap.size w wr ∧ wr.heap[w.heap.size]? = some (.cells #[.bool c, .string nm, .string lb, .int .i64 d, .int .i64 s] 51)) (fun s8 _ => l.length - (intOf s8).toNat)
  case atStart => exact ⟨0, by omega, rfl, (fun j hj => absurd hj (by omega)), below_alloc (Below.refl _ _) _, heap_alloc_new _ _⟩
  case round =>
    obtain ⟨i, hi, rfl, HNO, hb, hblk⟩ := hrel
    have HB := hidC hb
    have HK := hidC hblk
    clear hb hblk
    by_cases hlt : i < l.length
    · have hlt' : (i : Int) < (l.length : Int) := by omega
      obtain ⟨x, hx⟩ : ∃ x, l[i]? = some x := ⟨_, List.getElem?_eq_getElem hlt⟩
      obtain ⟨g, rfl, hg, d0, d1, d2, d3, d4⟩ := (HH.out.below HB.out) i x hx
      have b0 := cell_of_row _ _ 0 _ _ _ HK.out
      have b1 := cell_of_row _ _ 1 _ _ _ HK.out
      have b2 := cell_of_row _ _ 2 _ _ _ HK.out
      have b3 := cell_of_row _ _ 3 _ _ _ HK.out
      have b4 := cell_of_row _ _ 4 _ _ _ HK.out
      rw [show (#[.bool c, .string nm, .string lb, .int .i64 d, .int .i64 s] : Array Value)[0]? = some (.bool c) from rfl] at b0
      rw [show (#[.bool c, .string nm, .string lb, .int .i64 d, .int .i64 s] : Array Value)[1]? = some (.string nm) from rfl] at b1
      rw [show (#[.bool c, .string nm, .string lb, .int .i64 d, .int .i64 s] : Array Value)[2]? = some (.string lb) from rfl] at b2
      rw [show (#[.bool c, .string nm, .string lb, .int .i64 d, .int .i64 s] : Array Value)[3]? = some (.int .i64 d) from rfl] at b3
      rw [show (#[.bool c, .string nm, .string lb, .int .i64 d, .int .i64 s] : Array Value)[4]? = some (.int .i64 s) from rfl] at b4
      have HX := hidC hx
      clear hx hg
      obtain ⟨xc, xn, xl, xd, xs⟩ := x
      simp only at d0 d1 d2 d3 d4
      by_cases he : c = xc ∧ nm = xn ∧ lb = xl ∧ d = xd ∧ s = xs
      · obtain ⟨rfl, rfl, rfl, rfl, rfl⟩ := he
        have e1 : (nm.toList == nm.toList) = true := beq_self_eq_true _
        have e2 : (lb.toList == lb.toList) = true := beq_self_eq_true _
        go_wp2_with fail
        go_region
        go_wp2_with fail
        all_goals go_ret
        all_goals exact ⟨_, rfl, ⟨fun _ => List.mem_of_getElem? HX.out, fun _ => by omega⟩, HB.out.drew⟩
      · have HNE := hidC he
        have HNO' : Hid (∀ j, j < i + 1 → l[j]? ≠ some ⟨c, nm, lb, d, s⟩) := fun j hj e => by
          rcases (by omega : j < i ∨ j = i) with h | h
          · exact HNO.out j h e
          · subst h
            rw [HX.out] at e
            injection e with e
            injection e with h0 h1 h2 h3 h4
            exact HNE.out ⟨h0.symm, h1.symm, h2.symm, h3.symm, h4.symm⟩
        have ways : (c = true ∧ xc = false) ∨ (c = false ∧ xc = true) ∨ (c = xc ∧ (nm.toList == xn.toList) = false) ∨ (c = xc ∧ (nm.toList == xn.toList) = true ∧ (lb.toList == xl.toList) = false) ∨ (c = xc ∧ (nm.toList == xn.toList) = true ∧ (lb.toList == xl.toList) = true ∧ (d == xd) = false) ∨ (c = xc ∧ (nm.toList == xn.toList) = true ∧ (lb.toList == xl.toList) = true ∧ (d == xd) = true ∧ (s == xs) = false) := by
          by_cases g0 : c = xc
          · by_cases g1 : nm = xn
            · by_cases g2 : lb = xl
              · by_cases g3 : d = xd
                · have g4 : s ≠ xs := fun g4 => he ⟨g0, g1, g2, g3, g4⟩
                  exact .inr (.inr (.inr (.inr (.inr ⟨g0, by rw [g1]; exact beq_self_eq_true _, by rw [g2]; exact beq_self_eq_true _, by simpa using g3, by simpa using g4⟩))))
                · exact .inr (.inr (.inr (.inr (.inl ⟨g0, by rw [g1]; exact beq_self_eq_true _, by rw [g2]; exact beq_self_eq_true _, by simpa using g3⟩))))
              · exact .inr (.inr (.inr (.inl ⟨g0, by rw [g1]; exact beq_self_eq_true _, beq_eq_false_iff_ne.2 fun e => g2 (bytes_inj e)⟩)))
            · exact .inr (.inr (.inl ⟨g0, beq_eq_false_iff_ne.2 fun e => g1 (bytes_inj e)⟩))
          · cases c <;> cases xc <;> simp at g0 ⊢
        clear he
        rcases ways with ⟨rfl, rfl⟩ | ⟨rfl, rfl⟩ | ⟨rfl, f1⟩ | ⟨rfl, f1, f2⟩ | ⟨rfl, f1, f2, f3⟩ | ⟨rfl, f1, f2, f3, f4⟩
        all_goals
          go_wp2_with fail
          go_region
          go_wp2_with fail
          all_goals go_roundw
          case rel => exact ⟨i + 1, by omega, by go_num, HNO', HB.out.drew, HK.out⟩
          case measure => simp [intOf] <;> omega
    · have hle : i = l.length := by omega
      subst hle
      go_wp2_with fail
      go_ret
      refine ⟨-1, rfl, ⟨fun h => absurd h (by omega), fun h => ?_⟩, HB.out⟩
      obtain ⟨j, hj⟩ := List.mem_iff_getElem?.1 h
      exact absurd hj (HNO.out j (List.getElem?_eq_some_iff.1 hj).1)

set_option maxHeartbeats 1000000 in
theorem contains_any (w : World) (ao : Option Addr) (cap : Nat) (l : List Wt) (h : HasWts w ao l) (hl : l.length ≤ 1000000) (y : Wt) :
    Calls Try.prog 71 #[.slice ao l.length cap, y.val] w fun e w' => e = .returned (.bool (decide (y ∈ l))) ∧ Below w.heap.size w w' := by
  have HI : Hid (∀ W : World, Below w.heap.size w W → Calls Try.prog 76 #[.slice ao l.length cap, .agg #[.bool y.ch, .string y.name, .string y.label, .int .i64 y.day, .int .i64 y.side]] W fun e w' => ∃ n : Int, e = .returned (.int .i64 n) ∧ (0 ≤ n ↔ y ∈ l) ∧ Below W.heap.size W w') := fun W hW => index_any W ao cap l (h.below hW) hl y
  clear h
  have HB := hidC (below_alloc (Below.refl w.heap.size w) (.cells #[.bool y.ch, .string y.name, .string y.label, .int .i64 y.day, .int .i64 y.side] 51))
  unfold Wt.val
  go_enter Try.func71, Try.ntmps71
  go_wp2_with fail
  refine (HI.out _ HB.out).mono ?_
  rintro e w1 ⟨n, rfl, hn, hb⟩
  have HN := hidC hn
  have HB1 := hidC (HB.out.trans (hb.mono HB.out.size))
  clear hb hn
  go_wp2_with fail
  go_ret
  exact ⟨ret_bool (decide_eq_decide.2 HN.out), HB1.out⟩

set_option maxHeartbeats 400000 in
theorem holder_any (k : Int) (w : World) : Calls Try.prog 64 #[.int .i64 k] w fun e w' => e = .returned (.int .i64 (side k)) ∧ w' = w := by
  by_cases h : 0 < k
  · have HS : Hid (side k = 0) := by unfold Hid side; rw [if_pos h]
    go_enter Try.func64, Try.ntmps64
    go_wp2_with fail
    go_ret
    rw [HS.out]
    exact ⟨rfl, rfl⟩
  · have HS : Hid (side k = 1) := by unfold Hid side; rw [if_neg h]
    go_enter Try.func64, Try.ntmps64
    go_wp2_with fail
    go_ret
    rw [HS.out]
    exact ⟨rfl, rfl⟩

end Go.Proofs.Ytcdkejnnbbkecaa.Ca
namespace Go.Proofs.Ytcdkejnnbbkecaa
open Go.RowKit
set_option linter.unusedVariables false

mutual
/-- The names of a tree's Fixes, in order. -/
def T.nams : T → List ByteArray
  | .mk kind s _ k => if kind = 12 then [s] else namsL k
def namsL : List T → List ByteArray
  | [] => []
  | t :: l => t.nams ++ namsL l
end
theorem namsL_snoc (l : List T) (k : T) : namsL (l ++ [k]) = namsL l ++ k.nams := by
  induction l with
  | nil => simp [namsL]
  | cons a l ih => simp [namsL, ih]
theorem nams_cnt : ∀ t : T, t.nams.length ≤ t.cnt := by
  intro t
  induction t using T.ind with
  | _ kind s n k ih =>
    have h : (namsL k).length ≤ cntL k := by
      induction k with
      | nil => simp [namsL]
      | cons a l ihl =>
        have h1 := ih a (by simp)
        have h2 := ihl (fun t ht => ih t (by simp [ht]))
        simp only [namsL, cntL, List.length_append]
        omega
    unfold T.nams T.cnt
    split
    · simp
    · omega
theorem namsL_cnt (l : List T) : (namsL l).length ≤ cntL l := by
  induction l with
  | nil => simp [namsL]
  | cons a l ih => have := nams_cnt a; simp only [namsL, cntL, List.length_append]; omega
/-- A new list of one text is a row of the call's own. -/
theorem own_one (w : World) (s : ByteArray) : (w.alloc (.cells #[.string s] 9)).ownsRow w.heap.size 9 1 (.slice (some ⟨w.heap.size, 0, none⟩) 1 1) [s].length (strCells [s]) := by
  refine ⟨by simp [strCells], .inr ⟨w.heap.size, 1, #[.string s], rfl, Nat.le_refl _, heap_alloc_new _ _, by simp, by unfold maxLen; omega, by simp, by simp [strCells]⟩⟩

end Go.Proofs.Ytcdkejnnbbkecaa
