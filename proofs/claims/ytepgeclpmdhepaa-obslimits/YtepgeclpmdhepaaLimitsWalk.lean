/- The walk of the statement ObsLimits. -/
import Derived.Test.YtepgeclpmdhepaaDeep
namespace Go.Proofs.Ytepgeclpmdhepaa
open Go.RowKit
set_option linter.unusedVariables false

/-! ### a queue of numbers -/
/-- A queue of numbers in memory of the call's own, with room behind it or not. -/
def QIn (w : World) (B b off cap : Nat) (l : List O) : Prop :=
  B ≤ b ∧ l.length ≤ cap ∧ cap ≤ 9223372036854775807 ∧ (∀ i o, l[i]? = some o → w.cell? ⟨b, off + i, none⟩ = some o.val) ∧ (∀ j, j < cap → (w.cell? ⟨b, off + j, none⟩).isSome = true ∧ w.frozen? ⟨b, off + j, none⟩ = false)
def valsO (l : List O) : List Value := l.map O.val
theorem own_queue {w : World} {B : Nat} {v : Value} {l : List O} (hl : l ≠ []) (h : w.ownsRow B 26 1 v l.length (valsO l)) : ∃ b cap, v = .slice (some ⟨b, 0, none⟩) l.length cap ∧ QIn w B b 0 cap l := by
  have h0 : l.length ≠ 0 := fun e => hl (List.length_eq_zero_iff.1 e)
  rcases h.2 with ⟨_, e⟩ | ⟨b, cap, cur, rfl, hb, hg, hnc, hcm, hcs, hx⟩
  · exact absurd e h0
  · refine ⟨b, cap, rfl, hb, hnc, by unfold maxLen at hcm; omega, ?_, ?_⟩
    · intro i o hi
      have hil : i < l.length := (List.getElem?_eq_some_iff.1 hi).1
      rw [Nat.zero_add, h.cellAt i (by omega)]
      simp [valsO, hi]
    · intro j hj
      rw [Nat.zero_add, cell_of_row _ _ _ _ _ _ hg, frozen_of_row _ _ _ _ _ hg]
      refine ⟨?_, rfl⟩
      rw [Array.getElem?_eq_getElem (by omega)]
      rfl
def lenOf : Value → Nat
  | .slice _ l _ => l
  | _ => 0
def turnQ : List O → List O
  | a :: b :: t => t ++ [.add a b]
  | l => l
def turns : Nat → List O → List O
  | 0, l => l
  | k + 1, l => turns k (turnQ l)
def firstQ (n : Nat) : List O := (List.range n).map fun (i : Nat) => O.const (i : Int)
/-- An append as one step of a region that draws, with room or without. -/
theorem step_append_queue {P : Program} {ops : Array Oper} {o : Oper} {a : Act} {w : World} {K : Act → World → Prop} {Q : Exit → Act → World → Prop} {E : Prop}
    (hg : o.guard = none) (s x : Operand) (t : TypeId) (hop : o.op = Op.call { callee := Callee.builtin Builtin.append, args := #[s, x], argTypes := #[t, t] })
    (e : TypeId) (i : TypeInfo) (z : Value) (bytes : Nat) (h1 : P.underlying t = some (.slice e)) (h2 : P.info? e = some i) (h3 : i.zero = some z) (h4 : i.size = 1) (h5 : i.bytes = bytes) (h6 : z.cells.size = 1)
    (A : Addr) (n cap : Nat) (hs : a.eval s = .slice (some A) n cap) (olds : List Value) (hlo : olds.length = n * 1) (holds : ∀ j u, olds[j]? = some u → w.cell? (A.add j) = some u)
    (ad : Addr) (y : Value) (hx : a.eval x = .slice (some ad) 1 1) (hc : w.cell? ad = some y) (h1c : y.oneCell' = true)
    (b1 : n + 1 ≤ maxLen) (b2 : (n + 1) * bytes ≤ 140737488355328)
    (hspare : n + 1 ≤ cap → A = ⟨A.block, A.off, none⟩ ∧ (w.cell? ⟨A.block, A.off + n, none⟩).isSome = true ∧ w.frozen? ⟨A.block, A.off + n, none⟩ = false)
    (hroom : n + 1 ≤ cap → K (a.put o.dst (.slice (some A) (n + 1) cap)) (w.setCells A.block (A.off + n) [y]))
    (hgrow : cap < n + 1 → ∀ v' w', w'.ownsRow w.heap.size e 1 v' (n + 1) (olds ++ [y]) → w.grownBy w' none → K (a.put o.dst v') w') :
    if Region.wanted o (yielded ops a.tmps) = true then Oper.wp P o a w K Q else E := by
  have hw : Region.wanted o (yielded ops a.tmps) = true := by simp [Region.wanted, hg]
  rw [if_pos hw]
  have hc' : ∀ j u, [y][j]? = some u → w.cell? (ad.add j) = some u := by
    intro j u hu
    match j, hu with
    | 0, hu => simp at hu; subst hu; simpa [Addr.add] using hc
  by_cases hr : n + 1 ≤ cap
  · obtain ⟨hA, hsp1, hsp2⟩ := hspare hr
    have hrun := run_append_room_cells (P := P) w t o.type e i h1 h2 A.block A.off n cap ad 1 1 [y] (by rw [h4]; rfl) hc' (by simpa using h1c) hr (fun j hj => by simp at hj; subst hj; rw [h4]; simpa using hsp1) (fun j hj => by simp at hj; subst hj; rw [h4]; simpa using hsp2)
    rw [← hA, h4, Nat.mul_one] at hrun
    unfold Oper.wp
    simp [execOp, hop, resolve, invoke, builtin, hs, hx, hrun, Result.andThen]
    exact hroom hr
  · obtain ⟨v', w', hrun, r1, r2⟩ := run_append_arg_grows (P := P) w t o.type e i z 1 bytes h1 h2 h3 h4 h5 h6 (by decide) A n cap olds hlo holds ad 1 1 [y] rfl hc' (by omega) b1 b2
    unfold Oper.wp
    simp [execOp, hop, resolve, invoke, builtin, hs, hx, hrun, Result.andThen]
    exact hgrow (by omega) v' w' r1 r2

theorem QIn.drew {w : World} {B b off cap : Nat} {l : List O} (h : QIn w B b off cap l) : QIn w.drew B b off cap l := h
theorem QIn.below {w w' : World} {B b off cap : Nat} {l : List O} (h : QIn w B b off cap l) (hb : Below w.heap.size w w') : QIn w' B b off cap l := by
  obtain ⟨h1, h2, h3, h4, h5⟩ := h
  refine ⟨h1, h2, h3, fun i o hi => ?_, fun j hj => ?_⟩
  · have hc := h4 i o hi
    exact (hb.cell (World.block_lt_of_cell? w _ hc)).trans hc
  · obtain ⟨hs, hf⟩ := h5 j hj
    obtain ⟨x, hx⟩ := Option.isSome_iff_exists.1 hs
    have hlt := World.block_lt_of_cell? w _ hx
    exact ⟨by rw [hb.cell hlt]; exact hs, by rw [hb.frozen hlt]; exact hf⟩
theorem QIn.turn {w : World} {B b off cap : Nat} {a0 a1 : O} {t : List O} (h : QIn w B b off cap (a0 :: a1 :: t)) (hr : t.length + 1 ≤ cap - 2) :
    QIn (w.setCell ⟨b, off + 2 + t.length, none⟩ (O.add a0 a1).val) B b (off + 2) (cap - 2) (t ++ [.add a0 a1]) := by
  obtain ⟨h1, h2, h3, h4, h5⟩ := h
  simp only [List.length_cons] at h2
  refine ⟨h1, by simp; omega, by omega, fun i o hi => ?_, fun j hj => ?_⟩
  · by_cases hit : i < t.length
    · rw [List.getElem?_append_left hit] at hi
      rw [World.cell?_setCell_other _ _ _ _ (by intro e; injection e with _ e2; omega)]
      have := h4 (i + 2) o (by simpa using hi)
      rwa [show off + (i + 2) = off + 2 + i by omega] at this
    · have hil := (List.getElem?_eq_some_iff.1 hi).1
      simp at hil
      have hie : i = t.length := by omega
      subst hie
      simp at hi
      subst hi
      have hs := (h5 (2 + t.length) (by omega)).1
      obtain ⟨x, hx⟩ := Option.isSome_iff_exists.1 hs
      rw [← Nat.add_assoc] at hx
      exact World.cell?_setCell_same _ _ _ hx
  · obtain ⟨hs, hf⟩ := h5 (2 + j) (by omega)
    rw [← Nat.add_assoc] at hs hf
    by_cases hjt : j = t.length
    · subst hjt
      obtain ⟨x, hx⟩ := Option.isSome_iff_exists.1 hs
      exact ⟨by rw [World.cell?_setCell_same _ _ _ hx]; rfl, by rw [World.frozen?_setCell]; exact hf⟩
    · exact ⟨by rw [World.cell?_setCell_other _ _ _ _ (by intro e; injection e with _ e2; omega)]; exact hs, by rw [World.frozen?_setCell]; exact hf⟩
theorem O.solid (o : O) (h : o.kind ≠ 0) : ∃ t x, o.val = .iface t x := by
  cases o <;> first | exact ⟨_, _, rfl⟩ | simp [O.kind] at h
/-- What a turn of the queue leaves. -/
def Turned (w : World) (B : Nat) (l : List O) (v : Value) (w' : World) : Prop := ∃ b off cap, v = .slice (some ⟨b, off, none⟩) l.length cap ∧ QIn w' B b off cap l ∧ Below B w w'
theorem turn_room {W w : World} {B b off cap : Nat} {a0 a1 : O} {t : List O} {A : Addr} (h : QIn W B b off cap (a0 :: a1 :: t)) (hb : Below B w W) (hA : (if cap = 2 then some (⟨b, off, none⟩ : Addr) else some ⟨b, off + 2, none⟩) = some A)
    (hr : t.length + 1 ≤ cap - 2) : Turned w B (t ++ [.add a0 a1]) (.slice (some A) (t.length + 1) (cap - 2)) (W.setCells A.block (A.off + t.length) [(O.add a0 a1).val]) := by
  have hc : ¬ cap = 2 := by omega
  rw [if_neg hc] at hA
  injection hA with hA
  subst hA
  refine ⟨b, off + 2, cap - 2, by simp, ?_, ?_⟩
  · have := h.turn hr
    exact this
  · exact hb.setCell h.1 _
theorem turn_grow {W w w' : World} {B : Nat} {a0 a1 : O} {t : List O} {v' : Value} (hb : Below B w W) (hB : B ≤ W.heap.size)
    (hown : w'.ownsRow W.heap.size 26 1 v' (t.length + 1) (valsO t ++ [(O.add a0 a1).val])) (hg : W.grownBy w' none) : Turned w B (t ++ [.add a0 a1]) v' w' := by
  have hown' : w'.ownsRow W.heap.size 26 1 v' (t ++ [O.add a0 a1]).length (valsO (t ++ [O.add a0 a1])) := by simpa [valsO] using hown
  obtain ⟨b, cap, rfl, hq⟩ := own_queue (by simp) hown'
  refine ⟨b, 0, cap, rfl, ⟨Nat.le_trans hB hq.1, hq.2⟩, hb.grown hg hB (fun k hk => by cases hk)⟩
theorem turn_olds {W : World} {B b off cap : Nat} {a0 a1 : O} {t : List O} {A : Addr} (h : QIn W B b off cap (a0 :: a1 :: t)) (hA : (if cap = 2 then some (⟨b, off, none⟩ : Addr) else some ⟨b, off + 2, none⟩) = some A) :
    ∀ j u, (valsO t)[j]? = some u → W.cell? (A.add j) = some u := by
  intro j u hu
  have hjt : j < t.length := by have := (List.getElem?_eq_some_iff.1 hu).1; simpa [valsO] using this
  obtain ⟨h1, h2, h3, h4, h5⟩ := h
  simp only [List.length_cons] at h2
  rw [if_neg (by omega)] at hA
  injection hA with hA
  subst hA
  rw [Addr.add_lit]
  have hj : t[j]? = some t[j] := List.getElem?_eq_getElem hjt
  have := h4 (j + 2) t[j] (by simp)
  rw [show off + (j + 2) = off + 2 + j by omega] at this
  rw [this]
  simp [valsO, hj] at hu
  rw [hu]
theorem turn_spare {W : World} {B b off cap : Nat} {a0 a1 : O} {t : List O} {A : Addr} (h : QIn W B b off cap (a0 :: a1 :: t)) (hA : (if cap = 2 then some (⟨b, off, none⟩ : Addr) else some ⟨b, off + 2, none⟩) = some A) (hr : t.length + 1 ≤ cap - 2) :
    A = ⟨A.block, A.off, none⟩ ∧ (W.cell? ⟨A.block, A.off + t.length, none⟩).isSome = true ∧ W.frozen? ⟨A.block, A.off + t.length, none⟩ = false := by
  obtain ⟨h1, h2, h3, h4, h5⟩ := h
  rw [if_neg (by omega)] at hA
  injection hA with hA
  subst hA
  refine ⟨rfl, ?_⟩
  have := h5 (2 + t.length) (by omega)
  rw [← Nat.add_assoc] at this
  exact this
theorem step_append_turn {P : Program} {ops : Array Oper} {o : Oper} {a : Act} {w : World} {K : Act → World → Prop} {Q : Exit → Act → World → Prop} {E : Prop}
    (hg : o.guard = none) (s x : Operand) (t : TypeId) (hop : o.op = Op.call { callee := Callee.builtin Builtin.append, args := #[s, x], argTypes := #[t, t] })
    (e : TypeId) (i : TypeInfo) (z : Value) (bytes : Nat) (h1 : P.underlying t = some (.slice e)) (h2 : P.info? e = some i) (h3 : i.zero = some z) (h4 : i.size = 1) (h5 : i.bytes = bytes) (h6 : z.cells.size = 1)
    (A : Addr) (n cap : Nat) (hs : a.eval s = .slice (some A) n cap) (olds : List Value) (hlo : olds.length = n * 1) (holds : ∀ j u, olds[j]? = some u → w.cell? (A.add j) = some u)
    (ad : Addr) (y : Value) (hx : a.eval x = .slice (some ad) 1 1) (hc : w.cell? ad = some y) (h1c : y.oneCell' = true)
    (b1 : n + 1 ≤ maxLen) (b2 : (n + 1) * bytes ≤ 140737488355328)
    (hspare : n + 1 ≤ cap → A = ⟨A.block, A.off, none⟩ ∧ (w.cell? ⟨A.block, A.off + n, none⟩).isSome = true ∧ w.frozen? ⟨A.block, A.off + n, none⟩ = false)
    (R : Value → World → Prop) (hroom : n + 1 ≤ cap → R (.slice (some A) (n + 1) cap) (w.setCells A.block (A.off + n) [y]))
    (hgrow : ∀ v' w', w'.ownsRow w.heap.size e 1 v' (n + 1) (olds ++ [y]) → w.grownBy w' none → R v' w')
    (hK : ∀ v' w', R v' w' → K (a.put o.dst v') w') :
    if Region.wanted o (yielded ops a.tmps) = true then Oper.wp P o a w K Q else E :=
  step_append_queue hg s x t hop e i z bytes h1 h2 h3 h4 h5 h6 A n cap hs olds hlo holds ad y hx hc h1c b1 b2 hspare (fun h => hK _ _ (hroom h)) (fun _ v' w' h1 h2 => hK _ _ (hgrow v' w' h1 h2))
theorem infoObs : (Try.prog.info? 26).map (fun i => (i.zero, i.size, i.bytes)) = some (some .nilIface, 1, 16) := by kernel_rfl
theorem own_empty (w : World) : (w.alloc (.cells #[] 26)).ownsRow w.heap.size 26 1 (.slice (some ⟨w.heap.size, 0, none⟩) 0 0) 0 [] :=
  ⟨rfl, .inr ⟨w.heap.size, 0, #[], rfl, Nat.le_refl _, heap_alloc_new _ _, Nat.le_refl _, Nat.zero_le _, rfl, rfl⟩⟩
theorem firstQ_snoc (n : Nat) : valsO (firstQ (n + 1)) = valsO (firstQ n) ++ [(O.const (n : Int)).val] := by simp [valsO, firstQ, List.range_succ]
theorem firstQ_length (n : Nat) : (firstQ n).length = n := by simp [firstQ]
theorem cell_one_at (w : World) (x : Value) (t : TypeId) : ∀ j u, [x][j]? = some u → (w.alloc (.cells #[x] t)).cell? ((⟨w.heap.size, 0, none⟩ : Addr).add j) = some u := by
  intro j u hu
  match j, hu with
  | 0, hu =>
    simp at hu
    subst hu
    rw [Addr.add_lit, cell_of_row _ _ _ _ _ _ (heap_alloc_new _ _)]
    rfl
/-- What is left of so many numbers. -/
def lastQ (n : Nat) : O := ((turns n (firstQ (n + 1))).headD (.odd .nilIface))
theorem last_all (q : Nat) (h : q < 4) : turns (28 + q) (firstQ (28 + q + 1)) = [lastQ (28 + q)] ∧ (lastQ (28 + q)).nodes = 2 * (28 + q) + 1 ∧ (lastQ (28 + q)).depth ≤ 12 ∧ formB (lastQ (28 + q)) = true := by
  have h4 : q = 0 ∨ q = 1 ∨ q = 2 ∨ q = 3 := by omega
  rcases h4 with rfl | rfl | rfl | rfl <;> exact ⟨rfl, by decide +kernel, by decide +kernel, by decide +kernel⟩


set_option maxHeartbeats 4000000 in
set_option maxRecDepth 1000000 in
theorem wide_walk (n : Int) (w : World) (h1 : -9223372036854775808 ≤ n) (h2 : n ≤ 9223372036854775807) :
    Calls Try.prog 8 #[.int .i64 n, .bool true] w fun e w' => e = .returned (.bool true) ∧ Below w.heap.size w w' := by
  obtain ⟨i0, gi, gz0, gz1, gz2⟩ := info_parts infoObs
  obtain ⟨q, hq⟩ : ∃ q : Nat, n % 4 = q := ⟨(n % 4).toNat, by omega⟩
  have hq4 : q < 4 := by omega
  have HL := last_all q hq4
  obtain ⟨l1, l2, l3, l4⟩ := HL
  have HL1 : Hid (turns (28 + q) (firstQ (28 + q + 1)) = [lastQ (28 + q)]) := l1
  have HL2 : Hid ((lastQ (28 + q)).nodes = 2 * (28 + q) + 1 ∧ (lastQ (28 + q)).depth ≤ 12 ∧ formB (lastQ (28 + q)) = true) := ⟨l2, l3, l4⟩
  clear l1 l2 l3 l4
  go_enter Try.func8, Try.ntmps8
  go_wp2_with fail
  refine calls_same (within_any _ 4 _ (by omega) (by omega) h1 h2) ?_
  rw [hq]
  clear h1 h2 hq
  go_wp2_with fail
  go_loopw [6, 5] (fun s6 s5 wr => ∃ i : Nat, i ≤ 29 + q ∧ s6 = .int .i64 i ∧ wr.ownsRow w.heap.size 26 1 s5 i (valsO (firstQ i)) ∧ Below w.heap.size w wr) (fun s6 _ _ => 29 + q - (intOf s6).toNat)
  case atStart => exact ⟨0, by omega, rfl, own_empty w, below_alloc (Below.refl _ _) _⟩
  case round =>
    obtain ⟨i, hi, rfl, hown, hbr⟩ := hrel
    by_cases hlt : i < 29 + q
    · have hlt' : (i : Int) ≤ 28 + (q : Int) := by omega
      go_wp2_with (at_builtin; refine wpList_append_own _ rfl (.tmp 22) (.tmp 26) 49 rfl w.heap.size 26 i0 .nilIface 1 16 Try.underlying49 gi gz0 gz1 gz2 rfl (by decide) _ _ _ rfl (hown.alloc _) ⟨wr.heap.size, 0, none⟩ 1 1 [.iface 34 (.agg #[.int .i64 i])] rfl rfl (cell_one_at wr _ _) (by intro u hu; simp at hu; subst hu; rfl) (by unfold maxLen; omega) (by omega) (by have := hbr.size; simp; omega) ?_; intro v2 w2 hown2 hgrow2 _)
      have hb2 : Below w.heap.size w w2 := (hbr.alloc hbr.size _).grown hgrow2 (by have := hbr.size; simp; omega) (fun k hk => (hown.lt k hk).1)
      have hown3 : w2.ownsRow w.heap.size 26 1 v2 (i + 1) (valsO (firstQ (i + 1))) := by rw [firstQ_snoc]; exact hown2
      clear hown2 hgrow2 hown hbr
      go_roundw
      case rel => exact ⟨i + 1, by omega, by go_num, hown3, hb2⟩
      case measure => simp [intOf]; omega
    · have hlt' : ¬ (i : Int) ≤ 28 + (q : Int) := by omega
      have hi' : i = 28 + q + 1 := by omega
      subst hi'
      have hown' : wr.ownsRow w.heap.size 26 1 u5 (firstQ (28 + q + 1)).length (valsO (firstQ (28 + q + 1))) := by rw [firstQ_length]; exact hown
      obtain ⟨b, cap, rfl, hq0⟩ := own_queue (by intro e; have := congrArg List.length e; rw [firstQ_length] at this; simp at this) hown'
      rw [firstQ_length]
      clear hown hown'
      have hok0 : ∀ o ∈ firstQ (28 + q + 1), o.Ok ∧ o.kind ≠ 0 := by
        intro o ho
        obtain ⟨x, hx, rfl⟩ := List.mem_map.1 ho
        simp at hx
        exact ⟨by simp [O.Ok]; omega, by simp [O.kind]⟩
      go_wp2_with fail
      go_loopw [5] (fun s5 wr => ∃ (l : List O) (b off cap : Nat), s5 = .slice (some ⟨b, off, none⟩) l.length cap ∧ 1 ≤ l.length ∧ l.length ≤ 32 ∧ QIn wr w.heap.size b off cap l ∧ Below w.heap.size w wr ∧ Hid (turns (l.length - 1) l = [lastQ (28 + q)]) ∧ Hid (∀ o ∈ l, o.Ok ∧ o.kind ≠ 0)) (fun s5 _ => lenOf s5)
      case atStart => exact ⟨firstQ (28 + q + 1), b, 0, cap, by rw [firstQ_length], by rw [firstQ_length]; omega, by rw [firstQ_length]; omega, hq0, hbr, by rw [firstQ_length]; exact HL1.out, hok0⟩
      case round =>
        clear hq0 hbr hok0 hlt hi HL1
        obtain ⟨l, b, off, cap, rfl, hl1, hl2, hqi, hbr, HT, HK⟩ := hrel
        match l, hl1, hl2, hqi, HT, HK with
        | a0 :: a1 :: t, hl1, hl2, hqi, HT, HK =>
          simp only [List.length_cons] at hl1 hl2
          have HK0 := HK.out a0 (by simp)
          have HK1 := HK.out a1 (by simp)
          obtain ⟨ta, xa, ha⟩ := O.solid a0 HK0.2
          obtain ⟨tb, xb, hb⟩ := O.solid a1 HK1.2
          have HY : Hid ((O.add a0 a1).val = .iface 37 (.agg #[.iface ta xa, .iface tb xb])) := by show Value.iface _ (.agg #[a0.val, a1.val]) = _; rw [ha, hb]
          have hc0 : wr.cell? ⟨b, off, none⟩ = some (.iface ta xa) := by have := hqi.2.2.2.1 0 a0 rfl; rwa [ha] at this
          have hc1 : wr.cell? ⟨b, off + 1, none⟩ = some (.iface tb xb) := by have := hqi.2.2.2.1 1 a1 rfl; rwa [hb] at this
          have hcap : t.length + 1 + 1 ≤ cap := by have := hqi.2.1; simpa using this
          have hcm := hqi.2.2.1
          have HQ : Hid (QIn wr w.heap.size b off cap (a0 :: a1 :: t)) := hqi
          have HB : Hid (Below w.heap.size w wr) := hbr
          obtain ⟨A, hA⟩ : ∃ A : Addr, (if cap = 2 then some (⟨b, off, none⟩ : Addr) else some ⟨b, off + 2, none⟩) = some A := by
            by_cases h : cap = 2
            · exact ⟨_, by rw [if_pos h]⟩
            · exact ⟨_, by rw [if_neg h]⟩
          have HA : Hid ((if cap = 2 then some (⟨b, off, none⟩ : Addr) else some ⟨b, off + 2, none⟩) = some A) := hA
          have hg : (1 : Int) < (t.length : Int) + 1 + 1 := by omega
          have hg' : (2 : Int) ≤ (t.length : Int) + 1 + 1 := by omega
          have hg0 : (0 : Int) < (t.length : Int) + 1 + 1 := by omega
          clear hqi hbr ha hb
          simp only [List.length_cons]
          go_wp2_with fail
          go_region_law (refine step_append_turn rfl (.tmp 32) (.tmp 41) 49 rfl 26 i0 .nilIface 16 Try.underlying49 gi gz0 gz1 gz2 rfl A t.length (cap - 2) (by simp [Act.eval]) (valsO t) (by simp [valsO]) (turn_olds (HQ.out.drew.below (below_alloc (Below.refl _ _) _)) HA.out) ⟨wr.heap.size, 0, none⟩ (O.add a0 a1).val (by simp [Act.eval]) (by rw [HY.out]; exact (cell_of_row _ _ _ _ _ _ (heap_alloc_new _ _)).trans rfl) rfl (by unfold maxLen; omega) (by omega) (turn_spare (HQ.out.drew.below (below_alloc (Below.refl _ _) _)) HA.out) (Turned w w.heap.size (t ++ [.add a0 a1])) (turn_room (HQ.out.drew.below (below_alloc (Below.refl _ _) _)) ((below_drew HB.out).alloc HB.out.size _) HA.out) (fun v' w' h1 h2 => turn_grow ((below_drew HB.out).alloc HB.out.size _) (by have := HB.out.size; simp; omega) h1 h2) ?_; rintro v2 w2 ⟨b2, off2, cap2, rfl, hq2, hb2⟩)
          all_goals
            go_simp
            refine ⟨?_, ?measure⟩
            (repeat apply Exists.intro)
            refine ⟨?rel, rfl⟩
            case rel =>
              refine ⟨t ++ [.add a0 a1], b2, off2, cap2, by simp, by simp, by simp; omega, hq2, hb2, ?_, ?_⟩
              · have h := HT.out
                unfold Hid
                rw [← h]
                simp [turns, turnQ]
              · intro o ho
                rcases List.mem_append.1 ho with h | h
                · exact HK.out o (by simp [h])
                · simp at h; subst h; exact ⟨⟨HK0.1, HK1.1⟩, by simp [O.kind]⟩
            case measure => simp [lenOf]
        | [o], hl1, hl2, hqi, HT, HK =>
          have HTo : Hid (o = lastQ (28 + q)) := by have h := HT.out; simp only [turns, List.length_cons, List.length_nil, Nat.zero_add, Nat.sub_self] at h; injection h
          have hko := HK.out o (by simp)
          have HOK : Hid o.Ok := hko.1
          obtain ⟨ta, xa, ha⟩ := O.solid o hko.2
          have HV : Hid (o.val = .iface ta xa) := ha
          have hc0 : wr.cell? ⟨b, off, none⟩ = some (.iface ta xa) := by have := hqi.2.2.2.1 0 o rfl; rwa [ha] at this
          have hbl := World.block_lt_of_cell? wr _ hc0
          obtain ⟨e1, e2, e3⟩ := HL2.out
          rw [← HTo.out] at e1 e2 e3
          have HN : Hid (o.nodes = 2 * (28 + q) + 1) := e1
          have HC : Hid (chk o = if q < 2 then 0 else 5) := by
            unfold Hid chk
            rw [if_pos e3, e1]
            by_cases h : q < 2
            · rw [if_pos h, if_neg (by omega)]
            · rw [if_neg h, if_pos (by omega)]
          have HB : Hid (Below w.heap.size w wr) := hbr
          clear hqi hbr ha e1 e2 e3 HT HK hko hl1 hl2 HL2
          simp only [List.length_cons, List.length_nil]
          go_wp2_with fail
          rw [← HV.out]
          refine (size_any o HOK.out (by rw [HN.out]; omega) _).mono ?_
          rintro e w1 ⟨rfl, hb1⟩
          rw [← hb1.cell (p := ⟨b, off, none⟩) hbl] at hc0
          rw [HN.out]
          have hm : ((2 * (28 + q) + 1 : Nat) : Int) = 2 * (28 + (q : Int)) + 1 := by omega
          rw [hm]
          by_cases h2 : q < 2
          · have h2' : 2 * (28 + (q : Int)) + 1 ≤ 60 := by omega
            go_wp2_with fail
            rw [← HV.out]
            refine (check_any o HOK.out (by rw [HN.out]; omega) _).mono ?_
            rintro e w2 ⟨rfl, hb2⟩
            rw [HC.out, if_pos h2]
            go_wp2_with fail
            refine (wakes_any _).mono ?_
            rintro e w5 ⟨rfl, hb5⟩
            go_wp2_with fail
            go_ret
            have c1 := HB.out.trans (hb1.mono HB.out.size)
            have c2 := c1.trans (hb2.mono c1.size)
            exact ⟨rfl, c2.trans (hb5.mono c2.size)⟩
          · have h2' : ¬ 2 * (28 + (q : Int)) + 1 ≤ 60 := by omega
            have h2d : decide (2 * (28 + (q : Int)) + 1 ≤ 60) = false := by simpa using h2'
            go_wp2_with fail
            rw [← HV.out]
            refine (check_any o HOK.out (by rw [HN.out]; omega) _).mono ?_
            rintro e w2 ⟨rfl, hb2⟩
            rw [HC.out, if_neg h2]
            rw [← hb2.cell (p := ⟨b, off, none⟩) (Nat.lt_of_lt_of_le hbl hb1.size)] at hc0
            go_wp2_with fail
            rw [← HV.out]
            refine (check_any o HOK.out (by rw [HN.out]; omega) _).mono ?_
            rintro e w3 ⟨rfl, hb3⟩
            rw [HC.out, if_neg h2]
            go_wp2_with fail
            refine (wakes_any _).mono ?_
            rintro e w5 ⟨rfl, hb5⟩
            go_wp2_with fail
            go_ret
            have c1 := HB.out.trans (hb1.mono HB.out.size)
            have c2 := c1.trans (hb2.mono c1.size)
            have c3 := c2.trans (hb3.mono c2.size)
            exact ⟨rfl, c3.trans (hb5.mono c3.size)⟩
theorem limits_walk (n : Int) (wide : Bool) (w : World) (h1 : -9223372036854775808 ≤ n) (h2 : n ≤ 9223372036854775807) :
    Calls Try.prog 8 #[.int .i64 n, .bool wide] w fun e w' => e = .returned (.bool true) ∧ Below w.heap.size w w' := by
  cases wide
  · exact deep_walk n w h1 h2
  · exact wide_walk n w h1 h2

end Go.Proofs.Ytepgeclpmdhepaa
