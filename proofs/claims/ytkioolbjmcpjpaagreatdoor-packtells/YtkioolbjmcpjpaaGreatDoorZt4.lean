/- Do at no ledger: whatever the command, some event that may be made of it. -/
import Derived.Test.YtkioolbjmcpjpaaGreatDoorZtDoPass
import Derived.Test.YtkioolbjmcpjpaaGreatDoorZtDoTrade
import Derived.Test.YtkioolbjmcpjpaaGreatDoorZtDoFix
import Derived.Test.YtkioolbjmcpjpaaGreatDoorZtDoChoose
import Derived.Test.YtkioolbjmcpjpaaGreatDoorZtDoToday
import Derived.Test.YtkioolbjmcpjpaaGreatDoorZtDoSettle
import Derived.Test.YtkioolbjmcpjpaaGreatDoorZtDoElse
import Derived.Test.YtkioolbjmcpjpaaGreatDoorZt3
import Derived.Test.YtkioolbjmcpjpaaGreatDoorNumber
import Derived.Test.YtkioolbjmcpjpaaGreatDoorZt2
import Derived.Test.YtkioolbjmcpjpaaGreatDoorWhole
import Derived.Deep.CutBlock
import Derived.Test.YtkioolbjmcpjpaaGreatDoorZe1
import Derived.Lib.AppendStr
import Derived.Laws.CopyOwn
import Derived.Laws.BytesArg
import Derived.WalkSmall
import Derived.Laws.AppendOwnNone
import Derived.Laws.IdiomStrings
import Derived.Lib.SmallJoins
import Derived.ChangeArms
namespace Go.Proofs.YtkioolbjmcpjpaaGreatDoor.Ev
open Go.RowKit
set_option linter.unusedVariables false

theorem do_any (c : Cm) (w : World) (hc : c.In w) : Calls Tryz.prog 38 #[.pointer none, .agg c.cs, .int .i64 3] w (DoPost w) := by
  rcases (by omega : (0 ≤ c.k % 20 ∧ c.k % 20 < 1) ∨ (1 ≤ c.k % 20 ∧ c.k % 20 < 7) ∨ (7 ≤ c.k % 20 ∧ c.k % 20 < 11) ∨ (11 ≤ c.k % 20 ∧ c.k % 20 < 14) ∨ (14 ≤ c.k % 20 ∧ c.k % 20 < 17) ∨ (17 ≤ c.k % 20 ∧ c.k % 20 < 19) ∨ (19 ≤ c.k % 20 ∧ c.k % 20 < 20)) with h | h | h | h | h | h | h
  · exact do_pass c w hc h
  · exact do_trade c w hc h
  · exact do_fix c w hc h
  · exact do_choose c w hc h
  · exact do_today c w hc h
  · exact do_settle c w hc h
  · exact do_else c w hc h

end Go.Proofs.YtkioolbjmcpjpaaGreatDoor.Ev
namespace Go.Proofs.YtkioolbjmcpjpaaGreatDoor
open Go.RowKit
set_option linter.unusedVariables false

theorem len_cnt (l : List T) : l.length ≤ cntL l := by
  induction l with
  | nil => simp
  | cons t l ih => have h1 : 1 ≤ t.cnt := by cases t; unfold T.cnt; omega
                   simp only [cntL, List.length_cons]; omega
theorem cell_set4 {W : World} {R i : Nat} {a b c d : Value} {k o : Nat} (h : k ≠ R) : ((((W.setCell ⟨R, i, none⟩ a).setCell ⟨R, i + 1, none⟩ b).setCell ⟨R, i + 2, none⟩ c).setCell ⟨R, i + 3, none⟩ d).cell? ⟨k, o, none⟩ = W.cell? ⟨k, o, none⟩ := by
  rw [World.cell?_setCell_other _ _ _ _ (by intro e; injection e with e; exact h e.symm), World.cell?_setCell_other _ _ _ _ (by intro e; injection e with e; exact h e.symm), World.cell?_setCell_other _ _ _ _ (by intro e; injection e with e; exact h e.symm), World.cell?_setCell_other _ _ _ _ (by intro e; injection e with e; exact h e.symm)]
theorem blk_put4 {W : World} {R ty : Nat} {cur : Array Value} (h : Blk W R ty cur) (i : Nat) (a b c d : Value) : Blk ((((W.setCell ⟨R, i * 4, none⟩ a).setCell ⟨R, i * 4 + 1, none⟩ b).setCell ⟨R, i * 4 + 2, none⟩ c).setCell ⟨R, i * 4 + 3, none⟩ d) R ty (put4 cur i a b c d) :=
  (((h.set _ a).set _ b).set _ c).set _ d
theorem put4_size (cur : Array Value) (i : Nat) (a b c d : Value) : (put4 cur i a b c d).size = cur.size := by simp [put4]
/-- What stands in the row behind so many rounds. -/
def rowAt (q : Nat) (v : Int) (s : ByteArray) (k : List T) (a : Int) (i : Nat) : List T := (spoilL q v s (k.take i) a).1 ++ k.drop i
theorem rowAt_get (q : Nat) (v : Int) (s : ByteArray) (k : List T) (a : Int) (i : Nat) (hi : i < k.length) : (rowAt q v s k a i)[i]? = k[i]? := by
  have hl := spoilL_len q v s (k.take i) a
  rw [List.length_take, Nat.min_eq_left (by omega)] at hl
  unfold rowAt
  rw [List.getElem?_append_right (by omega), hl, Nat.sub_self, List.getElem?_drop, Nat.add_zero]
theorem rowAt_len (q : Nat) (v : Int) (s : ByteArray) (k : List T) (a : Int) (i : Nat) : (rowAt q v s k a i).length = k.length := by
  have hl := spoilL_len q v s (k.take i) a
  unfold rowAt
  rw [List.length_append, hl, ← List.length_append, List.take_append_drop]
theorem rowAt_next (q : Nat) (v : Int) (s : ByteArray) (k : List T) (a : Int) (i : Nat) (t : T) (ht : k[i]? = some t) : rowAt q v s k a (i + 1) = (if 0 ≤ (spoilL q v s (k.take i) a).2 then (rowAt q v s k a i).set i (spoilT q v s t (spoilL q v s (k.take i) a).2).1 else rowAt q v s k a i) ∧ (spoilL q v s (k.take (i + 1)) a).2 = if 0 ≤ (spoilL q v s (k.take i) a).2 then (spoilT q v s t (spoilL q v s (k.take i) a).2).2 else (spoilL q v s (k.take i) a).2 := by
  have hi := (List.getElem?_eq_some_iff.1 ht).1
  have hl := spoilL_len q v s (k.take i) a
  rw [List.length_take, Nat.min_eq_left (by omega)] at hl
  have hd : k.drop i = t :: k.drop (i + 1) := by
    rw [List.drop_eq_getElem_cons hi]
    congr 1
    exact (List.getElem?_eq_some_iff.1 ht).2
  unfold rowAt
  rw [take_more _ _ _ ht, spoilL_snoc, hd]
  split
  · simp only [List.append_assoc, List.singleton_append]
    rw [List.set_append_right _ _ (by omega), hl, Nat.sub_self, List.set_cons_zero]
    simp
  · simp

/-- Parts that are as they were from a place on. -/
def OldIn (W0 : World) (cur : Array Value) (k : List T) (i : Nat) : Prop := ∀ j t, i ≤ j → k[j]? = some t → ∃ ka kc, CellsAt cur j t ka kc ∧ TIn W0 0 t (.agg (four t ka kc))
theorem OldIn.put {W0 : World} {cur : Array Value} {k : List T} {i : Nat} (h : OldIn W0 cur k i) (a b c d : Value) : OldIn W0 (put4 cur i a b c d) k (i + 1) := by
  intro j t hj ht
  obtain ⟨ka, kc, ⟨c0, c1, c2, c3⟩, h2⟩ := h j t (by omega) ht
  exact ⟨ka, kc, ⟨(put4_other cur i j _ _ _ _ (by omega) 0 (by omega)).trans c0, (put4_other cur i j _ _ _ _ (by omega) 1 (by omega)).trans c1, (put4_other cur i j _ _ _ _ (by omega) 2 (by omega)).trans c2, (put4_other cur i j _ _ _ _ (by omega) 3 (by omega)).trans c3⟩, h2⟩
/-- A copy of a tree's parts. -/
structure KidsRow (W0 w w' : World) (ro : Option Addr) (c2 R : Nat) (cur : Array Value) (k : List T) : Prop where
  cap : k.length ≤ c2 ∧ c2 ≤ 9223372036854775807
  at_ : k ≠ [] → ro = some ⟨R, 0, none⟩ ∧ Blk w' R 33 cur ∧ k.length * 4 ≤ cur.size
  base : w.heap.size ≤ R
  row : RowIn W0 R w' cur k
  old : OldIn W0 cur k 0
  below : Below w.heap.size w w'
theorem run_append_nil (w : World) (ty cap : Nat) : (Builtin.append_ #[31, 31] ty #[.slice none 0 0, .slice none 0 cap]).run Tryz.prog w = .ok (.slice none 0 0) w := by
  obtain ⟨i0, hi, hz0, hz1, hz2⟩ := info_parts infoTT
  simp [Builtin.append_, run_underlying Tryz.underlying31, sizeOf, typeInfo, hi, Builtin.lenOf, Builtin.firstCells]
theorem wpList_append_kids {ops : Array Oper} {rest : List Oper} {o : Oper} {a : Act} {Q : Exit → Act → World → Prop} (w : World) (hgd : o.guard = none) (s x : Operand)
    (ho : o.op = .call { callee := .builtin .append, args := #[s, x], argTypes := #[31, 31] })
    (hs : a.eval s = .slice none 0 0) (k : List T) (ao : Option Addr) (cap : Nat) (hx : a.eval x = .slice ao k.length cap) (W0 : World) (hK : KAt W0 0 k ao 0) (hb : Below W0.heap.size W0 w) (hkl : k.length ≤ 1000000)
    (h : ∀ ro c2 R cur w', KidsRow W0 w w' ro c2 R cur k → wpList Tryz.prog ops Q rest (a.put o.dst (.slice ro k.length c2)) w') : wpList Tryz.prog ops Q (o :: rest) a w := by
  obtain ⟨i0, hi, hz0, hz1, hz2⟩ := info_parts infoTT
  cases ao with
  | none =>
    have hk : k = [] := by
      cases k with
      | nil => rfl
      | cons t l => exfalso; unfold KAt at hK; obtain ⟨⟨b, o, e, _⟩, _⟩ := hK; cases e
    subst hk
    refine wpList_plain hgd fun K hKK => ?_
    have hrun := run_append_nil w o.type cap
    have hk2 := h none 0 w.heap.size #[] w ⟨⟨Nat.le_refl _, by simp⟩, fun hn => absurd rfl hn, Nat.le_refl _, fun j t hj => by simp at hj, fun j t _ hj => by simp at hj, Below.refl _ _⟩
    unfold Oper.wp
    simp at hx
    simp [execOp, ho, resolve, invoke, builtin, hs, hx, hrun, Result.andThen]
    exact hKK _ _ hk2
  | some ad =>
    obtain ⟨f, hT, hC⟩ : ∃ f : Nat → Option Addr × Nat, (∀ j t, k[j]? = some t → TIn W0 0 t (.agg (four t (f j).1 (f j).2))) ∧ ∀ (j : Nat) (u : Value), (rowCells k f 0)[j]? = some u → W0.cell? (ad.add j) = some u := by
      cases k with
      | nil => exact ⟨fun _ => (none, 0), fun j t hj => by simp at hj, fun j u hj => by simp [rowCells] at hj⟩
      | cons t l =>
        have hK2 := hK
        unfold KAt at hK2
        obtain ⟨⟨b, o, e, _⟩, _⟩ := hK2
        injection e with e
        subst e
        exact kat_row hK
    refine wpList_append_own_at w hgd s x 31 ho w.heap.size 33 i0 (.agg zeroT) 4 56 Tryz.underlying31 hi hz0 hz1 hz2 rfl (by decide) _ _ _ hs (World.ownsRow_nil _ _ _ _) ad k.length cap (rowCells k f 0) hx (rowCells_len f k 0) ?_ (rowCells_one f k 0) (by unfold maxLen; omega) (by omega) (Nat.le_refl _) ?_
    · intro j u hj
      have hc := hC j u hj
      exact (hb.cell (World.block_lt_of_cell? W0 _ hc)).trans hc
    · intro v' w' hown hgrow _ _
      have hbl : Below w.heap.size w w' := (Below.refl _ _).grown hgrow (Nat.le_refl _) (fun k hk => by simp [Value.ownBlock] at hk)
      simp only [Nat.zero_add, List.nil_append] at hown
      rcases hown.2 with ⟨rfl, h0⟩ | ⟨g, c2, cur, rfl, hg, hG, hn, hm, hz, ht⟩
      · have hk : k = [] := List.length_eq_zero_iff.1 h0
        subst hk
        exact h none 0 w.heap.size #[] w' ⟨⟨Nat.le_refl _, by simp⟩, fun hn => absurd rfl hn, Nat.le_refl _, fun j t hj => by simp at hj, fun j t _ hj => by simp at hj, hbl⟩
      · have hcells : ∀ j t, k[j]? = some t → CellsAt cur j t (f j).1 (f j).2 := by
          intro j t hj
          have hjl := (List.getElem?_eq_some_iff.1 hj).1
          have hgt := rowCells_get f k 0 j t hj
          have hcur : ∀ m, m < k.length * 4 → cur[m]? = (rowCells k f 0)[m]? := by
            intro m hm
            rw [← ht, List.getElem?_take, if_pos hm, Array.getElem?_toList]
          rw [Nat.zero_add] at hgt
          exact ⟨(hcur _ (by omega)).trans hgt.1, (hcur _ (by omega)).trans hgt.2.1, (hcur _ (by omega)).trans hgt.2.2.1, (hcur _ (by omega)).trans hgt.2.2.2⟩
        exact h _ c2 g cur w' ⟨⟨hn, by unfold maxLen at hm; omega⟩, fun _ => ⟨rfl, hG, by omega⟩, hg, fun j t hj => ⟨(f j).1, (f j).2, hcells j t hj, spread_old (hT j t hj) (hb.trans (hbl.mono hb.size))⟩, fun j t _ hj => ⟨(f j).1, (f j).2, hcells j t hj, hT j t hj⟩, hbl⟩

end Go.Proofs.YtkioolbjmcpjpaaGreatDoor
namespace Go.Proofs.YtkioolbjmcpjpaaGreatDoor
open Go.RowKit
set_option linter.unusedVariables false

def SpoiltPost (W0 w : World) (t : T) (q : Nat) (v : Int) (s : ByteArray) (e : Ending) (w' : World) : Prop :=
  ∃ a ka kc, e = .returned (.agg (four (spoilT q v s t a).1 ka kc)) ∧ Spread W0 w.heap.size w' (spoilT q v s t a).1 (.agg (four (spoilT q v s t a).1 ka kc)) ∧ Below w.heap.size w w'

end Go.Proofs.YtkioolbjmcpjpaaGreatDoor
namespace Go.Proofs.YtkioolbjmcpjpaaGreatDoor
open Go.RowKit
set_option linter.unusedVariables false

def SomePost (w : World) (e : Ending) (w' : World) : Prop :=
  ∃ (o : O) (ka : Option Addr) (kc : Nat), e = .returned (.tuple #[o.val, .agg #[.int .i64 (plain o).kind, .string (plain o).s, .int .i64 (plain o).n, .slice ka (plain o).k.length kc]]) ∧ o.Ok ∧ o.nodes ≤ 1000 ∧ TIn w' w.heap.size (plain o) (.agg (four (plain o) ka kc)) ∧ Below w.heap.size w w'
theorem tdiv_in (a b : Int) (hb : 2 ≤ b) (h1 : -9223372036854775808 ≤ a) (h2 : a ≤ 9223372036854775807) : -9223372036854775808 ≤ a.tdiv b ∧ a.tdiv b ≤ 9223372036854775807 := by
  by_cases h : 0 ≤ a
  · have h3 := Int.tdiv_nonneg h (by omega : 0 ≤ b)
    have h4 : a.tdiv b ≤ a := Int.tdiv_le_self b h
    omega
  · have h3 := Int.tdiv_nonneg (by omega : 0 ≤ -a) (by omega : 0 ≤ b)
    have h4 : (-a).tdiv b ≤ -a := Int.tdiv_le_self b (by omega)
    rw [Int.neg_tdiv] at h3 h4
    omega
/-- A slot, and a struct's cell, as results. -/
theorem results_slot_cell {P : Program} {fn : Func} {p q : Tmp} {ty : TypeId} (h : fn.results = #[.tmp q, .cell p ty]) (tmps : Array Value) (w : World) (g : Nat) (t : TypeId) (cs : Array Value) (fr : Nat × Nat) (d : TypeDesc)
    (hp : tmps.getD p undef = .pointer (some ⟨g, 0, none⟩)) (hg : w.heap[g]? = some (.cells cs t fr))
    (hu : P.underlying ty = some d) (hd : (match d with | .struct _ | .array _ _ => true | _ => false) = true) (hi : (P.info? ty).map (·.size) = some cs.size) :
    (results fn tmps).run P w = .ok (.tuple #[tmps.getD q undef, .agg cs]) w := by
  have hp' : tmps[p]?.getD undef = .pointer (some ⟨g, 0, none⟩) := by simpa using hp
  simp [results, h, hp', asAddr, run_loadVar_row w g t ty cs fr d hg hu hd hi]

end Go.Proofs.YtkioolbjmcpjpaaGreatDoor
namespace Go.Proofs.YtkioolbjmcpjpaaGreatDoor.Ev
open Go.RowKit
set_option linter.unusedVariables false

theorem alloc_2e (w : World) (a b c : Obj) : (((w.alloc a).alloc b).alloc c).heap[w.heap.size + 2]? = some c := by
  have h := heap_alloc_new ((w.alloc a).alloc b) c
  rwa [show ((w.alloc a).alloc b).heap.size = w.heap.size + 2 by simp] at h
/-- Where the event stands while fields of it are turned: its block, the two results' blocks, and its tree below. -/
structure SmSt (w : World) (M : Nat) (x : Array Value) (W : World) : Prop where
  p : W.heap[w.heap.size + 1]? = some (.cells #[.int .i64 0, .string ⟨#[]⟩, .string ⟨#[]⟩, .string ⟨#[]⟩, .string ⟨#[]⟩, .int .i64 0, .int .i64 0, .nilIface] 30)
  r : W.heap[w.heap.size + 2]? = some (.cells zero11 35)
  e : W.heap[M]? = some (.cells x 35)
  b : Below w.heap.size w W
  m : w.heap.size + 3 ≤ M
theorem SmSt.set {w W : World} {M : Nat} {x : Array Value} (h : SmSt w M x W) (j : Nat) (v : Value) : SmSt w M (x.setIfInBounds j v) (W.setCell ⟨M, j, none⟩ v) :=
  ⟨(heap_setCell_other _ ⟨M, j, none⟩ _ v (by have := h.m; show w.heap.size + 1 ≠ M; omega)).trans h.p, (heap_setCell_other _ ⟨M, j, none⟩ _ v (by have := h.m; show w.heap.size + 2 ≠ M; omega)).trans h.r, heap_setCell_same _ M j _ _ v h.e, h.b.setCell (show w.heap.size ≤ M by have := h.m; omega) v, h.m⟩
theorem SmSt.below {w W W' : World} {M : Nat} {x : Array Value} (h : SmSt w M x W) (hb : Below W.heap.size W W') : SmSt w M x W' :=
  ⟨(hb.block _ (Array.getElem?_eq_some_iff.1 h.p).1).trans h.p, (hb.block _ (Array.getElem?_eq_some_iff.1 h.r).1).trans h.r, (hb.block _ (Array.getElem?_eq_some_iff.1 h.e).1).trans h.e, h.b.trans (hb.mono h.b.size), h.m⟩
theorem cells8e {w : World} {B t : Nat} {a b c d e f g h : Value} (hh : w.heap[B]? = some (.cells #[a, b, c, d, e, f, g, h] t)) : w.cell? ⟨B, 0, none⟩ = some a ∧ w.cell? ⟨B, 1, none⟩ = some b ∧ w.cell? ⟨B, 2, none⟩ = some c ∧ w.cell? ⟨B, 3, none⟩ = some d ∧ w.cell? ⟨B, 4, none⟩ = some e ∧ w.cell? ⟨B, 5, none⟩ = some f ∧ w.cell? ⟨B, 6, none⟩ = some g ∧ w.cell? ⟨B, 7, none⟩ = some h :=
  ⟨cell_of_row _ _ 0 _ _ _ hh, cell_of_row _ _ 1 _ _ _ hh, cell_of_row _ _ 2 _ _ _ hh, cell_of_row _ _ 3 _ _ _ hh, cell_of_row _ _ 4 _ _ _ hh, cell_of_row _ _ 5 _ _ _ hh, cell_of_row _ _ 6 _ _ _ hh, cell_of_row _ _ 7 _ _ _ hh⟩
def OddV (w : World) (e : Ending) (w' : World) : Prop := ∃ v : Value, e = .returned v ∧ (C.odd v).Ok ∧ Below w.heap.size w w'
set_option maxHeartbeats 2000000 in
set_option maxRecDepth 100000 in
theorem oddV_any (n : Int) (w : World) (h1 : -9223372036854775808 ≤ n) (h2 : n ≤ 9223372036854775807) : Calls Tryz.prog 40 #[.int .i64 n] w (OddV w) := by
  obtain ⟨q, hq⟩ : ∃ q : Nat, n % 9 = q := ⟨(n % 9).toNat, by omega⟩
  have hq9 : q = 0 ∨ q = 1 ∨ q = 2 ∨ q = 3 ∨ q = 4 ∨ q = 5 ∨ q = 6 ∨ q = 7 ∨ q = 8 := by omega
  have hmm := @run_makeMap Tryz.prog
  go_enter Tryz.func40, Tryz.ntmps40
  go_wp2_with fail
  refine calls_same (within_any _ 9 _ (by omega) (by omega) h1 h2) ?_
  rw [hq]
  clear h1 h2 hq
  rcases hq9 with rfl | rfl | rfl | rfl | rfl | rfl | rfl | rfl | rfl
  all_goals
    go_wp2_with fail
    go_ret
    first
      | exact ⟨.nilIface, rfl, .inl rfl, by repeat first | exact Below.refl _ _ | refine below_alloc ?_ _⟩
      | exact ⟨.iface _ _, rfl, strangeC_of _ _ (by decide) (by decide) (by decide) (by decide) (by decide) (by decide) (by decide) (by decide), by repeat first | exact Below.refl _ _ | refine below_alloc ?_ _⟩
structure Ev.Turned (e : Ev) : Prop where
  ok : e.Ok
  i : e.i.size ≤ 1000
  n : e.n.size ≤ 1000
  l : e.l.size ≤ 1000
  u : e.u.size ≤ 1000
  w : e.t.weight ≤ 1000
theorem made_with {e : Ev} (h : e.Made) {k d v : Int} {i n l u : ByteArray} (hk : -9223372036854775808 ≤ k ∧ k ≤ 9223372036854775807) (hd : -9223372036854775808 ≤ d ∧ d ≤ 9223372036854775807) (hv : -9223372036854775808 ≤ v ∧ v ≤ 9223372036854775807) (hi : i.size ≤ 1000) (hn : n.size ≤ 1000) (hl : l.size ≤ 1000) (hu : u.size ≤ 1000) : (Ev.mk k i n l u d v e.t).Made :=
  ⟨⟨hk.1, hk.2, hd.1, hd.2, hv.1, hv.2, Nat.le_trans hi (by decide), Nat.le_trans hn (by decide), Nat.le_trans hl (by decide), Nat.le_trans hu (by decide), h.ok.t, h.ok.w⟩, hi, hn, hl, hu, h.t⟩
def SmEnd (w : World) (M : Nat) (W : World) : Prop := ∃ (e : Ev) (ka : Option Addr) (kc : Nat), e.Made ∧ SmSt w M (e.rcs ka kc) W ∧ TIn W 0 (plainC e.t) (.agg (four (plainC e.t) ka kc))

theorem results_cct {P : Program} {fn : Func} {p q s : Tmp} {ty tz : TypeId} (h : fn.results = #[.cell p ty, .cell q tz, .tmp s]) (tmps : Array Value) (w : World) (g g2 : Nat) (t t2 : TypeId) (cs cs2 : Array Value) (fr fr2 : Nat × Nat) (d d2 : TypeDesc)
    (hp : tmps.getD p undef = .pointer (some ⟨g, 0, none⟩)) (hg : w.heap[g]? = some (.cells cs t fr))
    (hu : P.underlying ty = some d) (hd : (match d with | .struct _ | .array _ _ => true | _ => false) = true) (hi : (P.info? ty).map (·.size) = some cs.size)
    (hp2 : tmps.getD q undef = .pointer (some ⟨g2, 0, none⟩)) (hg2 : w.heap[g2]? = some (.cells cs2 t2 fr2))
    (hu2 : P.underlying tz = some d2) (hd2 : (match d2 with | .struct _ | .array _ _ => true | _ => false) = true) (hi2 : (P.info? tz).map (·.size) = some cs2.size) :
    (results fn tmps).run P w = .ok (.tuple #[.agg cs, .agg cs2, tmps.getD s undef]) w := by
  have hp' : tmps[p]?.getD undef = .pointer (some ⟨g, 0, none⟩) := by simpa using hp
  have hp2' : tmps[q]?.getD undef = .pointer (some ⟨g2, 0, none⟩) := by simpa using hp2
  simp [results, h, hp', hp2', asAddr, run_loadVar_row w g t ty cs fr d hg hu hd hi, run_loadVar_row w g2 t2 tz cs2 fr2 d2 hg2 hu2 hd2 hi2]
set_option maxHeartbeats 16000000 in
set_option maxRecDepth 100000 in
theorem some11_any (c : Cm) (field vv : Int) (s : ByteArray) (odd : Int) (w : World) (hc : c.In w) (hf1 : -9223372036854775808 ≤ field) (hf2 : field ≤ 9223372036854775807) (hv1 : -9223372036854775808 ≤ vv) (hv2 : vv ≤ 9223372036854775807) (hs : s.size ≤ maxLen) (ho1 : -9223372036854775808 ≤ odd) (ho2 : odd ≤ 9223372036854775807) :
    Calls Tryz.prog 8 #[.agg c.cs, .int .i64 field, .int .i64 vv, .string s, .int .i64 odd] w fun x w' => ∃ (e : Ev) (r : Value) (is : Bool), x = .returned (.tuple #[e.val, r, .bool is]) ∧ e.Turned ∧ RIn w' 0 e r ∧ (is = false → e.t = none' ∨ e.t.whole) ∧ (is = true → nilB e.t = false ∧ plainC e.t = .mk 0 ⟨#[]⟩ 0 []) ∧ (is = true → odd.tmod 11 = 10) ∧ Below w.heap.size w w' := by
  have HDO := hidIn (fun (W : World) (h : Below w.heap.size w W) => do_any c W ⟨hc.k1, hc.k2, hc.a1, hc.a2, hc.b1, hc.b2, hc.d1, hc.d2, hc.v1, hc.v2, hc.s, hc.p.below h⟩)
  have HWF := hidIn (fun W : World => within_any field 20 W (by omega) (by omega) hf1 hf2)
  have HW9 := hidIn (fun W : World => within_any vv 9 W (by omega) (by omega) hv1 hv2)
  have HTX := hidIn (fun W : World => text_any s 16 W hs (by omega))
  have HV1 := hidIn hv1
  have HV2 := hidIn hv2
  clear hc hf1 hf2 hs
  unfold Cm.cs DoPost RIn at HDO
  unfold Cm.cs
  go_enter Tryz.func8, Tryz.ntmps8
  go_wp2_with fail
  rw [show w.heap.size + 1 + 1 = w.heap.size + 2 from rfl]
  have HVB : Hid (Below w.heap.size w (((w.alloc (.cells #[.int .i64 c.k, .int .i64 c.a, .int .i64 c.b, .int .i64 c.d, .int .i64 c.v, .string c.s, .slice c.p.na c.p.nl c.p.nc, .slice c.p.wa c.p.wl c.p.wc] 27)).alloc (.cells #[.int .i64 0, .string ⟨#[]⟩, .string ⟨#[]⟩, .string ⟨#[]⟩, .string ⟨#[]⟩, .int .i64 0, .int .i64 0, .nilIface] 30)).alloc (.cells #[.int .i64 0, .string ⟨#[]⟩, .string ⟨#[]⟩, .string ⟨#[]⟩, .string ⟨#[]⟩, .int .i64 0, .int .i64 0, .int .i64 0, .string ⟨#[]⟩, .int .i64 0, .slice none 0 0] 35))) := below_alloc (below_alloc (below_alloc (Below.refl _ _) _) _) _
  have HVP : Hid ((((w.alloc (.cells #[.int .i64 c.k, .int .i64 c.a, .int .i64 c.b, .int .i64 c.d, .int .i64 c.v, .string c.s, .slice c.p.na c.p.nl c.p.nc, .slice c.p.wa c.p.wl c.p.wc] 27)).alloc (.cells #[.int .i64 0, .string ⟨#[]⟩, .string ⟨#[]⟩, .string ⟨#[]⟩, .string ⟨#[]⟩, .int .i64 0, .int .i64 0, .nilIface] 30)).alloc (.cells #[.int .i64 0, .string ⟨#[]⟩, .string ⟨#[]⟩, .string ⟨#[]⟩, .string ⟨#[]⟩, .int .i64 0, .int .i64 0, .int .i64 0, .string ⟨#[]⟩, .int .i64 0, .slice none 0 0] 35)).heap[w.heap.size + 1]? = some (.cells #[.int .i64 0, .string ⟨#[]⟩, .string ⟨#[]⟩, .string ⟨#[]⟩, .string ⟨#[]⟩, .int .i64 0, .int .i64 0, .nilIface] 30)) := by
    refine heap_keeps ?_ _
    have h := heap_alloc_new (w.alloc (.cells #[.int .i64 c.k, .int .i64 c.a, .int .i64 c.b, .int .i64 c.d, .int .i64 c.v, .string c.s, .slice c.p.na c.p.nl c.p.nc, .slice c.p.wa c.p.wl c.p.wc] 27)) (.cells #[.int .i64 0, .string ⟨#[]⟩, .string ⟨#[]⟩, .string ⟨#[]⟩, .string ⟨#[]⟩, .int .i64 0, .int .i64 0, .nilIface] 30)
    rwa [show (w.alloc (.cells #[.int .i64 c.k, .int .i64 c.a, .int .i64 c.b, .int .i64 c.d, .int .i64 c.v, .string c.s, .slice c.p.na c.p.nl c.p.nc, .slice c.p.wa c.p.wl c.p.wc] 27)).heap.size = w.heap.size + 1 by simp] at h
  have HVR : Hid ((((w.alloc (.cells #[.int .i64 c.k, .int .i64 c.a, .int .i64 c.b, .int .i64 c.d, .int .i64 c.v, .string c.s, .slice c.p.na c.p.nl c.p.nc, .slice c.p.wa c.p.wl c.p.wc] 27)).alloc (.cells #[.int .i64 0, .string ⟨#[]⟩, .string ⟨#[]⟩, .string ⟨#[]⟩, .string ⟨#[]⟩, .int .i64 0, .int .i64 0, .nilIface] 30)).alloc (.cells #[.int .i64 0, .string ⟨#[]⟩, .string ⟨#[]⟩, .string ⟨#[]⟩, .string ⟨#[]⟩, .int .i64 0, .int .i64 0, .int .i64 0, .string ⟨#[]⟩, .int .i64 0, .slice none 0 0] 35)).heap[w.heap.size + 2]? = some (.cells zero11 35)) := alloc_2e _ _ _ _
  have HVZ : Hid ((((w.alloc (.cells #[.int .i64 c.k, .int .i64 c.a, .int .i64 c.b, .int .i64 c.d, .int .i64 c.v, .string c.s, .slice c.p.na c.p.nl c.p.nc, .slice c.p.wa c.p.wl c.p.wc] 27)).alloc (.cells #[.int .i64 0, .string ⟨#[]⟩, .string ⟨#[]⟩, .string ⟨#[]⟩, .string ⟨#[]⟩, .int .i64 0, .int .i64 0, .nilIface] 30)).alloc (.cells #[.int .i64 0, .string ⟨#[]⟩, .string ⟨#[]⟩, .string ⟨#[]⟩, .string ⟨#[]⟩, .int .i64 0, .int .i64 0, .int .i64 0, .string ⟨#[]⟩, .int .i64 0, .slice none 0 0] 35)).heap.size = w.heap.size + 3) := by unfold Hid; simp
  generalize ((w.alloc (.cells #[.int .i64 c.k, .int .i64 c.a, .int .i64 c.b, .int .i64 c.d, .int .i64 c.v, .string c.s, .slice c.p.na c.p.nl c.p.nc, .slice c.p.wa c.p.wl c.p.wc] 27)).alloc (.cells #[.int .i64 0, .string ⟨#[]⟩, .string ⟨#[]⟩, .string ⟨#[]⟩, .string ⟨#[]⟩, .int .i64 0, .int .i64 0, .nilIface] 30)).alloc (.cells #[.int .i64 0, .string ⟨#[]⟩, .string ⟨#[]⟩, .string ⟨#[]⟩, .string ⟨#[]⟩, .int .i64 0, .int .i64 0, .int .i64 0, .string ⟨#[]⟩, .int .i64 0, .slice none 0 0] 35) = V at *
  refine (HDO.out V HVB.out).mono ?_
  rintro e w1 ⟨e1, v1, rfl, hm, ⟨ka, kc, rfl, ht⟩, hb⟩
  obtain ⟨k, i, n, l, u, d, v, t⟩ := e1
  simp only at ht hm ⊢
  have HM := hidIn hm
  have HTI := hidIn ht
  have HSM : Hid (∀ x : Array Value, SmSt w w1.heap.size x (w1.alloc (.cells x 35))) := fun x =>
    ⟨heap_keeps ((hb.block _ (Array.getElem?_eq_some_iff.1 HVP.out).1).trans HVP.out) _, heap_keeps ((hb.block _ (Array.getElem?_eq_some_iff.1 HVR.out).1).trans HVR.out) _, heap_alloc_new _ _, below_alloc (HVB.out.trans (hb.mono HVB.out.size)) _, by have h1 := hb.size; have h2 := HVZ.out; omega⟩
  clear hm ht hb HDO
  go_wp2_with fail
  refine calls_same (HWF.out _) ?_
  obtain ⟨q, hq⟩ : ∃ q : Nat, field % 20 = q := ⟨(field % 20).toNat, by omega⟩
  rw [hq]
  clear hq HWF
  go_upto_block 0 with fail
  go_cut [20] (fun s20 wx => SmEnd w w1.heap.size wx)
  case first =>
    have f0 : ∀ j, (w1.alloc (.cells #[.int .i64 k, .string i, .string n, .string l, .string u, .int .i64 d, .int .i64 v, .int .i64 (plainC t).kind, .string (plainC t).s, .int .i64 (plainC t).n, .slice ka (plainC t).k.length kc] 35)).frozen? ⟨w1.heap.size, j, none⟩ = false := fun j => frozen_of_row _ _ _ _ _ (HSM.out _).e
    rcases (by omega : q = 0 ∨ q = 1 ∨ q = 2 ∨ q = 3 ∨ q = 4 ∨ q = 5 ∨ q = 6 ∨ 7 ≤ q) with hq | hq | hq | hq | hq | hq | hq | hq
    · have b0 : ((q : Int) == 0) = true := by subst hq; rfl
      clear hq
      go_wp2_with fail
      refine calls_same (HW9.out _) ?_
      go_wp2_with fail
      go_meet
      case rel => exact ⟨⟨vv % 9, i, n, l, u, d, v, t⟩, ka, kc, made_with HM.out (by omega) ⟨HM.out.ok.d1, HM.out.ok.d2⟩ ⟨HM.out.ok.v1, HM.out.ok.v2⟩ HM.out.i HM.out.n HM.out.l HM.out.u, HSM.out _, TIn.below HTI.out (below_alloc (Below.refl _ _) _)⟩
    · have b0 : ((q : Int) == 0) = false := by rw [beq_eq_false_iff_ne]; omega
      have b1 : ((q : Int) == 1) = true := by subst hq; rfl
      clear hq
      go_wp2_with fail
      refine calls_same (HTX.out _) ?_
      go_wp2_with fail
      go_meet
      case rel => exact ⟨⟨k, cutTo s 16, n, l, u, d, v, t⟩, ka, kc, made_with HM.out ⟨HM.out.ok.k1, HM.out.ok.k2⟩ ⟨HM.out.ok.d1, HM.out.ok.d2⟩ ⟨HM.out.ok.v1, HM.out.ok.v2⟩ (Nat.le_trans (cutTo_size _ _) (by omega)) HM.out.n HM.out.l HM.out.u, HSM.out _, TIn.below HTI.out (below_alloc (Below.refl _ _) _)⟩
    · have b0 : ((q : Int) == 0) = false := by rw [beq_eq_false_iff_ne]; omega
      have b1 : ((q : Int) == 1) = false := by rw [beq_eq_false_iff_ne]; omega
      have b2 : ((q : Int) == 2) = true := by subst hq; rfl
      clear hq
      go_wp2_with fail
      refine calls_same (HTX.out _) ?_
      go_wp2_with fail
      go_meet
      case rel => exact ⟨⟨k, i, cutTo s 16, l, u, d, v, t⟩, ka, kc, made_with HM.out ⟨HM.out.ok.k1, HM.out.ok.k2⟩ ⟨HM.out.ok.d1, HM.out.ok.d2⟩ ⟨HM.out.ok.v1, HM.out.ok.v2⟩ HM.out.i (Nat.le_trans (cutTo_size _ _) (by omega)) HM.out.l HM.out.u, HSM.out _, TIn.below HTI.out (below_alloc (Below.refl _ _) _)⟩
    · have b0 : ((q : Int) == 0) = false := by rw [beq_eq_false_iff_ne]; omega
      have b1 : ((q : Int) == 1) = false := by rw [beq_eq_false_iff_ne]; omega
      have b2 : ((q : Int) == 2) = false := by rw [beq_eq_false_iff_ne]; omega
      have b3 : ((q : Int) == 3) = true := by subst hq; rfl
      clear hq
      go_wp2_with fail
      refine calls_same (HTX.out _) ?_
      go_wp2_with fail
      go_meet
      case rel => exact ⟨⟨k, i, n, cutTo s 16, u, d, v, t⟩, ka, kc, made_with HM.out ⟨HM.out.ok.k1, HM.out.ok.k2⟩ ⟨HM.out.ok.d1, HM.out.ok.d2⟩ ⟨HM.out.ok.v1, HM.out.ok.v2⟩ HM.out.i HM.out.n (Nat.le_trans (cutTo_size _ _) (by omega)) HM.out.u, HSM.out _, TIn.below HTI.out (below_alloc (Below.refl _ _) _)⟩
    · have b0 : ((q : Int) == 0) = false := by rw [beq_eq_false_iff_ne]; omega
      have b1 : ((q : Int) == 1) = false := by rw [beq_eq_false_iff_ne]; omega
      have b2 : ((q : Int) == 2) = false := by rw [beq_eq_false_iff_ne]; omega
      have b3 : ((q : Int) == 3) = false := by rw [beq_eq_false_iff_ne]; omega
      have b4 : ((q : Int) == 4) = true := by subst hq; rfl
      clear hq
      go_wp2_with fail
      refine calls_same (HTX.out _) ?_
      go_wp2_with fail
      go_meet
      case rel => exact ⟨⟨k, i, n, l, cutTo s 16, d, v, t⟩, ka, kc, made_with HM.out ⟨HM.out.ok.k1, HM.out.ok.k2⟩ ⟨HM.out.ok.d1, HM.out.ok.d2⟩ ⟨HM.out.ok.v1, HM.out.ok.v2⟩ HM.out.i HM.out.n HM.out.l (Nat.le_trans (cutTo_size _ _) (by omega)), HSM.out _, TIn.below HTI.out (below_alloc (Below.refl _ _) _)⟩
    · have b0 : ((q : Int) == 0) = false := by rw [beq_eq_false_iff_ne]; omega
      have b1 : ((q : Int) == 1) = false := by rw [beq_eq_false_iff_ne]; omega
      have b2 : ((q : Int) == 2) = false := by rw [beq_eq_false_iff_ne]; omega
      have b3 : ((q : Int) == 3) = false := by rw [beq_eq_false_iff_ne]; omega
      have b4 : ((q : Int) == 4) = false := by rw [beq_eq_false_iff_ne]; omega
      have b5 : ((q : Int) == 5) = true := by subst hq; rfl
      clear hq
      go_wp2_with fail
      go_meet
      case rel => exact ⟨⟨k, i, n, l, u, vv, v, t⟩, ka, kc, made_with HM.out ⟨HM.out.ok.k1, HM.out.ok.k2⟩ ⟨HV1.out, HV2.out⟩ ⟨HM.out.ok.v1, HM.out.ok.v2⟩ HM.out.i HM.out.n HM.out.l HM.out.u, HSM.out _, TIn.below HTI.out (below_alloc (Below.refl _ _) _)⟩
    · have b0 : ((q : Int) == 0) = false := by rw [beq_eq_false_iff_ne]; omega
      have b1 : ((q : Int) == 1) = false := by rw [beq_eq_false_iff_ne]; omega
      have b2 : ((q : Int) == 2) = false := by rw [beq_eq_false_iff_ne]; omega
      have b3 : ((q : Int) == 3) = false := by rw [beq_eq_false_iff_ne]; omega
      have b4 : ((q : Int) == 4) = false := by rw [beq_eq_false_iff_ne]; omega
      have b5 : ((q : Int) == 5) = false := by rw [beq_eq_false_iff_ne]; omega
      have b6 : ((q : Int) == 6) = true := by subst hq; rfl
      clear hq
      go_wp2_with fail
      go_meet
      case rel => exact ⟨⟨k, i, n, l, u, d, vv, t⟩, ka, kc, made_with HM.out ⟨HM.out.ok.k1, HM.out.ok.k2⟩ ⟨HM.out.ok.d1, HM.out.ok.d2⟩ ⟨HV1.out, HV2.out⟩ HM.out.i HM.out.n HM.out.l HM.out.u, HSM.out _, TIn.below HTI.out (below_alloc (Below.refl _ _) _)⟩
    · have b0 : ((q : Int) == 0) = false := by rw [beq_eq_false_iff_ne]; omega
      have b1 : ((q : Int) == 1) = false := by rw [beq_eq_false_iff_ne]; omega
      have b2 : ((q : Int) == 2) = false := by rw [beq_eq_false_iff_ne]; omega
      have b3 : ((q : Int) == 3) = false := by rw [beq_eq_false_iff_ne]; omega
      have b4 : ((q : Int) == 4) = false := by rw [beq_eq_false_iff_ne]; omega
      have b5 : ((q : Int) == 5) = false := by rw [beq_eq_false_iff_ne]; omega
      have b6 : ((q : Int) == 6) = false := by rw [beq_eq_false_iff_ne]; omega
      clear hq
      go_wp2_with fail
      go_meet
      case rel => exact ⟨⟨k, i, n, l, u, d, v, t⟩, ka, kc, HM.out, HSM.out _, TIn.below HTI.out (below_alloc (Below.refl _ _) _)⟩
  case rest =>
    obtain ⟨e2, ka2, kc2, hm, hsm, ht⟩ := hcut
    generalize wc = w2 at *
    have HM2 := hidIn hm
    have HTI2 := hidIn ht
    have HBK := hidIn (back_any e2 (by rcases hm.t with h | h; exact .inl h; exact .inr h.1) w2 _ ⟨ka2, kc2, rfl, ht⟩)
    obtain ⟨nb, -, hv⟩ := nil_runs e2.t hm.ok.t
    obtain ⟨k2, i2, n2, l2, u2, d2, v2, t2⟩ := e2
    have HS2 := hidIn hsm
    clear hm ht hsm HM HTI HSM
    unfold Ev.val Ev.cs at HBK
    simp only at HBK hv
    generalize htv : t2.val = tv at *
    have HTV := hidIn htv
    clear htv
    have HC := HS2.out.e
    unfold Ev.rcs at HC
    simp only at HC
    have y0 := cell_of_row _ _ 0 _ _ _ HC
    have y1 := cell_of_row _ _ 1 _ _ _ HC
    have y2 := cell_of_row _ _ 2 _ _ _ HC
    have y3 := cell_of_row _ _ 3 _ _ _ HC
    have y4 := cell_of_row _ _ 4 _ _ _ HC
    have y5 := cell_of_row _ _ 5 _ _ _ HC
    have y6 := cell_of_row _ _ 6 _ _ _ HC
    have y7 := cell_of_row _ _ 7 _ _ _ HC
    have y8 := cell_of_row _ _ 8 _ _ _ HC
    have y9 := cell_of_row _ _ 9 _ _ _ HC
    have y10 := cell_of_row _ _ 10 _ _ _ HC
    go_wp2_with fail
    refine HBK.out.mono ?_
    rintro e w3 ⟨rfl, hb3⟩
    clear y0 y1 y2 y3 y4 y5 y6 y7 y8 y9 y10 HC
    rcases hv with ⟨-, rfl⟩ | ⟨-, xt, xv, rfl⟩
    · have HS3 : Hid (SmSt w w1.heap.size (Ev.rcs ⟨k2, i2, n2, l2, u2, d2, v2, t2⟩ ka2 kc2) w3) := HS2.out.below hb3
      clear hb3
      cases hod : (odd.tmod 11 == 10)
      · go_upto_region 22 with fail
        have HEV := hidIn (event_any ⟨k2, i2, n2, l2, u2, d2, v2, t2⟩ HM2.out.ok.t)
        unfold Ev.val Ev.cs RIn at HEV
        simp only at HEV
        rw [HTV.out] at HEV
        have HP9 : Hid ((w3.alloc (.cells #[.int .i64 k2, .string i2, .string n2, .string l2, .string u2, .int .i64 d2, .int .i64 v2, .nilIface] 30)).heap[w.heap.size + 1]? = some (.cells #[.int .i64 0, .string ⟨#[]⟩, .string ⟨#[]⟩, .string ⟨#[]⟩, .string ⟨#[]⟩, .int .i64 0, .int .i64 0, .nilIface] 30)) := heap_keeps HS3.out.p _
        have HR9 : Hid ((w3.alloc (.cells #[.int .i64 k2, .string i2, .string n2, .string l2, .string u2, .int .i64 d2, .int .i64 v2, .nilIface] 30)).heap[w.heap.size + 2]? = some (.cells zero11 35)) := heap_keeps HS3.out.r _
        have HA : Hid ((w3.alloc (.cells #[.int .i64 k2, .string i2, .string n2, .string l2, .string u2, .int .i64 d2, .int .i64 v2, .nilIface] 30)).heap[w3.heap.size]? = some (.cells #[.int .i64 k2, .string i2, .string n2, .string l2, .string u2, .int .i64 d2, .int .i64 v2, .nilIface] 30)) := heap_alloc_new _ _
        have HB9 : Hid (Below w.heap.size w (w3.alloc (.cells #[.int .i64 k2, .string i2, .string n2, .string l2, .string u2, .int .i64 d2, .int .i64 v2, .nilIface] 30))) := below_alloc HS3.out.b _
        have HNB : Hid (w3.heap.size ≠ w.heap.size + 1 ∧ w3.heap.size ≠ w.heap.size + 2) := by have h1 := (Array.getElem?_eq_some_iff.1 HS3.out.e).1; have h2 := HS3.out.m; exact ⟨by omega, by omega⟩
        have HZ9 : Hid (w.heap.size + 3 ≤ (w3.alloc (.cells #[.int .i64 k2, .string i2, .string n2, .string l2, .string u2, .int .i64 d2, .int .i64 v2, .nilIface] 30)).heap.size) := by have h1 := (Array.getElem?_eq_some_iff.1 HS3.out.e).1; have h2 := HS3.out.m; unfold Hid; simp; omega
        generalize w3.alloc (.cells #[.int .i64 k2, .string i2, .string n2, .string l2, .string u2, .int .i64 d2, .int .i64 v2, .nilIface] 30) = W9 at *
        refine Mx.wp_region_mix (fun W => W.heap[w3.heap.size]? = some (.cells #[.int .i64 k2, .string i2, .string n2, .string l2, .string u2, .int .i64 d2, .int .i64 v2, .nilIface] 30)) [(0, false), (1, false), (3, false), (2, true), (4, true), (5, true), (6, true)] (by kernel_rfl) (by kernel_rfl) HA.out ?_ (by kernel_rfl)
        simp only [List.map_cons, List.map_nil, List.getD_cons_zero, List.getD_cons_succ]
        generalize hops : (#[_, _, _, _, _, _, _] : Array Oper) = ops
        clear hops
        refine Mx.m_pure (.agg #[.int .i64 k2, .string i2, .string n2, .string l2, .string u2, .int .i64 d2, .int .i64 v2, .nilIface]) (Mx.wanted_none rfl) (fun W hW => ?_) ?_
        · obtain ⟨z0, z1, z2, z3, z4, z5, z6, z7⟩ := cells8e hW
          go_simp
        simp only [Act.put, List.setIfInBounds_toArray, List.set_cons_zero, List.set_cons_succ]
        refine Mx.m_pure (.agg #[.int .i64 k2, .string i2, .string n2, .string l2, .string u2, .int .i64 d2, .int .i64 v2, .nilIface]) (Mx.wanted_none rfl) (fun W hW => ?_) ?_
        · obtain ⟨z0, z1, z2, z3, z4, z5, z6, z7⟩ := cells8e hW
          go_simp
        simp only [Act.put, List.setIfInBounds_toArray, List.set_cons_zero, List.set_cons_succ]
        refine Mx.m_pure (.bool false) (Mx.wanted_none rfl) (fun W hW => ?_) ?_
        · go_simp
        simp only [Act.put, List.setIfInBounds_toArray, List.set_cons_zero, List.set_cons_succ]
        refine Mx.m_call 37 #[.agg #[.int .i64 k2, .string i2, .string n2, .string l2, .string u2, .int .i64 d2, .int .i64 v2, .nilIface]] (Mx.wanted_none rfl) ?_ ?_
        · go_simp
        refine (HEV.out W9.drew).mono ?_
        rintro e w4 ⟨r4, rfl, ⟨ka4, kc4, rfl, ht4⟩, hb4⟩
        have HT4 := hidIn ht4
        have HB4 := hidIn (HB9.out.trans ((show Below W9.heap.size W9 w4 from ⟨hb4.os, hb4.tape, hb4.output, hb4.size, hb4.block⟩).mono HB9.out.size))
        have HA4 : Hid (w4.heap[w3.heap.size]? = some (.cells #[.int .i64 k2, .string i2, .string n2, .string l2, .string u2, .int .i64 d2, .int .i64 v2, .nilIface] 30)) := (hb4.block _ (Array.getElem?_eq_some_iff.1 HA.out).1).trans HA.out
        have HP4 : Hid (w4.heap[w.heap.size + 1]? = some (.cells #[.int .i64 0, .string ⟨#[]⟩, .string ⟨#[]⟩, .string ⟨#[]⟩, .string ⟨#[]⟩, .int .i64 0, .int .i64 0, .nilIface] 30)) := (hb4.block _ (Array.getElem?_eq_some_iff.1 HP9.out).1).trans HP9.out
        have HR4 : Hid (w4.heap[w.heap.size + 2]? = some (.cells zero11 35)) := (hb4.block _ (Array.getElem?_eq_some_iff.1 HR9.out).1).trans HR9.out
        clear ht4 hb4
        refine ⟨_, rfl, HA4.out, ?_⟩
        simp only [Act.put, List.setIfInBounds_toArray, List.set_cons_zero, List.set_cons_succ]
        refine m_skip11 (Mx.wanted_none rfl) (store_row_run 30 (.tmp 10) (.tmp 65) rfl (w.heap.size + 1) #[.int .i64 k2, .string i2, .string n2, .string l2, .string u2, .int .i64 d2, .int .i64 v2, .nilIface] rfl rfl _ _ HP4.out infoA rfl (by first | rfl | simp [Value.oneCell'])) ((setRow_other _ _ _ _ HNB.out.1).trans HA4.out) ?_
        simp only [Act.put]
        refine m_skip11 (Mx.wanted_none rfl) (store_row_run 35 (.tmp 11) (.tmp 67) rfl (w.heap.size + 2) _ rfl rfl _ _ ((setRow_other _ _ _ _ (by omega)).trans HR4.out) infoE rfl (by first | rfl | simp [Value.oneCell'])) ((setRow_other _ _ _ _ HNB.out.2).trans ((setRow_other _ _ _ _ HNB.out.1).trans HA4.out)) ?_
        simp only [Act.put]
        refine Mx.m_run (w' := (w4.setRow (w.heap.size + 1) #[.int .i64 k2, .string i2, .string n2, .string l2, .string u2, .int .i64 d2, .int .i64 v2, .nilIface]).setRow (w.heap.size + 2) #[.int .i64 k2, .string i2, .string n2, .string l2, .string u2, .int .i64 d2, .int .i64 v2, .int .i64 (plainC t2).kind, .string (plainC t2).s, .int .i64 (plainC t2).n, .slice ka4 (plainC t2).k.length kc4]) (.bool false) (Mx.wanted_none rfl) ?_ ((setRow_other _ _ _ _ HNB.out.2).trans ((setRow_other _ _ _ _ HNB.out.1).trans HA4.out)) ?_
        · go_simp
        simp only [Act.put, List.setIfInBounds_toArray, List.set_cons_zero, List.set_cons_succ]
        refine Mx.m_nil (fun _ => ?_)
        go_wp2_with fail
        refine bodyPost_ret (results_cct rfl _ _ (w.heap.size + 1) (w.heap.size + 2) 30 35 #[.int .i64 k2, .string i2, .string n2, .string l2, .string u2, .int .i64 d2, .int .i64 v2, .nilIface] _ (0, 0) (0, 0) _ _ rfl ((setRow_other _ _ _ _ (by omega)).trans (setRow_heap _ _ _ _ _ _ HP4.out)) Tryz.underlying30 rfl infoA rfl (setRow_heap _ _ _ _ _ _ ((setRow_other _ _ _ _ (by omega)).trans HR4.out)) Tryz.underlying35 rfl infoE) rfl ?_
        exact ⟨⟨k2, i2, n2, l2, u2, d2, v2, t2⟩, _, false, by rw [show (Ev.mk k2 i2 n2 l2 u2 d2 v2 t2).val = .agg #[.int .i64 k2, .string i2, .string n2, .string l2, .string u2, .int .i64 d2, .int .i64 v2, .nilIface] from by unfold Ev.val Ev.cs; simp only; rw [HTV.out]]; rfl, ⟨HM2.out.ok, HM2.out.i, HM2.out.n, HM2.out.l, HM2.out.u, by rcases HM2.out.t with h | h; (rw [h]; decide); exact Nat.le_trans h.2 (by omega)⟩, ⟨ka4, kc4, rfl, trow11 (trow11 HT4.out _ (show w.heap.size + 1 < W9.heap.size by have := HZ9.out; omega) (Nat.le_refl _)) _ (show w.heap.size + 2 < W9.heap.size by have := HZ9.out; omega) (Nat.zero_le _)⟩, (fun _ => by rcases HM2.out.t with h | h; exact .inl h; exact .inr h.1), (fun h => by cases h), (fun h => by cases h), row_below (row_below HB4.out (by omega) _) (by omega) _⟩
      · have hdv := tdiv_in odd 11 (by omega) ho1 ho2
        have hwr : IntKind.i64.wrap (odd.tdiv 11) = odd.tdiv 11 := wrap_small _ hdv.1 hdv.2
        have HOD := hidIn (fun W => oddV_any (odd.tdiv 11) W hdv.1 hdv.2)
        clear hdv
        have HW4 : Hid (Below w.heap.size w (w3.alloc (.cells #[.int .i64 k2, .string i2, .string n2, .string l2, .string u2, .int .i64 d2, .int .i64 v2, .nilIface] 30))) := below_alloc HS3.out.b _
        have HP4 : Hid ((w3.alloc (.cells #[.int .i64 k2, .string i2, .string n2, .string l2, .string u2, .int .i64 d2, .int .i64 v2, .nilIface] 30)).heap[w.heap.size + 1]? = some (.cells #[.int .i64 0, .string ⟨#[]⟩, .string ⟨#[]⟩, .string ⟨#[]⟩, .string ⟨#[]⟩, .int .i64 0, .int .i64 0, .nilIface] 30)) := heap_keeps HS3.out.p _
        have HR4 : Hid ((w3.alloc (.cells #[.int .i64 k2, .string i2, .string n2, .string l2, .string u2, .int .i64 d2, .int .i64 v2, .nilIface] 30)).heap[w.heap.size + 2]? = some (.cells zero11 35)) := heap_keeps HS3.out.r _
        have HE4 : Hid ((w3.alloc (.cells #[.int .i64 k2, .string i2, .string n2, .string l2, .string u2, .int .i64 d2, .int .i64 v2, .nilIface] 30)).heap[w3.heap.size]? = some (.cells #[.int .i64 k2, .string i2, .string n2, .string l2, .string u2, .int .i64 d2, .int .i64 v2, .nilIface] 30)) := heap_alloc_new _ _
        have HZ4 : Hid (w.heap.size + 3 ≤ w3.heap.size) := by have h1 := (Array.getElem?_eq_some_iff.1 HS3.out.e).1; have h2 := HS3.out.m; unfold Hid; omega
        go_wp2_with fail
        generalize w3.alloc (.cells #[.int .i64 k2, .string i2, .string n2, .string l2, .string u2, .int .i64 d2, .int .i64 v2, .nilIface] 30) = w4 at *
        refine (HOD.out w4).mono ?_
        rintro e w5 ⟨ov, rfl, hov, hb5⟩
        have HOV := hidIn hov
        have HP5 : Hid (w5.heap[w.heap.size + 1]? = some (.cells #[.int .i64 0, .string ⟨#[]⟩, .string ⟨#[]⟩, .string ⟨#[]⟩, .string ⟨#[]⟩, .int .i64 0, .int .i64 0, .nilIface] 30)) := (hb5.block _ (Array.getElem?_eq_some_iff.1 HP4.out).1).trans HP4.out
        have HR5 : Hid (w5.heap[w.heap.size + 2]? = some (.cells zero11 35)) := (hb5.block _ (Array.getElem?_eq_some_iff.1 HR4.out).1).trans HR4.out
        have HE5 : Hid (w5.heap[w3.heap.size]? = some (.cells #[.int .i64 k2, .string i2, .string n2, .string l2, .string u2, .int .i64 d2, .int .i64 v2, .nilIface] 30)) := (hb5.block _ (Array.getElem?_eq_some_iff.1 HE4.out).1).trans HE4.out
        have HB5 := hidIn (HW4.out.trans (hb5.mono HW4.out.size))
        have HZ5 : Hid (w3.heap.size < w5.heap.size) := (Array.getElem?_eq_some_iff.1 HE5.out).1
        clear hb5 HW4 HP4 HR4 HE4 HOD hwr
        have ff : w5.frozen? ⟨w3.heap.size, 7, none⟩ = false := frozen_of_row _ _ _ _ _ HE5.out
        have fc := cell_of_row _ _ 7 _ _ _ HE5.out
        rcases hov with rfl | ⟨ot, ox, rfl, hno⟩
        · go_upto_region 22 with fail
          have HEV := hidIn (event_any ⟨k2, i2, n2, l2, u2, d2, v2, (.odd (.nilIface))⟩ HOV.out)
          unfold Ev.val Ev.cs RIn at HEV
          simp only at HEV
          have HP9 : Hid ((w5.setCell ⟨w3.heap.size, 7, none⟩ (.nilIface)).heap[w.heap.size + 1]? = some (.cells #[.int .i64 0, .string ⟨#[]⟩, .string ⟨#[]⟩, .string ⟨#[]⟩, .string ⟨#[]⟩, .int .i64 0, .int .i64 0, .nilIface] 30)) := (heap_setCell_other _ ⟨w3.heap.size, 7, none⟩ _ _ (by have := HZ4.out; show w.heap.size + 1 ≠ w3.heap.size; omega)).trans HP5.out
          have HR9 : Hid ((w5.setCell ⟨w3.heap.size, 7, none⟩ (.nilIface)).heap[w.heap.size + 2]? = some (.cells zero11 35)) := (heap_setCell_other _ ⟨w3.heap.size, 7, none⟩ _ _ (by have := HZ4.out; show w.heap.size + 2 ≠ w3.heap.size; omega)).trans HR5.out
          have HA : Hid ((w5.setCell ⟨w3.heap.size, 7, none⟩ (.nilIface)).heap[w3.heap.size]? = some (.cells #[.int .i64 k2, .string i2, .string n2, .string l2, .string u2, .int .i64 d2, .int .i64 v2, .nilIface] 30)) := heap_setCell_same _ w3.heap.size 7 _ _ _ HE5.out
          have HB9 : Hid (Below w.heap.size w (w5.setCell ⟨w3.heap.size, 7, none⟩ (.nilIface))) := HB5.out.setCell (show w.heap.size ≤ w3.heap.size by have := HZ4.out; omega) _
          have HNB : Hid (w3.heap.size ≠ w.heap.size + 1 ∧ w3.heap.size ≠ w.heap.size + 2) := by have := HZ4.out; exact ⟨by omega, by omega⟩
          have HZ9 : Hid (w.heap.size + 3 ≤ (w5.setCell ⟨w3.heap.size, 7, none⟩ (.nilIface)).heap.size) := by have h1 := HZ4.out; have h2 := HZ5.out; unfold Hid; rw [World.size_setCell]; omega
          generalize w5.setCell ⟨w3.heap.size, 7, none⟩ (.nilIface) = W9 at *
          refine Mx.wp_region_mix (fun W => W.heap[w3.heap.size]? = some (.cells #[.int .i64 k2, .string i2, .string n2, .string l2, .string u2, .int .i64 d2, .int .i64 v2, .nilIface] 30)) [(0, false), (1, false), (3, false), (2, true), (4, true), (5, true), (6, true)] (by kernel_rfl) (by kernel_rfl) HA.out ?_ (by kernel_rfl)
          simp only [List.map_cons, List.map_nil, List.getD_cons_zero, List.getD_cons_succ]
          generalize hops : (#[_, _, _, _, _, _, _] : Array Oper) = ops
          clear hops
          refine Mx.m_pure (.agg #[.int .i64 k2, .string i2, .string n2, .string l2, .string u2, .int .i64 d2, .int .i64 v2, .nilIface]) (Mx.wanted_none rfl) (fun W hW => ?_) ?_
          · obtain ⟨z0, z1, z2, z3, z4, z5, z6, z7⟩ := cells8e hW
            go_simp
          simp only [Act.put, List.setIfInBounds_toArray, List.set_cons_zero, List.set_cons_succ]
          refine Mx.m_pure (.agg #[.int .i64 k2, .string i2, .string n2, .string l2, .string u2, .int .i64 d2, .int .i64 v2, .nilIface]) (Mx.wanted_none rfl) (fun W hW => ?_) ?_
          · obtain ⟨z0, z1, z2, z3, z4, z5, z6, z7⟩ := cells8e hW
            go_simp
          simp only [Act.put, List.setIfInBounds_toArray, List.set_cons_zero, List.set_cons_succ]
          refine Mx.m_pure (.bool false) (Mx.wanted_none rfl) (fun W hW => ?_) ?_
          · go_simp
          simp only [Act.put, List.setIfInBounds_toArray, List.set_cons_zero, List.set_cons_succ]
          refine Mx.m_call 37 #[.agg #[.int .i64 k2, .string i2, .string n2, .string l2, .string u2, .int .i64 d2, .int .i64 v2, .nilIface]] (Mx.wanted_none rfl) ?_ ?_
          · go_simp
          refine (HEV.out W9.drew).mono ?_
          rintro e w4 ⟨r4, rfl, ⟨ka4, kc4, rfl, ht4⟩, hb4⟩
          have HT4 := hidIn ht4
          have HB4 := hidIn (HB9.out.trans ((show Below W9.heap.size W9 w4 from ⟨hb4.os, hb4.tape, hb4.output, hb4.size, hb4.block⟩).mono HB9.out.size))
          have HA4 : Hid (w4.heap[w3.heap.size]? = some (.cells #[.int .i64 k2, .string i2, .string n2, .string l2, .string u2, .int .i64 d2, .int .i64 v2, .nilIface] 30)) := (hb4.block _ (Array.getElem?_eq_some_iff.1 HA.out).1).trans HA.out
          have HP4 : Hid (w4.heap[w.heap.size + 1]? = some (.cells #[.int .i64 0, .string ⟨#[]⟩, .string ⟨#[]⟩, .string ⟨#[]⟩, .string ⟨#[]⟩, .int .i64 0, .int .i64 0, .nilIface] 30)) := (hb4.block _ (Array.getElem?_eq_some_iff.1 HP9.out).1).trans HP9.out
          have HR4 : Hid (w4.heap[w.heap.size + 2]? = some (.cells zero11 35)) := (hb4.block _ (Array.getElem?_eq_some_iff.1 HR9.out).1).trans HR9.out
          clear ht4 hb4
          refine ⟨_, rfl, HA4.out, ?_⟩
          simp only [Act.put, List.setIfInBounds_toArray, List.set_cons_zero, List.set_cons_succ]
          refine m_skip11 (Mx.wanted_none rfl) (store_row_run 30 (.tmp 10) (.tmp 65) rfl (w.heap.size + 1) #[.int .i64 k2, .string i2, .string n2, .string l2, .string u2, .int .i64 d2, .int .i64 v2, .nilIface] rfl rfl _ _ HP4.out infoA rfl (by first | rfl | simp [Value.oneCell'])) ((setRow_other _ _ _ _ HNB.out.1).trans HA4.out) ?_
          simp only [Act.put]
          refine m_skip11 (Mx.wanted_none rfl) (store_row_run 35 (.tmp 11) (.tmp 67) rfl (w.heap.size + 2) _ rfl rfl _ _ ((setRow_other _ _ _ _ (by omega)).trans HR4.out) infoE rfl (by first | rfl | simp [Value.oneCell'])) ((setRow_other _ _ _ _ HNB.out.2).trans ((setRow_other _ _ _ _ HNB.out.1).trans HA4.out)) ?_
          simp only [Act.put]
          refine Mx.m_run (w' := (w4.setRow (w.heap.size + 1) #[.int .i64 k2, .string i2, .string n2, .string l2, .string u2, .int .i64 d2, .int .i64 v2, .nilIface]).setRow (w.heap.size + 2) #[.int .i64 k2, .string i2, .string n2, .string l2, .string u2, .int .i64 d2, .int .i64 v2, .int .i64 (plainC (.odd (.nilIface))).kind, .string (plainC (.odd (.nilIface))).s, .int .i64 (plainC (.odd (.nilIface))).n, .slice ka4 (plainC (.odd (.nilIface))).k.length kc4]) (.bool false) (Mx.wanted_none rfl) ?_ ((setRow_other _ _ _ _ HNB.out.2).trans ((setRow_other _ _ _ _ HNB.out.1).trans HA4.out)) ?_
          · go_simp
          simp only [Act.put, List.setIfInBounds_toArray, List.set_cons_zero, List.set_cons_succ]
          refine Mx.m_nil (fun _ => ?_)
          go_wp2_with fail
          refine bodyPost_ret (results_cct rfl _ _ (w.heap.size + 1) (w.heap.size + 2) 30 35 #[.int .i64 k2, .string i2, .string n2, .string l2, .string u2, .int .i64 d2, .int .i64 v2, .nilIface] _ (0, 0) (0, 0) _ _ rfl ((setRow_other _ _ _ _ (by omega)).trans (setRow_heap _ _ _ _ _ _ HP4.out)) Tryz.underlying30 rfl infoA rfl (setRow_heap _ _ _ _ _ _ ((setRow_other _ _ _ _ (by omega)).trans HR4.out)) Tryz.underlying35 rfl infoE) rfl ?_
          exact ⟨⟨k2, i2, n2, l2, u2, d2, v2, (.odd (.nilIface))⟩, _, false, rfl, ⟨⟨HM2.out.ok.k1, HM2.out.ok.k2, HM2.out.ok.d1, HM2.out.ok.d2, HM2.out.ok.v1, HM2.out.ok.v2, HM2.out.ok.i, HM2.out.ok.n, HM2.out.ok.l, HM2.out.ok.u, HOV.out, (by show (1 : Nat) ≤ 1000000; omega)⟩, HM2.out.i, HM2.out.n, HM2.out.l, HM2.out.u, (by show (1 : Nat) ≤ 1000; omega)⟩, ⟨ka4, kc4, rfl, trow11 (trow11 HT4.out _ (show w.heap.size + 1 < W9.heap.size by have := HZ9.out; omega) (Nat.le_refl _)) _ (show w.heap.size + 2 < W9.heap.size by have := HZ9.out; omega) (Nat.zero_le _)⟩, (fun _ => .inl rfl), (fun h => by cases h), (fun h => by cases h), row_below (row_below HB4.out (by omega) _) (by omega) _⟩
        · go_upto_region 22 with fail
          have HEV := hidIn (event_any ⟨k2, i2, n2, l2, u2, d2, v2, (.odd (.iface ot ox))⟩ HOV.out)
          unfold Ev.val Ev.cs RIn at HEV
          simp only at HEV
          have HP9 : Hid ((w5.setCell ⟨w3.heap.size, 7, none⟩ (.iface ot ox)).heap[w.heap.size + 1]? = some (.cells #[.int .i64 0, .string ⟨#[]⟩, .string ⟨#[]⟩, .string ⟨#[]⟩, .string ⟨#[]⟩, .int .i64 0, .int .i64 0, .nilIface] 30)) := (heap_setCell_other _ ⟨w3.heap.size, 7, none⟩ _ _ (by have := HZ4.out; show w.heap.size + 1 ≠ w3.heap.size; omega)).trans HP5.out
          have HR9 : Hid ((w5.setCell ⟨w3.heap.size, 7, none⟩ (.iface ot ox)).heap[w.heap.size + 2]? = some (.cells zero11 35)) := (heap_setCell_other _ ⟨w3.heap.size, 7, none⟩ _ _ (by have := HZ4.out; show w.heap.size + 2 ≠ w3.heap.size; omega)).trans HR5.out
          have HA : Hid ((w5.setCell ⟨w3.heap.size, 7, none⟩ (.iface ot ox)).heap[w3.heap.size]? = some (.cells #[.int .i64 k2, .string i2, .string n2, .string l2, .string u2, .int .i64 d2, .int .i64 v2, .iface ot ox] 30)) := heap_setCell_same _ w3.heap.size 7 _ _ _ HE5.out
          have HB9 : Hid (Below w.heap.size w (w5.setCell ⟨w3.heap.size, 7, none⟩ (.iface ot ox))) := HB5.out.setCell (show w.heap.size ≤ w3.heap.size by have := HZ4.out; omega) _
          have HNB : Hid (w3.heap.size ≠ w.heap.size + 1 ∧ w3.heap.size ≠ w.heap.size + 2) := by have := HZ4.out; exact ⟨by omega, by omega⟩
          have HZ9 : Hid (w.heap.size + 3 ≤ (w5.setCell ⟨w3.heap.size, 7, none⟩ (.iface ot ox)).heap.size) := by have h1 := HZ4.out; have h2 := HZ5.out; unfold Hid; rw [World.size_setCell]; omega
          generalize w5.setCell ⟨w3.heap.size, 7, none⟩ (.iface ot ox) = W9 at *
          refine Mx.wp_region_mix (fun W => W.heap[w3.heap.size]? = some (.cells #[.int .i64 k2, .string i2, .string n2, .string l2, .string u2, .int .i64 d2, .int .i64 v2, .iface ot ox] 30)) [(0, false), (1, false), (3, false), (2, true), (4, true), (5, true), (6, true)] (by kernel_rfl) (by kernel_rfl) HA.out ?_ (by kernel_rfl)
          simp only [List.map_cons, List.map_nil, List.getD_cons_zero, List.getD_cons_succ]
          generalize hops : (#[_, _, _, _, _, _, _] : Array Oper) = ops
          clear hops
          refine Mx.m_pure (.agg #[.int .i64 k2, .string i2, .string n2, .string l2, .string u2, .int .i64 d2, .int .i64 v2, .iface ot ox]) (Mx.wanted_none rfl) (fun W hW => ?_) ?_
          · obtain ⟨z0, z1, z2, z3, z4, z5, z6, z7⟩ := cells8e hW
            go_simp
          simp only [Act.put, List.setIfInBounds_toArray, List.set_cons_zero, List.set_cons_succ]
          refine Mx.m_pure (.agg #[.int .i64 k2, .string i2, .string n2, .string l2, .string u2, .int .i64 d2, .int .i64 v2, .iface ot ox]) (Mx.wanted_none rfl) (fun W hW => ?_) ?_
          · obtain ⟨z0, z1, z2, z3, z4, z5, z6, z7⟩ := cells8e hW
            go_simp
          simp only [Act.put, List.setIfInBounds_toArray, List.set_cons_zero, List.set_cons_succ]
          refine Mx.m_pure (.bool true) (Mx.wanted_none rfl) (fun W hW => ?_) ?_
          · go_simp
          simp only [Act.put, List.setIfInBounds_toArray, List.set_cons_zero, List.set_cons_succ]
          refine Mx.m_call 37 #[.agg #[.int .i64 k2, .string i2, .string n2, .string l2, .string u2, .int .i64 d2, .int .i64 v2, .iface ot ox]] (Mx.wanted_none rfl) ?_ ?_
          · go_simp
          refine (HEV.out W9.drew).mono ?_
          rintro e w4 ⟨r4, rfl, ⟨ka4, kc4, rfl, ht4⟩, hb4⟩
          have HT4 := hidIn ht4
          have HB4 := hidIn (HB9.out.trans ((show Below W9.heap.size W9 w4 from ⟨hb4.os, hb4.tape, hb4.output, hb4.size, hb4.block⟩).mono HB9.out.size))
          have HA4 : Hid (w4.heap[w3.heap.size]? = some (.cells #[.int .i64 k2, .string i2, .string n2, .string l2, .string u2, .int .i64 d2, .int .i64 v2, .iface ot ox] 30)) := (hb4.block _ (Array.getElem?_eq_some_iff.1 HA.out).1).trans HA.out
          have HP4 : Hid (w4.heap[w.heap.size + 1]? = some (.cells #[.int .i64 0, .string ⟨#[]⟩, .string ⟨#[]⟩, .string ⟨#[]⟩, .string ⟨#[]⟩, .int .i64 0, .int .i64 0, .nilIface] 30)) := (hb4.block _ (Array.getElem?_eq_some_iff.1 HP9.out).1).trans HP9.out
          have HR4 : Hid (w4.heap[w.heap.size + 2]? = some (.cells zero11 35)) := (hb4.block _ (Array.getElem?_eq_some_iff.1 HR9.out).1).trans HR9.out
          clear ht4 hb4
          refine ⟨_, rfl, HA4.out, ?_⟩
          simp only [Act.put, List.setIfInBounds_toArray, List.set_cons_zero, List.set_cons_succ]
          refine m_skip11 (Mx.wanted_none rfl) (store_row_run 30 (.tmp 10) (.tmp 65) rfl (w.heap.size + 1) #[.int .i64 k2, .string i2, .string n2, .string l2, .string u2, .int .i64 d2, .int .i64 v2, .iface ot ox] rfl rfl _ _ HP4.out infoA rfl (by first | rfl | simp [Value.oneCell'])) ((setRow_other _ _ _ _ HNB.out.1).trans HA4.out) ?_
          simp only [Act.put]
          refine m_skip11 (Mx.wanted_none rfl) (store_row_run 35 (.tmp 11) (.tmp 67) rfl (w.heap.size + 2) _ rfl rfl _ _ ((setRow_other _ _ _ _ (by omega)).trans HR4.out) infoE rfl (by first | rfl | simp [Value.oneCell'])) ((setRow_other _ _ _ _ HNB.out.2).trans ((setRow_other _ _ _ _ HNB.out.1).trans HA4.out)) ?_
          simp only [Act.put]
          refine Mx.m_run (w' := (w4.setRow (w.heap.size + 1) #[.int .i64 k2, .string i2, .string n2, .string l2, .string u2, .int .i64 d2, .int .i64 v2, .iface ot ox]).setRow (w.heap.size + 2) #[.int .i64 k2, .string i2, .string n2, .string l2, .string u2, .int .i64 d2, .int .i64 v2, .int .i64 (plainC (.odd (.iface ot ox))).kind, .string (plainC (.odd (.iface ot ox))).s, .int .i64 (plainC (.odd (.iface ot ox))).n, .slice ka4 (plainC (.odd (.iface ot ox))).k.length kc4]) (.bool true) (Mx.wanted_none rfl) ?_ ((setRow_other _ _ _ _ HNB.out.2).trans ((setRow_other _ _ _ _ HNB.out.1).trans HA4.out)) ?_
          · go_simp
          simp only [Act.put, List.setIfInBounds_toArray, List.set_cons_zero, List.set_cons_succ]
          refine Mx.m_nil (fun _ => ?_)
          go_wp2_with fail
          refine bodyPost_ret (results_cct rfl _ _ (w.heap.size + 1) (w.heap.size + 2) 30 35 #[.int .i64 k2, .string i2, .string n2, .string l2, .string u2, .int .i64 d2, .int .i64 v2, .iface ot ox] _ (0, 0) (0, 0) _ _ rfl ((setRow_other _ _ _ _ (by omega)).trans (setRow_heap _ _ _ _ _ _ HP4.out)) Tryz.underlying30 rfl infoA rfl (setRow_heap _ _ _ _ _ _ ((setRow_other _ _ _ _ (by omega)).trans HR4.out)) Tryz.underlying35 rfl infoE) rfl ?_
          exact ⟨⟨k2, i2, n2, l2, u2, d2, v2, (.odd (.iface ot ox))⟩, _, true, rfl, ⟨⟨HM2.out.ok.k1, HM2.out.ok.k2, HM2.out.ok.d1, HM2.out.ok.d2, HM2.out.ok.v1, HM2.out.ok.v2, HM2.out.ok.i, HM2.out.ok.n, HM2.out.ok.l, HM2.out.ok.u, HOV.out, (by show (1 : Nat) ≤ 1000000; omega)⟩, HM2.out.i, HM2.out.n, HM2.out.l, HM2.out.u, (by show (1 : Nat) ≤ 1000; omega)⟩, ⟨ka4, kc4, rfl, trow11 (trow11 HT4.out _ (show w.heap.size + 1 < W9.heap.size by have := HZ9.out; omega) (Nat.le_refl _)) _ (show w.heap.size + 2 < W9.heap.size by have := HZ9.out; omega) (Nat.zero_le _)⟩, (fun h => by cases h), (fun _ => ⟨rfl, rfl⟩), (fun _ => by simpa using hod), row_below (row_below HB4.out (by omega) _) (by omega) _⟩
    · have HS3 : Hid (SmSt w w1.heap.size (Ev.rcs ⟨k2, i2, n2, l2, u2, d2, v2, t2⟩ ka2 kc2) w3) := HS2.out.below hb3
      clear hb3
      cases hod : (odd.tmod 11 == 10)
      · go_upto_region 22 with fail
        have HEV := hidIn (event_any ⟨k2, i2, n2, l2, u2, d2, v2, t2⟩ HM2.out.ok.t)
        unfold Ev.val Ev.cs RIn at HEV
        simp only at HEV
        rw [HTV.out] at HEV
        have HP9 : Hid ((w3.alloc (.cells #[.int .i64 k2, .string i2, .string n2, .string l2, .string u2, .int .i64 d2, .int .i64 v2, .iface xt xv] 30)).heap[w.heap.size + 1]? = some (.cells #[.int .i64 0, .string ⟨#[]⟩, .string ⟨#[]⟩, .string ⟨#[]⟩, .string ⟨#[]⟩, .int .i64 0, .int .i64 0, .nilIface] 30)) := heap_keeps HS3.out.p _
        have HR9 : Hid ((w3.alloc (.cells #[.int .i64 k2, .string i2, .string n2, .string l2, .string u2, .int .i64 d2, .int .i64 v2, .iface xt xv] 30)).heap[w.heap.size + 2]? = some (.cells zero11 35)) := heap_keeps HS3.out.r _
        have HA : Hid ((w3.alloc (.cells #[.int .i64 k2, .string i2, .string n2, .string l2, .string u2, .int .i64 d2, .int .i64 v2, .iface xt xv] 30)).heap[w3.heap.size]? = some (.cells #[.int .i64 k2, .string i2, .string n2, .string l2, .string u2, .int .i64 d2, .int .i64 v2, .iface xt xv] 30)) := heap_alloc_new _ _
        have HB9 : Hid (Below w.heap.size w (w3.alloc (.cells #[.int .i64 k2, .string i2, .string n2, .string l2, .string u2, .int .i64 d2, .int .i64 v2, .iface xt xv] 30))) := below_alloc HS3.out.b _
        have HNB : Hid (w3.heap.size ≠ w.heap.size + 1 ∧ w3.heap.size ≠ w.heap.size + 2) := by have h1 := (Array.getElem?_eq_some_iff.1 HS3.out.e).1; have h2 := HS3.out.m; exact ⟨by omega, by omega⟩
        have HZ9 : Hid (w.heap.size + 3 ≤ (w3.alloc (.cells #[.int .i64 k2, .string i2, .string n2, .string l2, .string u2, .int .i64 d2, .int .i64 v2, .iface xt xv] 30)).heap.size) := by have h1 := (Array.getElem?_eq_some_iff.1 HS3.out.e).1; have h2 := HS3.out.m; unfold Hid; simp; omega
        generalize w3.alloc (.cells #[.int .i64 k2, .string i2, .string n2, .string l2, .string u2, .int .i64 d2, .int .i64 v2, .iface xt xv] 30) = W9 at *
        refine Mx.wp_region_mix (fun W => W.heap[w3.heap.size]? = some (.cells #[.int .i64 k2, .string i2, .string n2, .string l2, .string u2, .int .i64 d2, .int .i64 v2, .iface xt xv] 30)) [(0, false), (1, false), (3, false), (2, true), (4, true), (5, true), (6, true)] (by kernel_rfl) (by kernel_rfl) HA.out ?_ (by kernel_rfl)
        simp only [List.map_cons, List.map_nil, List.getD_cons_zero, List.getD_cons_succ]
        generalize hops : (#[_, _, _, _, _, _, _] : Array Oper) = ops
        clear hops
        refine Mx.m_pure (.agg #[.int .i64 k2, .string i2, .string n2, .string l2, .string u2, .int .i64 d2, .int .i64 v2, .iface xt xv]) (Mx.wanted_none rfl) (fun W hW => ?_) ?_
        · obtain ⟨z0, z1, z2, z3, z4, z5, z6, z7⟩ := cells8e hW
          go_simp
        simp only [Act.put, List.setIfInBounds_toArray, List.set_cons_zero, List.set_cons_succ]
        refine Mx.m_pure (.agg #[.int .i64 k2, .string i2, .string n2, .string l2, .string u2, .int .i64 d2, .int .i64 v2, .iface xt xv]) (Mx.wanted_none rfl) (fun W hW => ?_) ?_
        · obtain ⟨z0, z1, z2, z3, z4, z5, z6, z7⟩ := cells8e hW
          go_simp
        simp only [Act.put, List.setIfInBounds_toArray, List.set_cons_zero, List.set_cons_succ]
        refine Mx.m_pure (.bool false) (Mx.wanted_none rfl) (fun W hW => ?_) ?_
        · go_simp
        simp only [Act.put, List.setIfInBounds_toArray, List.set_cons_zero, List.set_cons_succ]
        refine Mx.m_call 37 #[.agg #[.int .i64 k2, .string i2, .string n2, .string l2, .string u2, .int .i64 d2, .int .i64 v2, .iface xt xv]] (Mx.wanted_none rfl) ?_ ?_
        · go_simp
        refine (HEV.out W9.drew).mono ?_
        rintro e w4 ⟨r4, rfl, ⟨ka4, kc4, rfl, ht4⟩, hb4⟩
        have HT4 := hidIn ht4
        have HB4 := hidIn (HB9.out.trans ((show Below W9.heap.size W9 w4 from ⟨hb4.os, hb4.tape, hb4.output, hb4.size, hb4.block⟩).mono HB9.out.size))
        have HA4 : Hid (w4.heap[w3.heap.size]? = some (.cells #[.int .i64 k2, .string i2, .string n2, .string l2, .string u2, .int .i64 d2, .int .i64 v2, .iface xt xv] 30)) := (hb4.block _ (Array.getElem?_eq_some_iff.1 HA.out).1).trans HA.out
        have HP4 : Hid (w4.heap[w.heap.size + 1]? = some (.cells #[.int .i64 0, .string ⟨#[]⟩, .string ⟨#[]⟩, .string ⟨#[]⟩, .string ⟨#[]⟩, .int .i64 0, .int .i64 0, .nilIface] 30)) := (hb4.block _ (Array.getElem?_eq_some_iff.1 HP9.out).1).trans HP9.out
        have HR4 : Hid (w4.heap[w.heap.size + 2]? = some (.cells zero11 35)) := (hb4.block _ (Array.getElem?_eq_some_iff.1 HR9.out).1).trans HR9.out
        clear ht4 hb4
        refine ⟨_, rfl, HA4.out, ?_⟩
        simp only [Act.put, List.setIfInBounds_toArray, List.set_cons_zero, List.set_cons_succ]
        refine m_skip11 (Mx.wanted_none rfl) (store_row_run 30 (.tmp 10) (.tmp 65) rfl (w.heap.size + 1) #[.int .i64 k2, .string i2, .string n2, .string l2, .string u2, .int .i64 d2, .int .i64 v2, .iface xt xv] rfl rfl _ _ HP4.out infoA rfl (by first | rfl | simp [Value.oneCell'])) ((setRow_other _ _ _ _ HNB.out.1).trans HA4.out) ?_
        simp only [Act.put]
        refine m_skip11 (Mx.wanted_none rfl) (store_row_run 35 (.tmp 11) (.tmp 67) rfl (w.heap.size + 2) _ rfl rfl _ _ ((setRow_other _ _ _ _ (by omega)).trans HR4.out) infoE rfl (by first | rfl | simp [Value.oneCell'])) ((setRow_other _ _ _ _ HNB.out.2).trans ((setRow_other _ _ _ _ HNB.out.1).trans HA4.out)) ?_
        simp only [Act.put]
        refine Mx.m_run (w' := (w4.setRow (w.heap.size + 1) #[.int .i64 k2, .string i2, .string n2, .string l2, .string u2, .int .i64 d2, .int .i64 v2, .iface xt xv]).setRow (w.heap.size + 2) #[.int .i64 k2, .string i2, .string n2, .string l2, .string u2, .int .i64 d2, .int .i64 v2, .int .i64 (plainC t2).kind, .string (plainC t2).s, .int .i64 (plainC t2).n, .slice ka4 (plainC t2).k.length kc4]) (.bool false) (Mx.wanted_none rfl) ?_ ((setRow_other _ _ _ _ HNB.out.2).trans ((setRow_other _ _ _ _ HNB.out.1).trans HA4.out)) ?_
        · go_simp
        simp only [Act.put, List.setIfInBounds_toArray, List.set_cons_zero, List.set_cons_succ]
        refine Mx.m_nil (fun _ => ?_)
        go_wp2_with fail
        refine bodyPost_ret (results_cct rfl _ _ (w.heap.size + 1) (w.heap.size + 2) 30 35 #[.int .i64 k2, .string i2, .string n2, .string l2, .string u2, .int .i64 d2, .int .i64 v2, .iface xt xv] _ (0, 0) (0, 0) _ _ rfl ((setRow_other _ _ _ _ (by omega)).trans (setRow_heap _ _ _ _ _ _ HP4.out)) Tryz.underlying30 rfl infoA rfl (setRow_heap _ _ _ _ _ _ ((setRow_other _ _ _ _ (by omega)).trans HR4.out)) Tryz.underlying35 rfl infoE) rfl ?_
        exact ⟨⟨k2, i2, n2, l2, u2, d2, v2, t2⟩, _, false, by rw [show (Ev.mk k2 i2 n2 l2 u2 d2 v2 t2).val = .agg #[.int .i64 k2, .string i2, .string n2, .string l2, .string u2, .int .i64 d2, .int .i64 v2, .iface xt xv] from by unfold Ev.val Ev.cs; simp only; rw [HTV.out]]; rfl, ⟨HM2.out.ok, HM2.out.i, HM2.out.n, HM2.out.l, HM2.out.u, by rcases HM2.out.t with h | h; (rw [h]; decide); exact Nat.le_trans h.2 (by omega)⟩, ⟨ka4, kc4, rfl, trow11 (trow11 HT4.out _ (show w.heap.size + 1 < W9.heap.size by have := HZ9.out; omega) (Nat.le_refl _)) _ (show w.heap.size + 2 < W9.heap.size by have := HZ9.out; omega) (Nat.zero_le _)⟩, (fun _ => by rcases HM2.out.t with h | h; exact .inl h; exact .inr h.1), (fun h => by cases h), (fun h => by cases h), row_below (row_below HB4.out (by omega) _) (by omega) _⟩
      · have hdv := tdiv_in odd 11 (by omega) ho1 ho2
        have hwr : IntKind.i64.wrap (odd.tdiv 11) = odd.tdiv 11 := wrap_small _ hdv.1 hdv.2
        have HOD := hidIn (fun W => oddV_any (odd.tdiv 11) W hdv.1 hdv.2)
        clear hdv
        have HW4 : Hid (Below w.heap.size w (w3.alloc (.cells #[.int .i64 k2, .string i2, .string n2, .string l2, .string u2, .int .i64 d2, .int .i64 v2, .iface xt xv] 30))) := below_alloc HS3.out.b _
        have HP4 : Hid ((w3.alloc (.cells #[.int .i64 k2, .string i2, .string n2, .string l2, .string u2, .int .i64 d2, .int .i64 v2, .iface xt xv] 30)).heap[w.heap.size + 1]? = some (.cells #[.int .i64 0, .string ⟨#[]⟩, .string ⟨#[]⟩, .string ⟨#[]⟩, .string ⟨#[]⟩, .int .i64 0, .int .i64 0, .nilIface] 30)) := heap_keeps HS3.out.p _
        have HR4 : Hid ((w3.alloc (.cells #[.int .i64 k2, .string i2, .string n2, .string l2, .string u2, .int .i64 d2, .int .i64 v2, .iface xt xv] 30)).heap[w.heap.size + 2]? = some (.cells zero11 35)) := heap_keeps HS3.out.r _
        have HE4 : Hid ((w3.alloc (.cells #[.int .i64 k2, .string i2, .string n2, .string l2, .string u2, .int .i64 d2, .int .i64 v2, .iface xt xv] 30)).heap[w3.heap.size]? = some (.cells #[.int .i64 k2, .string i2, .string n2, .string l2, .string u2, .int .i64 d2, .int .i64 v2, .iface xt xv] 30)) := heap_alloc_new _ _
        have HZ4 : Hid (w.heap.size + 3 ≤ w3.heap.size) := by have h1 := (Array.getElem?_eq_some_iff.1 HS3.out.e).1; have h2 := HS3.out.m; unfold Hid; omega
        go_wp2_with fail
        generalize w3.alloc (.cells #[.int .i64 k2, .string i2, .string n2, .string l2, .string u2, .int .i64 d2, .int .i64 v2, .iface xt xv] 30) = w4 at *
        refine (HOD.out w4).mono ?_
        rintro e w5 ⟨ov, rfl, hov, hb5⟩
        have HOV := hidIn hov
        have HP5 : Hid (w5.heap[w.heap.size + 1]? = some (.cells #[.int .i64 0, .string ⟨#[]⟩, .string ⟨#[]⟩, .string ⟨#[]⟩, .string ⟨#[]⟩, .int .i64 0, .int .i64 0, .nilIface] 30)) := (hb5.block _ (Array.getElem?_eq_some_iff.1 HP4.out).1).trans HP4.out
        have HR5 : Hid (w5.heap[w.heap.size + 2]? = some (.cells zero11 35)) := (hb5.block _ (Array.getElem?_eq_some_iff.1 HR4.out).1).trans HR4.out
        have HE5 : Hid (w5.heap[w3.heap.size]? = some (.cells #[.int .i64 k2, .string i2, .string n2, .string l2, .string u2, .int .i64 d2, .int .i64 v2, .iface xt xv] 30)) := (hb5.block _ (Array.getElem?_eq_some_iff.1 HE4.out).1).trans HE4.out
        have HB5 := hidIn (HW4.out.trans (hb5.mono HW4.out.size))
        have HZ5 : Hid (w3.heap.size < w5.heap.size) := (Array.getElem?_eq_some_iff.1 HE5.out).1
        clear hb5 HW4 HP4 HR4 HE4 HOD hwr
        have ff : w5.frozen? ⟨w3.heap.size, 7, none⟩ = false := frozen_of_row _ _ _ _ _ HE5.out
        have fc := cell_of_row _ _ 7 _ _ _ HE5.out
        rcases hov with rfl | ⟨ot, ox, rfl, hno⟩
        · go_upto_region 22 with fail
          have HEV := hidIn (event_any ⟨k2, i2, n2, l2, u2, d2, v2, (.odd (.nilIface))⟩ HOV.out)
          unfold Ev.val Ev.cs RIn at HEV
          simp only at HEV
          have HP9 : Hid ((w5.setCell ⟨w3.heap.size, 7, none⟩ (.nilIface)).heap[w.heap.size + 1]? = some (.cells #[.int .i64 0, .string ⟨#[]⟩, .string ⟨#[]⟩, .string ⟨#[]⟩, .string ⟨#[]⟩, .int .i64 0, .int .i64 0, .nilIface] 30)) := (heap_setCell_other _ ⟨w3.heap.size, 7, none⟩ _ _ (by have := HZ4.out; show w.heap.size + 1 ≠ w3.heap.size; omega)).trans HP5.out
          have HR9 : Hid ((w5.setCell ⟨w3.heap.size, 7, none⟩ (.nilIface)).heap[w.heap.size + 2]? = some (.cells zero11 35)) := (heap_setCell_other _ ⟨w3.heap.size, 7, none⟩ _ _ (by have := HZ4.out; show w.heap.size + 2 ≠ w3.heap.size; omega)).trans HR5.out
          have HA : Hid ((w5.setCell ⟨w3.heap.size, 7, none⟩ (.nilIface)).heap[w3.heap.size]? = some (.cells #[.int .i64 k2, .string i2, .string n2, .string l2, .string u2, .int .i64 d2, .int .i64 v2, .nilIface] 30)) := heap_setCell_same _ w3.heap.size 7 _ _ _ HE5.out
          have HB9 : Hid (Below w.heap.size w (w5.setCell ⟨w3.heap.size, 7, none⟩ (.nilIface))) := HB5.out.setCell (show w.heap.size ≤ w3.heap.size by have := HZ4.out; omega) _
          have HNB : Hid (w3.heap.size ≠ w.heap.size + 1 ∧ w3.heap.size ≠ w.heap.size + 2) := by have := HZ4.out; exact ⟨by omega, by omega⟩
          have HZ9 : Hid (w.heap.size + 3 ≤ (w5.setCell ⟨w3.heap.size, 7, none⟩ (.nilIface)).heap.size) := by have h1 := HZ4.out; have h2 := HZ5.out; unfold Hid; rw [World.size_setCell]; omega
          generalize w5.setCell ⟨w3.heap.size, 7, none⟩ (.nilIface) = W9 at *
          refine Mx.wp_region_mix (fun W => W.heap[w3.heap.size]? = some (.cells #[.int .i64 k2, .string i2, .string n2, .string l2, .string u2, .int .i64 d2, .int .i64 v2, .nilIface] 30)) [(0, false), (1, false), (3, false), (2, true), (4, true), (5, true), (6, true)] (by kernel_rfl) (by kernel_rfl) HA.out ?_ (by kernel_rfl)
          simp only [List.map_cons, List.map_nil, List.getD_cons_zero, List.getD_cons_succ]
          generalize hops : (#[_, _, _, _, _, _, _] : Array Oper) = ops
          clear hops
          refine Mx.m_pure (.agg #[.int .i64 k2, .string i2, .string n2, .string l2, .string u2, .int .i64 d2, .int .i64 v2, .nilIface]) (Mx.wanted_none rfl) (fun W hW => ?_) ?_
          · obtain ⟨z0, z1, z2, z3, z4, z5, z6, z7⟩ := cells8e hW
            go_simp
          simp only [Act.put, List.setIfInBounds_toArray, List.set_cons_zero, List.set_cons_succ]
          refine Mx.m_pure (.agg #[.int .i64 k2, .string i2, .string n2, .string l2, .string u2, .int .i64 d2, .int .i64 v2, .nilIface]) (Mx.wanted_none rfl) (fun W hW => ?_) ?_
          · obtain ⟨z0, z1, z2, z3, z4, z5, z6, z7⟩ := cells8e hW
            go_simp
          simp only [Act.put, List.setIfInBounds_toArray, List.set_cons_zero, List.set_cons_succ]
          refine Mx.m_pure (.bool false) (Mx.wanted_none rfl) (fun W hW => ?_) ?_
          · go_simp
          simp only [Act.put, List.setIfInBounds_toArray, List.set_cons_zero, List.set_cons_succ]
          refine Mx.m_call 37 #[.agg #[.int .i64 k2, .string i2, .string n2, .string l2, .string u2, .int .i64 d2, .int .i64 v2, .nilIface]] (Mx.wanted_none rfl) ?_ ?_
          · go_simp
          refine (HEV.out W9.drew).mono ?_
          rintro e w4 ⟨r4, rfl, ⟨ka4, kc4, rfl, ht4⟩, hb4⟩
          have HT4 := hidIn ht4
          have HB4 := hidIn (HB9.out.trans ((show Below W9.heap.size W9 w4 from ⟨hb4.os, hb4.tape, hb4.output, hb4.size, hb4.block⟩).mono HB9.out.size))
          have HA4 : Hid (w4.heap[w3.heap.size]? = some (.cells #[.int .i64 k2, .string i2, .string n2, .string l2, .string u2, .int .i64 d2, .int .i64 v2, .nilIface] 30)) := (hb4.block _ (Array.getElem?_eq_some_iff.1 HA.out).1).trans HA.out
          have HP4 : Hid (w4.heap[w.heap.size + 1]? = some (.cells #[.int .i64 0, .string ⟨#[]⟩, .string ⟨#[]⟩, .string ⟨#[]⟩, .string ⟨#[]⟩, .int .i64 0, .int .i64 0, .nilIface] 30)) := (hb4.block _ (Array.getElem?_eq_some_iff.1 HP9.out).1).trans HP9.out
          have HR4 : Hid (w4.heap[w.heap.size + 2]? = some (.cells zero11 35)) := (hb4.block _ (Array.getElem?_eq_some_iff.1 HR9.out).1).trans HR9.out
          clear ht4 hb4
          refine ⟨_, rfl, HA4.out, ?_⟩
          simp only [Act.put, List.setIfInBounds_toArray, List.set_cons_zero, List.set_cons_succ]
          refine m_skip11 (Mx.wanted_none rfl) (store_row_run 30 (.tmp 10) (.tmp 65) rfl (w.heap.size + 1) #[.int .i64 k2, .string i2, .string n2, .string l2, .string u2, .int .i64 d2, .int .i64 v2, .nilIface] rfl rfl _ _ HP4.out infoA rfl (by first | rfl | simp [Value.oneCell'])) ((setRow_other _ _ _ _ HNB.out.1).trans HA4.out) ?_
          simp only [Act.put]
          refine m_skip11 (Mx.wanted_none rfl) (store_row_run 35 (.tmp 11) (.tmp 67) rfl (w.heap.size + 2) _ rfl rfl _ _ ((setRow_other _ _ _ _ (by omega)).trans HR4.out) infoE rfl (by first | rfl | simp [Value.oneCell'])) ((setRow_other _ _ _ _ HNB.out.2).trans ((setRow_other _ _ _ _ HNB.out.1).trans HA4.out)) ?_
          simp only [Act.put]
          refine Mx.m_run (w' := (w4.setRow (w.heap.size + 1) #[.int .i64 k2, .string i2, .string n2, .string l2, .string u2, .int .i64 d2, .int .i64 v2, .nilIface]).setRow (w.heap.size + 2) #[.int .i64 k2, .string i2, .string n2, .string l2, .string u2, .int .i64 d2, .int .i64 v2, .int .i64 (plainC (.odd (.nilIface))).kind, .string (plainC (.odd (.nilIface))).s, .int .i64 (plainC (.odd (.nilIface))).n, .slice ka4 (plainC (.odd (.nilIface))).k.length kc4]) (.bool false) (Mx.wanted_none rfl) ?_ ((setRow_other _ _ _ _ HNB.out.2).trans ((setRow_other _ _ _ _ HNB.out.1).trans HA4.out)) ?_
          · go_simp
          simp only [Act.put, List.setIfInBounds_toArray, List.set_cons_zero, List.set_cons_succ]
          refine Mx.m_nil (fun _ => ?_)
          go_wp2_with fail
          refine bodyPost_ret (results_cct rfl _ _ (w.heap.size + 1) (w.heap.size + 2) 30 35 #[.int .i64 k2, .string i2, .string n2, .string l2, .string u2, .int .i64 d2, .int .i64 v2, .nilIface] _ (0, 0) (0, 0) _ _ rfl ((setRow_other _ _ _ _ (by omega)).trans (setRow_heap _ _ _ _ _ _ HP4.out)) Tryz.underlying30 rfl infoA rfl (setRow_heap _ _ _ _ _ _ ((setRow_other _ _ _ _ (by omega)).trans HR4.out)) Tryz.underlying35 rfl infoE) rfl ?_
          exact ⟨⟨k2, i2, n2, l2, u2, d2, v2, (.odd (.nilIface))⟩, _, false, rfl, ⟨⟨HM2.out.ok.k1, HM2.out.ok.k2, HM2.out.ok.d1, HM2.out.ok.d2, HM2.out.ok.v1, HM2.out.ok.v2, HM2.out.ok.i, HM2.out.ok.n, HM2.out.ok.l, HM2.out.ok.u, HOV.out, (by show (1 : Nat) ≤ 1000000; omega)⟩, HM2.out.i, HM2.out.n, HM2.out.l, HM2.out.u, (by show (1 : Nat) ≤ 1000; omega)⟩, ⟨ka4, kc4, rfl, trow11 (trow11 HT4.out _ (show w.heap.size + 1 < W9.heap.size by have := HZ9.out; omega) (Nat.le_refl _)) _ (show w.heap.size + 2 < W9.heap.size by have := HZ9.out; omega) (Nat.zero_le _)⟩, (fun _ => .inl rfl), (fun h => by cases h), (fun h => by cases h), row_below (row_below HB4.out (by omega) _) (by omega) _⟩
        · go_upto_region 22 with fail
          have HEV := hidIn (event_any ⟨k2, i2, n2, l2, u2, d2, v2, (.odd (.iface ot ox))⟩ HOV.out)
          unfold Ev.val Ev.cs RIn at HEV
          simp only at HEV
          have HP9 : Hid ((w5.setCell ⟨w3.heap.size, 7, none⟩ (.iface ot ox)).heap[w.heap.size + 1]? = some (.cells #[.int .i64 0, .string ⟨#[]⟩, .string ⟨#[]⟩, .string ⟨#[]⟩, .string ⟨#[]⟩, .int .i64 0, .int .i64 0, .nilIface] 30)) := (heap_setCell_other _ ⟨w3.heap.size, 7, none⟩ _ _ (by have := HZ4.out; show w.heap.size + 1 ≠ w3.heap.size; omega)).trans HP5.out
          have HR9 : Hid ((w5.setCell ⟨w3.heap.size, 7, none⟩ (.iface ot ox)).heap[w.heap.size + 2]? = some (.cells zero11 35)) := (heap_setCell_other _ ⟨w3.heap.size, 7, none⟩ _ _ (by have := HZ4.out; show w.heap.size + 2 ≠ w3.heap.size; omega)).trans HR5.out
          have HA : Hid ((w5.setCell ⟨w3.heap.size, 7, none⟩ (.iface ot ox)).heap[w3.heap.size]? = some (.cells #[.int .i64 k2, .string i2, .string n2, .string l2, .string u2, .int .i64 d2, .int .i64 v2, .iface ot ox] 30)) := heap_setCell_same _ w3.heap.size 7 _ _ _ HE5.out
          have HB9 : Hid (Below w.heap.size w (w5.setCell ⟨w3.heap.size, 7, none⟩ (.iface ot ox))) := HB5.out.setCell (show w.heap.size ≤ w3.heap.size by have := HZ4.out; omega) _
          have HNB : Hid (w3.heap.size ≠ w.heap.size + 1 ∧ w3.heap.size ≠ w.heap.size + 2) := by have := HZ4.out; exact ⟨by omega, by omega⟩
          have HZ9 : Hid (w.heap.size + 3 ≤ (w5.setCell ⟨w3.heap.size, 7, none⟩ (.iface ot ox)).heap.size) := by have h1 := HZ4.out; have h2 := HZ5.out; unfold Hid; rw [World.size_setCell]; omega
          generalize w5.setCell ⟨w3.heap.size, 7, none⟩ (.iface ot ox) = W9 at *
          refine Mx.wp_region_mix (fun W => W.heap[w3.heap.size]? = some (.cells #[.int .i64 k2, .string i2, .string n2, .string l2, .string u2, .int .i64 d2, .int .i64 v2, .iface ot ox] 30)) [(0, false), (1, false), (3, false), (2, true), (4, true), (5, true), (6, true)] (by kernel_rfl) (by kernel_rfl) HA.out ?_ (by kernel_rfl)
          simp only [List.map_cons, List.map_nil, List.getD_cons_zero, List.getD_cons_succ]
          generalize hops : (#[_, _, _, _, _, _, _] : Array Oper) = ops
          clear hops
          refine Mx.m_pure (.agg #[.int .i64 k2, .string i2, .string n2, .string l2, .string u2, .int .i64 d2, .int .i64 v2, .iface ot ox]) (Mx.wanted_none rfl) (fun W hW => ?_) ?_
          · obtain ⟨z0, z1, z2, z3, z4, z5, z6, z7⟩ := cells8e hW
            go_simp
          simp only [Act.put, List.setIfInBounds_toArray, List.set_cons_zero, List.set_cons_succ]
          refine Mx.m_pure (.agg #[.int .i64 k2, .string i2, .string n2, .string l2, .string u2, .int .i64 d2, .int .i64 v2, .iface ot ox]) (Mx.wanted_none rfl) (fun W hW => ?_) ?_
          · obtain ⟨z0, z1, z2, z3, z4, z5, z6, z7⟩ := cells8e hW
            go_simp
          simp only [Act.put, List.setIfInBounds_toArray, List.set_cons_zero, List.set_cons_succ]
          refine Mx.m_pure (.bool true) (Mx.wanted_none rfl) (fun W hW => ?_) ?_
          · go_simp
          simp only [Act.put, List.setIfInBounds_toArray, List.set_cons_zero, List.set_cons_succ]
          refine Mx.m_call 37 #[.agg #[.int .i64 k2, .string i2, .string n2, .string l2, .string u2, .int .i64 d2, .int .i64 v2, .iface ot ox]] (Mx.wanted_none rfl) ?_ ?_
          · go_simp
          refine (HEV.out W9.drew).mono ?_
          rintro e w4 ⟨r4, rfl, ⟨ka4, kc4, rfl, ht4⟩, hb4⟩
          have HT4 := hidIn ht4
          have HB4 := hidIn (HB9.out.trans ((show Below W9.heap.size W9 w4 from ⟨hb4.os, hb4.tape, hb4.output, hb4.size, hb4.block⟩).mono HB9.out.size))
          have HA4 : Hid (w4.heap[w3.heap.size]? = some (.cells #[.int .i64 k2, .string i2, .string n2, .string l2, .string u2, .int .i64 d2, .int .i64 v2, .iface ot ox] 30)) := (hb4.block _ (Array.getElem?_eq_some_iff.1 HA.out).1).trans HA.out
          have HP4 : Hid (w4.heap[w.heap.size + 1]? = some (.cells #[.int .i64 0, .string ⟨#[]⟩, .string ⟨#[]⟩, .string ⟨#[]⟩, .string ⟨#[]⟩, .int .i64 0, .int .i64 0, .nilIface] 30)) := (hb4.block _ (Array.getElem?_eq_some_iff.1 HP9.out).1).trans HP9.out
          have HR4 : Hid (w4.heap[w.heap.size + 2]? = some (.cells zero11 35)) := (hb4.block _ (Array.getElem?_eq_some_iff.1 HR9.out).1).trans HR9.out
          clear ht4 hb4
          refine ⟨_, rfl, HA4.out, ?_⟩
          simp only [Act.put, List.setIfInBounds_toArray, List.set_cons_zero, List.set_cons_succ]
          refine m_skip11 (Mx.wanted_none rfl) (store_row_run 30 (.tmp 10) (.tmp 65) rfl (w.heap.size + 1) #[.int .i64 k2, .string i2, .string n2, .string l2, .string u2, .int .i64 d2, .int .i64 v2, .iface ot ox] rfl rfl _ _ HP4.out infoA rfl (by first | rfl | simp [Value.oneCell'])) ((setRow_other _ _ _ _ HNB.out.1).trans HA4.out) ?_
          simp only [Act.put]
          refine m_skip11 (Mx.wanted_none rfl) (store_row_run 35 (.tmp 11) (.tmp 67) rfl (w.heap.size + 2) _ rfl rfl _ _ ((setRow_other _ _ _ _ (by omega)).trans HR4.out) infoE rfl (by first | rfl | simp [Value.oneCell'])) ((setRow_other _ _ _ _ HNB.out.2).trans ((setRow_other _ _ _ _ HNB.out.1).trans HA4.out)) ?_
          simp only [Act.put]
          refine Mx.m_run (w' := (w4.setRow (w.heap.size + 1) #[.int .i64 k2, .string i2, .string n2, .string l2, .string u2, .int .i64 d2, .int .i64 v2, .iface ot ox]).setRow (w.heap.size + 2) #[.int .i64 k2, .string i2, .string n2, .string l2, .string u2, .int .i64 d2, .int .i64 v2, .int .i64 (plainC (.odd (.iface ot ox))).kind, .string (plainC (.odd (.iface ot ox))).s, .int .i64 (plainC (.odd (.iface ot ox))).n, .slice ka4 (plainC (.odd (.iface ot ox))).k.length kc4]) (.bool true) (Mx.wanted_none rfl) ?_ ((setRow_other _ _ _ _ HNB.out.2).trans ((setRow_other _ _ _ _ HNB.out.1).trans HA4.out)) ?_
          · go_simp
          simp only [Act.put, List.setIfInBounds_toArray, List.set_cons_zero, List.set_cons_succ]
          refine Mx.m_nil (fun _ => ?_)
          go_wp2_with fail
          refine bodyPost_ret (results_cct rfl _ _ (w.heap.size + 1) (w.heap.size + 2) 30 35 #[.int .i64 k2, .string i2, .string n2, .string l2, .string u2, .int .i64 d2, .int .i64 v2, .iface ot ox] _ (0, 0) (0, 0) _ _ rfl ((setRow_other _ _ _ _ (by omega)).trans (setRow_heap _ _ _ _ _ _ HP4.out)) Tryz.underlying30 rfl infoA rfl (setRow_heap _ _ _ _ _ _ ((setRow_other _ _ _ _ (by omega)).trans HR4.out)) Tryz.underlying35 rfl infoE) rfl ?_
          exact ⟨⟨k2, i2, n2, l2, u2, d2, v2, (.odd (.iface ot ox))⟩, _, true, rfl, ⟨⟨HM2.out.ok.k1, HM2.out.ok.k2, HM2.out.ok.d1, HM2.out.ok.d2, HM2.out.ok.v1, HM2.out.ok.v2, HM2.out.ok.i, HM2.out.ok.n, HM2.out.ok.l, HM2.out.ok.u, HOV.out, (by show (1 : Nat) ≤ 1000000; omega)⟩, HM2.out.i, HM2.out.n, HM2.out.l, HM2.out.u, (by show (1 : Nat) ≤ 1000; omega)⟩, ⟨ka4, kc4, rfl, trow11 (trow11 HT4.out _ (show w.heap.size + 1 < W9.heap.size by have := HZ9.out; omega) (Nat.le_refl _)) _ (show w.heap.size + 2 < W9.heap.size by have := HZ9.out; omega) (Nat.zero_le _)⟩, (fun h => by cases h), (fun _ => ⟨rfl, rfl⟩), (fun _ => by simpa using hod), row_below (row_below HB4.out (by omega) _) (by omega) _⟩

end Go.Proofs.YtkioolbjmcpjpaaGreatDoor.Ev
namespace Go.Proofs.YtkioolbjmcpjpaaGreatDoor.Ev
open Go.RowKit
set_option linter.unusedVariables false

/-- n in w bytes, the greatest first. -/
def gfL (n w : Nat) : List UInt8 := (List.range w).map fun i => UInt8.ofNat (n / 256 ^ (w - 1 - i))
/-- Bytes as a number, the greatest first. -/
def numL (l : List UInt8) : Nat := l.foldl (fun n c => n * 256 + c.toNat) 0
/-- A number of 64 bits as one not below 0, and back. -/
def nat64 (v : Int) : Nat := (v % 18446744073709551616).toNat
def int64 (n : Nat) : Int := if n < 9223372036854775808 then n else (n : Int) - 18446744073709551616
theorem nat64_lt (v : Int) : nat64 v < 256 ^ 8 := by unfold nat64; omega
theorem int64_nat64 (v : Int) (h1 : -9223372036854775808 ≤ v) (h2 : v ≤ 9223372036854775807) : int64 (nat64 v) = v := by
  unfold int64 nat64
  split <;> omega
theorem gfL_length (n w : Nat) : (gfL n w).length = w := by simp [gfL]
theorem gfL_succ (n w : Nat) : gfL n (w + 1) = gfL (n / 256) w ++ [UInt8.ofNat n] := by
  unfold gfL
  rw [List.range_succ, List.map_append]
  congr 1
  · apply List.map_congr_left
    intro i hi
    rw [List.mem_range] at hi
    rw [Nat.div_div_eq_div_mul, ← Nat.pow_succ', show w + 1 - 1 - i = (w - 1 - i).succ by omega]
  · simp
theorem numL_snoc (l : List UInt8) (c : UInt8) : numL (l ++ [c]) = numL l * 256 + c.toNat := by simp [numL, List.foldl_append]
theorem numL_gfL (w : Nat) : ∀ n, n < 256 ^ w → numL (gfL n w) = n := by
  induction w with
  | zero => intro n h; simp at h; subst h; rfl
  | succ w ih =>
    intro n h
    have e : UInt8.toNat (UInt8.ofNat n) = n % 256 := by simp
    rw [gfL_succ, numL_snoc, e, ih (n / 256) (by rw [Nat.pow_succ] at h; exact Nat.div_lt_of_lt_mul (by omega))]
    omega
theorem numL_lt (l : List UInt8) : numL l < 256 ^ l.length := by
  have h : ∀ r : List UInt8, numL r.reverse < 256 ^ r.length := by
    intro r
    induction r with
    | nil => simp [numL]
    | cons c r ih =>
      have := c.toNat_lt
      rw [List.reverse_cons, numL_snoc, List.length_cons, Nat.pow_succ]
      omega
  have := h l.reverse
  simpa using this

/-- A text behind its length. -/
def txL (s : ByteArray) (w : Nat) : List UInt8 := gfL s.size w ++ s.data.toList
/-- One field of an event as bytes, by its letter. -/
def fdL (e : Ev) (c : UInt8) : List UInt8 :=
  if c = 73 then txL e.i 1 else if c = 78 then txL e.n 1 else if c = 76 then txL e.l 1 else if c = 67 then txL e.u 1 else if c = 68 then gfL (nat64 e.d) 8 else if c = 86 then gfL (nat64 e.v) 8 else txL (wTextC e.t) 2
/-- A kind's letters in the order of bytes. -/
def ordL (k : Int) : List UInt8 :=
  if k = 1 then [] else if k = 2 then [73, 84] else if k = 3 then [78, 68, 86] else if k = 4 then [73, 76, 86] else if k = 5 then [68] else if k = 6 then [67, 68, 86] else []
def kdL (k : Int) : UInt8 := UInt8.ofNat (nat64 k)
/-- An event as bytes. -/
def pkL (e : Ev) : List UInt8 := kdL e.k :: (ordL e.k).flatMap (fdL e)
/-- What pack.Event answers. -/
def pkB (e : Ev) : ByteArray := if chkE e = 0 then ⟨(pkL e).toArray⟩ else ⟨#[]⟩
def order7 : List UInt8 := [73, 78, 76, 67, 68, 86, 84]
theorem ordL_filter (k : Int) : ordL k = order7.filter (fun c => hasB (flds k) c) := by
  have h : ∀ l : List UInt8, (∀ f : ByteArray, f = ⟨l.toArray⟩ → True) := fun _ _ _ => trivial
  unfold ordL flds
  split
  · decide +kernel
  split
  · decide +kernel
  split
  · decide +kernel
  split
  · decide +kernel
  split
  · decide +kernel
  split
  · decide +kernel
  · decide +kernel

end Go.Proofs.YtkioolbjmcpjpaaGreatDoor.Ev
namespace Go.Proofs.YtkioolbjmcpjpaaGreatDoor.Ev
open Go.RowKit
set_option linter.unusedVariables false

/-- The cells of bytes. -/
def rowB (l : List UInt8) : List Value := l.map fun b => .int .u8 b.toNat
theorem rowB_len (l : List UInt8) : (rowB l).length = l.length := by simp [rowB]
theorem rowB_get (l : List UInt8) (i : Nat) (x : UInt8) (h : l[i]? = some x) : (rowB l)[i]? = some (.int .u8 x.toNat) := by simp [rowB, h]
theorem rowB_app (a b : List UInt8) : rowB (a ++ b) = rowB a ++ rowB b := by simp [rowB]
theorem rowB_one (l : List UInt8) : ∀ u ∈ rowB l, u.oneCell' = true := by
  intro u hu
  obtain ⟨t, _, rfl⟩ := List.mem_map.1 hu
  rfl
theorem rowB_str (s : ByteArray) : Lib.strCells s = rowB s.data.toList := rfl
/-- Bytes of the call's own. -/
def OwnB (w : World) (B : Nat) (v : Value) (l : List UInt8) : Prop := w.ownsRow B 5 1 v l.length (rowB l)
theorem own_lower {w : World} {B B' : Nat} {v : Value} {l : List UInt8} (h : OwnB w B v l) (hB : B' ≤ B) : OwnB w B' v l := by
  refine ⟨h.1, ?_⟩
  rcases h.2 with h2 | ⟨g, cap, cur, h1, h2, h3⟩
  · exact .inl h2
  · exact .inr ⟨g, cap, cur, h1, Nat.le_trans hB h2, h3⟩
theorem own_below {w w' : World} {B : Nat} {v : Value} {l : List UInt8} (h : OwnB w B v l) (hb : Below w.heap.size w w') : OwnB w' B v l :=
  World.ownsRow.kept h (grown_of_below hb none) (by cases hv : v.ownBlock <;> simp)
theorem infoByte : (Tryz.prog.info? 5).map (fun i => (i.zero, i.size, i.bytes)) = some (some (.int .u8 0), 1, 1) := by kernel_rfl
theorem made_rowB (n : Nat) : (madeCells (Value.int .u8 0).cells (n * 1)).toList = rowB (List.replicate n 0) := by
  rw [show (Value.int .u8 0).cells = #[Value.int .u8 0] from rfl, toList_madeCells_one, Nat.mul_one]
  simp [rowB]
theorem gf_set (l : List UInt8) (k i : Nat) (x : UInt8) (hl : l.length = k) (h : l[i]? = some x) : (rowB (l.take i ++ List.replicate (k - i) 0)).set i (.int .u8 x.toNat) = rowB (l.take (i + 1) ++ List.replicate (k - (i + 1)) 0) := by
  have hi : i < l.length := (List.getElem?_eq_some_iff.1 h).1
  obtain ⟨m, hm⟩ : ∃ m, k - i = m + 1 := ⟨k - i - 1, by omega⟩
  rw [hm, show k - (i + 1) = m by omega, List.replicate_succ, rowB_app, rowB_app, List.set_append_right _ _ (by rw [rowB_len, List.length_take]; omega), rowB_len, List.length_take, show i - min i l.length = 0 by omega]
  have ht : l.take (i + 1) = l.take i ++ [x] := by rw [List.take_add_one, h]; rfl
  rw [ht, rowB_app, List.append_assoc]
  rfl
theorem gf_byte (n j : Nat) (x : UInt8) (hx : x = UInt8.ofNat (n / 256 ^ j)) : IntKind.u8.wrap ((n : Int) / 2 ^ (8 * j)) = (x.toNat : Int) := by
  subst hx
  have e : (2 : Int) ^ (8 * j) = ((256 ^ j : Nat) : Int) := by rw [Int.pow_mul]; norm_cast
  rw [e, ← Int.natCast_ediv]
  simp [IntKind.wrap, IntKind.bits, IntKind.signed]

set_option maxHeartbeats 1000000 in
set_option maxRecDepth 100000 in
theorem gf_any (n k : Nat) (w : World) (hn : n < 18446744073709551616) (hk : k ≤ 8) :
    Calls Tryz.prog 54 #[.int .u64 n, .int .i64 k] w fun e w' => ∃ v, e = .returned v ∧ OwnB w' w.heap.size v (gfL n k) ∧ Below w.heap.size w w' := by
  obtain ⟨i1, gi, gz0, gz1, gz2⟩ := info_parts infoByte
  unfold OwnB
  have HL : Hid ((gfL n k).length = k) := gfL_length n k
  have HG : Hid (∀ i j, k = i + 1 + j → (gfL n k)[i]? = some (UInt8.ofNat (n / 256 ^ j))) := fun i j h => by
    unfold gfL
    rw [List.getElem?_map, List.getElem?_range (by omega)]
    simp only [Option.map_some]
    rw [show k - 1 - i = j by omega]
  generalize gfL n k = L at *
  rw [HL.out]
  go_enter Tryz.func54, Tryz.ntmps54
  go_wp2_with (at_make; refine wpList_make_full _ rfl _ _ 55 rfl w.heap.size 5 i1 (.int .u8 0) 1 Tryz.underlying55 gi gz0 gz1 .i64 .i64 _ _ k rfl rfl (by omega) (by omega) (by rw [gz2]; omega) (by unfold maxLen; omega) (Nat.le_refl _) ?_; intro w1 hown hgrow)
  rw [made_rowB] at hown
  have hb1 : Below w.heap.size w w1 := (Below.refl _ _).grown hgrow (Nat.le_refl _) (fun j hj => by cases hj)
  clear hgrow
  go_loopw [11] (fun s11 wr => ∃ i : Nat, i ≤ k ∧ s11 = .int .i64 i ∧ wr.ownsRow w.heap.size 5 1 (.slice (some ⟨w.heap.size, 0, none⟩) k k) k (rowB (L.take i ++ List.replicate (k - i) 0)) ∧ Below w.heap.size w wr) (fun s11 _ => k - (intOf s11).toNat)
  case atStart => exact ⟨0, by omega, rfl, by simpa using hown, hb1⟩
  case round =>
    clear hown hb1
    obtain ⟨i, hi, rfl, hownr, hbr⟩ := hrel
    by_cases hlt : i < k
    · obtain ⟨j, hj⟩ : ∃ j, k = i + 1 + j := ⟨k - i - 1, by omega⟩
      have hx := HG.out i j hj
      have hst := hownr.stored i (.int .u8 (UInt8.ofNat (n / 256 ^ j)).toNat)
      rw [gf_set L k i _ HL.out hx] at hst
      obtain ⟨hst1, hst2⟩ := hst
      have hc := hownr.cellAt i (by omega)
      have hlen : i < (rowB (L.take i ++ List.replicate (k - i) 0)).length := by rw [rowB_len, List.length_append, List.length_take, List.length_replicate, HL.out]; omega
      obtain ⟨y, hy⟩ : ∃ y, (rowB (L.take i ++ List.replicate (k - i) 0))[i]? = some y := ⟨_, List.getElem?_eq_getElem hlen⟩
      rw [hy] at hc
      clear hy
      have hf : wr.frozen? ⟨w.heap.size, i, none⟩ = false := hownr.frozenAt i
      have hat := gf_byte n j _ rfl
      generalize UInt8.ofNat (n / 256 ^ j) = x at *
      have HS := hidIn hst1
      have HB := hidIn (hbr.setCell (show w.heap.size ≤ (⟨w.heap.size, i, none⟩ : Addr).block from Nat.le_refl _) (.int .u8 x.toNat))
      have hlt' : (i : Int) < (k : Int) := by omega
      have e1 : ((k : Int) - 1 - (i : Int)) = (j : Int) := by omega
      have e3 : 8 * j < 64 := by omega
      have HJ := hidIn hj
      clear hst1 hst2 hownr hbr hx hj hlen
      go_wp2_with fail
      go_roundw
      case rel => exact ⟨i + 1, by omega, by go_num, HS.out, HB.out⟩
      case measure => simp [intOf]; omega
    · have hlt' : ¬ (i : Int) < (k : Int) := by omega
      have hik : i = k := by omega
      subst hik
      rw [List.take_of_length_le (by rw [HL.out]; exact Nat.le_refl _), Nat.sub_self, List.replicate_zero, List.append_nil] at hownr
      go_wp2_with fail
      go_ret
      exact ⟨_, rfl, hownr, hbr⟩

theorem wrap64 (n : Int) : IntKind.u64.wrap n = (nat64 n : Int) := by
  unfold nat64
  simp [IntKind.wrap, IntKind.bits, IntKind.signed]
  omega
set_option maxHeartbeats 1000000 in
set_option maxRecDepth 100000 in
theorem number8_any (n : Int) (w : World) : Calls Tryz.prog 22 #[.int .i64 n] w fun e w' => ∃ v, e = .returned v ∧ OwnB w' w.heap.size v (gfL (nat64 n) 8) ∧ Below w.heap.size w w' := by
  have hw := wrap64 n
  have HG := hidIn (gf_any (nat64 n) 8 w (by have := nat64_lt n; omega) (by omega))
  generalize nat64 n = m at *
  go_enter Tryz.func22, Tryz.ntmps22
  go_wp2_with fail
  refine HG.out.mono ?_
  rintro e w1 ⟨v, rfl, hv, hb⟩
  have HV := hidIn hv
  have HB := hidIn hb
  clear hv hb
  go_wp2_with fail
  go_ret
  exact ⟨_, rfl, HV.out, HB.out⟩
set_option maxHeartbeats 1000000 in
set_option maxRecDepth 100000 in
theorem ptext_any (s : ByteArray) (k : Nat) (w : World) (hs : s.size ≤ 2147483648) (hk : k ≤ 8) : Calls Tryz.prog 95 #[.string s, .int .i64 k] w fun e w' => ∃ v, e = .returned v ∧ OwnB w' w.heap.size v (txL s k) ∧ Below w.heap.size w w' := by
  obtain ⟨i0, gi, gz0, gz1, gz2⟩ := info_parts infoByte
  have HG := hidIn (gf_any s.size k w (by omega) hk)
  have hw : IntKind.u64.wrap (s.size : Int) = (s.size : Int) := by rw [wrap64]; unfold nat64; omega
  have HT : Hid (txL s k = gfL s.size k ++ s.data.toList) := rfl
  have HL : Hid ((gfL s.size k).length = k) := gfL_length _ _
  have HZ : Hid (s.data.toList.length = s.size) := by unfold Hid; simp
  unfold OwnB
  rw [HT.out, List.length_append, HL.out, HZ.out]
  unfold OwnB at HG
  rw [HL.out] at HG
  go_enter Tryz.func95, Tryz.ntmps95
  go_wp2_with fail
  refine HG.out.mono ?_
  rintro e w1 ⟨v, rfl, hv, hb⟩
  have HV := hidIn hv
  have HB := hidIn hb
  clear hv hb
  go_wp2_with (at_builtin; refine Lib.wpList_append_own_string w1 rfl _ _ 55 9 rfl w.heap.size 5 i0 Tryz.underlying55 Tryz.underlying9 gi gz0 gz1 gz2 v k (rowB (gfL s.size k)) rfl HV.out s rfl (by unfold maxLen; omega) (by omega) HB.out.size ?_; intro v2 w2 hown2 hgrow2 _)
  go_ret
  exact ⟨_, rfl, by rw [rowB_app]; exact hown2, HB.out.grown hgrow2 HB.out.size (fun j hj => (World.ownsRow.lt HV.out j hj).1)⟩

end Go.Proofs.YtkioolbjmcpjpaaGreatDoor.Ev
namespace Go.Proofs.YtkioolbjmcpjpaaGreatDoor.Ev
open Go.RowKit
set_option linter.unusedVariables false

def ordS : ByteArray := ⟨#[73, 78, 76, 67, 68, 86, 84]⟩
/-- A kind's letters among the first j in the order of bytes. -/
def ordT (k : Int) (j : Nat) : ByteArray := ⟨((order7.take j).filter (fun c => hasB (flds k) c)).toArray⟩
theorem ordT_zero (k : Int) : ordT k 0 = ⟨#[]⟩ := rfl
theorem ordT_all (k : Int) : ordT k 7 = ⟨(ordL k).toArray⟩ := by unfold ordT; rw [ordL_filter]; rfl
theorem ordT_yes (k : Int) (j : Nat) (c : UInt8) (hc : order7[j]? = some c) (h : hasB (flds k) c = true) : ordT k (j + 1) = ordT k j ++ ⟨#[c]⟩ := by
  apply Go.WideShapes.bytes_inj
  unfold ordT
  rw [List.take_add_one, hc, List.filter_append]
  simp [h]
theorem ordT_no (k : Int) (j : Nat) (c : UInt8) (hc : order7[j]? = some c) (h : hasB (flds k) c = false) : ordT k (j + 1) = ordT k j := by
  unfold ordT
  rw [List.take_add_one, hc, List.filter_append]
  simp [h]
theorem ordT_size (k : Int) (j : Nat) : (ordT k j).size ≤ 7 := by
  have h1 := List.length_filter_le (fun c => hasB (flds k) c) (order7.take j)
  have h2 : (order7.take j).length ≤ 7 := by rw [List.length_take]; exact Nat.min_le_right _ _
  exact Nat.le_trans h1 h2
theorem enc_ascii (c : UInt8) (h : c.toNat < 128) : Utf8.encode (c.toNat : Int) = ⟨#[c]⟩ := by
  have : ∀ n : Nat, n < 128 → Utf8.encode ((UInt8.ofNat n).toNat : Int) = ⟨#[UInt8.ofNat n]⟩ := by decide +kernel
  have h2 := this c.toNat h
  rwa [UInt8.ofNat_toNat] at h2

set_option maxHeartbeats 4000000 in
set_option maxRecDepth 100000 in
theorem pfields_any (k : Int) (w : World) : Calls Tryz.prog 55 #[.int .i64 k] w fun e w' => e = .returned (.string ⟨(ordL k).toArray⟩) ∧ Below w.heap.size w w' := by
  have HF := hidIn (fun w => fields_any k w)
  have HC : Hid (∀ (j : Nat) (c : UInt8) (w : World), order7[j]? = some c → Calls Tryz.prog 94 #[.string (flds k), .int .i32 (c.toNat : Int)] w fun e w' => e = .returned (.bool (hasB (flds k) c)) ∧ w' = w) := fun j c w hj => by
    have h128 : c.toNat < 128 := by
      have : ∀ c ∈ order7, c.toNat < 128 := by decide +kernel
      exact this c (List.mem_of_getElem? hj)
    have h := Tryz.strings_ContainsRune_ascii (flds k) (c.toNat : Int) w (by omega) (by omega)
    rw [show ((c.toNat : Int)).toNat.toUInt8 = c by simp] at h
    exact h
  have HY := hidIn (ordT_yes k)
  have HN := hidIn (ordT_no k)
  have HA := hidIn (ordT_all k)
  have H0 := hidIn (ordT_zero k)
  have HZ := hidIn (ordT_size k)
  generalize flds k = f at *
  generalize ordT k = T at *
  generalize (⟨(ordL k).toArray⟩ : ByteArray) = res at *
  go_enter Tryz.func55, Tryz.ntmps55
  go_wp2_with fail
  refine calls_same (HF.out w) ?_
  go_wp2_with fail
  go_loopw [4] (fun s4 wr => ∃ j : Nat, j ≤ 7 ∧ s4 = .string (T j) ∧ wr = w.iter ordS j) (fun _ wr => 7 - wr.iterPos w.heap.size)
  case atStart => exact ⟨0, by omega, by rw [H0.out], rfl⟩
  case round =>
    obtain ⟨j, hj, rfl, rfl⟩ := hrel
    by_cases hlt : j < 7
    · obtain ⟨c, hc⟩ : ∃ c, order7[j]? = some c := ⟨_, List.getElem?_eq_getElem (show j < order7.length from hlt)⟩
      have hp : j < ordS.size := hlt
      have hcs : ordS[j]'hp = c := by
        have : order7[j]'(show j < order7.length from hlt) = c := by rw [List.getElem?_eq_getElem (show j < order7.length from hlt)] at hc; exact Option.some.inj hc
        rw [← this]
        rfl
      have h128 : c.toNat < 128 := by
        have : ∀ c ∈ order7, c.toNat < 128 := by decide +kernel
        exact this c (List.mem_of_getElem? hc)
      have hnx : ∀ ty, (Instr.next (.pointer (some ⟨w.heap.size, 0, none⟩)) true ty).run Tryz.prog (w.iter ordS j) = .ok (.tuple #[.bool true, .int .i64 j, .int .i32 c.toNat]) (w.iter ordS (j + 1)) := fun ty => by
        have := run_next_ascii (P := Tryz.prog) w ordS j ty hp (by rw [hcs]; exact h128)
        rw [hcs] at this
        exact this
      have hen := enc_ascii c h128
      have hzj := HZ.out j
      have HC1 := hidIn (HC.out j c (w.iter ordS (j + 1)) hc)
      have HY1 := hidIn (HY.out j c hc)
      have HN1 := hidIn (HN.out j c hc)
      obtain ⟨z, hz⟩ : ∃ z : ByteArray, (⟨#[c]⟩ : ByteArray) = z := ⟨_, rfl⟩
      rw [hz] at hen HY1
      have hz1 : z.size = 1 := by rw [← hz]; rfl
      clear hcs hp hz h128
      cases hb : hasB f c
      · rw [hb] at HC1
        go_wp2_with fail
        refine calls_same HC1.out ?_
        go_wp2_with fail
        go_roundw
        case rel => exact ⟨j + 1, by omega, by rw [HN1.out hb], rfl⟩
        case measure => simp; omega
      · rw [hb] at HC1
        go_wp2_with fail
        refine calls_same HC1.out ?_
        go_wp2_with fail
        go_roundw
        case rel => exact ⟨j + 1, by omega, by rw [HY1.out hb], rfl⟩
        case measure => simp; omega
    · have h7 : j = 7 := by omega
      subst h7
      have hnx : ∀ ty, (Instr.next (.pointer (some ⟨w.heap.size, 0, none⟩)) true ty).run Tryz.prog (w.iter ordS 7) = _ := fun ty => run_next_end w ordS 7 ty (by decide)
      rw [HA.out]
      go_wp2_with fail
      go_ret
      exact ⟨rfl, below_iter _ _ _⟩

structure Ev.Sz (e : Ev) : Prop where
  i : e.i.size ≤ 2147483648
  n : e.n.size ≤ 2147483648
  l : e.l.size ≤ 2147483648
  u : e.u.size ≤ 2147483648
theorem wTextC_size (c : C) : (wTextC c).size ≤ 1000 := by
  unfold wTextC
  split
  · split
    · decide
    · omega
  · decide
/-- What packed answers. -/
def FdPost (w : World) (l : List UInt8) (r : Ending) (w' : World) : Prop := ∃ v, r = .returned v ∧ OwnB w' w.heap.size v l ∧ Below w.heap.size w w'

set_option maxHeartbeats 4000000 in
set_option maxRecDepth 100000 in
theorem packed_any (e : Ev) (hok : e.Ok) (hsz : e.Sz) (c : UInt8) (hc : c ∈ order7) (w : World) (ht : TabW w) : Calls Tryz.prog 56 #[e.val, .int .i32 (c.toNat : Int)] w (FdPost w (fdL e c)) := by
  have HW := hidIn (fun w ht => writeC_any e.t hok.t hok.w w ht)
  have HT := hidIn ht
  have HI := hidIn (fun w => ptext_any e.i 1 w hsz.i (by omega))
  have HN := hidIn (fun w => ptext_any e.n 1 w hsz.n (by omega))
  have HL := hidIn (fun w => ptext_any e.l 1 w hsz.l (by omega))
  have HU := hidIn (fun w => ptext_any e.u 1 w hsz.u (by omega))
  have HD := hidIn (fun w => number8_any e.d w)
  have HV := hidIn (fun w => number8_any e.v w)
  have HX := hidIn (fun w => ptext_any (wTextC e.t) 2 w (by have := wTextC_size e.t; omega) (by omega))
  have one := e.t.one' hok.t
  have hcc : c = 73 ∨ c = 78 ∨ c = 76 ∨ c = 67 ∨ c = 68 ∨ c = 86 ∨ c = 84 := by simpa [order7] using hc
  unfold FdPost
  have F73 : Hid (fdL e 73 = txL e.i 1) := rfl
  have F78 : Hid (fdL e 78 = txL e.n 1) := rfl
  have F76 : Hid (fdL e 76 = txL e.l 1) := rfl
  have F67 : Hid (fdL e 67 = txL e.u 1) := rfl
  have F68 : Hid (fdL e 68 = gfL (nat64 e.d) 8) := rfl
  have F86 : Hid (fdL e 86 = gfL (nat64 e.v) 8) := rfl
  have F84 : Hid (fdL e 84 = txL (wTextC e.t) 2) := rfl
  generalize fdL e = fd at *
  clear hok hsz ht hc
  obtain ⟨k, i, n, l, u, d, v, t⟩ := e
  unfold Ev.val Ev.cs at *
  simp only at *
  generalize txL i 1 = ri at *
  generalize txL n 1 = rn at *
  generalize txL l 1 = rl at *
  generalize txL u 1 = ru at *
  generalize gfL (nat64 d) 8 = rd at *
  generalize gfL (nat64 v) 8 = rv at *
  generalize t.val = tv at *
  have HBV : Hid (Below w.heap.size w (w.alloc (.cells #[.int .i64 k, .string i, .string n, .string l, .string u, .int .i64 d, .int .i64 v, tv] 30))) := below_alloc (Below.refl _ _) _
  have hx := heap_alloc_new w (.cells #[.int .i64 k, .string i, .string n, .string l, .string u, .int .i64 d, .int .i64 v, tv] 30)
  have HXX := hidIn hx
  clear hx
  rcases hcc with rfl | rfl | rfl | rfl | rfl | rfl | rfl
  · rw [F73.out, show (((73 : UInt8).toNat : Nat) : Int) = 73 from rfl]
    clear F73 F78 F76 F67 F68 F86 F84
    go_enter Tryz.func56, Tryz.ntmps56
    go_wp2_with fail
    generalize w.alloc (.cells #[.int .i64 k, .string i, .string n, .string l, .string u, .int .i64 d, .int .i64 v, tv] 30) = V at *
    refine (HI.out V).mono ?_
    rintro e w1 ⟨v1, rfl, hv1, hb1⟩
    have HV1 := hidIn hv1
    have HB1 := hidIn hb1
    clear hv1 hb1
    go_wp2_with fail
    go_ret
    exact ⟨_, rfl, own_lower HV1.out HBV.out.size, HBV.out.trans (HB1.out.mono HBV.out.size)⟩
  · rw [F78.out, show (((78 : UInt8).toNat : Nat) : Int) = 78 from rfl]
    clear F73 F78 F76 F67 F68 F86 F84
    go_enter Tryz.func56, Tryz.ntmps56
    go_wp2_with fail
    generalize w.alloc (.cells #[.int .i64 k, .string i, .string n, .string l, .string u, .int .i64 d, .int .i64 v, tv] 30) = V at *
    refine (HN.out V).mono ?_
    rintro e w1 ⟨v1, rfl, hv1, hb1⟩
    have HV1 := hidIn hv1
    have HB1 := hidIn hb1
    clear hv1 hb1
    go_wp2_with fail
    go_ret
    exact ⟨_, rfl, own_lower HV1.out HBV.out.size, HBV.out.trans (HB1.out.mono HBV.out.size)⟩
  · rw [F76.out, show (((76 : UInt8).toNat : Nat) : Int) = 76 from rfl]
    clear F73 F78 F76 F67 F68 F86 F84
    go_enter Tryz.func56, Tryz.ntmps56
    go_wp2_with fail
    generalize w.alloc (.cells #[.int .i64 k, .string i, .string n, .string l, .string u, .int .i64 d, .int .i64 v, tv] 30) = V at *
    refine (HL.out V).mono ?_
    rintro e w1 ⟨v1, rfl, hv1, hb1⟩
    have HV1 := hidIn hv1
    have HB1 := hidIn hb1
    clear hv1 hb1
    go_wp2_with fail
    go_ret
    exact ⟨_, rfl, own_lower HV1.out HBV.out.size, HBV.out.trans (HB1.out.mono HBV.out.size)⟩
  · rw [F67.out, show (((67 : UInt8).toNat : Nat) : Int) = 67 from rfl]
    clear F73 F78 F76 F67 F68 F86 F84
    go_enter Tryz.func56, Tryz.ntmps56
    go_wp2_with fail
    generalize w.alloc (.cells #[.int .i64 k, .string i, .string n, .string l, .string u, .int .i64 d, .int .i64 v, tv] 30) = V at *
    refine (HU.out V).mono ?_
    rintro e w1 ⟨v1, rfl, hv1, hb1⟩
    have HV1 := hidIn hv1
    have HB1 := hidIn hb1
    clear hv1 hb1
    go_wp2_with fail
    go_ret
    exact ⟨_, rfl, own_lower HV1.out HBV.out.size, HBV.out.trans (HB1.out.mono HBV.out.size)⟩
  · rw [F68.out, show (((68 : UInt8).toNat : Nat) : Int) = 68 from rfl]
    clear F73 F78 F76 F67 F68 F86 F84
    go_enter Tryz.func56, Tryz.ntmps56
    go_wp2_with fail
    generalize w.alloc (.cells #[.int .i64 k, .string i, .string n, .string l, .string u, .int .i64 d, .int .i64 v, tv] 30) = V at *
    refine (HD.out V).mono ?_
    rintro e w1 ⟨v1, rfl, hv1, hb1⟩
    have HV1 := hidIn hv1
    have HB1 := hidIn hb1
    clear hv1 hb1
    go_wp2_with fail
    go_ret
    exact ⟨_, rfl, own_lower HV1.out HBV.out.size, HBV.out.trans (HB1.out.mono HBV.out.size)⟩
  · rw [F86.out, show (((86 : UInt8).toNat : Nat) : Int) = 86 from rfl]
    clear F73 F78 F76 F67 F68 F86 F84
    go_enter Tryz.func56, Tryz.ntmps56
    go_wp2_with fail
    generalize w.alloc (.cells #[.int .i64 k, .string i, .string n, .string l, .string u, .int .i64 d, .int .i64 v, tv] 30) = V at *
    refine (HV.out V).mono ?_
    rintro e w1 ⟨v1, rfl, hv1, hb1⟩
    have HV1 := hidIn hv1
    have HB1 := hidIn hb1
    clear hv1 hb1
    go_wp2_with fail
    go_ret
    exact ⟨_, rfl, own_lower HV1.out HBV.out.size, HBV.out.trans (HB1.out.mono HBV.out.size)⟩
  · rw [F84.out, show (((84 : UInt8).toNat : Nat) : Int) = 84 from rfl]
    clear F73 F78 F76 F67 F68 F86 F84
    generalize wTextC t = tx at *
    go_enter Tryz.func56, Tryz.ntmps56
    go_wp2_with fail
    generalize w.alloc (.cells #[.int .i64 k, .string i, .string n, .string l, .string u, .int .i64 d, .int .i64 v, tv] 30) = V at *
    refine (HW.out V (tabW_below HT.out HBV.out)).mono ?_
    rintro e w1 ⟨rfl, hb1⟩
    have HB1 := hidIn (HBV.out.trans (hb1.mono HBV.out.size))
    clear hb1
    go_wp2_with fail
    refine (HX.out w1).mono ?_
    rintro e w2 ⟨v2, rfl, hv2, hb2⟩
    have HV2 := hidIn hv2
    have HB2 := hidIn hb2
    clear hv2 hb2
    go_wp2_with fail
    go_ret
    exact ⟨_, rfl, own_lower HV2.out HB1.out.size, HB1.out.trans (HB2.out.mono HB1.out.size)⟩

end Go.Proofs.YtkioolbjmcpjpaaGreatDoor.Ev
namespace Go.Proofs.YtkioolbjmcpjpaaGreatDoor.Ev
open Go.RowKit
set_option linter.unusedVariables false

theorem own_grown_refl (w : World) (r : Option Nat) : w.grownBy w r := grown_of_below (Below.refl _ _) r
theorem wpList_append_bytes {ops : Array Oper} {rest : List Oper} {o : Oper} {a : Act} {Q : Exit → Act → World → Prop} (w : World) (hgd : o.guard = none) (s x : Operand)
    (ho : o.op = .call { callee := .builtin .append, args := #[s, x], argTypes := #[55, 55] })
    (base : Nat) (v : Value) (l : List UInt8) (hs : a.eval s = v) (hown : OwnB w base v l)
    (B : Nat) (xv : Value) (m : List UInt8) (hx : a.eval x = xv) (hox : OwnB w B xv m) (hlen : l.length + m.length ≤ 140737488355328) (hbase : base ≤ w.heap.size)
    (h : ∀ v' w', OwnB w' base v' (l ++ m) → w.grownBy w' v.ownBlock → (v'.ownBlock = v.ownBlock ∨ v'.ownBlock = some w.heap.size) → wpList Tryz.prog ops Q rest (a.put o.dst v') w') : wpList Tryz.prog ops Q (o :: rest) a w := by
  obtain ⟨i0, gi, gz0, gz1, gz2⟩ := info_parts infoByte
  unfold OwnB at hown hox h
  have hox2 := hox
  rcases hox2.2 with ⟨rfl, h0⟩ | ⟨g, cap, cur, rfl, hb, hg, hnc, hcm, _⟩
  · have hm : m = [] := List.length_eq_zero_iff.1 h0
    subst hm
    refine wpList_append_own_none hgd s x 55 ho base 5 i0 1 Tryz.underlying55 gi v l.length (rowB l) hs hown hx ?_
    exact h v w (by simpa using hown) (own_grown_refl w _) (.inl rfl)
  · refine wpList_append_own_at w hgd s x 55 ho base 5 i0 (.int .u8 0) 1 1 Tryz.underlying55 gi gz0 gz1 gz2 rfl (by decide) v l.length (rowB l) hs hown ⟨g, 0, none⟩ m.length cap (rowB m) hx (by rw [rowB_len]; omega) ?_ (rowB_one m) (by unfold maxLen; omega) (by omega) hbase ?_
    · intro j u hj
      rw [Addr.add_lit, Nat.zero_add]
      have hjl : j < m.length := by
        have := (List.getElem?_eq_some_iff.1 hj).1
        rwa [rowB_len] at this
      rw [hox.cellAt j (by omega)]
      exact hj
    · intro v' w' h1 h2 _ h3
      refine h v' w' ?_ h2 h3
      rw [List.length_append, rowB_app]
      exact h1
theorem own_iterAt {w : World} {B k : Nat} {v : Value} {l : List UInt8} {s : ByteArray} {p : Nat} (h : OwnB w B v l) (hk : w.heap[k]? = some (.stringIter s p)) (p' : Nat) : OwnB (w.iterAt k s p') B v l := by
  refine ⟨h.1, ?_⟩
  rcases h.2 with h2 | ⟨g, cap, cur, h1, h2, h3, h4⟩
  · exact .inl h2
  · refine .inr ⟨g, cap, cur, h1, h2, ?_, h4⟩
    rw [Lib.iterAt_other _ _ _ _ _ (by rintro rfl; rw [hk] at h3; cases h3)]
    exact h3
theorem own_not {w : World} {B k : Nat} {v : Value} {l : List UInt8} {s : ByteArray} {p : Nat} (h : OwnB w B v l) (hk : w.heap[k]? = some (.stringIter s p)) : some k ≠ v.ownBlock := by
  rcases h.2 with ⟨rfl, _⟩ | ⟨g, cap, cur, rfl, h2, h3, h4⟩
  · simp [Value.ownBlock]
  · intro e
    simp [Value.ownBlock] at e
    subst e
    rw [hk] at h3
    cases h3
theorem own_one {w : World} {x : UInt8} {o : Obj} (ho : o = .cells #[.int .u8 x.toNat] 5) : OwnB (w.alloc o) w.heap.size (.slice (some ⟨w.heap.size, 0, none⟩) 1 1) [x] := by
  subst ho
  exact ⟨rfl, .inr ⟨w.heap.size, 1, #[.int .u8 x.toNat], rfl, Nat.le_refl _, heap_alloc_new w _, Nat.le_refl _, by unfold maxLen; omega, rfl, rfl⟩⟩
theorem wrap_u8 (k : Int) : IntKind.u8.wrap k = ((kdL k).toNat : Int) := by
  unfold kdL nat64
  simp [IntKind.wrap, IntKind.bits, IntKind.signed]
  omega
theorem txL_len (s : ByteArray) (k : Nat) : (txL s k).length = k + s.size := by unfold txL; simp [gfL_length]
theorem fdL_len (e : Ev) (h : e.Sz) (c : UInt8) : (fdL e c).length ≤ 2147483656 := by
  have := wTextC_size e.t
  have h1 := h.i
  have h2 := h.n
  have h3 := h.l
  have h4 := h.u
  unfold fdL
  repeat (split; · first | (rw [txL_len]; omega) | (rw [gfL_length]; omega))
  rw [txL_len]
  omega
theorem flat_len (f : UInt8 → List UInt8) (n : Nat) (h : ∀ c, (f c).length ≤ n) : ∀ l : List UInt8, (l.flatMap f).length ≤ l.length * n := by
  intro l
  induction l with
  | nil => simp
  | cons a l ih =>
    have := h a
    rw [List.flatMap_cons, List.length_append, List.length_cons, Nat.succ_mul]
    omega
theorem ordL_mem (k : Int) : ∀ c ∈ ordL k, c ∈ order7 := by
  intro c hc
  rw [ordL_filter] at hc
  exact (List.mem_filter.1 hc).1
theorem ordL_len (k : Int) : (ordL k).length ≤ 7 := by
  rw [ordL_filter]
  exact List.length_filter_le _ _
theorem infoA12 : (Tryz.prog.info? 30).map (·.size) = some 8 := by kernel_rfl
/-- The bytes that pack.Event answers. -/
def pkR (e : Ev) : List UInt8 := if chkE e = 0 then pkL e else []
def PkPost (w : World) (l : List UInt8) (n : Int) (r : Ending) (w' : World) : Prop := ∃ v, r = .returned (.tuple #[v, .int .i64 n]) ∧ OwnB w' w.heap.size v l ∧ Below w.heap.size w w'

set_option maxHeartbeats 4000000 in
set_option maxRecDepth 100000 in
theorem pevent_any (e : Ev) (hok : e.Ok) (hsz : e.Sz) (w : World) (ht : TabW w) : Calls Tryz.prog 23 #[e.val] w (PkPost w (pkR e) (chkE e)) := by
  have HC := hidIn (fun w ht => check_any e hok w ht)
  have HP := hidIn (fun c hc w ht => packed_any e hok hsz c hc w ht)
  obtain ⟨S, hS⟩ : ∃ S : ByteArray, S = ⟨(ordL e.k).toArray⟩ := ⟨_, rfl⟩
  have HF := hidIn (fun w => pfields_any e.k w)
  rw [← hS] at HF
  have HS := hidIn hS
  clear hS
  have HT := hidIn ht
  have HLN := hidIn (fun n => Nat.le_trans (flat_len (fdL e) 2147483656 (fdL_len e hsz) ((ordL e.k).take n)) (Nat.mul_le_mul_right _ (Nat.le_trans (List.length_take_le' _ _) (ordL_len e.k))))
  have HFL := hidIn (fdL_len e hsz)
  have HM := hidIn (ordL_mem e.k)
  have HR : Hid (pkR e = if chkE e = 0 then kdL e.k :: (ordL e.k).flatMap (fdL e) else []) := rfl
  have one := e.t.one' hok.t
  have HKW := hidIn (wrap_u8 e.k)
  unfold PkPost
  generalize pkR e = res at *
  generalize chkE e = ce at *
  generalize fdL e = fd at *
  clear hok hsz ht
  obtain ⟨k, i, n, l, u, d, v, t⟩ := e
  unfold Ev.val Ev.cs at *
  simp only at *
  generalize ordL k = L at *
  generalize t.val = tv at *
  have hkw := HKW.out
  generalize kdL k = kd at *
  clear t
  go_enter Tryz.func23, Tryz.ntmps23
  go_wp2_with fail
  have HBV : Hid (Below w.heap.size w (w.alloc (.cells #[.int .i64 k, .string i, .string n, .string l, .string u, .int .i64 d, .int .i64 v, tv] 30))) := below_alloc (Below.refl _ _) _
  have HX := hidIn (heap_alloc_new w (.cells #[.int .i64 k, .string i, .string n, .string l, .string u, .int .i64 d, .int .i64 v, tv] 30))
  generalize w.alloc (.cells #[.int .i64 k, .string i, .string n, .string l, .string u, .int .i64 d, .int .i64 v, tv] 30) = V at *
  refine (HC.out V (tabW_below HT.out HBV.out)).mono ?_
  rintro e w1 ⟨rfl, hb⟩
  have HB1 := hidIn (HBV.out.trans (hb.mono HBV.out.size))
  have HX1 := hidIn ((hb.block _ (Array.getElem?_eq_some_iff.1 HX.out).1).trans HX.out)
  have HLT : Hid (w.heap.size < w1.heap.size) := (Array.getElem?_eq_some_iff.1 HX1.out).1
  clear hb
  by_cases h0 : ce = 0
  rotate_left
  · have h0' : (ce != 0) = true := by simpa using h0
    rw [if_neg h0] at HR
    clear h0
    go_wp2_with fail
    go_ret2
    exact ⟨_, rfl, by rw [HR.out]; exact World.ownsRow_nil _ _ _ _, HB1.out⟩
  · subst h0
    rw [if_pos rfl] at HR
    have c0 : w1.cell? ⟨w.heap.size, 0, none⟩ = some (.int .i64 k) := cell_of_row _ _ 0 _ _ _ HX1.out
    go_upto_region 5 with fail
    clear c0
    have HO2 : Hid (OwnB (w1.alloc (.cells #[.int .u8 kd.toNat] 5)) w1.heap.size (.slice (some ⟨w1.heap.size, 0, none⟩) 1 1) [kd]) := own_one rfl
    have HB2 : Hid (Below w1.heap.size w1 (w1.alloc (.cells #[.int .u8 kd.toNat] 5))) := below_alloc (Below.refl _ _) _
    generalize w1.alloc (.cells #[.int .u8 kd.toNat] 5) = w2 at *
    have c0 : w2.cell? ⟨w.heap.size, 0, none⟩ = some (.int .i64 k) := cell_of_row _ _ 0 _ _ _ ((HB2.out.block _ HLT.out).trans HX1.out)
    go_wp2_with fail
    clear c0
    refine (HF.out w2).mono ?_
    rintro e w3 ⟨rfl, hb3⟩
    have HO3 := hidIn (own_below HO2.out hb3)
    have HB3 := hidIn (HB2.out.trans (hb3.mono HB2.out.size))
    clear hb3 HO2 HB2
    go_wp2_with fail
    have HO4 : Hid (OwnB (w3.iter S 0) w1.heap.size (.slice (some ⟨w1.heap.size, 0, none⟩) 1 1) [kd]) := own_below HO3.out (below_alloc (Below.refl _ _) _)
    have HB4 : Hid (Below w1.heap.size w1 (w3.iter S 0)) := below_alloc HB3.out _
    have HI4 : Hid ((w3.iter S 0).heap[w3.heap.size]? = some (.stringIter S 0)) := heap_alloc_new w3 _
    have HK : Hid (w1.heap.size ≤ w3.heap.size) := HB3.out.size
    clear HO3 HB3
    go_loopw [5] (fun s5 wr => ∃ (j : Nat), j ≤ L.length ∧ OwnB wr w1.heap.size s5 (kd :: (L.take j).flatMap fd) ∧ wr.heap[w3.heap.size]? = some (.stringIter S j) ∧ Below w1.heap.size w1 wr) (fun _ wr => L.length - wr.iterPos w3.heap.size)
    case atStart => exact ⟨0, Nat.zero_le _, HO4.out, HI4.out, HB4.out⟩
    case round =>
      obtain ⟨j, hj, ho, hit, hbr⟩ := hrel
      have HO := hidIn ho
      have HIT := hidIn hit
      have HBR := hidIn hbr
      clear ho hit hbr
      by_cases hlt : j < L.length
      · obtain ⟨c, hc⟩ : ∃ c, L[j]? = some c := ⟨_, List.getElem?_eq_getElem hlt⟩
        have hmem := HM.out c (List.mem_of_getElem? hc)
        have h128 : c.toNat < 128 := by
          have : ∀ c ∈ order7, c.toNat < 128 := by decide +kernel
          exact this c hmem
        have hnx : ∀ ty, (Instr.next (.pointer (some ⟨w3.heap.size, 0, none⟩)) true ty).run Tryz.prog wr = .ok (.tuple #[.bool true, .int .i64 j, .int .i32 c.toNat]) (wr.iterAt w3.heap.size S (j + 1)) := fun ty => by
          have hp : j < S.size := by rw [HS.out]; exact hlt
          have hcs : S[j]'hp = c := by
            have h2 : L[j] = c := by rw [List.getElem?_eq_getElem hlt] at hc; exact Option.some.inj hc
            have h3 := HS.out
            subst h3
            rw [← h2]
            rfl
          have := Lib.run_next_ascii_at (P := Tryz.prog) wr w3.heap.size S j ty HIT.out hp (by rw [hcs]; exact h128)
          rw [hcs] at this
          exact this
        have HO5 := hidIn (own_iterAt HO.out HIT.out (j + 1))
        have HI5 := hidIn (Lib.iterAt_heap wr w3.heap.size S j (j + 1) HIT.out)
        have HB5 := hidIn (Lib.below_iterAt HBR.out HK.out S (j + 1))
        have HTK : Hid ((L.take (j + 1)).flatMap fd = (L.take j).flatMap fd ++ fd c) := by unfold Hid; rw [List.take_add_one, hc]; simp
        have HLJ := hidIn (HLN.out j)
        generalize wr.iterAt w3.heap.size S (j + 1) = W5 at *
        have HX5 := hidIn ((HB5.out.block _ HLT.out).trans HX1.out)
        have HT5 := hidIn (tabW_below HT.out (HB1.out.trans (HB5.out.mono HB1.out.size)))
        have HPC := hidIn (HP.out c hmem)
        clear h128 hmem
        go_wp2_with (refine wpList_load_row rfl 30 (.tmp 1) rfl (w.heap.size) rfl _ _ _ _ HX5.out Tryz.underlying30 rfl infoA12 ?_)
        refine (HPC.out W5 HT5.out).mono ?_
        rintro e w6 ⟨v6, rfl, hv6, hb6⟩
        have HV6 := hidIn hv6
        have HO6 := hidIn (own_below HO5.out hb6)
        have HI6 := hidIn ((hb6.block _ (Array.getElem?_eq_some_iff.1 HI5.out).1).trans HI5.out)
        have HB6 := hidIn (HB5.out.trans (hb6.mono HB5.out.size))
        have HFC := HFL.out c
        clear hv6 hb6
        go_wp2_with (at_builtin; refine wpList_append_bytes w6 rfl _ _ rfl w1.heap.size u5 _ rfl HO6.out W5.heap.size v6 (fd c) rfl HV6.out (by have := HLJ.out; simp only [List.length_cons]; omega) HB6.out.size ?_; intro v7 w7 hown7 hgrow7 _)
        have HO7 : Hid (OwnB w7 w1.heap.size v7 (kd :: (L.take (j + 1)).flatMap fd)) := by unfold Hid; rw [HTK.out]; exact hown7
        have HI7 : Hid (w7.heap[w3.heap.size]? = some (.stringIter S (j + 1))) := (hgrow7.block _ (Array.getElem?_eq_some_iff.1 HI6.out).1 (own_not HO6.out HI6.out)).trans HI6.out
        have HB7 := hidIn (HB6.out.grown hgrow7 HB6.out.size (fun k hk => (World.ownsRow.lt HO6.out k hk).1))
        clear hown7 hgrow7
        go_roundw
        case rel => exact ⟨j + 1, by omega, HO7.out, HI7.out, HB7.out⟩
        case measure =>
          rw [iterPos_of HI7.out, iterPos_of HIT.out]
          omega
      · have hjl : j = L.length := by omega
        subst hjl
        have hnx : ∀ ty, (Instr.next (.pointer (some ⟨w3.heap.size, 0, none⟩)) true ty).run Tryz.prog wr = _ := fun ty => Lib.run_next_end_at (P := Tryz.prog) wr w3.heap.size S L.length ty HIT.out (by rw [HS.out]; exact fun h => Nat.lt_irrefl L.length h)
        go_wp2_with fail
        go_ret2
        exact ⟨_, rfl, by rw [HR.out]; have h := HO.out; rw [List.take_length] at h; exact own_lower h HB1.out.size, HB1.out.trans (HBR.out.mono HB1.out.size)⟩

def pkX (e : Ev) (r : Bool) : List UInt8 := if chkE e = 0 then (bif r then 1 else 0) :: pkL e else []
set_option maxHeartbeats 4000000 in
set_option maxRecDepth 100000 in
theorem pentry_any (e : Ev) (r : Bool) (hok : e.Ok) (hsz : e.Sz) (w : World) (ht : TabW w) : Calls Tryz.prog 24 #[.agg (e.cs.push (.bool r))] w (PkPost w (pkX e r) (chkE e)) := by
  have HE := hidIn (fun w ht => pevent_any e hok hsz w ht)
  have HLN : Hid ((pkR e).length ≤ 140000000000000) := by
    have h := Nat.le_trans (flat_len (fdL e) 2147483656 (fdL_len e hsz) (ordL e.k)) (Nat.mul_le_mul_right _ (ordL_len e.k))
    unfold Hid pkR pkL
    split
    · simp only [List.length_cons]; omega
    · simp
  have HR : Hid (pkX e r = if chkE e = 0 then (bif r then 1 else 0) :: pkR e else []) := by
    unfold Hid pkX pkR
    split <;> rfl
  have HT := hidIn ht
  have one := e.t.one' hok.t
  unfold PkPost
  generalize pkX e r = res at *
  unfold PkPost at HE
  generalize pkR e = pk at *
  generalize chkE e = ce at *
  clear hok hsz ht
  obtain ⟨k, i, n, l, u, d, v, t⟩ := e
  unfold Ev.val Ev.cs at *
  simp only [List.push_toArray, List.cons_append, List.nil_append] at *
  generalize t.val = tv at *
  clear t
  go_enter Tryz.func24, Tryz.ntmps24
  go_wp2_with fail
  have HBV : Hid (Below w.heap.size w (w.alloc (.cells #[.int .i64 k, .string i, .string n, .string l, .string u, .int .i64 d, .int .i64 v, tv, .bool r] 64))) := below_alloc (Below.refl _ _) _
  have HX := hidIn (heap_alloc_new w (.cells #[.int .i64 k, .string i, .string n, .string l, .string u, .int .i64 d, .int .i64 v, tv, .bool r] 64))
  generalize w.alloc (.cells #[.int .i64 k, .string i, .string n, .string l, .string u, .int .i64 d, .int .i64 v, tv, .bool r] 64) = V at *
  refine (HE.out V (tabW_below HT.out HBV.out)).mono ?_
  rintro e w1 ⟨v1, rfl, hv1, hb⟩
  have HV1 := hidIn hv1
  have HB1 := hidIn (HBV.out.trans (hb.mono HBV.out.size))
  have hx1 := (hb.block _ (Array.getElem?_eq_some_iff.1 HX.out).1).trans HX.out
  have c8 : w1.cell? ⟨w.heap.size, 8, none⟩ = some (.bool r) := cell_of_row _ _ 8 _ _ _ hx1
  clear hv1 hb hx1
  by_cases h0 : ce = 0
  rotate_left
  · have h0' : (ce != 0) = true := by simpa using h0
    rw [if_neg h0] at HR
    clear h0
    go_wp2_with fail
    go_ret2
    exact ⟨_, rfl, by rw [HR.out]; exact World.ownsRow_nil _ _ _ _, HB1.out⟩
  · subst h0
    rw [if_pos rfl] at HR
    cases r
    · go_wp2_with (at_builtin; refine wpList_append_bytes _ rfl _ _ rfl w1.heap.size _ _ rfl (own_one (x := 0) rfl) V.heap.size v1 pk rfl (own_below HV1.out (below_alloc (Below.refl _ _) _)) (by have := HLN.out; simp only [List.length_cons, List.length_nil]; omega) (by simp) ?_; intro v7 w7 hown7 hgrow7 _)
      go_ret2
      exact ⟨_, rfl, by rw [HR.out]; exact own_lower hown7 HB1.out.size, (below_alloc HB1.out _).grown hgrow7 (by have := HB1.out.size; simp; omega) (fun j hj => Nat.le_trans HB1.out.size (World.ownsRow.lt (own_one (w := w1) (x := 0) rfl) j hj).1)⟩
    · go_wp2_with (at_builtin; refine wpList_append_bytes _ rfl _ _ rfl w1.heap.size _ _ rfl (own_one (x := 1) rfl) V.heap.size v1 pk rfl (own_below HV1.out (below_alloc (Below.refl _ _) _)) (by have := HLN.out; simp only [List.length_cons, List.length_nil]; omega) (by simp) ?_; intro v7 w7 hown7 hgrow7 _)
      go_ret2
      exact ⟨_, rfl, by rw [HR.out]; exact own_lower hown7 HB1.out.size, (below_alloc HB1.out _).grown hgrow7 (by have := HB1.out.size; simp; omega) (fun j hj => Nat.le_trans HB1.out.size (World.ownsRow.lt (own_one (w := w1) (x := 1) rfl) j hj).1)⟩

end Go.Proofs.YtkioolbjmcpjpaaGreatDoor.Ev
namespace Go.Proofs.YtkioolbjmcpjpaaGreatDoor.Ev
open Go.RowKit
set_option linter.unusedVariables false

/-- Bytes in memory, whose-ever. -/
def BIn (w : World) (v : Value) (l : List UInt8) : Prop := ∃ ao c, v = .slice ao l.length c ∧ ∀ i x, l[i]? = some x → ∃ b off, ao = some ⟨b, off, none⟩ ∧ w.cell? ⟨b, off + i, none⟩ = some (.int .u8 x.toNat)
theorem own_bin {w : World} {B : Nat} {v : Value} {l : List UInt8} (h : OwnB w B v l) : BIn w v l := by
  have h2 := h
  rcases h.2 with ⟨rfl, h0⟩ | ⟨g, cap, cur, rfl, hb, hg, hnc, hcm, hcs, hcur⟩
  · have : l = [] := List.length_eq_zero_iff.1 h0
    subst this
    exact ⟨none, 0, rfl, fun i x hx => by simp at hx⟩
  · refine ⟨some ⟨g, 0, none⟩, cap, rfl, fun i x hx => ⟨g, 0, rfl, ?_⟩⟩
    have hi : i < l.length := (List.getElem?_eq_some_iff.1 hx).1
    unfold OwnB at h2
    rw [Nat.zero_add, h2.cellAt i (by omega)]
    exact rowB_get l i x hx
theorem BIn.below {w w' : World} {v : Value} {l : List UInt8} (h : BIn w v l) (hb : Below w.heap.size w w') : BIn w' v l := by
  obtain ⟨ao, c, rfl, h⟩ := h
  refine ⟨ao, c, rfl, fun i x hx => ?_⟩
  obtain ⟨b, off, rfl, hc⟩ := h i x hx
  exact ⟨b, off, rfl, (hb.cell (p := ⟨b, off + i, none⟩) (World.block_lt_of_cell? w _ hc)).trans hc⟩
theorem conv_bin {w : World} {v : Value} {l : List UInt8} (h : BIn w v l) : (convert 55 9 v).run Tryz.prog w = .ok (.string ⟨l.toArray⟩) w := by
  obtain ⟨ao, c, rfl, h⟩ := h
  cases ao with
  | none =>
    have hl : l = [] := by
      cases l with
      | nil => rfl
      | cons x l =>
        obtain ⟨b, off, e, _⟩ := h 0 x rfl
        cases e
    subst hl
    exact run_convert_bytes_nil w 55 5 Tryz.underlying55 Tryz.underlying5 0 c 9 Tryz.underlying9
  | some ad =>
    refine run_convert_bytes_back w 55 9 5 ad c l Tryz.underlying55 Tryz.underlying5 Tryz.underlying9 (fun j hj => ?_)
    obtain ⟨b, off, e, hc⟩ := h j l[j] (List.getElem?_eq_getElem hj)
    injection e with e
    subst e
    rw [Go.WideShapes.add_plain]
    exact hc
theorem lt_of_get {l : List UInt8} {i : Nat} (h : i < l.length) : ∃ x, l[i]? = some x := ⟨_, List.getElem?_eq_getElem h⟩

set_option maxHeartbeats 4000000 in
set_option maxRecDepth 100000 in
theorem sameB_any (va vb : Value) (l m : List UInt8) (w : World) (ha : BIn w va l) (hb : BIn w vb m) (hl : l.length ≤ 9223372036854775807) (hm : m.length ≤ 9223372036854775807) :
    Calls Tryz.prog 29 #[va, vb] w fun e w' => e = .returned (.bool (decide (l = m))) ∧ Below w.heap.size w w' := by
  obtain ⟨ao, ca, rfl, ha⟩ := ha
  obtain ⟨bo, cb, rfl, hb⟩ := hb
  have HA := hidIn ha
  have HB := hidIn hb
  clear ha hb
  by_cases hlen : l.length = m.length
  rotate_left
  · have e1 : decide (l = m) = false := decide_eq_false (fun h => hlen (by rw [h]))
    have e2 : ((l.length : Int) != (m.length : Int)) = true := by rw [bne_iff_ne]; omega
    rw [e1]
    clear hlen e1
    go_enter Tryz.func29, Tryz.ntmps29
    go_wp2_with fail
    go_ret
    exact ⟨rfl, Below.refl _ _⟩
  · have HLM := hidIn hlen
    have e2 : ((l.length : Int) != (m.length : Int)) = false := by simp [hlen]
    obtain ⟨res, hres⟩ : ∃ res, decide (l = m) = res := ⟨_, rfl⟩
    rw [hres]
    have HR : Hid ((∀ i, i < l.length → l[i]? = m[i]?) → res = true) := fun h => by
      rw [← hres, decide_eq_true_eq]
      apply List.ext_getElem?
      intro i
      by_cases hi : i < l.length
      · exact h i hi
      · rw [List.getElem?_eq_none (by omega), List.getElem?_eq_none (by omega)]
    have HF : Hid (∀ (i : Nat) (x y : UInt8), l[i]? = some x → m[i]? = some y → x ≠ y → res = false) := fun i x y hx hy hn => by
      rw [← hres, decide_eq_false_iff_not]
      rintro rfl
      rw [hx] at hy
      exact hn (Option.some.inj hy)
    clear hres
    rw [← hlen] at e2 hm ⊢
    clear hlen
    go_enter Tryz.func29, Tryz.ntmps29
    go_wp2_with fail
    go_loopw [5] (fun s5 wr => ∃ k n : Nat, k ≤ l.length ∧ s5 = .int .i64 k ∧ wr = w.drewN n ∧ (∀ i, i < k → l[i]? = m[i]?)) (fun s5 _ => l.length - (intOf s5).toNat)
    case atStart => exact ⟨0, 0, by omega, rfl, rfl, fun i hi => absurd hi (by omega)⟩
    case round =>
      obtain ⟨k, n, hk, rfl, rfl, heq⟩ := hrel
      have HE := hidIn heq
      clear heq
      by_cases hlt : k < l.length
      · have hlt' : (k : Int) < (l.length : Int) := by omega
        obtain ⟨x, hx⟩ := lt_of_get hlt
        obtain ⟨y, hy⟩ := lt_of_get (show k < m.length by rw [← HLM.out]; exact hlt)
        obtain ⟨b1, o1, rfl, hc1⟩ := HA.out k x hx
        obtain ⟨b2, o2, rfl, hc2⟩ := HB.out k y hy
        have HX := hidIn hx
        have HY := hidIn hy
        clear hx hy
        by_cases hxy : x = y
        · subst hxy
          have ex : ((x.toNat : Int) != (x.toNat : Int)) = false := by simp
          go_wp2_with fail
          go_quiet (fail)
          go_wp2_with fail
          go_roundw
          case rel => exact ⟨k + 1, _, by omega, by go_num, rfl, fun i hi => by
            by_cases h : i < k
            · exact HE.out i h
            · rw [show i = k by omega, HX.out, HY.out]⟩
          case measure => simp [intOf]; omega
        · have ex : ((x.toNat : Int) != (y.toNat : Int)) = true := by
            have : x.toNat ≠ y.toNat := fun h => hxy (UInt8.toNat_inj.1 h)
            rw [bne_iff_ne]
            omega
          have hrf := HF.out k x y HX.out HY.out hxy
          subst hrf
          clear hxy
          go_wp2_with fail
          go_quiet (fail)
          go_wp2_with fail
          go_ret
          exact ⟨rfl, below_drewN (below_drewN (Below.refl _ _) _) _⟩
      · have hlt' : ¬ (k : Int) < (l.length : Int) := by omega
        have hrt := HR.out (fun i hi => HE.out i (by omega))
        subst hrt
        go_wp2_with fail
        go_ret
        exact ⟨rfl, below_drewN (Below.refl _ _) _⟩

theorem pass0_sz : pass0.Sz := by constructor <;> decide
set_option maxHeartbeats 1000000 in
set_option maxRecDepth 100000 in
theorem wakes12_any (w : World) (htab : TabW w) : Calls Tryz.prog 21 #[] w fun e w' => e = .returned (.bool true) ∧ Below w.heap.size w w' := by
  have H1 : Hid (∀ W, TabW W → Calls Tryz.prog 23 #[.agg #[.int .i64 1, .string ⟨#[]⟩, .string ⟨#[]⟩, .string ⟨#[]⟩, .string ⟨#[]⟩, .int .i64 0, .int .i64 0, .nilIface]] W (PkPost W [1] 0)) := fun W hW => by
    have := pevent_any pass0 pass0_ok pass0_sz W hW
    rw [show pkR pass0 = [1] by decide +kernel, pass0_chk] at this
    exact this
  have HT := hidIn htab
  clear htab
  unfold PkPost at H1
  go_enter Tryz.func21, Tryz.ntmps21
  go_wp2_with fail
  refine (H1.out w HT.out).mono ?_
  rintro e w1 ⟨v, rfl, hv, hb1⟩
  have HV := hidIn (own_bin hv)
  have HB1 := hidIn hb1
  clear hb1 hv
  go_wp2_with fail
  have hb2 : BIn (w1.alloc (.cells #[.int .u8 1] 5)) (.slice (some ⟨w1.heap.size, 0, none⟩) 1 1) [1] := own_bin (own_one (x := 1) rfl)
  refine (sameB_any v _ [1] [1] _ (HV.out.below (below_alloc (Below.refl _ _) _)) hb2 (by decide) (by decide)).mono ?_
  rintro e w2 ⟨rfl, hb2⟩
  go_wp2_with fail
  go_ret
  exact ⟨rfl, (below_alloc HB1.out _).trans (hb2.mono (below_alloc HB1.out _).size)⟩

end Go.Proofs.YtkioolbjmcpjpaaGreatDoor.Ev
namespace Go.Proofs.YtkioolbjmcpjpaaGreatDoor.Ev
open Go.RowKit
set_option linter.unusedVariables false
set_option linter.unusedSimpArgs false

set_option maxHeartbeats 4000000 in
set_option maxRecDepth 100000 in
theorem refNum_any (n : Int) (w : World) : Calls Tryz.prog 30 #[.int .i64 n] w fun e w' => ∃ v, e = .returned v ∧ OwnB w' w.heap.size v (gfL (nat64 n) 8) ∧ Below w.heap.size w w' := by
  have hw := wrap64 n
  have HL : Hid ((gfL (nat64 n) 8).length = 8) := gfL_length _ _
  have HG : Hid (∀ k j, 8 = k + 1 + j → (gfL (nat64 n) 8)[k]? = some (UInt8.ofNat (nat64 n / 256 ^ j))) := fun k j h => by
    unfold gfL
    rw [List.getElem?_map, List.getElem?_range (by omega)]
    simp only [Option.map_some]
    rw [show 8 - 1 - k = j by omega]
  have hm := nat64_lt n
  generalize gfL (nat64 n) 8 = L at *
  generalize nat64 n = m at *
  go_enter Tryz.func30, Tryz.ntmps30
  go_wp2_with fail
  go_loopw [3, 4] (fun s3 s4 wr => ∃ k : Nat, k ≤ 8 ∧ s4 = .int .i64 (7 - k) ∧ OwnB wr w.heap.size s3 (L.take k) ∧ Below w.heap.size w wr) (fun _ s4 _ => (8 + intOf s4).toNat)
  case atStart => exact ⟨0, by omega, rfl, World.ownsRow_nil _ _ _ _, Below.refl _ _⟩
  case round =>
    obtain ⟨k, hk, rfl, ho, hb⟩ := hrel
    have HO := hidIn ho
    have HB := hidIn hb
    clear ho hb
    by_cases hlt : k < 8
    · obtain ⟨j, hj⟩ : ∃ j, 8 = k + 1 + j := ⟨7 - k, by omega⟩
      have HX := hidIn (HG.out k j hj)
      have hat := gf_byte m j _ rfl
      have HTK : Hid (L.take (k + 1) = L.take k ++ [UInt8.ofNat (m / 256 ^ j)]) := by unfold Hid; rw [List.take_add_one, HX.out]; rfl
      have HLK : Hid ((L.take k).length = k) := by unfold Hid; rw [List.length_take, HL.out]; omega
      generalize UInt8.ofNat (m / 256 ^ j) = x at *
      have hjk : (7 : Int) - (k : Int) = (j : Int) := by omega
      have hj0 : (0 : Int) ≤ (j : Int) := by omega
      have hj8 : j < 8 := by omega
      have hju : IntKind.u64.wrap (8 * (j : Int)) = 8 * (j : Int) := by rw [wrap64]; unfold nat64; omega
      have HJ := hidIn hj
      rw [hjk]
      clear hj hjk hlt
      go_wp2_with (at_builtin; refine wpList_append_bytes _ rfl _ _ rfl w.heap.size u3 (L.take k) rfl (own_below HO.out (below_alloc (Below.refl _ _) _)) wr.heap.size _ [x] rfl (own_one (x := x) rfl) (by rw [HLK.out]; simp only [List.length_cons, List.length_nil]; omega) (by have := HB.out.size; simp; omega) ?_; intro v7 w7 hown7 hgrow7 _)
      have HO7 : Hid (OwnB w7 w.heap.size v7 (L.take (k + 1))) := by unfold Hid; rw [HTK.out]; exact hown7
      have HB7 : Hid (Below w.heap.size w w7) := (below_alloc HB.out _).grown hgrow7 (by have := HB.out.size; simp; omega) (fun i hi => (World.ownsRow.lt HO.out i hi).1)
      clear hown7 hgrow7
      go_roundw
      case rel =>
        have := HJ.out
        exact ⟨k + 1, by omega, by go_num, HO7.out, HB7.out⟩
      case measure => have := HJ.out; simp [intOf]; omega
    · have hk8 : k = 8 := by omega
      subst hk8
      have h1 : ¬ (0 : Int) ≤ 7 - (8 : Nat) := by omega
      go_wp2_with fail
      go_ret
      exact ⟨_, rfl, by have h := HO.out; rw [List.take_of_length_le (by rw [HL.out]; omega)] at h; exact h, HB.out⟩

set_option maxHeartbeats 2000000 in
set_option maxRecDepth 100000 in
theorem refRow_any (s : ByteArray) (w : World) (hs : s.size ≤ 2147483648) : Calls Tryz.prog 57 #[.string s] w fun e w' => ∃ v, e = .returned v ∧ OwnB w' w.heap.size v (txL s 1) ∧ Below w.heap.size w w' := by
  obtain ⟨i0, gi, gz0, gz1, gz2⟩ := info_parts infoByte
  have HT : Hid (txL s 1 = UInt8.ofNat s.size :: s.data.toList) := by unfold Hid txL; simp [gfL]
  have hw : IntKind.u8.wrap (s.size : Int) = ((UInt8.ofNat s.size).toNat : Int) := by
    have e : (UInt8.ofNat s.size).toNat = s.size % 256 := by simp
    rw [e]
    simp [IntKind.wrap, IntKind.bits, IntKind.signed]
  have HZ : Hid (s.data.toList.length = s.size) := by unfold Hid; simp
  generalize UInt8.ofNat s.size = x at *
  unfold OwnB
  rw [HT.out, List.length_cons, HZ.out]
  go_enter Tryz.func57, Tryz.ntmps57
  go_wp2_with (at_builtin; refine Lib.wpList_append_own_string _ rfl _ _ 55 9 rfl w.heap.size 5 i0 Tryz.underlying55 Tryz.underlying9 gi gz0 gz1 gz2 _ 1 (rowB [x]) rfl (own_one (x := x) rfl) s rfl (by unfold maxLen; omega) (by omega) (by simp) ?_; intro v2 w2 hown2 hgrow2 _)
  go_ret
  refine ⟨_, rfl, ?_, (below_alloc (Below.refl _ _) _).grown hgrow2 (by simp) (fun j hj => (World.ownsRow.lt (own_one (w := w) (x := x) rfl) j hj).1)⟩
  rw [Nat.add_comm] at hown2
  exact hown2

theorem has84 (k : Int) (h : hasB (flds k) 84 = true) : k = 2 := by
  by_cases h2 : k = 2
  · exact h2
  exfalso
  revert h
  unfold flds
  split
  · decide +kernel
  split
  · decide +kernel
  split
  · decide +kernel
  split
  · decide +kernel
  split
  · decide +kernel
  · decide +kernel
theorem flds_size (k : Int) : (flds k).size ≤ 1000 := by
  unfold flds
  repeat' split
  all_goals decide
theorem chk_form2 (e : Ev) (h : chkE e = 0) (h2 : hasB (flds e.k) 84 = true) : wErrC e.t = 0 := by
  have hk := has84 _ h2
  unfold chkE at h
  split at h
  · exact h
  · cases h
/-- The bytes of the kind's letters among the first j. -/
def pkJ (e : Ev) (j : Nat) : List UInt8 := kdL e.k :: ((order7.take j).filter (fun c => hasB (flds e.k) c)).flatMap (fdL e)
theorem pkJ_yes (e : Ev) (j : Nat) (c : UInt8) (hc : order7[j]? = some c) (h : hasB (flds e.k) c = true) : pkJ e (j + 1) = pkJ e j ++ fdL e c := by
  unfold pkJ
  rw [List.take_add_one, hc, List.filter_append, List.flatMap_append]
  simp [h]
theorem pkJ_no (e : Ev) (j : Nat) (c : UInt8) (hc : order7[j]? = some c) (h : hasB (flds e.k) c = false) : pkJ e (j + 1) = pkJ e j := by
  unfold pkJ
  rw [List.take_add_one, hc, List.filter_append, List.flatMap_append]
  simp [h]
theorem pkJ_all (e : Ev) : pkJ e 7 = pkL e := by
  unfold pkJ pkL
  rw [ordL_filter]
  rfl
theorem pkJ_len (e : Ev) (h : e.Sz) (j : Nat) : (pkJ e j).length ≤ 17179869250 := by
  unfold pkJ
  have h1 := flat_len (fdL e) 2147483656 (fdL_len e h) ((order7.take j).filter (fun c => hasB (flds e.k) c))
  have h2 : ((order7.take j).filter (fun c => hasB (flds e.k) c)).length ≤ 7 := Nat.le_trans (List.length_filter_le _ _) (by rw [List.length_take]; exact Nat.min_le_right _ _)
  have h3 := Nat.mul_le_mul_right 2147483656 h2
  simp only [List.length_cons]
  omega
theorem gf2' (n : Nat) : gfL n 2 = [UInt8.ofNat (n / 256), UInt8.ofNat n] := by rw [gfL_succ]; simp [gfL]
theorem own_two' {w : World} {x y : UInt8} {o : Obj} (ho : o = .cells #[.int .u8 x.toNat, .int .u8 y.toNat] 5) : OwnB (w.alloc o) w.heap.size (.slice (some ⟨w.heap.size, 0, none⟩) 2 2) [x, y] := by
  subst ho
  exact ⟨rfl, .inr ⟨w.heap.size, 2, #[.int .u8 x.toNat, .int .u8 y.toNat], rfl, Nat.le_refl _, heap_alloc_new w _, Nat.le_refl _, by unfold maxLen; omega, rfl, rfl⟩⟩
theorem cells11p {w : World} {B t : Nat} {a b c d e f g h i j k : Value} (hh : w.heap[B]? = some (.cells #[a, b, c, d, e, f, g, h, i, j, k] t)) : w.cell? ⟨B, 0, none⟩ = some a ∧ w.cell? ⟨B, 1, none⟩ = some b ∧ w.cell? ⟨B, 2, none⟩ = some c ∧ w.cell? ⟨B, 3, none⟩ = some d ∧ w.cell? ⟨B, 4, none⟩ = some e ∧ w.cell? ⟨B, 5, none⟩ = some f ∧ w.cell? ⟨B, 6, none⟩ = some g ∧ w.cell? ⟨B, 7, none⟩ = some h ∧ w.cell? ⟨B, 8, none⟩ = some i ∧ w.cell? ⟨B, 9, none⟩ = some j ∧ w.cell? ⟨B, 10, none⟩ = some k :=
  ⟨cell_of_row _ _ 0 _ _ _ hh, cell_of_row _ _ 1 _ _ _ hh, cell_of_row _ _ 2 _ _ _ hh, cell_of_row _ _ 3 _ _ _ hh, cell_of_row _ _ 4 _ _ _ hh, cell_of_row _ _ 5 _ _ _ hh, cell_of_row _ _ 6 _ _ _ hh, cell_of_row _ _ 7 _ _ _ hh, cell_of_row _ _ 8 _ _ _ hh, cell_of_row _ _ 9 _ _ _ hh, cell_of_row _ _ 10 _ _ _ hh⟩
theorem order_cells (j : Nat) (c : UInt8) (hc : order7[j]? = some c) : (#[.int .u8 73, .int .u8 78, .int .u8 76, .int .u8 67, .int .u8 68, .int .u8 86, .int .u8 84] : Array Value)[j]? = some (.int .u8 c.toNat) := by
  have hj : j < 7 := (List.getElem?_eq_some_iff.1 hc).1
  rcases (by omega : j = 0 ∨ j = 1 ∨ j = 2 ∨ j = 3 ∨ j = 4 ∨ j = 5 ∨ j = 6) with rfl | rfl | rfl | rfl | rfl | rfl | rfl <;> (cases hc; rfl)

set_option maxHeartbeats 16000000 in
set_option maxRecDepth 100000 in
theorem refPack_any (e : Ev) (hok : e.Ok) (hsm : e.Small) (hnil : (!((plainC e.t).kind == 0) || false) = !nilB e.t) (w : World) (r : Value) (hr : RIn w 0 e r) : Calls Tryz.prog 25 #[r] w (PkPost w (pkR e) (chkE e)) := by
  have hsz : e.Sz := ⟨hsm.i, hsm.n, hsm.l, hsm.u⟩
  obtain ⟨ka, kc, rfl, htin⟩ := hr
  have HC := hidIn (fun W hW => refCheck11_any e hok hsm false hnil W _ ⟨ka, kc, rfl, htin.below hW⟩)
  have HW := hidIn (fun W hW => refWriteC_any e.t hok.t hsm.w W _ (htin.below hW))
  have HF := hidIn (fun W => refFields_any e.k W)
  have HH := hidIn (fun c W => refHas_any (flds e.k) c W (flds_size e.k))
  have HY := hidIn (pkJ_yes e)
  have HN := hidIn (pkJ_no e)
  have HA := hidIn (pkJ_all e)
  have HLN := hidIn (pkJ_len e hsz)
  have HFL := hidIn (fdL_len e hsz)
  have H2 := hidIn (chk_form2 e)
  have HR : Hid (pkR e = if chkE e = 0 then pkL e else []) := rfl
  have H0 : Hid (pkJ e 0 = [kdL e.k]) := rfl
  have HKW := hidIn (wrap_u8 e.k)
  have HI := hidIn (fun W => refRow_any e.i W hsz.i)
  have HNN := hidIn (fun W => refRow_any e.n W hsz.n)
  have HL := hidIn (fun W => refRow_any e.l W hsz.l)
  have HU := hidIn (fun W => refRow_any e.u W hsz.u)
  have HD := hidIn (fun W => refNum_any e.d W)
  have HV := hidIn (fun W => refNum_any e.v W)
  have F73 : Hid (fdL e 73 = txL e.i 1) := rfl
  have F78 : Hid (fdL e 78 = txL e.n 1) := rfl
  have F76 : Hid (fdL e 76 = txL e.l 1) := rfl
  have F67 : Hid (fdL e 67 = txL e.u 1) := rfl
  have F68 : Hid (fdL e 68 = gfL (nat64 e.d) 8) := rfl
  have F86 : Hid (fdL e 86 = gfL (nat64 e.v) 8) := rfl
  have F84 : Hid (fdL e 84 = gfL (wTextC e.t).size 2 ++ (wTextC e.t).data.toList) := rfl
  have HZT := hidIn (wTextC_size e.t)
  unfold PkPost
  rw [← F73.out] at HI
  rw [← F78.out] at HNN
  rw [← F76.out] at HL
  rw [← F67.out] at HU
  rw [← F68.out] at HD
  rw [← F86.out] at HV
  clear F73 F78 F76 F67 F68 F86 hok hsm hnil htin hsz
  generalize pkR e = res at *
  generalize chkE e = ce at *
  generalize pkL e = pk at *
  generalize pkJ e = J at *
  generalize fdL e = fd at *
  obtain ⟨k, i, n, l, u, d, v, t⟩ := e
  simp only at *
  generalize flds k = f at *
  have hkw := HKW.out
  generalize kdL k = kd at *
  generalize wTextC t = tx at *
  generalize wErrC t = te at *
  generalize (plainC t).kind = tk at *
  generalize (plainC t).s = ts at *
  generalize (plainC t).n = tn at *
  generalize (plainC t).k.length = tl at *
  clear t
  go_enter Tryz.func25, Tryz.ntmps25
  go_wp2_with fail
  have HBV : Hid (Below w.heap.size w (w.alloc (.cells #[.int .i64 k, .string i, .string n, .string l, .string u, .int .i64 d, .int .i64 v, .int .i64 tk, .string ts, .int .i64 tn, .slice ka tl kc] 35))) := below_alloc (Below.refl _ _) _
  have HX := hidIn (heap_alloc_new w (.cells #[.int .i64 k, .string i, .string n, .string l, .string u, .int .i64 d, .int .i64 v, .int .i64 tk, .string ts, .int .i64 tn, .slice ka tl kc] 35))
  generalize w.alloc (.cells #[.int .i64 k, .string i, .string n, .string l, .string u, .int .i64 d, .int .i64 v, .int .i64 tk, .string ts, .int .i64 tn, .slice ka tl kc] 35) = V at *
  refine (HC.out V HBV.out).mono ?_
  rintro e w1 ⟨rfl, hb⟩
  have HB1 := hidIn (HBV.out.trans (hb.mono HBV.out.size))
  have HX1 := hidIn ((hb.block _ (Array.getElem?_eq_some_iff.1 HX.out).1).trans HX.out)
  have HLT : Hid (w.heap.size < w1.heap.size) := (Array.getElem?_eq_some_iff.1 HX1.out).1
  clear hb
  by_cases h0 : ce = 0
  rotate_left
  · have h0' : (ce != 0) = true := by simpa using h0
    rw [if_neg h0] at HR
    clear h0
    go_wp2_with fail
    go_ret2
    exact ⟨_, rfl, by rw [HR.out]; exact World.ownsRow_nil _ _ _ _, HB1.out⟩
  · subst h0
    rw [if_pos rfl] at HR
    have H22 := hidIn (H2.out rfl)
    have c0 : w1.cell? ⟨w.heap.size, 0, none⟩ = some (.int .i64 k) := cell_of_row _ _ 0 _ _ _ HX1.out
    go_upto_region 5 with fail
    clear c0
    have HO2 : Hid (OwnB (w1.alloc (.cells #[.int .u8 kd.toNat] 5)) w1.heap.size (.slice (some ⟨w1.heap.size, 0, none⟩) 1 1) [kd]) := own_one rfl
    have HB2 : Hid (Below w1.heap.size w1 (w1.alloc (.cells #[.int .u8 kd.toNat] 5))) := below_alloc (Below.refl _ _) _
    generalize w1.alloc (.cells #[.int .u8 kd.toNat] 5) = w2 at *
    have hcv : (convert 55 55 (.slice (some ⟨w2.heap.size, 0, none⟩) 7 7)).run Tryz.prog (w2.alloc (.cells #[.int .u8 73, .int .u8 78, .int .u8 76, .int .u8 67, .int .u8 68, .int .u8 86, .int .u8 84] 5)) = .ok (.slice (some ⟨w2.heap.size, 0, none⟩) 7 7) (w2.alloc (.cells #[.int .u8 73, .int .u8 78, .int .u8 76, .int .u8 67, .int .u8 68, .int .u8 86, .int .u8 84] 5 (7, 8))) := Go.Joins.run_convert_bytes_const_at w2 _ _ #[.int .u8 73, .int .u8 78, .int .u8 76, .int .u8 67, .int .u8 68, .int .u8 86, .int .u8 84] 7 7 w2.heap.size rfl Tryz.underlying55 Tryz.underlying5
    go_wp2_with fail
    clear hcv
    have HO3 : Hid (OwnB (w2.alloc (.cells #[.int .u8 73, .int .u8 78, .int .u8 76, .int .u8 67, .int .u8 68, .int .u8 86, .int .u8 84] 5 (7, 8))) w1.heap.size (.slice (some ⟨w1.heap.size, 0, none⟩) 1 1) [kd]) := own_below HO2.out (below_alloc (Below.refl _ _) _)
    have HL3 : Hid ((w2.alloc (.cells #[.int .u8 73, .int .u8 78, .int .u8 76, .int .u8 67, .int .u8 68, .int .u8 86, .int .u8 84] 5 (7, 8))).heap[w2.heap.size]? = some (.cells #[.int .u8 73, .int .u8 78, .int .u8 76, .int .u8 67, .int .u8 68, .int .u8 86, .int .u8 84] 5 (7, 8))) := heap_alloc_new _ _
    have HB3 : Hid (Below w1.heap.size w1 (w2.alloc (.cells #[.int .u8 73, .int .u8 78, .int .u8 76, .int .u8 67, .int .u8 68, .int .u8 86, .int .u8 84] 5 (7, 8)))) := below_alloc HB2.out _
    have HNK : Hid (w1.heap.size < w2.heap.size) := by
      rcases HO2.out.2 with ⟨h, _⟩ | ⟨g, cap, cur, h, _, h3, _⟩
      · cases h
      · cases h
        exact (Array.getElem?_eq_some_iff.1 h3).1
    generalize w2.alloc (.cells #[.int .u8 73, .int .u8 78, .int .u8 76, .int .u8 67, .int .u8 68, .int .u8 86, .int .u8 84] 5 (7, 8)) = w3 at *
    clear HO2 HB2
    go_loopw [5, 22] (fun s5 s22 wr => ∃ (j : Nat) (B : Nat), j ≤ 7 ∧ s22 = .int .i64 j ∧ OwnB wr w1.heap.size s5 (J j) ∧ s5.ownBlock ≠ some w2.heap.size ∧ wr.heap[w2.heap.size]? = some (.cells #[.int .u8 73, .int .u8 78, .int .u8 76, .int .u8 67, .int .u8 68, .int .u8 86, .int .u8 84] 5 (7, 8)) ∧ Below w1.heap.size w1 wr) (fun _ s22 _ => 7 - (intOf s22).toNat)
    case atStart => exact ⟨0, 0, by omega, rfl, by rw [H0.out]; exact HO3.out, by have := HNK.out; simp [Value.ownBlock]; omega, HL3.out, HB3.out⟩
    case round =>
      obtain ⟨j, B, hj, rfl, ho, hne, hl, hbr⟩ := hrel
      have HO := hidIn ho
      have HNE := hidIn hne
      have HLR := hidIn hl
      have HBR := hidIn hbr
      clear ho hne hl hbr
      by_cases hlt : j < 7
      · have hlt' : (j : Int) < 7 := by omega
        obtain ⟨c, hc⟩ : ∃ c, order7[j]? = some c := ⟨_, List.getElem?_eq_getElem (show j < order7.length from hlt)⟩
        have hcl : wr.cell? ⟨w2.heap.size, j, none⟩ = some (.int .u8 c.toNat) := (Go.Joins.cell_of_block HLR.out j).trans (order_cells j c hc)
        have HXR := hidIn ((HBR.out.block _ HLT.out).trans HX1.out)
        obtain ⟨x0, x1, x2, x3, x4, x5, x6, x7, x8, x9, x10⟩ := cells11p HXR.out
        have HYC := hidIn (HY.out j c hc)
        have HNC := hidIn (HN.out j c hc)
        have HLJ := HLN.out j
        have HFC := HFL.out c
        cases hb : hasB f c
        · have HHC := hidIn (HH.out c)
          rw [hb] at HHC
          go_wp2_with fail
          refine calls_same (HF.out wr) ?_
          go_wp2_with fail
          refine calls_same (HHC.out wr) ?_
          go_wp2_with fail
          go_roundw
          case rel => exact ⟨j + 1, 0, by omega, by go_num, by rw [HNC.out hb]; exact HO.out, HNE.out, HLR.out, HBR.out⟩
          case measure => simp [intOf]; omega
        · have HHC := hidIn (HH.out c)
          rw [hb] at HHC
          have HJY := hidIn (HYC.out hb)
          rcases (by omega : j = 0 ∨ j = 1 ∨ j = 2 ∨ j = 3 ∨ j = 4 ∨ j = 5 ∨ j = 6) with rfl | rfl | rfl | rfl | rfl | rfl | rfl
          · as_aux_lemma =>
              obtain rfl : (73 : UInt8) = c := Option.some.inj hc
              rw [show (((73 : UInt8).toNat : Nat) : Int) = 73 from rfl] at hcl
              rw [show (((73 : UInt8).toNat : Nat) : Int) = 73 from rfl] at HHC
              go_wp2_with fail
              refine calls_same (HF.out wr) ?_
              go_wp2_with fail
              refine calls_same (HHC.out wr) ?_
              go_wp2_with fail
              refine (HI.out wr).mono ?_
              rintro e w6 ⟨v6, rfl, hv6, hb6⟩
              have HV6 := hidIn hv6
              have HO6 := hidIn (own_below HO.out hb6)
              have HB6 := hidIn (HBR.out.trans (hb6.mono HBR.out.size))
              have HL6 := hidIn ((hb6.block _ (Array.getElem?_eq_some_iff.1 HLR.out).1).trans HLR.out)
              clear hv6 hb6 x0 x1 x2 x3 x4 x5 x6 x7 x8 x9 x10 hcl
              go_wp2_with (at_builtin; refine wpList_append_bytes w6 rfl _ _ rfl w1.heap.size u5 _ rfl HO6.out wr.heap.size v6 (fd 73) rfl HV6.out (by omega) HB6.out.size ?_; intro v7 w7 hown7 hgrow7 hblk7)
              have HO7 : Hid (OwnB w7 w1.heap.size v7 (J (0 + 1))) := by unfold Hid; rw [HJY.out]; exact hown7
              have HB7 := hidIn (HB6.out.grown hgrow7 HB6.out.size (fun i hi => (World.ownsRow.lt HO6.out i hi).1))
              have HL7 : Hid (w7.heap[w2.heap.size]? = some (.cells #[.int .u8 73, .int .u8 78, .int .u8 76, .int .u8 67, .int .u8 68, .int .u8 86, .int .u8 84] 5 (7, 8))) := (hgrow7.block _ (Array.getElem?_eq_some_iff.1 HL6.out).1 (fun h => HNE.out h.symm)).trans HL6.out
              have HN7 : Hid (v7.ownBlock ≠ some w2.heap.size) := by
                intro h
                rcases hblk7 with h2 | h2
                · exact HNE.out (h2.symm.trans h)
                · rw [h2] at h
                  have := (Array.getElem?_eq_some_iff.1 HL6.out).1
                  have h := Option.some.inj h
                  omega
              clear hown7 hgrow7 hblk7
              go_roundw
              case rel => exact ⟨0 + 1, 0, by omega, rfl, HO7.out, HN7.out, HL7.out, HB7.out⟩
              case measure => simp [intOf]
          · as_aux_lemma =>
              obtain rfl : (78 : UInt8) = c := Option.some.inj hc
              rw [show (((78 : UInt8).toNat : Nat) : Int) = 78 from rfl] at hcl
              rw [show (((78 : UInt8).toNat : Nat) : Int) = 78 from rfl] at HHC
              go_wp2_with fail
              refine calls_same (HF.out wr) ?_
              go_wp2_with fail
              refine calls_same (HHC.out wr) ?_
              go_wp2_with fail
              refine (HNN.out wr).mono ?_
              rintro e w6 ⟨v6, rfl, hv6, hb6⟩
              have HV6 := hidIn hv6
              have HO6 := hidIn (own_below HO.out hb6)
              have HB6 := hidIn (HBR.out.trans (hb6.mono HBR.out.size))
              have HL6 := hidIn ((hb6.block _ (Array.getElem?_eq_some_iff.1 HLR.out).1).trans HLR.out)
              clear hv6 hb6 x0 x1 x2 x3 x4 x5 x6 x7 x8 x9 x10 hcl
              go_wp2_with (at_builtin; refine wpList_append_bytes w6 rfl _ _ rfl w1.heap.size u5 _ rfl HO6.out wr.heap.size v6 (fd 78) rfl HV6.out (by omega) HB6.out.size ?_; intro v7 w7 hown7 hgrow7 hblk7)
              have HO7 : Hid (OwnB w7 w1.heap.size v7 (J (1 + 1))) := by unfold Hid; rw [HJY.out]; exact hown7
              have HB7 := hidIn (HB6.out.grown hgrow7 HB6.out.size (fun i hi => (World.ownsRow.lt HO6.out i hi).1))
              have HL7 : Hid (w7.heap[w2.heap.size]? = some (.cells #[.int .u8 73, .int .u8 78, .int .u8 76, .int .u8 67, .int .u8 68, .int .u8 86, .int .u8 84] 5 (7, 8))) := (hgrow7.block _ (Array.getElem?_eq_some_iff.1 HL6.out).1 (fun h => HNE.out h.symm)).trans HL6.out
              have HN7 : Hid (v7.ownBlock ≠ some w2.heap.size) := by
                intro h
                rcases hblk7 with h2 | h2
                · exact HNE.out (h2.symm.trans h)
                · rw [h2] at h
                  have := (Array.getElem?_eq_some_iff.1 HL6.out).1
                  have h := Option.some.inj h
                  omega
              clear hown7 hgrow7 hblk7
              go_roundw
              case rel => exact ⟨1 + 1, 0, by omega, rfl, HO7.out, HN7.out, HL7.out, HB7.out⟩
              case measure => simp [intOf]
          · as_aux_lemma =>
              obtain rfl : (76 : UInt8) = c := Option.some.inj hc
              rw [show (((76 : UInt8).toNat : Nat) : Int) = 76 from rfl] at hcl
              rw [show (((76 : UInt8).toNat : Nat) : Int) = 76 from rfl] at HHC
              go_wp2_with fail
              refine calls_same (HF.out wr) ?_
              go_wp2_with fail
              refine calls_same (HHC.out wr) ?_
              go_wp2_with fail
              refine (HL.out wr).mono ?_
              rintro e w6 ⟨v6, rfl, hv6, hb6⟩
              have HV6 := hidIn hv6
              have HO6 := hidIn (own_below HO.out hb6)
              have HB6 := hidIn (HBR.out.trans (hb6.mono HBR.out.size))
              have HL6 := hidIn ((hb6.block _ (Array.getElem?_eq_some_iff.1 HLR.out).1).trans HLR.out)
              clear hv6 hb6 x0 x1 x2 x3 x4 x5 x6 x7 x8 x9 x10 hcl
              go_wp2_with (at_builtin; refine wpList_append_bytes w6 rfl _ _ rfl w1.heap.size u5 _ rfl HO6.out wr.heap.size v6 (fd 76) rfl HV6.out (by omega) HB6.out.size ?_; intro v7 w7 hown7 hgrow7 hblk7)
              have HO7 : Hid (OwnB w7 w1.heap.size v7 (J (2 + 1))) := by unfold Hid; rw [HJY.out]; exact hown7
              have HB7 := hidIn (HB6.out.grown hgrow7 HB6.out.size (fun i hi => (World.ownsRow.lt HO6.out i hi).1))
              have HL7 : Hid (w7.heap[w2.heap.size]? = some (.cells #[.int .u8 73, .int .u8 78, .int .u8 76, .int .u8 67, .int .u8 68, .int .u8 86, .int .u8 84] 5 (7, 8))) := (hgrow7.block _ (Array.getElem?_eq_some_iff.1 HL6.out).1 (fun h => HNE.out h.symm)).trans HL6.out
              have HN7 : Hid (v7.ownBlock ≠ some w2.heap.size) := by
                intro h
                rcases hblk7 with h2 | h2
                · exact HNE.out (h2.symm.trans h)
                · rw [h2] at h
                  have := (Array.getElem?_eq_some_iff.1 HL6.out).1
                  have h := Option.some.inj h
                  omega
              clear hown7 hgrow7 hblk7
              go_roundw
              case rel => exact ⟨2 + 1, 0, by omega, rfl, HO7.out, HN7.out, HL7.out, HB7.out⟩
              case measure => simp [intOf]
          · as_aux_lemma =>
              obtain rfl : (67 : UInt8) = c := Option.some.inj hc
              rw [show (((67 : UInt8).toNat : Nat) : Int) = 67 from rfl] at hcl
              rw [show (((67 : UInt8).toNat : Nat) : Int) = 67 from rfl] at HHC
              go_wp2_with fail
              refine calls_same (HF.out wr) ?_
              go_wp2_with fail
              refine calls_same (HHC.out wr) ?_
              go_wp2_with fail
              refine (HU.out wr).mono ?_
              rintro e w6 ⟨v6, rfl, hv6, hb6⟩
              have HV6 := hidIn hv6
              have HO6 := hidIn (own_below HO.out hb6)
              have HB6 := hidIn (HBR.out.trans (hb6.mono HBR.out.size))
              have HL6 := hidIn ((hb6.block _ (Array.getElem?_eq_some_iff.1 HLR.out).1).trans HLR.out)
              clear hv6 hb6 x0 x1 x2 x3 x4 x5 x6 x7 x8 x9 x10 hcl
              go_wp2_with (at_builtin; refine wpList_append_bytes w6 rfl _ _ rfl w1.heap.size u5 _ rfl HO6.out wr.heap.size v6 (fd 67) rfl HV6.out (by omega) HB6.out.size ?_; intro v7 w7 hown7 hgrow7 hblk7)
              have HO7 : Hid (OwnB w7 w1.heap.size v7 (J (3 + 1))) := by unfold Hid; rw [HJY.out]; exact hown7
              have HB7 := hidIn (HB6.out.grown hgrow7 HB6.out.size (fun i hi => (World.ownsRow.lt HO6.out i hi).1))
              have HL7 : Hid (w7.heap[w2.heap.size]? = some (.cells #[.int .u8 73, .int .u8 78, .int .u8 76, .int .u8 67, .int .u8 68, .int .u8 86, .int .u8 84] 5 (7, 8))) := (hgrow7.block _ (Array.getElem?_eq_some_iff.1 HL6.out).1 (fun h => HNE.out h.symm)).trans HL6.out
              have HN7 : Hid (v7.ownBlock ≠ some w2.heap.size) := by
                intro h
                rcases hblk7 with h2 | h2
                · exact HNE.out (h2.symm.trans h)
                · rw [h2] at h
                  have := (Array.getElem?_eq_some_iff.1 HL6.out).1
                  have h := Option.some.inj h
                  omega
              clear hown7 hgrow7 hblk7
              go_roundw
              case rel => exact ⟨3 + 1, 0, by omega, rfl, HO7.out, HN7.out, HL7.out, HB7.out⟩
              case measure => simp [intOf]
          · as_aux_lemma =>
              obtain rfl : (68 : UInt8) = c := Option.some.inj hc
              rw [show (((68 : UInt8).toNat : Nat) : Int) = 68 from rfl] at hcl
              rw [show (((68 : UInt8).toNat : Nat) : Int) = 68 from rfl] at HHC
              go_wp2_with fail
              refine calls_same (HF.out wr) ?_
              go_wp2_with fail
              refine calls_same (HHC.out wr) ?_
              go_wp2_with fail
              refine (HD.out wr).mono ?_
              rintro e w6 ⟨v6, rfl, hv6, hb6⟩
              have HV6 := hidIn hv6
              have HO6 := hidIn (own_below HO.out hb6)
              have HB6 := hidIn (HBR.out.trans (hb6.mono HBR.out.size))
              have HL6 := hidIn ((hb6.block _ (Array.getElem?_eq_some_iff.1 HLR.out).1).trans HLR.out)
              clear hv6 hb6 x0 x1 x2 x3 x4 x5 x6 x7 x8 x9 x10 hcl
              go_wp2_with (at_builtin; refine wpList_append_bytes w6 rfl _ _ rfl w1.heap.size u5 _ rfl HO6.out wr.heap.size v6 (fd 68) rfl HV6.out (by omega) HB6.out.size ?_; intro v7 w7 hown7 hgrow7 hblk7)
              have HO7 : Hid (OwnB w7 w1.heap.size v7 (J (4 + 1))) := by unfold Hid; rw [HJY.out]; exact hown7
              have HB7 := hidIn (HB6.out.grown hgrow7 HB6.out.size (fun i hi => (World.ownsRow.lt HO6.out i hi).1))
              have HL7 : Hid (w7.heap[w2.heap.size]? = some (.cells #[.int .u8 73, .int .u8 78, .int .u8 76, .int .u8 67, .int .u8 68, .int .u8 86, .int .u8 84] 5 (7, 8))) := (hgrow7.block _ (Array.getElem?_eq_some_iff.1 HL6.out).1 (fun h => HNE.out h.symm)).trans HL6.out
              have HN7 : Hid (v7.ownBlock ≠ some w2.heap.size) := by
                intro h
                rcases hblk7 with h2 | h2
                · exact HNE.out (h2.symm.trans h)
                · rw [h2] at h
                  have := (Array.getElem?_eq_some_iff.1 HL6.out).1
                  have h := Option.some.inj h
                  omega
              clear hown7 hgrow7 hblk7
              go_roundw
              case rel => exact ⟨4 + 1, 0, by omega, rfl, HO7.out, HN7.out, HL7.out, HB7.out⟩
              case measure => simp [intOf]
          · as_aux_lemma =>
              obtain rfl : (86 : UInt8) = c := Option.some.inj hc
              rw [show (((86 : UInt8).toNat : Nat) : Int) = 86 from rfl] at hcl
              rw [show (((86 : UInt8).toNat : Nat) : Int) = 86 from rfl] at HHC
              go_wp2_with fail
              refine calls_same (HF.out wr) ?_
              go_wp2_with fail
              refine calls_same (HHC.out wr) ?_
              go_wp2_with fail
              refine (HV.out wr).mono ?_
              rintro e w6 ⟨v6, rfl, hv6, hb6⟩
              have HV6 := hidIn hv6
              have HO6 := hidIn (own_below HO.out hb6)
              have HB6 := hidIn (HBR.out.trans (hb6.mono HBR.out.size))
              have HL6 := hidIn ((hb6.block _ (Array.getElem?_eq_some_iff.1 HLR.out).1).trans HLR.out)
              clear hv6 hb6 x0 x1 x2 x3 x4 x5 x6 x7 x8 x9 x10 hcl
              go_wp2_with (at_builtin; refine wpList_append_bytes w6 rfl _ _ rfl w1.heap.size u5 _ rfl HO6.out wr.heap.size v6 (fd 86) rfl HV6.out (by omega) HB6.out.size ?_; intro v7 w7 hown7 hgrow7 hblk7)
              have HO7 : Hid (OwnB w7 w1.heap.size v7 (J (5 + 1))) := by unfold Hid; rw [HJY.out]; exact hown7
              have HB7 := hidIn (HB6.out.grown hgrow7 HB6.out.size (fun i hi => (World.ownsRow.lt HO6.out i hi).1))
              have HL7 : Hid (w7.heap[w2.heap.size]? = some (.cells #[.int .u8 73, .int .u8 78, .int .u8 76, .int .u8 67, .int .u8 68, .int .u8 86, .int .u8 84] 5 (7, 8))) := (hgrow7.block _ (Array.getElem?_eq_some_iff.1 HL6.out).1 (fun h => HNE.out h.symm)).trans HL6.out
              have HN7 : Hid (v7.ownBlock ≠ some w2.heap.size) := by
                intro h
                rcases hblk7 with h2 | h2
                · exact HNE.out (h2.symm.trans h)
                · rw [h2] at h
                  have := (Array.getElem?_eq_some_iff.1 HL6.out).1
                  have h := Option.some.inj h
                  omega
              clear hown7 hgrow7 hblk7
              go_roundw
              case rel => exact ⟨5 + 1, 0, by omega, rfl, HO7.out, HN7.out, HL7.out, HB7.out⟩
              case measure => simp [intOf]
          · as_aux_lemma =>
              obtain rfl : (84 : UInt8) = c := Option.some.inj hc
              rw [show (((84 : UInt8).toNat : Nat) : Int) = 84 from rfl] at hcl
              rw [show (((84 : UInt8).toNat : Nat) : Int) = 84 from rfl] at HHC
              obtain ⟨i0, gi, gz0, gz1, gz2⟩ := info_parts infoByte
              have hte := H22.out hb
              subst hte
              go_wp2_with fail
              refine calls_same (HF.out wr) ?_
              go_wp2_with fail
              refine calls_same (HHC.out wr) ?_
              go_wp2_with fail
              refine (HW.out wr (HB1.out.trans (HBR.out.mono HB1.out.size))).mono ?_
              rintro e w6 ⟨rfl, hb6⟩
              have HO6 := hidIn (own_below HO.out hb6)
              have HB6 := hidIn (HBR.out.trans (hb6.mono HBR.out.size))
              have HL6 := hidIn ((hb6.block _ (Array.getElem?_eq_some_iff.1 HLR.out).1).trans HLR.out)
              have hzt := HZT.out
              have hx1 : IntKind.u8.wrap ((tx.size : Int) / 256) = ((UInt8.ofNat (tx.size / 256)).toNat : Int) := by
                have e : (UInt8.ofNat (tx.size / 256)).toNat = tx.size / 256 % 256 := by simp
                rw [e]
                simp [IntKind.wrap, IntKind.bits, IntKind.signed]
              have hx2 : IntKind.u8.wrap (tx.size : Int) = ((UInt8.ofNat tx.size).toNat : Int) := by
                have e : (UInt8.ofNat tx.size).toNat = tx.size % 256 := by simp
                rw [e]
                simp [IntKind.wrap, IntKind.bits, IntKind.signed]
              have HF84 : Hid (fd 84 = [UInt8.ofNat (tx.size / 256), UInt8.ofNat tx.size] ++ tx.data.toList) := by unfold Hid; rw [F84.out, gf2']
              have HTZ : Hid (tx.data.toList.length = tx.size) := by unfold Hid; simp
              generalize UInt8.ofNat (tx.size / 256) = y1 at *
              generalize UInt8.ofNat tx.size = y2 at *
              clear hb6 x0 x1 x2 x3 x4 x5 x6 x7 x8 x9 x10 hcl
              go_wp2_with (at_builtin; first
                | (refine wpList_append_bytes _ rfl _ _ rfl w1.heap.size u5 _ rfl (own_below HO6.out (below_alloc (Below.refl _ _) _)) w6.heap.size _ [y1, y2] rfl (own_two' (w := w6) (x := y1) (y := y2) rfl) (by simp only [List.length_cons, List.length_nil]; omega) (by have := HB6.out.size; simp; omega) ?_; intro v7 w7 hown7 hgrow7 hblk7
                   have HB7 : Hid (Below w1.heap.size w1 w7) := (below_alloc HB6.out _).grown hgrow7 (by have := HB6.out.size; simp; omega) (fun i hi => (World.ownsRow.lt HO6.out i hi).1)
                   have HA6 : Hid ((w6.alloc (.cells #[.int .u8 y1.toNat, .int .u8 y2.toNat] 5)).heap[w2.heap.size]? = some (.cells #[.int .u8 73, .int .u8 78, .int .u8 76, .int .u8 67, .int .u8 68, .int .u8 86, .int .u8 84] 5 (7, 8))) := heap_keeps HL6.out _
                   have HL7 : Hid (w7.heap[w2.heap.size]? = some (.cells #[.int .u8 73, .int .u8 78, .int .u8 76, .int .u8 67, .int .u8 68, .int .u8 86, .int .u8 84] 5 (7, 8))) := (hgrow7.block _ (Array.getElem?_eq_some_iff.1 HA6.out).1 (fun h => HNE.out h.symm)).trans HA6.out
                   have HN7 : Hid (v7.ownBlock ≠ some w2.heap.size) := by
                     intro h
                     rcases hblk7 with h2 | h2
                     · exact HNE.out (h2.symm.trans h)
                     · rw [h2] at h
                       have := (Array.getElem?_eq_some_iff.1 HA6.out).1
                       have h := Option.some.inj h
                       omega
                   have HO7 := hidIn hown7
                   clear hown7 hgrow7 hblk7)
                | (refine Lib.wpList_append_own_string w7 rfl _ _ 55 9 rfl w1.heap.size 5 i0 Tryz.underlying55 Tryz.underlying9 gi gz0 gz1 gz2 v7 (J 6 ++ [y1, y2]).length (rowB (J 6 ++ [y1, y2])) rfl HO7.out tx rfl (by unfold maxLen; simp only [List.length_append, List.length_cons, List.length_nil]; omega) (by simp only [List.length_append, List.length_cons, List.length_nil]; omega) HB7.out.size ?_; intro v8 w8 hown8 hgrow8 _))
              have HO8 : Hid (OwnB w8 w1.heap.size v8 (J (6 + 1))) := by
                unfold Hid OwnB
                rw [HJY.out, HF84.out, ← List.append_assoc, List.length_append, HTZ.out, rowB_app]
                exact hown8
              have HB8 := hidIn (HB7.out.grown hgrow8 HB7.out.size (fun i hi => (World.ownsRow.lt HO7.out i hi).1))
              have HL8 : Hid (w8.heap[w2.heap.size]? = some (.cells #[.int .u8 73, .int .u8 78, .int .u8 76, .int .u8 67, .int .u8 68, .int .u8 86, .int .u8 84] 5 (7, 8))) := (hgrow8.block _ (Array.getElem?_eq_some_iff.1 HL7.out).1 (fun h => HN7.out h.symm)).trans HL7.out
              have HN8 : Hid (v8.ownBlock ≠ some w2.heap.size) := by
                intro h
                have hl := HL8.out
                rcases HO8.out.2 with ⟨h1, _⟩ | ⟨g, cap, cur, h1, _, h3, _⟩
                · rw [h1] at h
                  cases h
                · rw [h1] at h
                  rw [show g = w2.heap.size from Option.some.inj h, hl] at h3
                  exact absurd (Option.some.inj h3) (by simp)
              clear hown8 hgrow8
              go_roundw
              case rel => exact ⟨6 + 1, 0, by omega, rfl, HO8.out, HN8.out, HL8.out, HB8.out⟩
              case measure => simp [intOf]
      · have hj7 : j = 7 := by omega
        subst hj7
        go_wp2_with fail
        go_ret2
        exact ⟨_, rfl, by rw [HR.out, ← HA.out]; exact own_lower HO.out HB1.out.size, HB1.out.trans (HBR.out.mono HB1.out.size)⟩

set_option maxHeartbeats 4000000 in
set_option maxRecDepth 100000 in
theorem refPackEntry_any (e : Ev) (b : Bool) (hok : e.Ok) (hsm : e.Small) (hnil : (!((plainC e.t).kind == 0) || false) = !nilB e.t) (w : World) (ka : Option Addr) (kc : Nat) (htin : TIn w 0 (plainC e.t) (.agg #[.int .i64 (plainC e.t).kind, .string (plainC e.t).s, .int .i64 (plainC e.t).n, .slice ka (plainC e.t).k.length kc])) :
    Calls Tryz.prog 26 #[.agg #[.int .i64 e.k, .string e.i, .string e.n, .string e.l, .string e.u, .int .i64 e.d, .int .i64 e.v, .int .i64 (plainC e.t).kind, .string (plainC e.t).s, .int .i64 (plainC e.t).n, .slice ka (plainC e.t).k.length kc, .bool b]] w (PkPost w (pkX e b) (chkE e)) := by
  have hsz : e.Sz := ⟨hsm.i, hsm.n, hsm.l, hsm.u⟩
  have HE := hidIn (fun W hW => refPack_any e hok hsm hnil W _ ⟨ka, kc, rfl, htin.below hW⟩)
  have HLN : Hid ((pkR e).length ≤ 140000000000000) := by
    have h := Nat.le_trans (flat_len (fdL e) 2147483656 (fdL_len e hsz) (ordL e.k)) (Nat.mul_le_mul_right _ (ordL_len e.k))
    unfold Hid pkR pkL
    split
    · simp only [List.length_cons]; omega
    · simp
  have HR : Hid (pkX e b = if chkE e = 0 then (bif b then 1 else 0) :: pkR e else []) := by
    unfold Hid pkX pkR
    split <;> rfl
  unfold PkPost
  generalize pkX e b = res at *
  unfold PkPost at HE
  generalize pkR e = pk at *
  generalize chkE e = ce at *
  clear hok hsz htin hsm hnil
  obtain ⟨k, i, n, l, u, d, v, t⟩ := e
  simp only at *
  generalize (plainC t).kind = tk at *
  generalize (plainC t).s = ts at *
  generalize (plainC t).n = tn at *
  generalize (plainC t).k.length = tl at *
  clear t
  go_enter Tryz.func26, Tryz.ntmps26
  go_wp2_with fail
  have HBV : Hid (Below w.heap.size w (w.alloc (.cells #[.int .i64 k, .string i, .string n, .string l, .string u, .int .i64 d, .int .i64 v, .int .i64 tk, .string ts, .int .i64 tn, .slice ka tl kc, .bool b] 69))) := below_alloc (Below.refl _ _) _
  have HX := hidIn (heap_alloc_new w (.cells #[.int .i64 k, .string i, .string n, .string l, .string u, .int .i64 d, .int .i64 v, .int .i64 tk, .string ts, .int .i64 tn, .slice ka tl kc, .bool b] 69))
  generalize w.alloc (.cells #[.int .i64 k, .string i, .string n, .string l, .string u, .int .i64 d, .int .i64 v, .int .i64 tk, .string ts, .int .i64 tn, .slice ka tl kc, .bool b] 69) = V at *
  refine (HE.out V HBV.out).mono ?_
  rintro e w1 ⟨v1, rfl, hv1, hb⟩
  have HV1 := hidIn hv1
  have HB1 := hidIn (HBV.out.trans (hb.mono HBV.out.size))
  have hx1 := (hb.block _ (Array.getElem?_eq_some_iff.1 HX.out).1).trans HX.out
  have c11 : w1.cell? ⟨w.heap.size, 11, none⟩ = some (.bool b) := cell_of_row _ _ 11 _ _ _ hx1
  clear hv1 hb hx1
  by_cases h0 : ce = 0
  rotate_left
  · have h0' : (ce != 0) = true := by simpa using h0
    rw [if_neg h0] at HR
    clear h0
    go_wp2_with fail
    go_ret2
    exact ⟨_, rfl, by rw [HR.out]; exact World.ownsRow_nil _ _ _ _, HB1.out⟩
  · subst h0
    rw [if_pos rfl] at HR
    cases b
    · go_wp2_with (at_builtin; refine wpList_append_bytes _ rfl _ _ rfl w1.heap.size _ _ rfl (own_one (x := 0) rfl) V.heap.size v1 pk rfl (own_below HV1.out (below_alloc (Below.refl _ _) _)) (by have := HLN.out; simp only [List.length_cons, List.length_nil]; omega) (by simp) ?_; intro v7 w7 hown7 hgrow7 _)
      go_ret2
      exact ⟨_, rfl, by rw [HR.out]; exact own_lower hown7 HB1.out.size, (below_alloc HB1.out _).grown hgrow7 (by have := HB1.out.size; simp; omega) (fun j hj => Nat.le_trans HB1.out.size (World.ownsRow.lt (own_one (w := w1) (x := 0) rfl) j hj).1)⟩
    · go_wp2_with (at_builtin; refine wpList_append_bytes _ rfl _ _ rfl w1.heap.size _ _ rfl (own_one (x := 1) rfl) V.heap.size v1 pk rfl (own_below HV1.out (below_alloc (Below.refl _ _) _)) (by have := HLN.out; simp only [List.length_cons, List.length_nil]; omega) (by simp) ?_; intro v7 w7 hown7 hgrow7 _)
      go_ret2
      exact ⟨_, rfl, by rw [HR.out]; exact own_lower hown7 HB1.out.size, (below_alloc HB1.out _).grown hgrow7 (by have := HB1.out.size; simp; omega) (fun j hj => Nat.le_trans HB1.out.size (World.ownsRow.lt (own_one (w := w1) (x := 1) rfl) j hj).1)⟩

end Go.Proofs.YtkioolbjmcpjpaaGreatDoor.Ev
namespace Go.Proofs.YtkioolbjmcpjpaaGreatDoor.Ev
open Go.RowKit
set_option linter.unusedVariables false

def SlOk (a : Option Addr) (l c : Nat) : Prop := (a = none → l = 0 ∧ c = 0) ∧ l ≤ c ∧ c ≤ 9223372036854775807
theorem or_u64 (a b : Nat) (ha : a < 18446744073709551616) (hb : b < 18446744073709551616) : bits .or .u64 (a : Int) (b : Int) = ((a ||| b : Nat) : Int) := by
  show IntKind.u64.wrap ((BitVec.ofInt 64 (a : Int) ||| BitVec.ofInt 64 (b : Int)).toNat : Int) = _
  rw [BitVec.ofInt_natCast, BitVec.ofInt_natCast, BitVec.toNat_or, BitVec.toNat_ofNat, BitVec.toNat_ofNat, Nat.mod_eq_of_lt (by omega), Nat.mod_eq_of_lt (by omega), wrap64]
  have : a ||| b < 2 ^ 64 := Nat.or_lt_two_pow (by omega) (by omega)
  unfold nat64
  omega
theorem or_byte (n : Nat) (x : UInt8) (hn : n < 72057594037927936) : bits .or .u64 ((n * 256 : Nat) : Int) (x.toNat : Int) = ((n * 256 + x.toNat : Nat) : Int) := by
  have hx := x.toNat_lt
  rw [or_u64 _ _ (by omega) (by omega)]
  congr 1
  have := Nat.shiftLeft_add_eq_or_of_lt (i := 8) (b := x.toNat) (by omega) n
  rw [Nat.shiftLeft_eq] at this
  exact this.symm
theorem numL_take (l : List UInt8) (k : Nat) (x : UInt8) (h : l[k]? = some x) : numL (l.take (k + 1)) = numL (l.take k) * 256 + x.toNat := by
  rw [List.take_add_one, h]
  exact numL_snoc _ _
theorem numL_small (l : List UInt8) (k : Nat) (h : k ≤ 8) : numL (l.take k) < 256 ^ k := by
  refine Nat.lt_of_lt_of_le (numL_lt _) (Nat.pow_le_pow_right (by omega) ?_)
  rw [List.length_take]
  omega

set_option maxHeartbeats 2000000 in
set_option maxRecDepth 100000 in
theorem numB_any (v : Value) (l : List UInt8) (w : World) (h : BIn w v l) (hl : l.length ≤ 8) : Calls Tryz.prog 58 #[v] w fun e w' => e = .returned (.int .u64 (numL l)) ∧ w' = w := by
  obtain ⟨ao, c, rfl, h⟩ := h
  have HA := hidIn h
  clear h
  have HL : Hid (numL (l.take l.length) = numL l) := by unfold Hid; rw [List.take_length]
  go_enter Tryz.func58, Tryz.ntmps58
  go_wp2_with fail
  go_loop [3, 8] (fun s3 s8 => ∃ k : Nat, k ≤ l.length ∧ s8 = .int .i64 k ∧ s3 = .int .u64 (numL (l.take k))) (fun _ s8 => l.length - (intOf s8).toNat)
  case atStart => exact ⟨0, by omega, rfl, rfl⟩
  case round =>
    obtain ⟨k, hk, rfl, rfl⟩ := hrel
    by_cases hlt : k < l.length
    · have hlt' : (k : Int) < (l.length : Int) := by omega
      obtain ⟨x, hx⟩ := lt_of_get hlt
      obtain ⟨b, off, rfl, hc⟩ := HA.out k x hx
      have HS := hidIn (numL_take l k x hx)
      have hn : numL (l.take k) < 72057594037927936 := by
        have h1 := numL_small l k (by omega)
        have h2 : 256 ^ k ≤ 256 ^ 7 := Nat.pow_le_pow_right (by omega) (by omega)
        omega
      generalize numL (l.take k) = N at *
      have h1 : IntKind.u64.wrap ((N : Int) * 256) = ((N * 256 : Nat) : Int) := by rw [wrap64]; unfold nat64; omega
      have h2 : IntKind.u64.wrap (x.toNat : Int) = (x.toNat : Int) := by have := x.toNat_lt; rw [wrap64]; unfold nat64; omega
      have h3 : bits .or .u64 ((N : Int) * 256) (x.toNat : Int) = ((N * 256 + x.toNat : Nat) : Int) := by rw [show ((N : Int) * 256) = ((N * 256 : Nat) : Int) by omega]; exact or_byte N x hn
      clear hx hn
      go_wp2_with fail
      go_round
      case rel => exact ⟨k + 1, by omega, by go_num, by rw [HS.out, Int.natCast_add, Int.natCast_mul]; rfl⟩
      case measure => simp [intOf]; omega
    · have hlt' : ¬ (k : Int) < (l.length : Int) := by omega
      have hkl : k = l.length := by omega
      subst hkl
      rw [HL.out]
      go_wp2_with fail
      go_ret
      exact ⟨rfl, rfl⟩
/-- What TakeNumber answers. -/
def tnN (l : List UInt8) : Int := if l.length = 8 then int64 (numL l) else 0
theorem wrap_int64 (n : Nat) (h : n < 18446744073709551616) : RowKit.wrap64 (n : Int) = int64 n := by
  unfold RowKit.wrap64
  unfold int64
  split <;> omega
set_option maxHeartbeats 2000000 in
set_option maxRecDepth 100000 in
theorem takeN_any (v : Value) (l : List UInt8) (w : World) (h : BIn w v l) (hl : l.length ≤ 9223372036854775807) : Calls Tryz.prog 27 #[v] w fun e w' => e = .returned (.tuple #[.int .i64 (tnN l), .bool (decide (l.length = 8))]) ∧ w' = w := by
  by_cases h8 : l.length = 8
  · have HN := hidIn (numB_any v l w h (by omega))
    have hb := numL_lt l
    rw [h8] at hb
    have HT : Hid (tnN l = int64 (numL l)) := by unfold Hid tnN; rw [if_pos h8]
    have hw := wrap_int64 (numL l) (by omega)
    obtain ⟨ao, c, rfl, -⟩ := h
    rw [decide_eq_true h8, HT.out, ← hw]
    generalize numL l = n at *
    rw [h8] at HN ⊢
    clear h8 HT hw
    go_enter Tryz.func27, Tryz.ntmps27
    go_wp2_with fail
    refine calls_same HN.out ?_
    go_wp2_with fail
    go_ret2
    exact ⟨rfl, rfl⟩
  · obtain ⟨ao, c, rfl, -⟩ := h
    rw [decide_eq_false h8, show tnN l = 0 by unfold tnN; rw [if_neg h8]]
    have e : ((l.length : Int) != 8) = true := by rw [bne_iff_ne]; omega
    clear h8
    go_enter Tryz.func27, Tryz.ntmps27
    go_wp2_with fail
    go_ret2
    exact ⟨rfl, rfl⟩

end Go.Proofs.YtkioolbjmcpjpaaGreatDoor.Ev
namespace Go.Proofs.YtkioolbjmcpjpaaGreatDoor.Ev
open Go.RowKit
set_option linter.unusedVariables false
set_option linter.unusedSimpArgs false

theorem alloc_1e (w : World) (a b : Obj) : ((w.alloc a).alloc b).heap[w.heap.size + 1]? = some b := by
  have h := heap_alloc_new (w.alloc a) b
  rwa [show (w.alloc a).heap.size = w.heap.size + 1 by simp] at h
theorem cells11e {w : World} {B t : Nat} {a b c d e f g h i j k : Value} (hh : w.heap[B]? = some (.cells #[a, b, c, d, e, f, g, h, i, j, k] t)) : w.cell? ⟨B, 0, none⟩ = some a ∧ w.cell? ⟨B, 1, none⟩ = some b ∧ w.cell? ⟨B, 2, none⟩ = some c ∧ w.cell? ⟨B, 3, none⟩ = some d ∧ w.cell? ⟨B, 4, none⟩ = some e ∧ w.cell? ⟨B, 5, none⟩ = some f ∧ w.cell? ⟨B, 6, none⟩ = some g ∧ w.cell? ⟨B, 7, none⟩ = some h ∧ w.cell? ⟨B, 8, none⟩ = some i ∧ w.cell? ⟨B, 9, none⟩ = some j ∧ w.cell? ⟨B, 10, none⟩ = some k :=
  ⟨cell_of_row _ _ 0 _ _ _ hh, cell_of_row _ _ 1 _ _ _ hh, cell_of_row _ _ 2 _ _ _ hh, cell_of_row _ _ 3 _ _ _ hh, cell_of_row _ _ 4 _ _ _ hh, cell_of_row _ _ 5 _ _ _ hh, cell_of_row _ _ 6 _ _ _ hh, cell_of_row _ _ 7 _ _ _ hh, cell_of_row _ _ 8 _ _ _ hh, cell_of_row _ _ 9 _ _ _ hh, cell_of_row _ _ 10 _ _ _ hh⟩
theorem Ev.Turned.small {e : Ev} (h : e.Turned) : e.Small := ⟨Nat.le_trans h.i (by decide), Nat.le_trans h.n (by decide), Nat.le_trans h.l (by decide), Nat.le_trans h.u (by decide), Nat.le_trans h.w (by decide)⟩
theorem kind_nil (c : C) (h : c = none' ∨ c.whole) : ((plainC c).kind == 0) = nilB c := by
  rcases h with rfl | h
  · rfl
  · cases c with
    | odd v => cases h
    | _ => rfl
theorem Cm.In.below {w w' : World} {c : Cm} (h : c.In w) (hb : Below w.heap.size w w') : c.In w' := ⟨h.k1, h.k2, h.a1, h.a2, h.b1, h.b2, h.d1, h.d2, h.v1, h.v2, h.s, h.p.below hb⟩
def xS : ByteArray := ⟨#[120]⟩
set_option maxHeartbeats 2000000 in
set_option maxRecDepth 100000 in
theorem copyB_any (v : Value) (l : List UInt8) (B : Nat) (w : World) (h : OwnB w B v l) (hl : l.length ≤ 1000) : Calls Tryz.prog 59 #[v] w fun e w' => ∃ v', e = .returned v' ∧ OwnB w' w.heap.size v' l ∧ Below w.heap.size w w' := by
  have H := hidIn h
  clear h
  have HN : Hid (OwnB w w.heap.size (.slice none 0 0) []) := World.ownsRow_nil _ _ _ _
  go_enter Tryz.func59, Tryz.ntmps59
  go_wp2_with (at_builtin; refine wpList_append_bytes w rfl _ _ rfl w.heap.size (.slice none 0 0) [] rfl HN.out B v l rfl H.out (by simp; omega) (Nat.le_refl _) ?_; intro v7 w7 hown7 hgrow7 _)
  go_ret
  exact ⟨_, rfl, hown7, (Below.refl _ _).grown hgrow7 (Nat.le_refl _) (fun i hi => (World.ownsRow.lt HN.out i hi).1)⟩
set_option maxHeartbeats 2000000 in
set_option maxRecDepth 100000 in
theorem cut7_any (v : Value) (l : List UInt8) (B : Nat) (w : World) (h : OwnB w B v l) (hl : l.length = 8) : Calls Tryz.prog 28 #[v, .int .i64 7] w fun e w' => ∃ v', e = .returned v' ∧ OwnB w' w.heap.size v' (l.take 7) ∧ Below w.heap.size w w' := by
  rcases h.2 with ⟨_, h0⟩ | ⟨g, cap, cur, rfl, hb, hg, hnc, hcm, hcs, hcur⟩
  · omega
  have h7 : (l.take 7).length = 7 := by rw [List.length_take, hl]; rfl
  have ho : OwnB w B (.slice (some ⟨g, 0, none⟩) (l.take 7).length cap) (l.take 7) := by
    refine ⟨by rw [rowB_len]; omega, .inr ⟨g, cap, cur, rfl, hb, hg, by omega, hcm, hcs, ?_⟩⟩
    rw [h7, show rowB (l.take 7) = (rowB l).take 7 from List.map_take, ← hcur, List.take_take, hl]
    rfl
  rw [h7] at ho
  have HC := hidIn (copyB_any _ (l.take 7) B w ho (by omega))
  have k1 : 7 ≤ cap := by omega
  have k2 : (7 : Int) ≤ (cap : Int) := by omega
  have k3 : cap ≤ 9223372036854775807 := by unfold maxLen at hcm; omega
  rw [hl]
  clear h hb hg hcm hcs hcur ho h7 hnc
  go_enter Tryz.func28, Tryz.ntmps28
  go_wp2_with fail
  refine HC.out.mono ?_
  rintro e w1 ⟨v1, rfl, hv, hb⟩
  have HV := hidIn hv
  have HB := hidIn hb
  clear hv hb HC
  go_wp2_with fail
  go_ret
  exact ⟨_, rfl, HV.out, HB.out⟩
theorem pkR_len (e : Ev) (h : e.Sz) : (pkR e).length ≤ 140000000000000 := by
  have h := Nat.le_trans (flat_len (fdL e) 2147483656 (fdL_len e h) (ordL e.k)) (Nat.mul_le_mul_right _ (ordL_len e.k))
  unfold pkR pkL
  split
  · simp only [List.length_cons]; omega
  · simp
theorem pkX_len (e : Ev) (b : Bool) (h : e.Sz) : (pkX e b).length ≤ 140000000000001 := by
  have h := pkR_len e h
  unfold pkR at h
  unfold pkX
  split
  · rename_i hz
    rw [if_pos hz] at h
    simp only [List.length_cons]; omega
  · simp

set_option maxHeartbeats 16000000 in
set_option maxRecDepth 100000 in
theorem packTells_walk (c : Cm) (field v : Int) (s : ByteArray) (ref : Bool) (n : Int) (w : World) (hc : c.In w) (hf1 : -9223372036854775808 ≤ field) (hf2 : field ≤ 9223372036854775807) (hv1 : -9223372036854775808 ≤ v) (hv2 : v ≤ 9223372036854775807) (hs : s.size ≤ 140737488351232) (hn1 : -9223372036854775808 ≤ n) (hn2 : n ≤ 9223372036854775807) (htab : TabW w) :
    Calls Tryz.prog 6 #[.agg c.cs, .int .i64 field, .int .i64 v, .string s, .bool ref, .int .i64 n] w fun e w' => e = .returned (.bool true) ∧ Below w.heap.size w w' := by
  have HS1 := hidIn (fun (W : World) (hW : Below w.heap.size w W) => some11_any c field v s 0 W (hc.below hW) hf1 hf2 hv1 hv2 (Nat.le_trans hs (by decide)) (by omega) (by omega))
  have HTN : Hid (tnN (gfL (nat64 n) 8) = n) := by unfold Hid tnN; rw [if_pos (gfL_length _ _), numL_gfL 8 _ (nat64_lt n), int64_nat64 n hn1 hn2]
  have HLN : Hid ((gfL (nat64 n) 8).length = 8) := gfL_length _ _
  have HN1 := hidIn (fun W => number8_any n W)
  have HN2 := hidIn (fun W => refNum_any n W)
  have hnn : (n == n) = true := beq_self_eq_true n
  generalize gfL (nat64 n) 8 = L at *
  have HL7 : Hid ((L.take 7).length = 7) := by unfold Hid; rw [List.length_take, HLN.out]; rfl
  have HT7 : Hid (tnN (L.take 7) = 0) := by unfold Hid tnN; rw [if_neg (by rw [HL7.out]; decide)]
  have HTAB : Hid (∀ W, Below w.heap.size w W → TabW W) := fun W hW => tabW_below htab hW
  clear hc htab hf1 hf2 hv1 hv2 hs hn1 hn2
  unfold Cm.cs at HS1 ⊢
  go_enter Tryz.func6, Tryz.ntmps6
  go_wp2_with fail
  have HBV : Hid (Below w.heap.size w (w.alloc (.cells #[.int .i64 c.k, .int .i64 c.a, .int .i64 c.b, .int .i64 c.d, .int .i64 c.v, .string c.s, .slice c.p.na c.p.nl c.p.nc, .slice c.p.wa c.p.wl c.p.wc] 27))) := below_alloc (Below.refl _ _) _
  generalize w.alloc (.cells #[.int .i64 c.k, .int .i64 c.a, .int .i64 c.b, .int .i64 c.d, .int .i64 c.v, .string c.s, .slice c.p.na c.p.nl c.p.nc, .slice c.p.wa c.p.wl c.p.wc] 27) = V at *
  refine (HS1.out V HBV.out).mono ?_
  rintro e w1 ⟨x, r, is, rfl, hturn, hrin, h0, -, hodd, hb⟩
  obtain rfl : is = false := by
    cases is
    · rfl
    · exact absurd (hodd rfl) (by decide)
  have HB1 := hidIn (HBV.out.trans (hb.mono HBV.out.size))
  obtain ⟨ka, kc, rfl, htin⟩ := hrin
  have his : (!((plainC x.t).kind == 0) || false) = !nilB x.t := by rw [kind_nil _ (h0 rfl)]; simp
  have hsm := hturn.small
  have hsz : x.Sz := ⟨hsm.i, hsm.n, hsm.l, hsm.u⟩
  have HPE := hidIn (fun W hW => pevent_any x hturn.ok hsz W hW)
  have HPN := hidIn (fun W hW => pentry_any x ref hturn.ok hsz W hW)
  have HRP := hidIn (fun W (hW : Below w1.heap.size w1 W) => refPack_any x hturn.ok hsm his W (.agg #[.int .i64 x.k, .string x.i, .string x.n, .string x.l, .string x.u, .int .i64 x.d, .int .i64 x.v, .int .i64 (plainC x.t).kind, .string (plainC x.t).s, .int .i64 (plainC x.t).n, .slice ka (plainC x.t).k.length kc]) ⟨ka, kc, rfl, htin.below hW⟩)
  have HRE := hidIn (fun W (hW : Below w1.heap.size w1 W) => refPackEntry_any x ref hturn.ok hsm his W ka kc (htin.below hW))
  have HLP := hidIn (pkR_len x hsz)
  have HLQ := hidIn (pkX_len x ref hsz)
  unfold PkPost at HPE HPN HRP HRE
  unfold Ev.val at HPE
  unfold Ev.cs at HPE HPN
  simp only [List.push_toArray, List.cons_append, List.nil_append] at HPN
  generalize pkR x = P at *
  generalize pkX x ref = Q at *
  generalize chkE x = ce at *
  have hcc : (ce == ce) = true := beq_self_eq_true ce
  have one := x.t.one' hturn.ok.t
  have o1 := one.cells
  have o2 := one.one
  have o3 := one.store
  clear h0 hodd hb hturn htin HS1 HBV his hsm hsz one
  unfold Ev.val Ev.cs
  go_upto_region 2 with fail
  have HXE : Hid (((w1.alloc (.cells #[.int .i64 x.k, .string x.i, .string x.n, .string x.l, .string x.u, .int .i64 x.d, .int .i64 x.v, x.t.val] 30)).alloc (.cells #[.int .i64 x.k, .string x.i, .string x.n, .string x.l, .string x.u, .int .i64 x.d, .int .i64 x.v, .int .i64 (plainC x.t).kind, .string (plainC x.t).s, .int .i64 (plainC x.t).n, .slice ka (plainC x.t).k.length kc] 35)).heap[w1.heap.size]? = some (.cells #[.int .i64 x.k, .string x.i, .string x.n, .string x.l, .string x.u, .int .i64 x.d, .int .i64 x.v, x.t.val] 30)) := heap_keeps (heap_alloc_new _ _) _
  have HXR : Hid (((w1.alloc (.cells #[.int .i64 x.k, .string x.i, .string x.n, .string x.l, .string x.u, .int .i64 x.d, .int .i64 x.v, x.t.val] 30)).alloc (.cells #[.int .i64 x.k, .string x.i, .string x.n, .string x.l, .string x.u, .int .i64 x.d, .int .i64 x.v, .int .i64 (plainC x.t).kind, .string (plainC x.t).s, .int .i64 (plainC x.t).n, .slice ka (plainC x.t).k.length kc] 35)).heap[w1.heap.size + 1]? = some (.cells #[.int .i64 x.k, .string x.i, .string x.n, .string x.l, .string x.u, .int .i64 x.d, .int .i64 x.v, .int .i64 (plainC x.t).kind, .string (plainC x.t).s, .int .i64 (plainC x.t).n, .slice ka (plainC x.t).k.length kc] 35)) := alloc_1e _ _ _
  have HB : Hid (Below w.heap.size w ((w1.alloc (.cells #[.int .i64 x.k, .string x.i, .string x.n, .string x.l, .string x.u, .int .i64 x.d, .int .i64 x.v, x.t.val] 30)).alloc (.cells #[.int .i64 x.k, .string x.i, .string x.n, .string x.l, .string x.u, .int .i64 x.d, .int .i64 x.v, .int .i64 (plainC x.t).kind, .string (plainC x.t).s, .int .i64 (plainC x.t).n, .slice ka (plainC x.t).k.length kc] 35))) := below_alloc (below_alloc HB1.out _) _
  have HU : Hid (Below w1.heap.size w1 ((w1.alloc (.cells #[.int .i64 x.k, .string x.i, .string x.n, .string x.l, .string x.u, .int .i64 x.d, .int .i64 x.v, x.t.val] 30)).alloc (.cells #[.int .i64 x.k, .string x.i, .string x.n, .string x.l, .string x.u, .int .i64 x.d, .int .i64 x.v, .int .i64 (plainC x.t).kind, .string (plainC x.t).s, .int .i64 (plainC x.t).n, .slice ka (plainC x.t).k.length kc] 35))) := below_alloc (below_alloc (Below.refl _ _) _) _
  generalize (w1.alloc (.cells #[.int .i64 x.k, .string x.i, .string x.n, .string x.l, .string x.u, .int .i64 x.d, .int .i64 x.v, x.t.val] 30)).alloc (.cells #[.int .i64 x.k, .string x.i, .string x.n, .string x.l, .string x.u, .int .i64 x.d, .int .i64 x.v, .int .i64 (plainC x.t).kind, .string (plainC x.t).s, .int .i64 (plainC x.t).n, .slice ka (plainC x.t).k.length kc] 35) = w2 at *
  clear HB1
  obtain ⟨g0, g1, g2, g3, g4, g5, g6, g7⟩ := cells8e HXE.out
  go_wp2_with fail
  refine (HPE.out w2 (HTAB.out w2 HB.out)).mono ?_
  rintro e w3 ⟨v3, rfl, hv, hb⟩
  have HB := hidIn (HB.out.trans (hb.mono HB.out.size))
  have HU := hidIn (HU.out.trans (hb.mono HU.out.size))
  have HXE := hidIn ((hb.block _ (Array.getElem?_eq_some_iff.1 HXE.out).1).trans HXE.out)
  have HXR := hidIn ((hb.block _ (Array.getElem?_eq_some_iff.1 HXR.out).1).trans HXR.out)
  have HV3 := hidIn (own_bin hv)
  have HO3 := hidIn hv
  clear hv hb
  clear g0 g1 g2 g3 g4 g5 g6 g7
  obtain ⟨g0, g1, g2, g3, g4, g5, g6, g7, g8, g9, g10⟩ := cells11e HXR.out
  go_wp2_with fail
  refine (HRP.out w3 HU.out).mono ?_
  rintro e w4 ⟨v4, rfl, hv, hb⟩
  have HB := hidIn (HB.out.trans (hb.mono HB.out.size))
  have HU := hidIn (HU.out.trans (hb.mono HU.out.size))
  have HXE := hidIn ((hb.block _ (Array.getElem?_eq_some_iff.1 HXE.out).1).trans HXE.out)
  have HXR := hidIn ((hb.block _ (Array.getElem?_eq_some_iff.1 HXR.out).1).trans HXR.out)
  have HV3 := hidIn (HV3.out.below hb)
  have HV4 := hidIn (own_bin hv)
  have HO4 := hidIn hv
  clear hv hb
  clear g0 g1 g2 g3 g4 g5 g6 g7 g8 g9 g10
  obtain ⟨g0, g1, g2, g3, g4, g5, g6, g7⟩ := cells8e HXE.out
  go_wp2_with fail
  refine (HPN.out w4 (HTAB.out w4 HB.out)).mono ?_
  rintro e w5 ⟨v5, rfl, hv, hb⟩
  have HB := hidIn (HB.out.trans (hb.mono HB.out.size))
  have HU := hidIn (HU.out.trans (hb.mono HU.out.size))
  have HXE := hidIn ((hb.block _ (Array.getElem?_eq_some_iff.1 HXE.out).1).trans HXE.out)
  have HXR := hidIn ((hb.block _ (Array.getElem?_eq_some_iff.1 HXR.out).1).trans HXR.out)
  have HV3 := hidIn (HV3.out.below hb)
  have HV4 := hidIn (HV4.out.below hb)
  have HV5 := hidIn (own_bin hv)
  have HO5 := hidIn hv
  clear hv hb
  clear g0 g1 g2 g3 g4 g5 g6 g7
  obtain ⟨g0, g1, g2, g3, g4, g5, g6, g7, g8, g9, g10⟩ := cells11e HXR.out
  go_wp2_with fail
  refine (HRE.out w5 HU.out).mono ?_
  rintro e w6 ⟨v6, rfl, hv, hb⟩
  have HB := hidIn (HB.out.trans (hb.mono HB.out.size))
  have HU := hidIn (HU.out.trans (hb.mono HU.out.size))
  have HXE := hidIn ((hb.block _ (Array.getElem?_eq_some_iff.1 HXE.out).1).trans HXE.out)
  have HXR := hidIn ((hb.block _ (Array.getElem?_eq_some_iff.1 HXR.out).1).trans HXR.out)
  have HV3 := hidIn (HV3.out.below hb)
  have HV4 := hidIn (HV4.out.below hb)
  have HV5 := hidIn (HV5.out.below hb)
  have HV6 := hidIn (own_bin hv)
  have HO6 := hidIn hv
  clear hv hb
  clear g0 g1 g2 g3 g4 g5 g6 g7 g8 g9 g10
  go_wp2_with fail
  refine (HN1.out w6).mono ?_
  rintro e w7 ⟨v7, rfl, hv, hb⟩
  have HB := hidIn (HB.out.trans (hb.mono HB.out.size))
  have HU := hidIn (HU.out.trans (hb.mono HU.out.size))
  have HXE := hidIn ((hb.block _ (Array.getElem?_eq_some_iff.1 HXE.out).1).trans HXE.out)
  have HXR := hidIn ((hb.block _ (Array.getElem?_eq_some_iff.1 HXR.out).1).trans HXR.out)
  have HV3 := hidIn (HV3.out.below hb)
  have HV4 := hidIn (HV4.out.below hb)
  have HV5 := hidIn (HV5.out.below hb)
  have HV6 := hidIn (HV6.out.below hb)
  have HV7 := hidIn (own_bin hv)
  have HO7 := hidIn hv
  clear hv hb
  have HTK := hidIn (takeN_any v7 L w7 HV7.out (by rw [HLN.out]; decide))
  rw [HTN.out, HLN.out] at HTK
  go_wp2_with fail
  refine calls_same HTK.out ?_
  clear HTK
  go_wp2_with fail
  refine (HN1.out w7).mono ?_
  rintro e w8 ⟨v8, rfl, hv, hb⟩
  have HB := hidIn (HB.out.trans (hb.mono HB.out.size))
  have HU := hidIn (HU.out.trans (hb.mono HU.out.size))
  have HXE := hidIn ((hb.block _ (Array.getElem?_eq_some_iff.1 HXE.out).1).trans HXE.out)
  have HXR := hidIn ((hb.block _ (Array.getElem?_eq_some_iff.1 HXR.out).1).trans HXR.out)
  have HV3 := hidIn (HV3.out.below hb)
  have HV4 := hidIn (HV4.out.below hb)
  have HV5 := hidIn (HV5.out.below hb)
  have HV6 := hidIn (HV6.out.below hb)
  have HV7 := hidIn (HV7.out.below hb)
  have HV8 := hidIn (own_bin hv)
  have HO8 := hidIn hv
  clear hv hb
  go_wp2_with fail
  refine (cut7_any v8 L _ w8 HO8.out HLN.out).mono ?_
  rintro e w9 ⟨v9, rfl, hv, hb⟩
  have HB := hidIn (HB.out.trans (hb.mono HB.out.size))
  have HU := hidIn (HU.out.trans (hb.mono HU.out.size))
  have HXE := hidIn ((hb.block _ (Array.getElem?_eq_some_iff.1 HXE.out).1).trans HXE.out)
  have HXR := hidIn ((hb.block _ (Array.getElem?_eq_some_iff.1 HXR.out).1).trans HXR.out)
  have HV3 := hidIn (HV3.out.below hb)
  have HV4 := hidIn (HV4.out.below hb)
  have HV5 := hidIn (HV5.out.below hb)
  have HV6 := hidIn (HV6.out.below hb)
  have HV7 := hidIn (HV7.out.below hb)
  have HV8 := hidIn (HV8.out.below hb)
  have HV9 := hidIn (own_bin hv)
  have HO9 := hidIn hv
  clear hv hb
  have HTK := hidIn (takeN_any v9 (L.take 7) w9 HV9.out (by rw [HL7.out]; decide))
  rw [HT7.out, HL7.out] at HTK
  go_wp2_with fail
  refine calls_same HTK.out ?_
  clear HTK
  have HSA := hidIn (sameB_any v3 v4 P P w9 HV3.out HV4.out (by have := HLP.out; omega) (by have := HLP.out; omega))
  rw [decide_eq_true rfl] at HSA
  go_wp2_with fail
  refine HSA.out.mono ?_
  rintro e w10 ⟨rfl, hb⟩
  have HB := hidIn (HB.out.trans (hb.mono HB.out.size))
  have HU := hidIn (HU.out.trans (hb.mono HU.out.size))
  have HXE := hidIn ((hb.block _ (Array.getElem?_eq_some_iff.1 HXE.out).1).trans HXE.out)
  have HXR := hidIn ((hb.block _ (Array.getElem?_eq_some_iff.1 HXR.out).1).trans HXR.out)
  have HV3 := hidIn (HV3.out.below hb)
  have HV4 := hidIn (HV4.out.below hb)
  have HV5 := hidIn (HV5.out.below hb)
  have HV6 := hidIn (HV6.out.below hb)
  have HV7 := hidIn (HV7.out.below hb)
  have HV8 := hidIn (HV8.out.below hb)
  have HV9 := hidIn (HV9.out.below hb)
  clear hb HSA
  have HSA := hidIn (sameB_any v5 v6 Q Q w10 HV5.out HV6.out (by have := HLQ.out; omega) (by have := HLQ.out; omega))
  rw [decide_eq_true rfl] at HSA
  go_wp2_with fail
  refine HSA.out.mono ?_
  rintro e w11 ⟨rfl, hb⟩
  have HB := hidIn (HB.out.trans (hb.mono HB.out.size))
  have HU := hidIn (HU.out.trans (hb.mono HU.out.size))
  have HXE := hidIn ((hb.block _ (Array.getElem?_eq_some_iff.1 HXE.out).1).trans HXE.out)
  have HXR := hidIn ((hb.block _ (Array.getElem?_eq_some_iff.1 HXR.out).1).trans HXR.out)
  have HV3 := hidIn (HV3.out.below hb)
  have HV4 := hidIn (HV4.out.below hb)
  have HV5 := hidIn (HV5.out.below hb)
  have HV6 := hidIn (HV6.out.below hb)
  have HV7 := hidIn (HV7.out.below hb)
  have HV8 := hidIn (HV8.out.below hb)
  have HV9 := hidIn (HV9.out.below hb)
  clear hb HSA
  go_wp2_with fail
  refine (HN1.out w11).mono ?_
  rintro e w12 ⟨v12, rfl, hv, hb⟩
  have HB := hidIn (HB.out.trans (hb.mono HB.out.size))
  have HU := hidIn (HU.out.trans (hb.mono HU.out.size))
  have HXE := hidIn ((hb.block _ (Array.getElem?_eq_some_iff.1 HXE.out).1).trans HXE.out)
  have HXR := hidIn ((hb.block _ (Array.getElem?_eq_some_iff.1 HXR.out).1).trans HXR.out)
  have HV3 := hidIn (HV3.out.below hb)
  have HV4 := hidIn (HV4.out.below hb)
  have HV5 := hidIn (HV5.out.below hb)
  have HV6 := hidIn (HV6.out.below hb)
  have HV7 := hidIn (HV7.out.below hb)
  have HV8 := hidIn (HV8.out.below hb)
  have HV9 := hidIn (HV9.out.below hb)
  have HV12 := hidIn (own_bin hv)
  have HO12 := hidIn hv
  clear hv hb
  go_wp2_with fail
  refine (HN2.out w12).mono ?_
  rintro e w13 ⟨v13, rfl, hv, hb⟩
  have HB := hidIn (HB.out.trans (hb.mono HB.out.size))
  have HU := hidIn (HU.out.trans (hb.mono HU.out.size))
  have HXE := hidIn ((hb.block _ (Array.getElem?_eq_some_iff.1 HXE.out).1).trans HXE.out)
  have HXR := hidIn ((hb.block _ (Array.getElem?_eq_some_iff.1 HXR.out).1).trans HXR.out)
  have HV3 := hidIn (HV3.out.below hb)
  have HV4 := hidIn (HV4.out.below hb)
  have HV5 := hidIn (HV5.out.below hb)
  have HV6 := hidIn (HV6.out.below hb)
  have HV7 := hidIn (HV7.out.below hb)
  have HV8 := hidIn (HV8.out.below hb)
  have HV9 := hidIn (HV9.out.below hb)
  have HV12 := hidIn (HV12.out.below hb)
  have HV13 := hidIn (own_bin hv)
  have HO13 := hidIn hv
  clear hv hb
  have HSA := hidIn (sameB_any v12 v13 L L w13 HV12.out HV13.out (by have := HLN.out; omega) (by have := HLN.out; omega))
  rw [decide_eq_true rfl] at HSA
  go_wp2_with fail
  refine HSA.out.mono ?_
  rintro e w14 ⟨rfl, hb⟩
  have HB := hidIn (HB.out.trans (hb.mono HB.out.size))
  have HU := hidIn (HU.out.trans (hb.mono HU.out.size))
  have HXE := hidIn ((hb.block _ (Array.getElem?_eq_some_iff.1 HXE.out).1).trans HXE.out)
  have HXR := hidIn ((hb.block _ (Array.getElem?_eq_some_iff.1 HXR.out).1).trans HXR.out)
  have HV3 := hidIn (HV3.out.below hb)
  have HV4 := hidIn (HV4.out.below hb)
  have HV5 := hidIn (HV5.out.below hb)
  have HV6 := hidIn (HV6.out.below hb)
  have HV7 := hidIn (HV7.out.below hb)
  have HV8 := hidIn (HV8.out.below hb)
  have HV9 := hidIn (HV9.out.below hb)
  have HV12 := hidIn (HV12.out.below hb)
  have HV13 := hidIn (HV13.out.below hb)
  clear hb HSA
  go_wp2_with fail
  refine (wakes12_any w14 (HTAB.out w14 HB.out)).mono ?_
  rintro e w15 ⟨rfl, hb⟩
  have HB := hidIn (HB.out.trans (hb.mono HB.out.size))
  clear hb
  go_wp2_with fail
  go_ret
  exact ⟨rfl, HB.out⟩

end Go.Proofs.YtkioolbjmcpjpaaGreatDoor.Ev
namespace Go.Proofs.YtkioolbjmcpjpaaGreatDoor.Ev
open Go.ChangeShapes Go.WideShapes Go.ChangeAt Go.RowKit
set_option linter.unusedVariables false

theorem cellsCmd : Tryz.prog.cellsOf 27 = 8 := by kernel_rfl
theorem cellsInt : Tryz.prog.cellsOf 3 = 1 := by kernel_rfl
theorem cellsStr : Tryz.prog.cellsOf 9 = 1 := by kernel_rfl
theorem cellsIs : Tryz.prog.cellsOf 22 = 1 := by kernel_rfl
theorem cellsSs : Tryz.prog.cellsOf 23 = 1 := by kernel_rfl
set_option maxRecDepth 100000 in
theorem planC_open {H : Type} {enc : TypeId × Value → H} {W : World} {n : Nat} {v0 v1 : Value} {x : DataW H × List MemPlace} (h : DataW.trod enc Tryz.prog W 0 (fun _ => true) true n 25 [v0, v1] = some x) : ∃ p : Pl, v0 = .slice p.na p.nl p.nc ∧ v1 = .slice p.wa p.wl p.wc ∧ PlanIn W p := by
  obtain ⟨xs, k, hk, hxy, hlen, hxl, hf⟩ := DataW.trod_struct Tryz.underlying25 h
  have hx2 : xs.length = 2 := hxl
  match xs, hx2 with
  | [y0, y1], _ =>
    have g0 := hf 0 _ rfl
    have g1 := hf 1 _ rfl
    simp [cellsIs, cellsSs] at g0 g1
    obtain ⟨a, l, c, f, rfl, h1, h2⟩ := ints_open g0
    obtain ⟨a', l', c', f', rfl, h3, h4⟩ := strs_open g1
    exact ⟨⟨a, l, c, f, a', l', c', f'⟩, rfl, rfl, h1, h3, h2, h4⟩
set_option maxRecDepth 100000 in
theorem cmd_trod {H : Type} {enc : TypeId × Value → H} {W : World} {n : Nat} {cs : List Value} {x : DataW H × List MemPlace} (h : DataW.trod enc Tryz.prog W 0 (fun _ => true) true n 27 cs = some x) : ∃ c : Cm, cs = c.cs.toList ∧ c.In W := by
  obtain ⟨xs, k, hk, hxy, hlen, hxl, hf⟩ := DataW.trod_struct Tryz.underlying27 h
  rw [cellsCmd] at hlen
  match cs, hlen with
  | [v0, v1, v2, v3, v4, v5, v6, v7], _ =>
    have hx7 : xs.length = 7 := hxl
    match xs, hx7 with
    | [y0, y1, y2, y3, y4, y5, y6], _ =>
      have g0 := hf 0 _ rfl
      have g1 := hf 1 _ rfl
      have g2 := hf 2 _ rfl
      have g3 := hf 3 _ rfl
      have g4 := hf 4 _ rfl
      have g5 := hf 5 _ rfl
      have g6 := hf 6 _ rfl
      simp [cellsInt, cellsStr, cellsPlan] at g0 g1 g2 g3 g4 g5 g6
      obtain ⟨k, e0, _, w0⟩ := DataW.trod_int Tryz.underlying3 g0
      obtain ⟨a, e1, _, w1⟩ := DataW.trod_int Tryz.underlying3 g1
      obtain ⟨b, e2, _, w2⟩ := DataW.trod_int Tryz.underlying3 g2
      obtain ⟨d, e3, _, w3⟩ := DataW.trod_int Tryz.underlying3 g3
      obtain ⟨v, e4, _, w4⟩ := DataW.trod_int Tryz.underlying3 g4
      obtain ⟨s, e5, _, w5⟩ := DataW.trod_string Tryz.underlying9 g5
      obtain ⟨p, rfl, rfl, hp⟩ := planC_open g6
      simp only [List.cons.injEq, and_true] at e0 e1 e2 e3 e4 e5
      subst e0 e1 e2 e3 e4 e5
      have b0 := plan_int_bd w0
      have b1 := plan_int_bd w1
      have b2 := plan_int_bd w2
      have b3 := plan_int_bd w3
      have b4 := plan_int_bd w4
      exact ⟨⟨k, a, b, d, v, s, p⟩, rfl, b0.1, b0.2, b1.1, b1.2, b2.1, b2.2, b3.1, b3.2, b4.1, b4.2, w5, hp⟩
set_option maxRecDepth 100000 in
theorem cmd_open {H : Type} {enc : TypeId × Value → H} {W : World} {b0 : Nat} {v : Value} {d : DataW H} {ps : List MemPlace} (hv : Value.okWide Tryz.prog W .any b0 27 v) (h : DataW.Trod enc Tryz.prog W 0 (fun _ => true) true 27 v d ps) : ∃ c : Cm, v = .agg c.cs ∧ c.In W := by
  obtain ⟨cs, rfl, hsz⟩ := okWide_struct Tryz.underlying27 hv
  obtain ⟨fuel, hf⟩ := h
  obtain ⟨c, hc, hin⟩ := cmd_trod hf
  refine ⟨c, ?_, hin⟩
  have : cs = c.cs := by
    apply Array.ext'
    simpa [Value.cells] using hc
  rw [this]

end Go.Proofs.YtkioolbjmcpjpaaGreatDoor.Ev
