/- The names that stand in a number, each once, in their order: what package obs answers. -/
import Derived.Test.YtkioolbjmcpjpaaGreatDoorSize
import Derived.Maps.OwnSet
import Derived.Maps.AppendAt
namespace Go.Proofs.YtkioolbjmcpjpaaGreatDoor
open Go.RowKit Go.Maps
set_option linter.unusedVariables false

/-- The names of a number's Fixes, in order. -/
def O.all : O → List ByteArray
  | .fix s => [s]
  | .add l r => l.all ++ r.all
  | .neg o => o.all
  | .mul l r => l.all ++ r.all
  | .max l r => l.all ++ r.all
  | _ => []
def inN (acc : List ByteArray) (s : ByteArray) : Bool := acc.any fun t => decide (t = s)
theorem inN_iff (acc : List ByteArray) (s : ByteArray) : inN acc s = true ↔ s ∈ acc := by
  unfold inN
  rw [List.any_eq_true]
  constructor
  · rintro ⟨x, hx, he⟩
    have : x = s := of_decide_eq_true he
    exact this ▸ hx
  · intro h
    exact ⟨s, h, decide_eq_true rfl⟩
def addN (acc : List ByteArray) (s : ByteArray) : List ByteArray := if inN acc s = true then acc else acc ++ [s]
def addAll (acc l : List ByteArray) : List ByteArray := l.foldl addN acc
def strCells (l : List ByteArray) : List Value := l.map Value.string
def setN (acc : List ByteArray) : DataW Unit := setOf (.agg []) (acc.map fun s => Lit.string s.data.toList)
theorem addAll_append (acc l m : List ByteArray) : addAll acc (l ++ m) = addAll (addAll acc l) m := by simp [addAll]
theorem addN_length (acc : List ByteArray) (s : ByteArray) : (addN acc s).length ≤ acc.length + 1 := by
  unfold addN; split <;> simp
theorem addAll_length (l : List ByteArray) : ∀ acc, (addAll acc l).length ≤ acc.length + l.length := by
  induction l with
  | nil => intro acc; simp [addAll]
  | cons s l ih => intro acc; have := ih (addN acc s); have := addN_length acc s; simp [addAll] at *; omega
theorem all_nodes (o : O) : o.all.length ≤ o.nodes := by
  induction o <;> simp [O.all, O.nodes] <;> omega
def allL : List O → List ByteArray
  | [] => []
  | k :: l => k.all ++ allL l
theorem allL_snoc (l : List O) (k : O) : allL (l ++ [k]) = allL l ++ k.all := by
  induction l with
  | nil => simp [allL]
  | cons a l ih => simp [allL, ih]
theorem all_kids (o : O) (h : o.kind ≠ 2) : o.all = allL o.kids := by
  cases o <;> simp [O.all, O.kids, allL, O.kind] at h ⊢
theorem allL_length (l : List O) : (allL l).length ≤ sumN l := by
  induction l with
  | nil => simp [allL]
  | cons a l ih => have := all_nodes a; simp [allL, sumN]; omega
theorem has_setN (acc : List ByteArray) (s : ByteArray) : Maps.has (setN acc) (.string s.data.toList) = inN acc s := by
  unfold setN
  rw [has_setOf _ _ _ (fun y hy => by obtain ⟨_, _, rfl⟩ := List.mem_map.1 hy; trivial), List.any_map]
  rw [Bool.eq_iff_iff, inN_iff]
  simp only [List.any_eq_true, Function.comp, Lit.sameKey, beq_iff_eq]
  constructor
  · rintro ⟨x, hx, he⟩
    have : x = s := Go.WideShapes.bytes_inj he
    subst this
    exact hx
  · intro h
    exact ⟨s, h, rfl⟩
theorem setN_snoc (acc : List ByteArray) (s : ByteArray) : setN (acc ++ [s]) = (setN acc).put (.string s.data.toList) (.agg []) := by
  unfold setN
  rw [List.map_append, List.map_singleton, setOf_snoc]

/-- Nothing has turned but a map, a row, and what is new. -/
structure Grew (M : Nat) (row : Option Nat) (w w' : World) : Prop where
  os : w'.os = w.os
  tape : w'.tape = w.tape
  output : w'.output = w.output
  size : w.heap.size ≤ w'.heap.size
  block : ∀ k, k < w.heap.size → k ≠ M → row ≠ some k → w'.heap[k]? = w.heap[k]?
theorem Grew.refl (M : Nat) (row : Option Nat) (w : World) : Grew M row w w := ⟨rfl, rfl, rfl, Nat.le_refl _, fun _ _ _ _ => rfl⟩
theorem Grew.of_below {M : Nat} {row : Option Nat} {w w' : World} (h : Below w.heap.size w w') : Grew M row w w' := ⟨h.os, h.tape, h.output, h.size, fun k hk _ _ => h.block k hk⟩
theorem Grew.of_grown {M : Nat} {row : Option Nat} {w w' : World} (h : w.grownBy w' row) : Grew M row w w' := ⟨h.os, h.tape, h.output, h.size, fun k hk _ hr => h.block k hk (fun e => hr e.symm)⟩
theorem Grew.of_map {M : Nat} {row : Option Nat} {w w' : World} (h : w.grownBy w' (some M)) : Grew M row w w' := ⟨h.os, h.tape, h.output, h.size, fun k hk hM _ => h.block k hk (fun e => hM (by injection e))⟩
theorem Grew.trans {M : Nat} {r r1 : Option Nat} {u v w : World} (h : Grew M r u v) (g : Grew M r1 v w) (hr : r1 = r ∨ ∀ k, r1 = some k → u.heap.size ≤ k) : Grew M r u w :=
  ⟨g.os.trans h.os, g.tape.trans h.tape, g.output.trans h.output, Nat.le_trans h.size g.size, fun k hk hM hn => by
    refine (g.block k (Nat.lt_of_lt_of_le hk h.size) hM ?_).trans (h.block k hk hM hn)
    rcases hr with rfl | hr
    · exact hn
    · intro e; have := hr k e; omega⟩
theorem Grew.below {M : Nat} {row : Option Nat} {w w' : World} {B : Nat} (h : Grew M row w w') (hB : B ≤ w.heap.size) (hM : B ≤ M) (hr : ∀ k, row = some k → B ≤ k) : Below B w w' :=
  ⟨h.os, h.tape, h.output, h.size, fun k hk => h.block k (by omega) (by omega) (fun e => by have := hr k e; omega)⟩
theorem HasObs.grew {w w' : World} {a : Option Addr} {l : List O} {M : Nat} {row : Option Nat} (h : HasObs w a l) (hg : Grew M row w w') (hM : ∀ b o s, a = some ⟨b, o, s⟩ → b ≠ M ∧ row ≠ some b) : HasObs w' a l := by
  intro i o hi
  obtain ⟨b, e, hc⟩ := h i o hi
  obtain ⟨h1, h2⟩ := hM b 0 none e
  refine ⟨b, e, ?_⟩
  have hb := hg.block b (World.block_lt_of_cell? w _ hc) h1 h2
  simp only [World.cell?, hb] at hc ⊢
  exact hc
theorem grown_of_below {w w' : World} (h : Below w.heap.size w w') (row : Option Nat) : w.grownBy w' row := ⟨h.os, h.tape, h.output, h.size, fun k hk _ => h.block k hk⟩

/-- A list of names in memory of the call's own, and the set of them. -/
def NIn (w : World) (M : Nat) (v : Value) (acc : List ByteArray) : Prop :=
  w.ownsRow (M + 1) 9 1 v acc.length (strCells acc) ∧ w.ownsMap Tryz.prog 9 (unitElem (H := Unit)) M acc.length (setN acc) ∧ M + 1 ≤ w.heap.size
theorem NIn.below {w w' : World} {M : Nat} {v : Value} {acc : List ByteArray} (h : NIn w M v acc) (hb : Below w.heap.size w w') : NIn w' M v acc :=
  ⟨h.1.kept (grown_of_below hb none) (by cases hv : v.ownBlock <;> simp), h.2.1.kept (grown_of_below hb none) (by simp), Nat.le_trans h.2.2 hb.size⟩
theorem NIn.row {w : World} {M : Nat} {v : Value} {acc : List ByteArray} (h : NIn w M v acc) : ∀ k, v.ownBlock = some k → M + 1 ≤ k ∧ k < w.heap.size := fun k hk => h.1.lt k hk
def NPost (w : World) (M : Nat) (v : Value) (acc : List ByteArray) (e : Ending) (w' : World) : Prop :=
  ∃ v', e = .returned v' ∧ NIn w' M v' acc ∧ Grew M v.ownBlock w w' ∧ (v'.ownBlock = v.ownBlock ∨ ∀ k, v'.ownBlock = some k → w.heap.size ≤ k)

theorem lawS : Keyed Tryz.prog 9 := string_keyed Tryz.underlying9
theorem zeroUnit (w : World) : (zeroValue 39).run Tryz.prog w = .ok (.agg #[]) w := by kernel_rfl
theorem infoStr : (Tryz.prog.info? 9).map (fun i => (i.zero, i.size, i.bytes)) = some (some (.string ByteArray.empty), 1, 16) := by kernel_rfl
theorem cell_one_at (w : World) (x : Value) (t : TypeId) : ∀ j u, [x][j]? = some u → (w.alloc (.cells #[x] t)).cell? ((⟨w.heap.size, 0, none⟩ : Addr).add j) = some u := by
  intro j u hu
  match j, hu with
  | 0, hu =>
    simp at hu
    subst hu
    rw [Addr.add_lit, cell_of_row _ _ _ _ _ _ (heap_alloc_new _ _)]
    rfl

/-- The names of a number, each once. -/
def O.names (o : O) : List ByteArray := addAll [] o.all

end Go.Proofs.YtkioolbjmcpjpaaGreatDoor
