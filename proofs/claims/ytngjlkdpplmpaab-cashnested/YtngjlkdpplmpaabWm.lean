/- Maps in memory by what they hold, in the order in which it came, whatever the values: a look-up, a store of a new key, how many there are, a copy. -/
import Derived.Test.YtngjlkdpplmpaabBase
import Derived.Maps.Own
import Derived.Maps.OwnOps
import Derived.Maps.OwnSet
import Derived.DeepKeys4
namespace Go.Proofs.Ytngjlkdpplmpaab.Wd
open Go.RowKit Go.Maps
set_option linter.unusedVariables false

/-- A map in memory: its keys and values, in the order in which they came. -/
def MapIs (w : World) (r : Nat) (l : List (Value × Value)) : Prop := ∃ es clock, w.heap[r]? = some (.map es clock) ∧ es.toList.map (fun e => (e.key, e.val)) = l

theorem MapIs.lt {w : World} {r : Nat} {l : List (Value × Value)} (h : MapIs w r l) : r < w.heap.size := by
  obtain ⟨es, clock, hb, _⟩ := h
  exact (Array.getElem?_eq_some_iff.1 hb).1
theorem MapIs.of_block {w w' : World} {r : Nat} {l : List (Value × Value)} (h : MapIs w r l) (e : w'.heap[r]? = w.heap[r]?) : MapIs w' r l := by
  obtain ⟨es, clock, hb, hl⟩ := h
  exact ⟨es, clock, e.trans hb, hl⟩
theorem MapIs.below {w w' : World} {r B : Nat} {l : List (Value × Value)} (h : MapIs w r l) (hb : Below B w w') (hr : r < B) : MapIs w' r l := h.of_block (hb.block r hr)
theorem MapIs.alloc {w : World} {r : Nat} {l : List (Value × Value)} (h : MapIs w r l) (o : Obj) : MapIs (w.alloc o) r l := h.of_block ((MapKept.heap_alloc w o).2 r h.lt)
theorem MapIs.new (w : World) : MapIs (w.alloc (.map #[] 0)) w.heap.size [] := ⟨#[], 0, (MapKept.heap_alloc w _).1, rfl⟩

/-- Keys of a type, all of them told. -/
def KeysOk (P : Program) (k : TypeId) (l : List (Value × Value)) : Prop := ∀ p ∈ l, ∃ kl, keyOf P k p.1 = some kl

section
variable {P : Program} {w : World} {t k e : TypeId} {r : Nat} {l : List (Value × Value)} {x : Value} {kx : Lit}

theorem find_of {es : Array MapEntry} (hl : es.toList.map (fun e => (e.key, e.val)) = l) (hk : KeysOk P k l) : ∀ e ∈ es.toList, ∃ kl, keyOf P k e.key = some kl := by
  intro e he
  subst hl
  exact hk _ (List.mem_map.2 ⟨e, he, rfl⟩)

theorem run_look_no (K : Keyed P k) (ht : P.underlying t = some (.map k e)) {z : Value} (hz : (zeroValue e).run P w = .ok z w) (h : MapIs w r l) (hk : KeysOk P k l) (hx : keyOf P k x = some kx) (hno : ∀ p ∈ l, p.1 ≠ x) (c : Bool) :
    (Instr.lookup t (.map (some r)) x c).run P w = .ok (if c then .tuple #[z, .bool false] else z) w := by
  obtain ⟨es, clock, hb, hl⟩ := h
  rcases K.find w hx es.toList (find_of hl hk) with ⟨h1, h2⟩ | ⟨j, e0, h1, h2, h3⟩
  · simp [Instr.lookup, run_underlying ht, MapKept.run_getObj_map hb, K.check w es.isEmpty hx, h1, hz, Result.andThen]
  · exfalso
    subst hl
    exact hno _ (List.mem_map.2 ⟨e0, List.mem_of_getElem? h2, rfl⟩) h3

theorem run_look_at (K : Keyed P k) (ht : P.underlying t = some (.map k e)) {v : Value} (h : MapIs w r l) (hk : KeysOk P k l) (hx : keyOf P k x = some kx) (hin : (x, v) ∈ l) (hone : ∀ p ∈ l, p.1 = x → p.2 = v) (c : Bool) :
    (Instr.lookup t (.map (some r)) x c).run P w = .ok (if c then .tuple #[v, .bool true] else v) w := by
  obtain ⟨es, clock, hb, hl⟩ := h
  rcases K.find w hx es.toList (find_of hl hk) with ⟨h1, h2⟩ | ⟨j, e0, h1, h2, h3⟩
  · exfalso
    subst hl
    obtain ⟨e0, he0, e1⟩ := List.mem_map.1 hin
    injection e1 with e2 e3
    exact h2 e0 he0 e2
  · have hv : e0.val = v := by
      subst hl
      exact hone _ (List.mem_map.2 ⟨e0, List.mem_of_getElem? h2, rfl⟩) h3
    subst hv
    simp [Instr.lookup, run_underlying ht, MapKept.run_getObj_map hb, K.check w es.isEmpty hx, h1, Result.andThen]

/-- What a store of a new key leaves, in each world that has the same memory. -/
theorem run_put_no (K : Keyed P k) (ht : P.underlying t = some (.map k e)) (h : MapIs w r l) (hk : KeysOk P k l) (hx : keyOf P k x = some kx) (hno : ∀ p ∈ l, p.1 ≠ x) (v : Value) :
    ∃ H, (∀ V : World, V.heap = w.heap → (Instr.mapUpdate t (.map (some r)) x v).run P V = .ok () { V with heap := H }) ∧ MapIs { w with heap := H } r (l ++ [(x, v)]) ∧ w.grownBy { w with heap := H } (some r) := by
  obtain ⟨es, clock, hb, hl⟩ := h
  have hlt : r < w.heap.size := (Array.getElem?_eq_some_iff.1 hb).1
  refine ⟨w.heap.setIfInBounds r (.map (es.push { key := x, val := v, born := clock }) (clock + 1)), ?_, ?_, ?_⟩
  · intro V hV
    have hbV : V.heap[r]? = some (.map es clock) := by rw [hV]; exact hb
    rcases K.find V hx es.toList (find_of hl hk) with ⟨h1, h2⟩ | ⟨j, e0, h1, h2, h3⟩
    · rw [← hV]
      simp [Instr.mapUpdate, run_underlying ht, MapKept.run_getObj_map hbV, K.check V false hx, h1, MapKept.run_setObj_map _ hbV, Result.andThen]
    · exfalso
      subst hl
      exact hno _ (List.mem_map.2 ⟨e0, List.mem_of_getElem? h2, rfl⟩) h3
  · exact ⟨_, _, (MapKept.heap_set hb).1, by simp [hl]⟩
  · exact { os := rfl, tape := rfl, output := rfl, size := by simp, block := fun i hi hne => (MapKept.heap_set hb).2 i (fun e => hne (by rw [e])) }

theorem run_len_map (ht : P.underlying t = some (.map k e)) (h : MapIs w r l) (ty : TypeId) : (Builtin.len_ #[t] ty #[.map (some r)]).run P w = .ok (.int .i64 l.length) w := by
  obtain ⟨es, clock, hb, hl⟩ := h
  have hs : es.size = l.length := by subst hl; simp
  simp [Builtin.len_, run_underlying ht, MapKept.run_getObj_map hb, goInt, hs, Result.andThen]
end

end Go.Proofs.Ytngjlkdpplmpaab.Wd
