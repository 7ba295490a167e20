/- A list of things that come to be known, among the arguments. -/
import Derived.Test.YthjgpodpnoaieaaA7
import Derived.ProofKit
import Derived.OpenShut
import Derived.ShutString
import Derived.SizedLaws
import Derived.Deep.Slices
import Derived.ChangeArms
namespace Go.Proofs.Ythjgpodpnoaieaa.Wd
open Go.ChangeShapes Go.WideShapes Go.ChangeAt Go.RowKit
set_option linter.unusedVariables false

theorem act_bd {n : Int} (h : (Lit.int .i64 n).wf = true) : I64 n := by
  have := bounds_i64 h
  unfold I64
  omega
theorem cellsAct : Try.prog.cellsOf 45 = 6 := by kernel_rfl
theorem cellsB1 : Try.prog.cellsOf 4 = 1 := by kernel_rfl
set_option maxRecDepth 100000 in
theorem act_open {H : Type} {enc : TypeId × Value → H} {W : World} {n : Nat} {cs : List Value} {x : DataW H × List MemPlace} (h : DataW.trod enc Try.prog W 0 (fun _ => true) true n 45 cs = some x) : ∃ a : Ac, a.Ok ∧ cs = [.bool a.ch, .int .i64 a.A, .int .i64 a.B, .int .i64 a.D, .int .i64 a.V, .string a.W] := by
  obtain ⟨xs, k, hk, hxy, hlen, hxl, hf⟩ := DataW.trod_struct Try.underlying45 h
  rw [cellsAct] at hlen
  match cs, hlen with
  | [v0, v1, v2, v3, v4, v5], _ =>
    have hx6 : xs.length = 6 := hxl
    match xs, hx6 with
    | [y0, y1, y2, y3, y4, y5], _ =>
      have g0 := hf 0 _ rfl
      have g1 := hf 1 _ rfl
      have g2 := hf 2 _ rfl
      have g3 := hf 3 _ rfl
      have g4 := hf 4 _ rfl
      have g5 := hf 5 _ rfl
      simp [cellsB1, cellsS, cellsI] at g0 g1 g2 g3 g4 g5
      obtain ⟨ch, e0, _⟩ := DataW.trod_bool Try.underlying4 g0
      obtain ⟨A, e1, _, w1⟩ := DataW.trod_int Try.underlying3 g1
      obtain ⟨B, e2, _, w2⟩ := DataW.trod_int Try.underlying3 g2
      obtain ⟨D, e3, _, w3⟩ := DataW.trod_int Try.underlying3 g3
      obtain ⟨V, e4, _, w4⟩ := DataW.trod_int Try.underlying3 g4
      obtain ⟨S, e5, _, w5⟩ := DataW.trod_string Try.underlying9 g5
      simp only [List.cons.injEq, and_true] at e0 e1 e2 e3 e4 e5
      subst e0 e1 e2 e3 e4 e5
      exact ⟨⟨ch, A, B, D, V, S⟩, ⟨act_bd w1, act_bd w2, act_bd w3, act_bd w4, w5⟩, rfl⟩
set_option maxRecDepth 100000 in
theorem acts_open {H : Type} {enc : TypeId × Value → H} {W : World} {x : Value} {n : Nat} {y : DataW H × List MemPlace} (hf : DataW.trod enc Try.prog W 0 (fun _ => true) true n 37 [x] = some y) : ∃ a l c f, x = .slice a l c ∧ HasActs W a l f ∧ l ≤ 9223372036854775807 := by
  rcases Go.Deep.open_slice Try.underlying37 hf with ⟨hcs, _⟩ | ⟨a, len, cap, m, k, D, Pl, hcs, _, hl, hm, hmm, _, hx⟩
  · simp at hcs
    exact ⟨none, 0, 0, fun _ => ⟨false, 0, 0, 0, 0, ByteArray.empty⟩, hcs, fun i hi => absurd hi (by omega), by omega⟩
  · simp at hcs
    have hlm : len ≤ m := by rw [hmm]; split <;> omega
    have each : ∀ i, i < len → ∃ q : Ac, q.Ok ∧ ∀ j, j < 6 → W.cell? (a.add (i * 6 + j)) = [Value.bool q.ch, .int .i64 q.A, .int .i64 q.B, .int .i64 q.D, .int .i64 q.V, .string q.W][j]? := fun i hi => by
      obtain ⟨cs', h1, h2⟩ := hx i (by omega)
      rw [cellsAct] at h1
      obtain ⟨_, hlen, hcell⟩ := World.cells?_some h1
      obtain ⟨q, hq, rfl⟩ := act_open h2
      refine ⟨q, hq, fun j hj => ?_⟩
      have := hcell j (by simpa using hj)
      rwa [Go.Deep.add_add] at this
    have hd : ∀ i, ∃ q : Ac, i < len → (q.Ok ∧ ∀ j, j < 6 → W.cell? (a.add (i * 6 + j)) = [Value.bool q.ch, .int .i64 q.A, .int .i64 q.B, .int .i64 q.D, .int .i64 q.V, .string q.W][j]?) := fun i => by
      by_cases hi : i < len
      · obtain ⟨q, hq⟩ := each i hi
        exact ⟨q, fun _ => hq⟩
      · exact ⟨⟨false, 0, 0, 0, 0, ByteArray.empty⟩, fun h => absurd h hi⟩
    obtain ⟨f, hfs⟩ : ∃ f : Nat → Ac, ∀ i, i < len → ((f i).Ok ∧ ∀ j, j < 6 → W.cell? (a.add (i * 6 + j)) = [Value.bool (f i).ch, .int .i64 (f i).A, .int .i64 (f i).B, .int .i64 (f i).D, .int .i64 (f i).V, .string (f i).W][j]?) :=
      ⟨fun i => Classical.choose (hd i), fun i => Classical.choose_spec (hd i)⟩
    clear hd each
    refine ⟨some a, len, cap, f, hcs, ?_, by unfold maxLen at hm; omega⟩
    intro i hi
    obtain ⟨hok, hc⟩ := hfs i hi
    refine ⟨hok, ?_⟩
    have h0 := (hfs 0 (by omega)).2 0 (by omega)
    have hspot : ∃ b off, a = ⟨b, off, none⟩ := by
      obtain ⟨b, off, spot⟩ := a
      have : (⟨b, off, spot⟩ : Addr).add 0 = ⟨b, off, spot⟩ := by simp [Addr.add]
      rw [show 0 * 6 + 0 = 0 by omega, this] at h0
      have hs : spot = none := by simpa using World.cell?_spot h0
      exact ⟨b, off, by rw [hs]⟩
    obtain ⟨b, off, rfl⟩ := hspot
    simp only [Go.WideShapes.add_plain] at hc
    have k0 : W.cell? ⟨b, off + i * 6, none⟩ = some (.bool (f i).ch) := hc 0 (by omega)
    have k1 : W.cell? ⟨b, off + i * 6 + 1, none⟩ = some (.int .i64 (f i).A) := hc 1 (by omega)
    have k2 : W.cell? ⟨b, off + i * 6 + 2, none⟩ = some (.int .i64 (f i).B) := hc 2 (by omega)
    have k3 : W.cell? ⟨b, off + i * 6 + 3, none⟩ = some (.int .i64 (f i).D) := hc 3 (by omega)
    have k4 : W.cell? ⟨b, off + i * 6 + 4, none⟩ = some (.int .i64 (f i).V) := hc 4 (by omega)
    have k5 : W.cell? ⟨b, off + i * 6 + 5, none⟩ = some (.string (f i).W) := hc 5 (by omega)
    have kb : b < W.heap.size := World.block_lt_of_cell? W _ k0
    exact ⟨b, off, rfl, kb, k0, k1, k2, k3, k4, k5⟩

end Go.Proofs.Ythjgpodpnoaieaa.Wd
