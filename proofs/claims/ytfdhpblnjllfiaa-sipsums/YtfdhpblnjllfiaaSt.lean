/- The four words of the sum in memory, and a round of them. -/
import Derived.Test.YtfdhpblnjllfiaaOps
import Derived.Deep.DeepCutAuto
namespace Go.Proofs.Ytfdhpblnjllfiaa
open Go.RowKit
set_option linter.unusedVariables false

/-- What a block holds. -/
def Blk (w : World) (b : Nat) (t : TypeId) (cs : Array Value) : Prop := w.heap[b]? = some (.cells cs t (0, 0))
/-- Nothing but one block may have turned. -/
structure Only (b : Nat) (w w' : World) : Prop where
  os : w'.os = w.os
  tape : w'.tape = w.tape
  output : w'.output = w.output
  size : w'.heap.size = w.heap.size
  block : ∀ k, k ≠ b → w'.heap[k]? = w.heap[k]?
theorem Only.refl (b : Nat) (w : World) : Only b w w := ⟨rfl, rfl, rfl, rfl, fun _ _ => rfl⟩
theorem Only.trans {b : Nat} {u v w : World} (h : Only b u v) (k : Only b v w) : Only b u w :=
  ⟨k.os.trans h.os, k.tape.trans h.tape, k.output.trans h.output, k.size.trans h.size, fun i hi => (k.block i hi).trans (h.block i hi)⟩
theorem Only.drew {b : Nat} {v w : World} (h : Only b v w) : Only b v w.drew := ⟨h.os, h.tape, h.output, h.size, h.block⟩
theorem Only.set {b : Nat} {v w : World} (h : Only b v w) (i : Nat) (x : Value) : Only b v (w.setCell ⟨b, i, none⟩ x) :=
  ⟨h.os, h.tape, h.output, by rw [World.size_setCell]; exact h.size, fun k hk => (heap_setCell_other w ⟨b, i, none⟩ k x hk).trans (h.block k hk)⟩
theorem Only.below {b : Nat} {w w' : World} (h : Only b w w') : Below b w w' :=
  ⟨h.os, h.tape, h.output, by rw [h.size]; exact Nat.le_refl _, fun k hk => h.block k (by omega)⟩
theorem Blk.cell {w : World} {b t : Nat} {cs : Array Value} (h : Blk w b t cs) (i : Nat) : w.cell? ⟨b, i, none⟩ = cs[i]? := cell_of_row w b i cs t _ h
theorem Blk.frozen {w : World} {b t : Nat} {cs : Array Value} (h : Blk w b t cs) (i : Nat) : w.frozen? ⟨b, i, none⟩ = false := frozen_of_row w b i cs t h
theorem Blk.set {w : World} {b t : Nat} {cs : Array Value} (h : Blk w b t cs) (i : Nat) (x : Value) : Blk (w.setCell ⟨b, i, none⟩ x) b t (cs.setIfInBounds i x) := heap_setCell_same w b i cs t x h
theorem Blk.as {w : World} {b t : Nat} {cs cs' : Array Value} (h : Blk w b t cs) (e : cs = cs') : Blk w b t cs' := e ▸ h
theorem Blk.drew {w : World} {b t : Nat} {cs : Array Value} (h : Blk w b t cs) : Blk w.drew b t cs := h

/-- The four words of the sum. -/
structure W4 where
  a : BitVec 64
  b : BitVec 64
  c : BitVec 64
  d : BitVec 64
/-- Four words as cells. -/
def four (v : W4) : Array Value := #[.int .u64 (un v.a), .int .u64 (un v.b), .int .u64 (un v.c), .int .u64 (un v.d)]
/-- A round. -/
def rnd (v : W4) : W4 :=
  let a := v.a + v.b
  let b := rot v.b 13 ^^^ a
  let a := rot a 32
  let c := v.c + v.d
  let d := rot v.d 16 ^^^ c
  let a := a + d
  let d := rot d 21 ^^^ a
  let c := c + b
  let b := rot b 17 ^^^ c
  ⟨a, b, rot c 32, d⟩

theorem Blk.s0 {w : World} {b t : Nat} {v : W4} (h : Blk w b t (four v)) (x : BitVec 64) : Blk (w.setCell ⟨b, 0, none⟩ (.int .u64 (un x))) b t (four ⟨x, v.b, v.c, v.d⟩) := h.set 0 _
theorem Blk.s1 {w : World} {b t : Nat} {v : W4} (h : Blk w b t (four v)) (x : BitVec 64) : Blk (w.setCell ⟨b, 1, none⟩ (.int .u64 (un x))) b t (four ⟨v.a, x, v.c, v.d⟩) := h.set 1 _
theorem Blk.s2 {w : World} {b t : Nat} {v : W4} (h : Blk w b t (four v)) (x : BitVec 64) : Blk (w.setCell ⟨b, 2, none⟩ (.int .u64 (un x))) b t (four ⟨v.a, v.b, x, v.d⟩) := h.set 2 _
theorem Blk.s3 {w : World} {b t : Nat} {v : W4} (h : Blk w b t (four v)) (x : BitVec 64) : Blk (w.setCell ⟨b, 3, none⟩ (.int .u64 (un x))) b t (four ⟨v.a, v.b, v.c, x⟩) := h.set 3 _

theorem calls_new {P : Program} {f : Nat} {args : Array Value} {w W : World} {e0 : Ending} {Q : Ending → World → Prop} {b t : Nat} (v : W4) (h : Calls P f args W fun e w' => e = e0 ∧ w' = W) (hb : Blk W b t (four v)) (ho : Only b w W)
    (k : ∀ w2, Blk w2 b t (four v) → Only b w w2 → Q e0 w2) : Calls P f args W Q :=
  h.mono (by rintro e w' ⟨rfl, rfl⟩; exact k _ hb ho)
theorem blk_four {w : World} {b t : Nat} {v : W4} (h : Blk w b t (four v)) :
    (w.cell? ⟨b, 0, none⟩ = some (.int .u64 (un v.a)) ∧ w.cell? ⟨b, 1, none⟩ = some (.int .u64 (un v.b)) ∧ w.cell? ⟨b, 2, none⟩ = some (.int .u64 (un v.c)) ∧ w.cell? ⟨b, 3, none⟩ = some (.int .u64 (un v.d)))
    ∧ w.frozen? ⟨b, 0, none⟩ = false ∧ w.frozen? ⟨b, 1, none⟩ = false ∧ w.frozen? ⟨b, 2, none⟩ = false ∧ w.frozen? ⟨b, 3, none⟩ = false :=
  ⟨⟨h.cell 0, h.cell 1, h.cell 2, h.cell 3⟩, h.frozen 0, h.frozen 1, h.frozen 2, h.frozen 3⟩

set_option maxHeartbeats 2000000 in
set_option maxRecDepth 100000 in
theorem round_any (b : Nat) (v : W4) (w : World) (h : Blk w b 44 (four v)) :
    Calls Try.prog 30 #[.pointer (some ⟨b, 0, none⟩)] w fun e w' => e = .returned (.tuple #[]) ∧ Blk w' b 44 (four (rnd v)) ∧ Only b w w' := by
  obtain ⟨p, q, r, s⟩ := v
  have HB : Hid (Blk w b 44 (four ⟨p, q, r, s⟩)) := h
  obtain ⟨⟨g0, g1, g2, g3⟩, f0, f1, f2, f3⟩ := blk_four h
  have ha : ∀ x y, IntKind.u64.wrap (un x + un y) = un (x + y) := un_add
  have hx : ∀ x y, bits .xor .u64 (un x) (un y) = un (x ^^^ y) := un_xor
  clear h
  go_enter Try.func30, Try.ntmps30
  go_wp2_with fail
  go_region
  go_wp2_with fail
  refine calls_same (rot_any _ 13 _ (by omega)) ?_
  go_wp2_with fail
  go_region
  go_wp2_with fail
  refine calls_same (rot_any _ 32 _ (by omega)) ?_
  go_wp2_with fail
  go_region
  go_wp2_with fail
  refine calls_new (w := w) ⟨rot (p + q) 32, rot q 13 ^^^ (p + q), r + s, s⟩ (rot_any _ 16 _ (by omega)) (by (repeat with_reducible refine Blk.drew ?_); exact (((((HB.out.s0 _).s1 _).s1 _).s0 _).s2 _)) (by (repeat (first | with_reducible refine Only.drew ?_ | with_reducible refine Only.set ?_ _ _)); exact Only.refl _ _) ?_
  clear g0 g1 g2 g3 f0 f1 f2 f3 HB
  intro w2 hB hO
  have HB : Hid (Blk w2 b 44 (four ⟨rot (p + q) 32, rot q 13 ^^^ (p + q), r + s, s⟩)) := hB
  have HO : Hid (Only b w w2) := hO
  obtain ⟨⟨g0, g1, g2, g3⟩, f0, f1, f2, f3⟩ := blk_four hB
  clear hB hO
  go_wp2_with fail
  go_region
  go_wp2_with fail
  go_region
  go_wp2_with fail
  refine calls_new (w := w) ⟨rot (p + q) 32 + (rot s 16 ^^^ (r + s)), rot q 13 ^^^ (p + q), r + s, rot s 16 ^^^ (r + s)⟩ (rot_any _ 21 _ (by omega)) (by (repeat with_reducible refine Blk.drew ?_); exact (((HB.out.s3 _).s3 _).s0 _)) (by (repeat (first | with_reducible refine Only.drew ?_ | with_reducible refine Only.set ?_ _ _)); exact HO.out) ?_
  clear g0 g1 g2 g3 f0 f1 f2 f3 HB HO
  intro w3 hB hO
  have HB : Hid (Blk w3 b 44 (four ⟨rot (p + q) 32 + (rot s 16 ^^^ (r + s)), rot q 13 ^^^ (p + q), r + s, rot s 16 ^^^ (r + s)⟩)) := hB
  have HO : Hid (Only b w w3) := hO
  obtain ⟨⟨g0, g1, g2, g3⟩, f0, f1, f2, f3⟩ := blk_four hB
  clear hB hO
  go_wp2_with fail
  go_region
  go_wp2_with fail
  go_region
  go_wp2_with fail
  refine calls_new (w := w) ⟨rot (p + q) 32 + (rot s 16 ^^^ (r + s)), rot q 13 ^^^ (p + q), r + s + (rot q 13 ^^^ (p + q)), rot (rot s 16 ^^^ (r + s)) 21 ^^^ (rot (p + q) 32 + (rot s 16 ^^^ (r + s)))⟩ (rot_any _ 17 _ (by omega)) (by (repeat with_reducible refine Blk.drew ?_); exact (((HB.out.s3 _).s3 _).s2 _)) (by (repeat (first | with_reducible refine Only.drew ?_ | with_reducible refine Only.set ?_ _ _)); exact HO.out) ?_
  clear g0 g1 g2 g3 f0 f1 f2 f3 HB HO
  intro w4 hB hO
  have HB : Hid (Blk w4 b 44 (four ⟨rot (p + q) 32 + (rot s 16 ^^^ (r + s)), rot q 13 ^^^ (p + q), r + s + (rot q 13 ^^^ (p + q)), rot (rot s 16 ^^^ (r + s)) 21 ^^^ (rot (p + q) 32 + (rot s 16 ^^^ (r + s)))⟩)) := hB
  have HO : Hid (Only b w w4) := hO
  obtain ⟨⟨g0, g1, g2, g3⟩, f0, f1, f2, f3⟩ := blk_four hB
  clear hB hO
  go_wp2_with fail
  go_region
  go_wp2_with fail
  refine calls_same (rot_any _ 32 _ (by omega)) ?_
  go_wp2_with fail
  go_end0
  refine ⟨rfl, ?_, ?_⟩
  · repeat with_reducible refine Blk.drew ?_
    exact ((HB.out.s1 _).s1 _).s2 _
  · repeat (first | with_reducible refine Only.drew ?_ | with_reducible refine Only.set ?_ _ _)
    exact HO.out
end Go.Proofs.Ytfdhpblnjllfiaa
