/- The sum's beginning, a number taken into it, and its end. -/
import Derived.Test.YtfdhpblnjllfiaaSt
namespace Go.Proofs.Ytfdhpblnjllfiaa
open Go.RowKit
set_option linter.unusedVariables false

theorem Only.drewN {b : Nat} {v w : World} (h : Only b v w) (n : Nat) : Only b v (w.drewN n) := ⟨h.os, h.tape, h.output, h.size, h.block⟩
theorem Blk.drewN {w : World} {b t : Nat} {cs : Array Value} (h : Blk w b t cs) (n : Nat) : Blk (w.drewN n) b t cs := h

theorem calls_blk {P : Program} {f : Nat} {args : Array Value} {W : World} {e0 : Ending} {Q : Ending → World → Prop} {b t : Nat} {cs : Array Value} (h : Calls P f args W fun e w' => e = e0 ∧ Blk w' b t cs ∧ Only b W w')
    (k : ∀ w2, Blk w2 b t cs → Only b W w2 → Q e0 w2) : Calls P f args W Q :=
  h.mono (by rintro e w' ⟨rfl, h1, h2⟩; exact k _ h1 h2)

def mixIn (v : W4) (m : BitVec 64) : W4 := ⟨v.a, v.b, v.c, v.d ^^^ m⟩
def mixOut (v : W4) (m : BitVec 64) : W4 := ⟨v.a ^^^ m, v.b, v.c, v.d⟩
def take (v : W4) (m : BitVec 64) : W4 := mixOut (rnd (rnd (mixIn v m))) m

set_option maxHeartbeats 1000000 in
set_option maxRecDepth 100000 in
theorem take_any (b : Nat) (v : W4) (m : BitVec 64) (w : World) (h : Blk w b 44 (four v)) :
    Calls Try.prog 24 #[.pointer (some ⟨b, 0, none⟩), .int .u64 (un m)] w fun e w' => e = .returned (.tuple #[]) ∧ Blk w' b 44 (four (take v m)) ∧ Only b w w' := by
  have HB : Hid (Blk w b 44 (four v)) := h
  obtain ⟨⟨g0, g1, g2, g3⟩, f0, f1, f2, f3⟩ := blk_four h
  have hx : ∀ x y, bits .xor .u64 (un x) (un y) = un (x ^^^ y) := un_xor
  clear h
  go_enter Try.func24, Try.ntmps24
  go_wp2_with fail
  refine calls_blk (round_any b (mixIn v m) _ (HB.out.s3 _)) ?_
  intro w2 hB hO
  go_wp2_with fail
  refine calls_blk (round_any b (rnd (mixIn v m)) _ hB) ?_
  intro w3 hB3 hO3
  have HB3 : Hid (Blk w3 b 44 (four (rnd (rnd (mixIn v m))))) := hB3
  have HO3 : Hid (Only b w w3) := ((Only.refl b w).set 3 _).trans (hO.trans hO3)
  clear g0 g1 g2 g3 f0 f1 f2 f3 hB hO hO3
  obtain ⟨⟨g0, g1, g2, g3⟩, f0, f1, f2, f3⟩ := blk_four hB3
  clear hB3
  go_wp2_with fail
  go_end0
  exact ⟨rfl, HB3.out.s0 _, HO3.out.set 0 _⟩

def rndN : Nat → W4 → W4
  | 0, v => v
  | n + 1, v => rnd (rndN n v)
def fin (v : W4) : BitVec 64 :=
  let u := rndN 4 ⟨v.a, v.b, v.c ^^^ 255#64, v.d⟩
  u.a ^^^ u.b ^^^ u.c ^^^ u.d

theorem un_255 (x : BitVec 64) : bits .xor .u64 (un x) 255 = un (x ^^^ 255#64) := by
  have : (255 : Int) = un 255#64 := rfl
  rw [this, un_xor]

set_option maxHeartbeats 1000000 in
set_option maxRecDepth 100000 in
theorem end_any (b : Nat) (v : W4) (w : World) (h : Blk w b 44 (four v)) :
    Calls Try.prog 26 #[.pointer (some ⟨b, 0, none⟩)] w fun e w' => e = .returned (.int .u64 (un (fin v))) ∧ Only b w w' := by
  have HB : Hid (Blk w b 44 (four v)) := h
  obtain ⟨⟨g0, g1, g2, g3⟩, f0, f1, f2, f3⟩ := blk_four h
  have hx : ∀ x y, bits .xor .u64 (un x) (un y) = un (x ^^^ y) := un_xor
  have hy : ∀ x, bits .xor .u64 (un x) 255 = un (x ^^^ 255#64) := un_255
  clear h
  go_enter Try.func26, Try.ntmps26
  go_wp2_with fail
  clear g0 g1 g2 g3 f0 f1 f2 f3
  go_loopw [10] (fun s10 wr => ∃ k : Nat, k ≤ 4 ∧ s10 = .int .i64 k ∧ Blk wr b 44 (four (rndN k ⟨v.a, v.b, v.c ^^^ 255#64, v.d⟩)) ∧ Only b w wr) (fun s10 _ => 4 - (intOf s10).toNat)
  case atStart => exact ⟨0, by omega, rfl, HB.out.s2 _, (Only.refl b w).set 2 _⟩
  case round =>
    obtain ⟨k, hk, rfl, hB, hO⟩ := hrel
    by_cases hlt : k < 4
    · have hlt' : (k : Int) < 4 := by omega
      go_wp2_with fail
      refine calls_blk (round_any b _ _ hB) ?_
      intro w2 hB2 hO2
      go_wp2_with fail
      go_roundw
      case rel => exact ⟨k + 1, by omega, by go_num, hB2, hO.trans hO2⟩
      case measure => simp [intOf]; omega
    · have hlt' : ¬ (k : Int) < 4 := by omega
      have hk4 : k = 4 := by omega
      subst hk4
      have HO : Hid (Only b w wr) := hO
      obtain ⟨⟨g0, g1, g2, g3⟩, f0, f1, f2, f3⟩ := blk_four hB
      clear hB hO
      go_wp2_with fail
      go_quiet (fail)
      go_wp2_with fail
      go_ret
      exact ⟨rfl, HO.out.drewN _⟩

def first (k0 k1 : BitVec 64) : W4 := ⟨k0 ^^^ 8317987319222330741#64, k1 ^^^ 7237128888997146477#64, k0 ^^^ 7816392313619706465#64, k1 ^^^ 8387220255154660723#64⟩
theorem infoState : (Try.prog.info? 44).map (fun i => i.size) = some 4 := by kernel_rfl
theorem un_lit {x c : BitVec 64} {n : Int} (h : un c = n) : bits .xor .u64 (un x) n = un (x ^^^ c) := by rw [← h, un_xor]

set_option maxHeartbeats 1000000 in
set_option maxRecDepth 100000 in
theorem begin_any (k0 k1 : BitVec 64) (w : World) :
    Calls Try.prog 22 #[.int .u64 (un k0), .int .u64 (un k1)] w fun e w' => e = .returned (.agg (four (first k0 k1))) ∧ Below w.heap.size w w' ∧ w'.heap.size = w.heap.size + 1 := by
  have h1 : ∀ x, bits .xor .u64 (un x) 8317987319222330741 = un (x ^^^ 8317987319222330741#64) := fun x => un_lit rfl
  have h2 : ∀ x, bits .xor .u64 (un x) 7237128888997146477 = un (x ^^^ 7237128888997146477#64) := fun x => un_lit rfl
  have h3 : ∀ x, bits .xor .u64 (un x) 7816392313619706465 = un (x ^^^ 7816392313619706465#64) := fun x => un_lit rfl
  have h4 : ∀ x, bits .xor .u64 (un x) 8387220255154660723 = un (x ^^^ 8387220255154660723#64) := fun x => un_lit rfl
  go_enter Try.func22, Try.ntmps22
  go_wp2_with fail
  refine bodyPost_ret (results_cell_row rfl _ _ w.heap.size 44 (four (first k0 k1)) (0, 0) _ rfl (heap_alloc_new _ _) Try.underlying44 rfl infoState) rfl ?_
  exact ⟨rfl, (Below.refl _ _).alloc (Nat.le_refl _) _, World.size_alloc _ _⟩
end Go.Proofs.Ytfdhpblnjllfiaa
