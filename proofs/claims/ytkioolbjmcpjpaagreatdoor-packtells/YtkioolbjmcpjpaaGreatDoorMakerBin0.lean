/- The number that a plan makes: what two put together leave in memory. -/
import Derived.Test.YtkioolbjmcpjpaaGreatDoorMakerNeg
namespace Go.Proofs.YtkioolbjmcpjpaaGreatDoor
open Go.RowKit
set_option linter.unusedVariables false

def opN (j : Nat) : Int := if j = 0 then 13 else if j = 1 then 15 else 16
def opV : Array Value := #[.int .i64 13, .int .i64 15, .int .i64 16]
theorem op_cell (j : Nat) (h : j < 3) : opV[j]? = some (.int .i64 (opN j)) := by
  have : j = 0 ∨ j = 1 ∨ j = 2 := by omega
  rcases this with rfl | rfl | rfl <;> rfl
/-- A tree's four cells. -/
def four (t : T) (ka : Option Addr) (kc : Nat) : Array Value := #[.int .i64 t.kind, .string t.s, .int .i64 t.n, .slice ka t.k.length kc]
def eight (t : T) (ka : Option Addr) (kc : Nat) (u : T) (la : Option Addr) (lc : Nat) : Array Value := #[.int .i64 t.kind, .string t.s, .int .i64 t.n, .slice ka t.k.length kc, .int .i64 u.kind, .string u.s, .int .i64 u.n, .slice la u.k.length lc]
theorem tin_two {F : World} {B nb : Nat} {t u : T} {ka la : Option Addr} {kc lc : Nat} (h : TIn F B t (.agg (four t ka kc))) (g : TIn F B u (.agg (four u la lc))) (hb : Blk F nb 33 (eight t ka kc u la lc)) (hB : B ≤ nb) (kind : Int) :
    TIn F B (.mk kind ⟨#[]⟩ 0 [t, u]) (.agg #[.int .i64 kind, .string ⟨#[]⟩, .int .i64 0, .slice (some ⟨nb, 0, none⟩) 2 2]) := by
  refine ⟨some ⟨nb, 0, none⟩, 2, rfl, Nat.le_refl _, by omega, ?_⟩
  refine KAt_mk (fun j x hj => ⟨nb, 0, rfl, ?_⟩)
  match j, hj with
  | 0, hj =>
    simp [T.k] at hj
    subst hj
    exact TAt_mk h hB (hb.cell 0) (hb.cell 1) (hb.cell 2) (hb.cell 3)
  | 1, hj =>
    simp [T.k] at hj
    subst hj
    exact TAt_mk g hB (hb.cell 4) (hb.cell 5) (hb.cell 6) (hb.cell 7)

/-- What lies in memory behind the second part. -/
structure After (w0 w w2 X w5 : World) (M : Nat) (p : Pl) (i2 : Nat) (l2 label : Int) (t u : T) (ka : Option Addr) (kc : Nat) (la : Option Addr) (lc : Nat) : Prop where
  grew : Grew M none w X
  call : Grew M none X w5
  maker : MIn w0 w5 M p i2 l2 label
  first : TIn w5 w2.heap.size t (.agg (four t ka kc))
  second : TIn w5 X.heap.size u (.agg (four u la lc))
  zero : Blk w5 w.heap.size 33 zeroT
  old : w.heap.size < w2.heap.size
  more : w.heap.size < X.heap.size
def resV (kind : Int) (nb : Nat) : Array Value := #[.int .i64 kind, .string ⟨#[]⟩, .int .i64 0, .slice (some ⟨nb, 0, none⟩) 2 2]
def putR (w5 : World) (R : Nat) (kind : Int) (nb : Nat) : World := set4 w5 R (.int .i64 kind) (.string ⟨#[]⟩) (.int .i64 0) (.slice (some ⟨nb, 0, none⟩) 2 2)
theorem After.fin {w0 w w2 X w5 : World} {M : Nat} {p : Pl} {i2 : Nat} {l2 label : Int} {t u : T} {ka : Option Addr} {kc : Nat} {la : Option Addr} {lc : Nat} (h : After w0 w w2 X w5 M p i2 l2 label t u ka kc la lc) (hM : ¬ M = w.heap.size) (hO : w0.heap.size ≤ w.heap.size) (kind : Int) (nb : Nat) (F : World) (hF : Below (putR w5 w.heap.size kind nb).heap.size (putR w5 w.heap.size kind nb) F) (hb : Blk F nb 33 (eight t ka kc u la lc)) (hnb : w.heap.size ≤ nb)
    (res : O × Nat × Int) (hres : plain res.1 = .mk kind ⟨#[]⟩ 0 [t, u] ∧ res.2 = (i2, l2)) : Blk F w.heap.size 33 (resV kind nb) ∧ MPost w0 w M p label res (.returned (.agg (resV kind nb))) F := by
  have hS : Blk (putR w5 w.heap.size kind nb) w.heap.size 33 (resV kind nb) := set4_blk h.zero _ _ _ _
  have hm : MIn w0 (putR w5 w.heap.size kind nb) M p i2 l2 label := set4_min h.maker hM hO _ _ _ _
  have h1 : TIn F w.heap.size t (.agg (four t ka kc)) := ((h.first.set4 h.old _ _ _ _).below hF).low (by have := h.old; omega)
  have h2 : TIn F w.heap.size u (.agg (four u la lc)) := ((h.second.set4 h.more _ _ _ _).below hF).low (by have := h.more; omega)
  obtain ⟨e1, e2⟩ := hres
  refine ⟨hS.below hF hS.lt, _, rfl, ?_, ?_, ?_⟩
  · rw [e1]; exact tin_two h1 h2 hb hnb kind
  · rw [e2]; exact hm.next (Grew.of_below hF) (hm.blk.below hF hm.blk.lt)
  · exact (set4_grew (h.grew.trans h.call (.inl rfl)) (Nat.le_refl _) _ _ _ _).trans (Grew.of_below hF) (.inl rfl)
theorem putR_size (w5 : World) (R : Nat) (kind : Int) (nb : Nat) : (putR w5 R kind nb).heap.size = w5.heap.size := by simp [putR, set4]
theorem below_alloc' {W F : World} (h : Below W.heap.size W F) (o : Obj) : Below W.heap.size W (F.alloc o) := below_alloc h o

/-- The cells of a slice of two trees, written out. -/
theorem bin_ret {R : Nat} {Q : Ending → World → Prop} {a : Act} {F : World} {cs : Array Value} (hs : cs.size = 4) (hp : a.tmps.getD 4 undef = .pointer (some ⟨R, 0, none⟩)) (hd : a.defers = []) (hb : Blk F R 33 cs ∧ Q (.returned (.agg cs)) F) : bodyPost Tryz.prog Tryz.f121 Q .ret a F :=
  bodyPost_ret (results_cell_row rfl _ _ R 33 cs (0, 0) _ hp hb.1 Tryz.underlying33 rfl (by rw [hs]; exact infoT)) hd hb.2
theorem fin1 {w0 w w2 X w5 : World} {M : Nat} {p : Pl} {i2 : Nat} {l2 label : Int} {t u : T} {ka : Option Addr} {kc : Nat} {la : Option Addr} {lc : Nat} (h : After w0 w w2 X w5 M p i2 l2 label t u ka kc la lc) (hM : ¬ M = w.heap.size) (hO : w0.heap.size ≤ w.heap.size) (j : Nat) (res : O × Nat × Int) (hres : plain res.1 = .mk (opN j) ⟨#[]⟩ 0 [t, u] ∧ res.2 = (i2, l2)) :
    Blk ((((((w5.setCell ⟨w.heap.size, 0, none⟩ (.int .i64 (opN j))).setCell ⟨w.heap.size, 1, none⟩ (.string ⟨#[]⟩)).setCell ⟨w.heap.size, 2, none⟩ (.int .i64 0)).setCell ⟨w.heap.size, 3, none⟩ (.slice (some ⟨w5.heap.size, 0, none⟩) 2 2))).alloc (.cells #[.int .i64 t.kind, .string t.s, .int .i64 t.n, .slice ka t.k.length kc, .int .i64 u.kind, .string u.s, .int .i64 u.n, .slice la u.k.length lc] 33)) w.heap.size 33 (resV (opN j) w5.heap.size) ∧ MPost w0 w M p label res (.returned (.agg (resV (opN j) w5.heap.size))) ((((((w5.setCell ⟨w.heap.size, 0, none⟩ (.int .i64 (opN j))).setCell ⟨w.heap.size, 1, none⟩ (.string ⟨#[]⟩)).setCell ⟨w.heap.size, 2, none⟩ (.int .i64 0)).setCell ⟨w.heap.size, 3, none⟩ (.slice (some ⟨w5.heap.size, 0, none⟩) 2 2))).alloc (.cells #[.int .i64 t.kind, .string t.s, .int .i64 t.n, .slice ka t.k.length kc, .int .i64 u.kind, .string u.s, .int .i64 u.n, .slice la u.k.length lc] 33)) :=
  h.fin hM hO (opN j) w5.heap.size ((putR w5 w.heap.size (opN j) w5.heap.size).alloc (.cells (eight t ka kc u la lc) 33)) (below_alloc (Below.refl _ _) _) (blk_new (by rw [putR_size])) (Nat.le_of_lt h.zero.lt) res hres
theorem fin3 {w0 w w2 X w5 : World} {M : Nat} {p : Pl} {i2 : Nat} {l2 label : Int} {t u : T} {ka : Option Addr} {kc : Nat} {la : Option Addr} {lc : Nat} (h : After w0 w w2 X w5 M p i2 l2 label t u ka kc la lc) (hM : ¬ M = w.heap.size) (hO : w0.heap.size ≤ w.heap.size) (j : Nat) (res : O × Nat × Int) (hres : plain res.1 = .mk (opN j) ⟨#[]⟩ 0 [t, u] ∧ res.2 = (i2, l2)) :
    Blk (((((((w5.setCell ⟨w.heap.size, 0, none⟩ (.int .i64 (opN j))).setCell ⟨w.heap.size, 1, none⟩ (.string ⟨#[]⟩)).setCell ⟨w.heap.size, 2, none⟩ (.int .i64 0)).setCell ⟨w.heap.size, 3, none⟩ (.slice (some ⟨w5.heap.size, 0, none⟩) 2 2))).alloc (.cells #[.int .i64 t.kind, .string t.s, .int .i64 t.n, .slice ka t.k.length kc, .int .i64 u.kind, .string u.s, .int .i64 u.n, .slice la u.k.length lc] 33)).alloc (.cells #[.int .i64 13, .int .i64 15, .int .i64 16] 3)) w.heap.size 33 (resV (opN j) w5.heap.size) ∧ MPost w0 w M p label res (.returned (.agg (resV (opN j) w5.heap.size))) (((((((w5.setCell ⟨w.heap.size, 0, none⟩ (.int .i64 (opN j))).setCell ⟨w.heap.size, 1, none⟩ (.string ⟨#[]⟩)).setCell ⟨w.heap.size, 2, none⟩ (.int .i64 0)).setCell ⟨w.heap.size, 3, none⟩ (.slice (some ⟨w5.heap.size, 0, none⟩) 2 2))).alloc (.cells #[.int .i64 t.kind, .string t.s, .int .i64 t.n, .slice ka t.k.length kc, .int .i64 u.kind, .string u.s, .int .i64 u.n, .slice la u.k.length lc] 33)).alloc (.cells #[.int .i64 13, .int .i64 15, .int .i64 16] 3)) :=
  h.fin hM hO (opN j) w5.heap.size (((putR w5 w.heap.size (opN j) w5.heap.size).alloc (.cells (eight t ka kc u la lc) 33)).alloc (.cells #[.int .i64 13, .int .i64 15, .int .i64 16] 3)) (below_alloc (below_alloc (Below.refl _ _) _) _) ((Below.heap_alloc _ _ _ (by simp [putR_size])).trans (blk_new (by rw [putR_size]))) (Nat.le_of_lt h.zero.lt) res hres
theorem fin2 {w0 w w2 X w5 : World} {M : Nat} {p : Pl} {i2 : Nat} {l2 label : Int} {t u : T} {ka : Option Addr} {kc : Nat} {la : Option Addr} {lc : Nat} (h : After w0 w w2 X w5 M p i2 l2 label t u ka kc la lc) (hM : ¬ M = w.heap.size) (hO : w0.heap.size ≤ w.heap.size) (j : Nat) (res : O × Nat × Int) (hres : plain res.1 = .mk (opN j) ⟨#[]⟩ 0 [t, u] ∧ res.2 = (i2, l2)) :
    Blk (((((((w5.setCell ⟨w.heap.size, 0, none⟩ (.int .i64 (opN j))).setCell ⟨w.heap.size, 1, none⟩ (.string ⟨#[]⟩)).setCell ⟨w.heap.size, 2, none⟩ (.int .i64 0)).setCell ⟨w.heap.size, 3, none⟩ (.slice (some ⟨w5.heap.size + 1, 0, none⟩) 2 2))).alloc (.cells #[.int .i64 13, .int .i64 15, .int .i64 16] 3)).alloc (.cells #[.int .i64 t.kind, .string t.s, .int .i64 t.n, .slice ka t.k.length kc, .int .i64 u.kind, .string u.s, .int .i64 u.n, .slice la u.k.length lc] 33)) w.heap.size 33 (resV (opN j) (w5.heap.size + 1)) ∧ MPost w0 w M p label res (.returned (.agg (resV (opN j) (w5.heap.size + 1)))) (((((((w5.setCell ⟨w.heap.size, 0, none⟩ (.int .i64 (opN j))).setCell ⟨w.heap.size, 1, none⟩ (.string ⟨#[]⟩)).setCell ⟨w.heap.size, 2, none⟩ (.int .i64 0)).setCell ⟨w.heap.size, 3, none⟩ (.slice (some ⟨w5.heap.size + 1, 0, none⟩) 2 2))).alloc (.cells #[.int .i64 13, .int .i64 15, .int .i64 16] 3)).alloc (.cells #[.int .i64 t.kind, .string t.s, .int .i64 t.n, .slice ka t.k.length kc, .int .i64 u.kind, .string u.s, .int .i64 u.n, .slice la u.k.length lc] 33)) :=
  h.fin hM hO (opN j) (w5.heap.size + 1) (((putR w5 w.heap.size (opN j) (w5.heap.size + 1)).alloc (.cells #[.int .i64 13, .int .i64 15, .int .i64 16] 3)).alloc (.cells (eight t ka kc u la lc) 33)) (below_alloc (below_alloc (Below.refl _ _) _) _) (blk_new (by simp [putR_size])) (Nat.le_succ_of_le (Nat.le_of_lt h.zero.lt)) res hres

end Go.Proofs.YtkioolbjmcpjpaaGreatDoor
