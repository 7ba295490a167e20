/- Choose and Clone of the program's world: what each answers, and what is known then. -/
import Derived.Test.YtdlflpnjmldakaaKf
import Derived.Laws.Externs
namespace Go.Proofs.Ytdlflpnjmldakaa.Wd
open Go.RowKit Go.Maps
set_option linter.unusedVariables false

theorem fix_any (w : World) (p f c : Nat) (K : KW) (h : KIn w p f c K) (s : ByteArray) (d v : Int) (hk : fixOk (s, d)) :
    Calls Try.prog 10 #[.pointer (some ⟨p, 0, none⟩), .string s, .int .i64 d, .int .i64 v] w fun e w' => e = .returned (.int .i64 (fixE K s d v)) ∧ KIn w' p f c (fixN K s d v) ∧ Gr f w w' := by
  cases hb : (nameGo 0 (runesOf s) && dayB d && vB v)
  · have he : fixE K s d v = 1 := by unfold fixE; rw [hb]; rfl
    refine (fix_bad w p f c K h s d v hb).mono ?_
    rintro e w' ⟨rfl, hB⟩
    refine ⟨by rw [he], ?_, Gr.of_below hB⟩
    rw [fixN, if_neg (by omega)]
    exact h.below hB
  · exact fix_ok w p f c K h s d v hk hb

theorem cell_new {w : World} {a : Addr} {v : Value} (h : w.cell? a = some v) (o : Obj) : (w.alloc o).cell? a = some v :=
  ((below_alloc (Below.refl _ _) o).cell (World.block_lt_of_cell? w _ h)).trans h

end Go.Proofs.Ytdlflpnjmldakaa.Wd
