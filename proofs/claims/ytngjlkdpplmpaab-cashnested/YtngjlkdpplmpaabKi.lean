/- The program's world in a call's own memory, and what its calls leave of it; the document's example. -/
import Derived.Test.YtngjlkdpplmpaabKg
namespace Go.Proofs.Ytngjlkdpplmpaab.Wd
open Go.RowKit Go.Maps
set_option linter.unusedVariables false

/-- The world in memory that is new since w0. -/
structure In (w0 W : World) (p f c : Nat) (K : KW) : Prop where
  kin : KIn W p f c K
  below : Below w0.heap.size w0 W
  hp : w0.heap.size ≤ p
  hf : w0.heap.size ≤ f
  hc : w0.heap.size ≤ c
theorem In.gr {w0 W W' : World} {p f c M : Nat} {K K' : KW} (h : In w0 W p f c K) (hk : KIn W' p f c K') (hg : Gr M W W') (hM : w0.heap.size ≤ M) : In w0 W' p f c K' :=
  ⟨hk, h.below.trans (hg.below h.below.size hM), h.hp, h.hf, h.hc⟩
theorem In.step {w0 W W' : World} {p f c : Nat} {K : KW} (h : In w0 W p f c K) (hb : Below W.heap.size W W') : In w0 W' p f c K :=
  ⟨h.kin.below hb, h.below.trans (hb.mono h.below.size), h.hp, h.hf, h.hc⟩

theorem fix_in {w0 W : World} {p f c : Nat} {K : KW} (h : In w0 W p f c K) (s : ByteArray) (d v : Int) (hk : fixOk (s, d)) (r : Int) (K' : KW) (hE : fixE K s d v = r) (hN : fixN K s d v = K') :
    Calls Try.prog 37 #[.pointer (some ⟨p, 0, none⟩), .string s, .int .i64 d, .int .i64 v] W fun e w' => e = .returned (.int .i64 r) ∧ In w0 w' p f c K' := by
  refine (fix_any W p f c K h.kin s d v hk).mono ?_
  rintro e w' ⟨rfl, h1, h2⟩
  rw [hN] at h1
  exact ⟨by rw [hE], h.gr h1 h2 h.hf⟩
theorem fixbad_in {w0 W : World} {p f c : Nat} {K : KW} (h : In w0 W p f c K) (s : ByteArray) (d v : Int) (hb : (nameGo 0 (runesOf s) && dayB d && vB v) = false) :
    Calls Try.prog 37 #[.pointer (some ⟨p, 0, none⟩), .string s, .int .i64 d, .int .i64 v] W fun e w' => e = .returned (.int .i64 1) ∧ In w0 w' p f c K := by
  refine (fix_bad W p f c K h.kin s d v hb).mono ?_
  rintro e w' ⟨rfl, hB⟩
  exact ⟨rfl, h.step hB⟩
theorem ch_in {w0 W : World} {p f c : Nat} {K : KW} (h : In w0 W p f c K) (s t : ByteArray) (q d : Int) (hk : chOk (s, t)) (r : Int) (K' : KW) (hE : chE K s t q d = r) (hN : chN K s t q d = K') :
    Calls Try.prog 14 #[.pointer (some ⟨p, 0, none⟩), .string s, .string t, .int .i64 q, .int .i64 d] W fun e w' => e = .returned (.int .i64 r) ∧ In w0 w' p f c K' := by
  refine (ch_any W p f c K h.kin s t q d hk).mono ?_
  rintro e w' ⟨rfl, h1, h2⟩
  rw [hN] at h1
  exact ⟨by rw [hE], h.gr h1 h2 h.hc⟩
theorem chbad_in {w0 W : World} {p f c : Nat} {K : KW} (h : In w0 W p f c K) (s t : ByteArray) (q d : Int) (hb : (nameGo 0 (runesOf s) && nameGo 0 (runesOf t) && pickB q && dayB d) = false) :
    Calls Try.prog 14 #[.pointer (some ⟨p, 0, none⟩), .string s, .string t, .int .i64 q, .int .i64 d] W fun e w' => e = .returned (.int .i64 1) ∧ In w0 w' p f c K := by
  refine (ch_bad W p f c K h.kin s t q d hb).mono ?_
  rintro e w' ⟨rfl, hB⟩
  exact ⟨rfl, h.step hB⟩
theorem fixed_in {w0 W : World} {p f c : Nat} {K : KW} (h : In w0 W p f c K) (s : ByteArray) (d : Int) (hk : fixOk (s, d)) (r : Option Int) (hr : K.fixed (s, d) = r) :
    Calls Try.prog 77 #[.pointer (some ⟨p, 0, none⟩), .string s, .int .i64 d] W fun e w' => e = .returned (.tuple #[.int .i64 (r.getD 0), .bool r.isSome]) ∧ In w0 w' p f c K := by
  refine (fixed_any W p f c K h.kin s d hk).mono ?_
  rintro e w' ⟨rfl, rfl⟩
  exact ⟨by rw [hr], h⟩
theorem chosen_in {w0 W : World} {p f c : Nat} {K : KW} (h : In w0 W p f c K) (s t : ByteArray) (hk : chOk (s, t)) (r : Option (Int × Int)) (hr : K.chosen (s, t) = r) :
    Calls Try.prog 53 #[.pointer (some ⟨p, 0, none⟩), .string s, .string t] W fun e w' => e = .returned (.tuple #[.int .i64 (r.getD (0, 0)).1, .int .i64 (r.getD (0, 0)).2, .bool r.isSome]) ∧ In w0 w' p f c K := by
  refine (chosen_any W p f c K h.kin s t hk).mono ?_
  rintro e w' ⟨rfl, hB⟩
  exact ⟨by rw [hr], h.step hB⟩
theorem new_in' (w : World) :
    Calls Try.prog 8 #[] w fun e w' => ∃ b f c, e = .returned (.pointer (some ⟨b, 0, none⟩)) ∧ In w w' b f c ⟨[], []⟩ := by
  refine (new_any w).mono ?_
  rintro e w' ⟨b, rfl, f, c, h1, h2, h3, h4, h5⟩
  exact ⟨b, f, c, rfl, h1, h5, h2, h3, h4⟩

theorem nmE : nameGo 0 (runesOf ⟨#[]⟩) = false := by kernel_rfl
theorem nmA : nameGo 0 (runesOf ⟨#[65]⟩) = false := by kernel_rfl
theorem nm1 : nameGo 0 (runesOf ⟨#[49]⟩) = false := by kernel_rfl
theorem nmx : nameGo 0 (runesOf ⟨#[120]⟩) = true := by kernel_rfl
theorem nmt : nameGo 0 (runesOf ⟨#[116]⟩) = true := by kernel_rfl
theorem nma : nameGo 0 (runesOf ⟨#[97]⟩) = true := by kernel_rfl
theorem nmb : nameGo 0 (runesOf ⟨#[98]⟩) = true := by kernel_rfl
theorem nml : nameGo 0 (runesOf ⟨#[108]⟩) = true := by kernel_rfl
theorem nmu : nameGo 0 (runesOf ⟨#[117]⟩) = true := by kernel_rfl

end Go.Proofs.Ytngjlkdpplmpaab.Wd
