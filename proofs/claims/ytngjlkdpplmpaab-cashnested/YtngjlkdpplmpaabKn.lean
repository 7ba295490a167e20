/- The program's world in memory: two maps behind a pointer: what it knows, in the order in which it came to be known; New, Fixed, Chosen, Fixes. -/
import Derived.Test.YtngjlkdpplmpaabWm
namespace Go.Proofs.Ytngjlkdpplmpaab.Wd
open Go.RowKit Go.Maps
set_option linter.unusedVariables false

theorem laid : laidOutB Try.prog = true := by kernel_rfl
theorem rowF : (147 : TypeId) < Try.prog.types.size := of_decide_eq_true (by kernel_rfl)
theorem rowC : (95 : TypeId) < Try.prog.types.size := of_decide_eq_true (by kernel_rfl)
theorem keyedF : Keyed Try.prog 147 := Keyed.of_law (deep_law_laid laid (m := 2) (by omega) rowF (by kernel_rfl) (by kernel_rfl))
theorem keyedC : Keyed Try.prog 95 := Keyed.of_law (deep_law_laid laid (m := 2) (by omega) rowC (by kernel_rfl) (by kernel_rfl))

/-- A name on a day, as a key; a contract's label; what was picked, and when. -/
def fixK (p : ByteArray × Int) : Value := .agg #[.string p.1, .int .i64 p.2]
def chK (p : ByteArray × ByteArray) : Value := .agg #[.string p.1, .string p.2]
def pkV (p : Int × Int) : Value := .agg #[.int .i64 p.1, .int .i64 p.2]
def fixOk (p : ByteArray × Int) : Prop := p.1.size ≤ maxLen ∧ -9223372036854775808 ≤ p.2 ∧ p.2 ≤ 9223372036854775807
def chOk (p : ByteArray × ByteArray) : Prop := p.1.size ≤ maxLen ∧ p.2.size ≤ maxLen

theorem keyTypeF : Try.prog.keyType 147 = true := by kernel_rfl
theorem keyTypeC : Try.prog.keyType 95 = true := by kernel_rfl
theorem cellsF : Try.prog.cellsOf 147 = 2 := by kernel_rfl
theorem cellsC : Try.prog.cellsOf 95 = 2 := by kernel_rfl
theorem cellsS : Try.prog.cellsOf 9 = 1 := by kernel_rfl
theorem cellsI : Try.prog.cellsOf 3 = 1 := by kernel_rfl
theorem keyOf_two {P : Program} {k : TypeId} {f0 f1 : Field} (hu : P.underlying k = some (.struct #[f0, f1])) (hk : P.keyType k = true) (hc : P.cellsOf k = 2) (n0 : (f0.name != "_") = true) (n1 : (f1.name != "_") = true) (o0 : f0.offset = 0) (o1 : f1.offset = 1)
    (c0 : P.cellsOf f0.type = 1) (c1 : P.cellsOf f1.type = 1) (x y : Value) (lx ly : List Lit) (hx : P.keyLits P.types.size f0.type [x] = some lx) (hy : P.keyLits P.types.size f1.type [y] = some ly) : ∃ kl, keyOf P k (.agg #[x, y]) = some kl := by
  have h1 : P.keyLits (P.types.size + 1) k [x, y] = some (lx ++ ly) := by
    unfold Program.keyLits
    simp only [hu]
    simp [hc, n0, n1, o0, o1, c0, c1, hx, hy]
  refine ⟨.string (keyBytes (lx ++ ly)), ?_⟩
  unfold keyOf
  rw [hu]
  simp [hk, Value.formed, hu, hc, Value.cells, h1]
theorem keyLits_str {P : Program} {t : TypeId} (hu : P.underlying t = some .string) {n : Nat} (hn : 0 < n) (s : ByteArray) (hs : s.size ≤ maxLen) : P.keyLits n t [.string s] = some [.string s.data.toList] := by
  obtain ⟨m, rfl⟩ : ∃ m, n = m + 1 := ⟨n - 1, by omega⟩
  unfold Program.keyLits
  simp only [hu]
  simp [hs]
theorem keyLits_int {P : Program} {t : TypeId} (hu : P.underlying t = some (.int .i64)) {n : Nat} (hn : 0 < n) (d : Int) (hd : (Lit.int .i64 d).wf = true) : P.keyLits n t [.int .i64 d] = some [.int .i64 d] := by
  obtain ⟨m, rfl⟩ : ∃ m, n = m + 1 := ⟨n - 1, by omega⟩
  unfold Program.keyLits
  simp only [hu]
  simp [hd]

theorem keyOf_fix (p : ByteArray × Int) (h : fixOk p) : ∃ kl, keyOf Try.prog 147 (fixK p) = some kl :=
  keyOf_two Try.underlying147 keyTypeF cellsF (by rfl) (by rfl) rfl rfl cellsS cellsI _ _ _ _ (keyLits_str Try.underlying9 (Nat.lt_of_le_of_lt (Nat.zero_le _) rowF) _ h.1)
    (keyLits_int Try.underlying3 (Nat.lt_of_le_of_lt (Nat.zero_le _) rowF) _ (WalkArith.wf_i64 ⟨h.2.1, h.2.2⟩))

theorem keyOf_ch (p : ByteArray × ByteArray) (h : chOk p) : ∃ kl, keyOf Try.prog 95 (chK p) = some kl :=
  keyOf_two Try.underlying95 keyTypeC cellsC (by rfl) (by rfl) rfl rfl cellsS cellsS _ _ _ _ (keyLits_str Try.underlying9 (Nat.lt_of_le_of_lt (Nat.zero_le _) rowF) _ h.1)
    (keyLits_str Try.underlying9 (Nat.lt_of_le_of_lt (Nat.zero_le _) rowF) _ h.2)

theorem fixK_inj {p q : ByteArray × Int} : fixK p = fixK q ↔ p = q := by
  constructor
  · intro h
    simp [fixK] at h
    exact Prod.ext h.1 h.2
  · rintro rfl; rfl
theorem chK_inj {p q : ByteArray × ByteArray} : chK p = chK q ↔ p = q := by
  constructor
  · intro h
    simp [chK] at h
    exact Prod.ext h.1 h.2
  · rintro rfl; rfl

/-- What is known, in the order in which it came to be known. -/
structure KW where
  F : List ((ByteArray × Int) × Int)
  C : List ((ByteArray × ByteArray) × (Int × Int))
def fixL (F : List ((ByteArray × Int) × Int)) : List (Value × Value) := F.map fun p => (fixK p.1, .int .i64 p.2)
def chL (C : List ((ByteArray × ByteArray) × (Int × Int))) : List (Value × Value) := C.map fun p => (chK p.1, pkV p.2)
def KW.fixed (K : KW) (p : ByteArray × Int) : Option Int := (K.F.find? fun q => decide (q.1 = p)).map (·.2)
def KW.chosen (K : KW) (p : ByteArray × ByteArray) : Option (Int × Int) := (K.C.find? fun q => decide (q.1 = p)).map (·.2)
structure KW.Ok (K : KW) : Prop where
  fo : ∀ q ∈ K.F, fixOk q.1
  co : ∀ q ∈ K.C, chOk q.1
  fn : (K.F.map (·.1)).Nodup
  cn : (K.C.map (·.1)).Nodup

theorem keysF {K : KW} (h : K.Ok) : KeysOk Try.prog 147 (fixL K.F) := by
  intro p hp
  obtain ⟨q, hq, rfl⟩ := List.mem_map.1 hp
  exact keyOf_fix _ (h.fo q hq)
theorem keysC {K : KW} (h : K.Ok) : KeysOk Try.prog 95 (chL K.C) := by
  intro p hp
  obtain ⟨q, hq, rfl⟩ := List.mem_map.1 hp
  exact keyOf_ch _ (h.co q hq)

theorem find_none {α β : Type} [DecidableEq α] (l : List (α × β)) (p : α) : (l.find? fun q => decide (q.1 = p)).map (·.2) = none ↔ ∀ q ∈ l, q.1 ≠ p := by
  simp
theorem find_some {α β : Type} [DecidableEq α] (l : List (α × β)) (p : α) (v : β) (h : (l.find? fun q => decide (q.1 = p)).map (·.2) = some v) : (p, v) ∈ l := by
  rw [Option.map_eq_some_iff] at h
  obtain ⟨q, hq, rfl⟩ := h
  have h1 := List.mem_of_find?_eq_some hq
  have h2 := List.find?_some hq
  simp at h2
  subst h2
  exact h1
theorem nodup_one {α β : Type} {l : List (α × β)} (h : (l.map (·.1)).Nodup) {p : α} {v u : β} (h1 : (p, v) ∈ l) (h2 : (p, u) ∈ l) : v = u := by
  induction l with
  | nil => cases h1
  | cons a l ih =>
    simp only [List.map_cons, List.nodup_cons] at h
    rcases List.mem_cons.1 h1 with e1 | e1 <;> rcases List.mem_cons.1 h2 with e2 | e2
    · rw [← e1] at e2; injection e2 with _ e; exact e.symm
    · exact absurd (List.mem_map.2 ⟨_, e2, by rw [← e1]⟩) h.1
    · exact absurd (List.mem_map.2 ⟨_, e1, by rw [← e2]⟩) h.1
    · exact ih h.2 e1 e2

theorem zeroI (w : World) : (zeroValue 3).run Try.prog w = .ok (.int .i64 0) w := by kernel_rfl
theorem zeroP (w : World) : (zeroValue 97).run Try.prog w = .ok (pkV (0, 0)) w := by kernel_rfl

/-- What a look-up answers. -/
theorem look_fix {w : World} {f : Nat} {K : KW} (hK : K.Ok) (h : MapIs w f (fixL K.F)) (p : ByteArray × Int) (hp : fixOk p) :
    (Instr.lookup 71 (.map (some f)) (fixK p) true).run Try.prog w = .ok (.tuple #[.int .i64 ((K.fixed p).getD 0), .bool (K.fixed p).isSome]) w := by
  obtain ⟨kl, hkl⟩ := keyOf_fix p hp
  cases hf : K.fixed p with
  | none =>
    have hn := (find_none K.F p).1 hf
    refine run_look_no keyedF Try.underlying71 (zeroI _) h (keysF hK) hkl ?_ true
    intro q hq e
    obtain ⟨r, hr, rfl⟩ := List.mem_map.1 hq
    exact hn r hr (fixK_inj.1 e)
  | some v =>
    have hin := find_some K.F p v hf
    refine run_look_at keyedF Try.underlying71 h (keysF hK) hkl (List.mem_map.2 ⟨_, hin, rfl⟩) ?_ true
    intro q hq e
    obtain ⟨⟨r1, r2⟩, hr, rfl⟩ := List.mem_map.1 hq
    have e1 : r1 = p := fixK_inj.1 e
    subst e1
    rw [nodup_one hK.fn hr hin]
theorem look_ch {w : World} {f : Nat} {K : KW} (hK : K.Ok) (h : MapIs w f (chL K.C)) (p : ByteArray × ByteArray) (hp : chOk p) :
    (Instr.lookup 72 (.map (some f)) (chK p) true).run Try.prog w = .ok (.tuple #[pkV ((K.chosen p).getD (0, 0)), .bool (K.chosen p).isSome]) w := by
  obtain ⟨kl, hkl⟩ := keyOf_ch p hp
  cases hf : K.chosen p with
  | none =>
    have hn := (find_none K.C p).1 hf
    refine run_look_no keyedC Try.underlying72 (zeroP _) h (keysC hK) hkl ?_ true
    intro q hq e
    obtain ⟨r, hr, rfl⟩ := List.mem_map.1 hq
    exact hn r hr (chK_inj.1 e)
  | some v =>
    have hin := find_some K.C p v hf
    refine run_look_at keyedC Try.underlying72 h (keysC hK) hkl (List.mem_map.2 ⟨_, hin, rfl⟩) ?_ true
    intro q hq e
    obtain ⟨⟨r1, r2⟩, hr, rfl⟩ := List.mem_map.1 hq
    have e1 : r1 = p := chK_inj.1 e
    subst e1
    rw [nodup_one hK.cn hr hin]

/-- The world in memory: a pointer's block p, its maps in the blocks f and c. -/
structure KIn (w : World) (p f c : Nat) (K : KW) : Prop where
  blk : w.heap[p]? = some (.cells #[.map (some f), .map (some c)] 74)
  fix : MapIs w f (fixL K.F)
  ch : MapIs w c (chL K.C)
  fc : f ≠ c
  ok : K.Ok
theorem KIn.pf {w : World} {p f c : Nat} {K : KW} (h : KIn w p f c K) : p ≠ f := by
  rintro rfl
  obtain ⟨es, cl, hb, _⟩ := h.fix
  have := h.blk
  rw [hb] at this
  cases this
theorem KIn.pc {w : World} {p f c : Nat} {K : KW} (h : KIn w p f c K) : p ≠ c := by
  rintro rfl
  obtain ⟨es, cl, hb, _⟩ := h.ch
  have := h.blk
  rw [hb] at this
  cases this
theorem KIn.lt {w : World} {p f c : Nat} {K : KW} (h : KIn w p f c K) : p < w.heap.size ∧ f < w.heap.size ∧ c < w.heap.size := ⟨(Array.getElem?_eq_some_iff.1 h.blk).1, h.fix.lt, h.ch.lt⟩
theorem KIn.same {w w' : World} {p f c : Nat} {K : KW} (h : KIn w p f c K) (h1 : w'.heap[p]? = w.heap[p]?) (h2 : w'.heap[f]? = w.heap[f]?) (h3 : w'.heap[c]? = w.heap[c]?) : KIn w' p f c K :=
  ⟨h1.trans h.blk, h.fix.of_block h2, h.ch.of_block h3, h.fc, h.ok⟩
theorem KIn.below {w w' : World} {p f c : Nat} {K : KW} (h : KIn w p f c K) (hb : Below w.heap.size w w') : KIn w' p f c K :=
  h.same (hb.block _ h.lt.1) (hb.block _ h.lt.2.1) (hb.block _ h.lt.2.2)
theorem KIn.cell0 {w : World} {p f c : Nat} {K : KW} (h : KIn w p f c K) : w.cell? ⟨p, 0, none⟩ = some (.map (some f)) := by simp [World.cell?, h.blk]
theorem KIn.cell1 {w : World} {p f c : Nat} {K : KW} (h : KIn w p f c K) : w.cell? ⟨p, 1, none⟩ = some (.map (some c)) := by simp [World.cell?, h.blk]

end Go.Proofs.Ytngjlkdpplmpaab.Wd
