/- The document's trees in memory, and the numbers that they stand for. -/
import Derived.Test.YtkioolbjmcpjpaaGreatDoorSameO
namespace Go.Proofs.YtkioolbjmcpjpaaGreatDoor
open Go.RowKit
set_option linter.unusedVariables false

/-- A tree: its kind, its name, its number, its parts. -/
inductive T where
  | mk (kind : Int) (s : ByteArray) (n : Int) (k : List T)
def T.kind : T → Int
  | .mk kind _ _ _ => kind
def T.s : T → ByteArray
  | .mk _ s _ _ => s
def T.n : T → Int
  | .mk _ _ n _ => n
def T.k : T → List T
  | .mk _ _ _ k => k
theorem T.ind {P : T → Prop} (h : ∀ kind s n k, (∀ t ∈ k, P t) → P (.mk kind s n k)) : ∀ t, P t := fun t =>
  T.rec (motive_1 := P) (motive_2 := fun l => ∀ t ∈ l, P t) (fun kind s n k ih => h kind s n k ih) (by simp) (fun t l ht hl => by simp only [List.mem_cons]; rintro u (rfl | hu); exact ht; exact hl u hu) t

mutual
/-- A tree lies at a place, in blocks from B on. -/
def TAt (w : World) (B : Nat) : T → Nat → Nat → Prop
  | .mk kind s n k, b, o => ∃ a cap, B ≤ b ∧ w.cell? ⟨b, o, none⟩ = some (.int .i64 kind) ∧ w.cell? ⟨b, o + 1, none⟩ = some (.string s) ∧ w.cell? ⟨b, o + 2, none⟩ = some (.int .i64 n) ∧ w.cell? ⟨b, o + 3, none⟩ = some (.slice a k.length cap) ∧ k.length ≤ cap ∧ cap ≤ 9223372036854775807 ∧ KAt w B k a 0
/-- Trees lie one behind another. -/
def KAt (w : World) (B : Nat) : List T → Option Addr → Nat → Prop
  | [], _, _ => True
  | t :: l, a, i => (∃ b o, a = some ⟨b, o, none⟩ ∧ TAt w B t b (o + i * 4)) ∧ KAt w B l a (i + 1)
end
/-- A value is a tree. -/
def TIn (w : World) (B : Nat) (t : T) (v : Value) : Prop := ∃ a cap, v = .agg #[.int .i64 t.kind, .string t.s, .int .i64 t.n, .slice a t.k.length cap] ∧ t.k.length ≤ cap ∧ cap ≤ 9223372036854775807 ∧ KAt w B t.k a 0
theorem KAt_get {w : World} {B : Nat} {a : Option Addr} : ∀ {l : List T} {i : Nat}, KAt w B l a i → ∀ {j : Nat} {t : T}, l[j]? = some t → ∃ b o, a = some ⟨b, o, none⟩ ∧ TAt w B t b (o + (i + j) * 4) := by
  intro l
  induction l with
  | nil => intro i _ j t h; simp at h
  | cons x l ih =>
    intro i h j t hj
    unfold KAt at h
    cases j with
    | zero => simp at hj; subst hj; simpa using h.1
    | succ j =>
      simp at hj
      obtain ⟨b, o, e, ht⟩ := ih h.2 hj
      exact ⟨b, o, e, by rwa [show i + (j + 1) = i + 1 + j by omega]⟩
theorem KAt_mk {w : World} {B : Nat} {a : Option Addr} : ∀ {l : List T} {i : Nat}, (∀ j t, l[j]? = some t → ∃ b o, a = some ⟨b, o, none⟩ ∧ TAt w B t b (o + (i + j) * 4)) → KAt w B l a i := by
  intro l
  induction l with
  | nil => intro i _; unfold KAt; trivial
  | cons x l ih =>
    intro i h
    unfold KAt
    refine ⟨by simpa using h 0 x rfl, ih (fun j t hj => ?_)⟩
    obtain ⟨b, o, e, ht⟩ := h (j + 1) t (by simpa using hj)
    exact ⟨b, o, e, by rwa [show i + 1 + j = i + (j + 1) by omega]⟩
/-- Where the cells of the blocks from B on are as they were, a tree is. -/
theorem TAt.kept {w w' : World} {B B' : Nat} (hB : B' ≤ B) (hc : ∀ b o v, B ≤ b → w.cell? ⟨b, o, none⟩ = some v → w'.cell? ⟨b, o, none⟩ = some v) : ∀ (t : T) (b o : Nat), TAt w B t b o → TAt w' B' t b o := by
  intro t
  induction t using T.ind with
  | _ kind s n k ih =>
    intro b o h
    unfold TAt at h ⊢
    obtain ⟨a, cap, hb, h0, h1, h2, h3, h4, h5, h6⟩ := h
    refine ⟨a, cap, Nat.le_trans hB hb, hc _ _ _ hb h0, hc _ _ _ hb h1, hc _ _ _ hb h2, hc _ _ _ hb h3, h4, h5, KAt_mk (fun j t hj => ?_)⟩
    obtain ⟨b, o, e, ht⟩ := KAt_get h6 hj
    exact ⟨b, o, e, ih t (List.mem_of_getElem? hj) _ _ ht⟩
theorem KAt.kept {w w' : World} {B B' : Nat} {l : List T} {a : Option Addr} {i : Nat} (h : KAt w B l a i) (hB : B' ≤ B) (hc : ∀ b o v, B ≤ b → w.cell? ⟨b, o, none⟩ = some v → w'.cell? ⟨b, o, none⟩ = some v) : KAt w' B' l a i :=
  KAt_mk (fun j t hj => by obtain ⟨b, o, e, ht⟩ := KAt_get h hj; exact ⟨b, o, e, TAt.kept hB hc t _ _ ht⟩)
theorem TIn.kept {w w' : World} {B B' : Nat} {t : T} {v : Value} (h : TIn w B t v) (hB : B' ≤ B) (hc : ∀ b o v, B ≤ b → w.cell? ⟨b, o, none⟩ = some v → w'.cell? ⟨b, o, none⟩ = some v) : TIn w' B' t v := by
  obtain ⟨a, cap, h0, h1, h2, h3⟩ := h
  exact ⟨a, cap, h0, h1, h2, h3.kept hB hc⟩
theorem below_cells {w w' : World} (hb : Below w.heap.size w w') {B : Nat} : ∀ b o v, B ≤ b → w.cell? ⟨b, o, none⟩ = some v → w'.cell? ⟨b, o, none⟩ = some v :=
  fun b o v _ h => (hb.cell (p := ⟨b, o, none⟩) (World.block_lt_of_cell? w _ h)).trans h
theorem KAt.below {w w' : World} {B : Nat} {l : List T} {a : Option Addr} {i : Nat} (h : KAt w B l a i) (hb : Below w.heap.size w w') : KAt w' B l a i := h.kept (Nat.le_refl _) (below_cells hb)
theorem TIn.below {w w' : World} {B : Nat} {t : T} {v : Value} (h : TIn w B t v) (hb : Below w.heap.size w w') : TIn w' B t v := h.kept (Nat.le_refl _) (below_cells hb)
theorem TIn.low {w : World} {B B' : Nat} {t : T} {v : Value} (h : TIn w B t v) (hB : B' ≤ B) : TIn w B' t v := h.kept hB (fun _ _ _ _ h => h)
/-- What a part's cells hold. -/
theorem KAt.cells {w : World} {B : Nat} {l : List T} {a : Option Addr} (h : KAt w B l a 0) {j : Nat} {t : T} (hj : l[j]? = some t) : ∃ b o ka cap, a = some ⟨b, o, none⟩ ∧ w.cell? ⟨b, o + j * 4, none⟩ = some (.int .i64 t.kind) ∧ w.cell? ⟨b, o + j * 4 + 1, none⟩ = some (.string t.s) ∧ w.cell? ⟨b, o + j * 4 + 2, none⟩ = some (.int .i64 t.n) ∧ w.cell? ⟨b, o + j * 4 + 3, none⟩ = some (.slice ka t.k.length cap) ∧ TIn w B t (.agg #[.int .i64 t.kind, .string t.s, .int .i64 t.n, .slice ka t.k.length cap]) := by
  obtain ⟨b, o, e, ht⟩ := KAt_get h hj
  rw [Nat.zero_add] at ht
  obtain ⟨kind, s, n, k⟩ := t
  unfold TAt at ht
  obtain ⟨ka, cap, _, h0, h1, h2, h3, h4, h5, h6⟩ := ht
  exact ⟨b, o, ka, cap, e, h0, h1, h2, h3, ka, cap, rfl, h4, h5, h6⟩
/-- A value that is a tree, laid at a place. -/
theorem TAt_mk {w : World} {B : Nat} {t : T} {ka : Option Addr} {cap b o : Nat} (h : TIn w B t (.agg #[.int .i64 t.kind, .string t.s, .int .i64 t.n, .slice ka t.k.length cap])) (hB : B ≤ b) (h0 : w.cell? ⟨b, o, none⟩ = some (.int .i64 t.kind)) (h1 : w.cell? ⟨b, o + 1, none⟩ = some (.string t.s)) (h2 : w.cell? ⟨b, o + 2, none⟩ = some (.int .i64 t.n)) (h3 : w.cell? ⟨b, o + 3, none⟩ = some (.slice ka t.k.length cap)) : TAt w B t b o := by
  obtain ⟨a', cap', e, h4, h5, h6⟩ := h
  simp at e
  obtain ⟨rfl, rfl⟩ := e
  obtain ⟨kind, s, n, k⟩ := t
  unfold TAt
  exact ⟨ka, cap, hB, h0, h1, h2, h3, h4, h5, h6⟩

mutual
def obsOf : T → O
  | .mk kind s n k => if kind = 11 then .const n else if kind = 12 then .fix s else match obsL k with
    | [a] => if kind = 14 then .neg a else .odd .nilIface
    | [a, b] => if kind = 13 then .add a b else if kind = 15 then .mul a b else if kind = 16 then .max a b else .odd .nilIface
    | _ => .odd .nilIface
def obsL : List T → List O
  | [] => []
  | t :: l => obsOf t :: obsL l
end
mutual
/-- A tree whose numbers have as many parts as they need. -/
def T.Shaped : T → Prop
  | .mk kind s n k => (kind = 13 ∨ kind = 15 ∨ kind = 16 → k.length = 2) ∧ (kind = 14 → k.length = 1) ∧ (kind = 13 ∨ kind = 14 ∨ kind = 15 ∨ kind = 16 ∨ k = []) ∧ -9223372036854775808 ≤ n ∧ n ≤ 9223372036854775807 ∧ s.size ≤ 2147483648 ∧ ShapedL k
def ShapedL : List T → Prop
  | [] => True
  | t :: l => t.Shaped ∧ ShapedL l
end
theorem shapedL_mem : ∀ {l : List T}, ShapedL l → ∀ t ∈ l, t.Shaped := by
  intro l
  induction l with
  | nil => intro _ t h; simp at h
  | cons x l ih =>
    intro h t ht
    unfold ShapedL at h
    simp only [List.mem_cons] at ht
    rcases ht with rfl | ht
    · exact h.1
    · exact ih h.2 t ht
theorem obsOf_ok : ∀ t : T, t.Shaped → (obsOf t).Ok := by
  intro t
  induction t using T.ind with
  | _ kind s n k ih =>
    intro h
    unfold T.Shaped at h
    obtain ⟨_, _, _, h1, h2, h3, h4⟩ := h
    have hk : ∀ t ∈ k, (obsOf t).Ok := fun t ht => ih t ht (shapedL_mem h4 t ht)
    have hodd : (O.odd .nilIface).Ok := .inl rfl
    unfold obsOf
    split
    · exact ⟨h1, h2⟩
    · split
      · exact h3
      · match k, hk with
        | [], _ => simp only [obsL]; exact hodd
        | [a], hk =>
          simp only [obsL]
          split
          · exact hk a (by simp)
          · exact hodd
        | [a, b], hk =>
          simp only [obsL]
          have ha := hk a (by simp)
          have hb := hk b (by simp)
          split
          · exact ⟨ha, hb⟩
          · split
            · exact ⟨ha, hb⟩
            · split
              · exact ⟨ha, hb⟩
              · exact hodd
        | a :: b :: c :: l, _ => simp only [obsL]; exact hodd

end Go.Proofs.YtkioolbjmcpjpaaGreatDoor
