/- What a number is, by what is known: facts of it as a plain function; the document's example. -/
import Derived.Test.YtngjlkdpplmpaaaV2
namespace Go.Proofs.Ytngjlkdpplmpaaa.Vl
open Go.RowKit Wd Cn
set_option linter.unusedVariables false

theorem wakes_const : ofR ⟨[], []⟩ 0 (.const 7) = ⟨7, true, 0⟩ := by
  unfold ofR
  rw [if_pos (by rfl)]
  rfl

theorem of_in {w0 W : World} {p f c : Nat} {K : KW} (h : In w0 W p f c K) (o : O) (hok : o.Ok) (hsz : o.nodes ≤ 1000000) (d : Int) (hd : dayOk d) (r : Rk) (hr : ofR K d o = r) :
    Calls Try.prog 96 #[o.val, .int .i64 d, .pointer (some ⟨p, 0, none⟩)] W fun e w' => e = ofE r ∧ In w0 w' p f c K := by
  refine (of_any o hok hsz W p f c K d h.kin hd).mono ?_
  rintro e w' ⟨rfl, hB⟩
  exact ⟨by rw [hr], h.step hB⟩
/-! ### what is true of every number -/
/-- What is fixed is in range. -/
def KW.Vals (K : KW) : Prop := ∀ q ∈ K.F, vB q.2 = true
theorem KW.Vals.fixed {K : KW} (h : KW.Vals K) {p : ByteArray × Int} {v : Int} (hf : K.fixed p = some v) : vB v = true :=
  h _ (find_some K.F p v hf)
/-- A number as it may come: an error leaves nothing, what is not known is 0, what is known is in range. -/
structure Rk.Good (r : Rk) : Prop where
  errs : r.e = 0 ∨ r.e = 6
  err : r.e ≠ 0 → r.n = 0 ∧ r.known = false
  unk : r.known = false → r.n = 0
  val : r.known = true → vB r.n = true
theorem vB0 : vB 0 = true := by rfl
theorem inR_good (p : Int × Bool) (h : p.2 = true → vB p.1 = true) : (inR p).Good := by
  unfold inR
  split
  · rename_i h1
    exact ⟨.inl rfl, fun h => absurd rfl h, fun h => (by cases h), fun _ => h h1⟩
  · exact ⟨.inr rfl, fun _ => ⟨rfl, rfl⟩, fun _ => rfl, fun h => (by cases h)⟩
theorem addR_in (a b : Int) (h : (addR a b).2 = true) : vB (addR a b).1 = true := by
  unfold addR at h ⊢
  split
  · rename_i h1; simp only [Bool.and_eq_true] at h1; exact h1.2
  · rfl
theorem mulR_in (a b : Int) (h : (mulR a b).2 = true) : vB (mulR a b).1 = true := by
  unfold mulR at h ⊢
  split
  · rename_i h1; simp only [Bool.and_eq_true] at h1; exact h1.2
  · rfl
theorem vB_neg (a : Int) (h : vB a = true) : vB (-a) = true := by
  rw [vB_iff] at *; omega
theorem negR_in (a : Int) (h : (negR a).2 = true) : vB (negR a).1 = true := by
  unfold negR at h ⊢
  split
  · rename_i h1; exact vB_neg a h1
  · rfl
theorem gtR_in (a b : Int) (ha : vB a = true) (hb : vB b = true) : vB (gtR a b).1 = true := by
  unfold gtR
  rw [vB_iff] at *
  simp only
  omega
theorem bothR_good {l r : Rk} {j : Int → Int → Int × Bool} (hl : l.Good) (hr : r.Good) (hj : ∀ a b, vB a = true → vB b = true → (j a b).2 = true → vB (j a b).1 = true) : (bothR l r j).Good := by
  unfold bothR
  split
  · exact hl
  · split
    · exact hr
    · split
      · exact ⟨.inl rfl, fun h => absurd rfl h, fun _ => rfl, fun h => (by cases h)⟩
      · rename_i h
        simp only [Bool.or_eq_true, Bool.not_eq_true', not_or, Bool.not_eq_false] at h
        exact inR_good _ (hj _ _ (hl.val h.1) (hr.val h.2))
theorem otherR_good {r : Rk} (h : r.Good) : (otherR r).Good := by
  unfold otherR
  split
  · exact h
  · rename_i h1
    exact inR_good _ (negR_in _)
theorem rk_good {K : KW} (hK : KW.Vals K) (d : Int) (o : O) (hf : formB o = true) : (rk K d o).Good := by
  induction o with
  | const n => exact ⟨.inl rfl, fun h => absurd rfl h, fun h => (by cases h), fun _ => hf⟩
  | fix s =>
    refine ⟨.inl rfl, fun h => absurd rfl h, ?_, ?_⟩
    · intro h
      simp only [rk] at h ⊢
      cases hx : K.fixed (s, d) with
      | none => rfl
      | some v => rw [hx] at h; cases h
    · intro h
      simp only [rk] at h ⊢
      cases hx : K.fixed (s, d) with
      | none => rw [hx] at h; cases h
      | some v => exact hK.fixed hx
  | add l r hl hr => simp only [formB, Bool.and_eq_true] at hf; exact bothR_good (hl hf.1) (hr hf.2) (fun a b _ _ => addR_in a b)
  | neg o ho => exact otherR_good (ho hf)
  | mul l r hl hr => simp only [formB, Bool.and_eq_true] at hf; exact bothR_good (hl hf.1) (hr hf.2) (fun a b _ _ => mulR_in a b)
  | max l r hl hr => simp only [formB, Bool.and_eq_true] at hf; exact bothR_good (hl hf.1) (hr hf.2) (fun a b ha hb _ => gtR_in a b ha hb)
  | odd v => simp [formB] at hf

/-- Known or running over: where no error stands it is known just if nothing lacks. -/
theorem bothR_known (l r : Rk) (j : Int → Int → Int × Bool) (h : (bothR l r j).e = 0) : l.e = 0 ∧ r.e = 0 ∧ (bothR l r j).known = (l.known && r.known) := by
  unfold bothR at h ⊢
  split at h
  · contradiction
  · rename_i h1
    split at h
    · contradiction
    · rename_i h2
      rw [if_neg h1, if_neg h2]
      refine ⟨by omega, by omega, ?_⟩
      split
      · rename_i h3
        simp at h3 ⊢
        intro hl
        rcases h3 with h3 | h3
        · rw [h3] at hl; cases hl
        · exact h3
      · rename_i h3
        rw [if_neg h3] at h
        unfold inR at h ⊢
        split
        · simp at h3 ⊢; exact ⟨h3.1, h3.2⟩
        · rename_i h4; rw [if_neg h4] at h; cases h
theorem rk_known {K : KW} (d : Int) (o : O) (hf : formB o = true) (h : (rk K d o).e = 0) : (rk K d o).known = o.all.all fun s => (K.fixed (s, d)).isSome := by
  induction o with
  | const n => rfl
  | fix s => simp [rk, O.all]
  | add l r hl hr =>
    simp only [formB, Bool.and_eq_true] at hf
    obtain ⟨h1, h2, h3⟩ := bothR_known _ _ _ h
    simp only [O.all, List.all_append, ← hl hf.1 h1, ← hr hf.2 h2]
    exact h3
  | neg o ho =>
    simp only [formB] at hf
    simp only [rk, otherR, O.all] at h ⊢
    split at h
    · rename_i h1
      rw [if_pos h1]
      exact ho hf (by simpa using h)
    · rename_i h1
      rw [if_neg h1]
      have h2 : (rk K d o).e = 0 := by
        rcases Decidable.em ((rk K d o).e = 0) with h2 | h2
        · exact h2
        · exact absurd (.inl h2) h1
      rw [← ho hf h2]
      unfold inR at h ⊢
      split
      · have : ¬ (rk K d o).known = false := fun hx => h1 (.inr hx)
        simpa using this
      · rename_i h4; rw [if_neg h4] at h; cases h
  | mul l r hl hr =>
    simp only [formB, Bool.and_eq_true] at hf
    obtain ⟨h1, h2, h3⟩ := bothR_known _ _ _ h
    simp only [O.all, List.all_append, ← hl hf.1 h1, ← hr hf.2 h2]
    exact h3
  | max l r hl hr =>
    simp only [formB, Bool.and_eq_true] at hf
    obtain ⟨h1, h2, h3⟩ := bothR_known _ _ _ h
    simp only [O.all, List.all_append, ← hl hf.1 h1, ← hr hf.2 h2]
    exact h3
  | odd v => simp [formB] at hf
theorem mem_addAll' (l : List ByteArray) : ∀ (acc : List ByteArray) (s : ByteArray), s ∈ acc ∨ s ∈ l → s ∈ addAll acc l := by
  induction l with
  | nil => intro acc s h; exact h.elim id (fun h => by simp at h)
  | cons x l ih =>
    intro acc s h
    refine ih (addN acc x) s ?_
    unfold addN
    rcases h with h | h
    · left; split <;> simp [h]
    · rcases List.mem_cons.1 h with h | h
      · left; subst h
        split
        · rename_i h2; exact (inN_iff _ _).1 h2
        · simp
      · exact .inr h
theorem mem_names (o : O) (s : ByteArray) : s ∈ o.names ↔ s ∈ o.all :=
  ⟨fun h => (addAll_mem _ _ _ h).elim (fun h => by simp at h) id, fun h => mem_addAll' _ _ _ (.inr h)⟩
theorem lack_nil (K : KW) (d : Int) (o : O) : (lackN K d o.names).length = 0 ↔ (o.all.all fun s => (K.fixed (s, d)).isSome) = true := by
  unfold lackN
  rw [List.length_eq_zero_iff, List.filter_eq_nil_iff, List.all_eq_true]
  simp only [Bool.not_eq_true', Bool.not_eq_false]
  exact ⟨fun h s hs => h s ((mem_names o s).2 hs), fun h s hs => h s ((mem_names o s).1 hs)⟩
/-- Where nothing runs over, it is known just if it needs nothing. -/
theorem of_needs (K : KW) (d : Int) (o : O) (h : (ofR K d o).e = 0) : (ofR K d o).known = decide ((needR K d o).length = 0) := by
  unfold ofR needR at *
  split at h
  · rename_i hc
    rw [if_pos hc, if_pos hc, rk_known d o (chk_form hc) h, Bool.eq_iff_iff, decide_eq_true_iff]
    exact (lack_nil K d o).symm
  · cases h

end Go.Proofs.Ytngjlkdpplmpaaa.Vl
