/- What is known does not hang on what else comes to be known: pure facts for ValueLaws. -/
import Derived.Test.YtngjlkdpplmpaaaVNeeds0
import Derived.Test.YtngjlkdpplmpaaaKl
namespace Go.Proofs.Ytngjlkdpplmpaaa.Vl
open Go.RowKit Wd Cn
set_option linter.unusedVariables false

def Ext (K K' : KW) : Prop := ∀ p v, K.fixed p = some v → K'.fixed p = some v
theorem Ext.refl (K : KW) : Ext K K := fun _ _ h => h
theorem Ext.trans {K K' K'' : KW} (h : Ext K K') (g : Ext K' K'') : Ext K K'' := fun p v hp => g p v (h p v hp)
theorem ext_fixN (K : KW) (s : ByteArray) (d v : Int) : Ext K (fixN K s d v) := by
  intro p u h
  unfold fixN
  split
  · unfold KW.fixed at h ⊢
    simp only [List.find?_append]
    cases hx : K.F.find? fun q => decide (q.1 = p) with
    | none => rw [hx] at h; cases h
    | some q => rw [hx] at h; simpa using h
  · exact h
theorem bothR_ok {l r : Rk} {j : Int → Int → Int × Bool} (h : (bothR l r j).known = true) (hl : l.Good) (hr : r.Good) : l.e = 0 ∧ r.e = 0 ∧ l.known = true ∧ r.known = true ∧ (j l.n r.n).2 = true ∧ bothR l r j = ⟨(j l.n r.n).1, true, 0⟩ := by
  unfold bothR at h ⊢
  split at h
  · rename_i h1; rw [(hl.err h1).2] at h; cases h
  · rename_i h1
    split at h
    · rename_i h2; rw [(hr.err h2).2] at h; cases h
    · rename_i h2
      split at h
      · cases h
      · rename_i h3
        rw [if_neg h1, if_neg h2, if_neg h3]
        simp only [Bool.or_eq_true, Bool.not_eq_true', not_or, Bool.not_eq_false] at h3
        unfold inR at h ⊢
        split
        · rename_i h4; exact ⟨by omega, by omega, h3.1, h3.2, h4, rfl⟩
        · rename_i h4; rw [if_neg h4] at h; cases h
theorem otherR_ok {r : Rk} (h : (otherR r).known = true) (hr : r.Good) : r.e = 0 ∧ r.known = true ∧ otherR r = ⟨-r.n, true, 0⟩ := by
  unfold otherR at h ⊢
  split at h
  · rename_i h1
    rcases h1 with h1 | h1
    · rw [(hr.err h1).2] at h; cases h
    · rw [h1] at h; cases h
  · rename_i h1
    rw [if_neg h1]
    have h2 : r.e = 0 := by
      rcases Decidable.em (r.e = 0) with h2 | h2
      · exact h2
      · exact absurd (.inl h2) h1
    have h3 : r.known = true := by
      cases hk : r.known
      · exact absurd (.inr hk) h1
      · rfl
    refine ⟨h2, h3, ?_⟩
    unfold inR negR
    rw [hr.val h3]
    rfl
/-- What is known stays known, as it was. -/
theorem rk_ext {K K' : KW} (hK : KW.Vals K) (hx : Ext K K') (d : Int) (o : O) (hf : formB o = true) (h : (rk K d o).known = true) : rk K' d o = rk K d o := by
  induction o with
  | const n => rfl
  | fix s =>
    simp only [rk] at h ⊢
    cases hq : K.fixed (s, d) with
    | none => rw [hq] at h; cases h
    | some v => rw [hx _ _ hq]
  | add l r hl hr =>
    simp only [formB, Bool.and_eq_true] at hf
    obtain ⟨_, _, h3, h4, _, _⟩ := bothR_ok h (rk_good hK d l hf.1) (rk_good hK d r hf.2)
    simp only [rk]
    rw [hl hf.1 h3, hr hf.2 h4]
  | neg o ho =>
    simp only [formB] at hf
    obtain ⟨_, h3, _⟩ := otherR_ok h (rk_good hK d o hf)
    simp only [rk]
    rw [ho hf h3]
  | mul l r hl hr =>
    simp only [formB, Bool.and_eq_true] at hf
    obtain ⟨_, _, h3, h4, _, _⟩ := bothR_ok h (rk_good hK d l hf.1) (rk_good hK d r hf.2)
    simp only [rk]
    rw [hl hf.1 h3, hr hf.2 h4]
  | max l r hl hr =>
    simp only [formB, Bool.and_eq_true] at hf
    obtain ⟨_, _, h3, h4, _, _⟩ := bothR_ok h (rk_good hK d l hf.1) (rk_good hK d r hf.2)
    simp only [rk]
    rw [hl hf.1 h3, hr hf.2 h4]
  | odd v => simp [formB] at hf
theorem ofR_ok {K : KW} {d : Int} {o : O} (hc : chk o = 0) : ofR K d o = rk K d o := by unfold ofR; rw [if_pos hc]
theorem ofR_no {K : KW} {d : Int} {o : O} (hc : chk o ≠ 0) : ofR K d o = ⟨0, false, 2⟩ := by unfold ofR; rw [if_neg hc]
/-- The other sign of what is known. -/
theorem neg_ok {K : KW} (hK : KW.Vals K) (d : Int) (a : O) (hf : formB a = true) (h : (ofR K d (.neg a)).known = true) : (ofR K d (.neg a)).n = -(rk K d a).n := by
  unfold ofR at h ⊢
  split at h
  · rename_i hc
    rw [if_pos hc]
    simp only [rk] at h ⊢
    rw [(otherR_ok h (rk_good hK d a hf)).2.2]
  · cases h
theorem max_ok {K : KW} (hK : KW.Vals K) (d : Int) (a b : O) (hf : formB a = true) (hg : formB b = true) (h : (ofR K d (.max a b)).known = true) : (ofR K d (.max a b)).n = Max.max (rk K d a).n (rk K d b).n := by
  unfold ofR at h ⊢
  split at h
  · rename_i hc
    rw [if_pos hc]
    simp only [rk] at h ⊢
    rw [(bothR_ok h (rk_good hK d a hf) (rk_good hK d b hg)).2.2.2.2.2]
    rfl
  · cases h

end Go.Proofs.Ytngjlkdpplmpaaa.Vl
