/- Plain mathematics: a text's signs stand at their places, in order, none empty, and put together they are the text without its blanks. -/
import Derived.Test.YtpopboanflnphaaTellWalk
namespace Go.Proofs.Ytpopboanflnphaa
open Go.RowKit
set_option linter.unusedVariables false

def flat (l : List Sg) : ByteArray := l.foldl (fun a x => a ++ x.1) ByteArray.empty
def noBlank (rs : List Int) : List Int := rs.filter fun r => !(r == 32)

theorem flat_snoc (l : List Sg) (x : Sg) : flat (l ++ [x]) = flat l ++ x.1 := by simp [flat]
theorem flat_append (a b : List Sg) : flat (a ++ b) = flat a ++ flat b := by
  have key : ∀ (l : List Sg) (z : ByteArray), l.foldl (fun a x => a ++ x.1) z = z ++ flat l := by
    intro l
    induction l with
    | nil => intro z; simp [flat]
    | cons x l ih =>
      intro z
      simp only [flat, List.foldl_cons]
      rw [ih, ih (ByteArray.empty ++ x.1)]
      simp [ByteArray.append_assoc]
  unfold flat
  rw [List.foldl_append, key]
  rfl
theorem flat_take_size (l : List Sg) (k : Nat) : (flat (l.take k)).size ≤ (flat l).size := by
  conv => rhs; rw [← List.take_append_drop k l]
  rw [flat_append, ByteArray.size_append]
  omega

structure GoodS (whole : List Int) (q : Nat) (l : List Sg) : Prop where
  each : ∀ x ∈ l, ∃ A ws B, ws ≠ [] ∧ whole = A ++ ws ++ B ∧ x.1 = runesBytes ws ∧ x.2 = (A.length : Int) + 1
  sorted : l.Pairwise (fun x y => x.2 < y.2)
  below : ∀ x ∈ l, x.2 ≤ q
  text : flat l = runesBytes (noBlank (whole.take q))

theorem noBlank_join (rs : List Int) (h : ∀ r ∈ rs, (r == 32) = false) : noBlank rs = rs := by
  unfold noBlank
  rw [List.filter_eq_self]
  intro r hr
  rw [h r hr]; rfl
theorem noBlank_append (a b : List Int) : noBlank (a ++ b) = noBlank a ++ noBlank b := by simp [noBlank]

theorem snoc_good {whole A ws B : List Int} {l : List Sg} (h : GoodS whole A.length l) (hw : whole = A ++ ws ++ B) (hne : ws ≠ []) (hb : ∀ r ∈ ws, (r == 32) = false) :
    GoodS whole (A ++ ws).length (l ++ [(runesBytes ws, (A.length : Int) + 1)]) := by
  have hl := List.length_pos_iff.2 hne
  refine ⟨?_, ?_, ?_, ?_⟩
  · intro x hx
    rcases List.mem_append.1 hx with h1 | h1
    · exact h.each x h1
    · simp at h1; subst h1; exact ⟨A, ws, B, hne, hw, rfl, rfl⟩
  · rw [List.pairwise_append]
    refine ⟨h.sorted, by simp, ?_⟩
    intro x hx y hy
    simp at hy; subst hy
    have := h.below x hx
    show x.2 < (A.length : Int) + 1
    omega
  · intro x hx
    rw [List.length_append]
    rcases List.mem_append.1 hx with h1 | h1
    · have := h.below x h1; omega
    · simp at h1; subst h1
      show (A.length : Int) + 1 ≤ _
      omega
  · rw [flat_snoc, h.text]
    rw [hw, List.append_assoc, List.take_left' rfl, ← List.append_assoc, List.take_left' rfl, noBlank_append, noBlank_join ws hb, runesBytes_append]

theorem end_good {whole pre0 run rs' : List Int} {l : List Sg} (h : GoodS whole pre0.length l) (hw : whole = pre0 ++ run ++ rs') (hb : ∀ r ∈ run, (r == 32) = false) (e : Int) (he : e = ((pre0 ++ run).length : Int) + 1) :
    GoodS whole (pre0 ++ run).length (endR l run e) := by
  by_cases hne : run = []
  · subst hne; simpa [endR] using h
  · have := snoc_good h hw hne hb
    unfold endR
    rw [if_neg hne, show e - (run.length : Int) = (pre0.length : Int) + 1 from by rw [he, List.length_append]; omega]
    exact this

theorem blank_not_join (r : Int) (h : joinB r = true) : (r == 32) = false := by
  rw [beq_eq_false_iff_ne]
  intro e
  subst e
  revert h
  decide
theorem blank_not_mark (r : Int) (h : markB r = true) : (r == 32) = false := by
  rw [beq_eq_false_iff_ne]
  intro e
  subst e
  revert h
  decide

theorem len_snoc3 (a b : List Int) (r : Int) : (a ++ b ++ [r]).length = (a ++ b).length + 1 := by simp; omega
theorem len_nil3 (a b : List Int) (r : Int) : (a ++ b ++ [r] ++ []).length = (a ++ b).length + 1 := by simp; omega

theorem cut_good (whole : List Int) : ∀ (rs' pre0 run : List Int) (l : List Sg), whole = pre0 ++ run ++ rs' → (∀ r ∈ run, joinB r = true) → (∀ r ∈ rs', okR r = true) → GoodS whole pre0.length l → GoodS whole whole.length (cutGo l run (pre0 ++ run).length rs') := by
  intro rs'
  induction rs' with
  | nil =>
    intro pre0 run l hw hj _ hg
    have h := end_good hg hw (fun r hr => blank_not_join r (hj r hr)) _ rfl
    rw [List.append_nil] at hw
    simp only [cutGo]
    rw [← hw] at h ⊢
    exact h
  | cons r rs' ih =>
    intro pre0 run l hw hj hok hg
    have hok' : ∀ x ∈ rs', okR x = true := fun x hx => hok x (by simp [hx])
    cases h1 : joinB r
    · have he := end_good hg hw (fun r hr => blank_not_join r (hj r hr)) (((pre0 ++ run).length + 1 : Nat) : Int) (by omega)
      cases h2 : markB r
      · rw [cutGo_skip _ _ _ _ _ h1 h2]
        have h3 : (r == 32) = true := by
          have := hok r (by simp)
          simpa [okR, h1, h2] using this
        have h4 := ih (pre0 ++ run ++ [r]) [] (endR l run (((pre0 ++ run).length + 1 : Nat) : Int)) (by rw [hw]; simp) (by simp) hok' ?_
        · rw [len_nil3] at h4; exact h4
        · refine ⟨he.each, he.sorted, fun x hx => by have := he.below x hx; rw [len_snoc3]; omega, ?_⟩
          rw [he.text, hw, List.take_left' rfl, show pre0 ++ run ++ r :: rs' = (pre0 ++ run ++ [r]) ++ rs' from by simp, List.take_left' rfl, noBlank_append]
          simp [noBlank, h3]
      · rw [cutGo_mark _ _ _ _ _ h1 h2]
        have h5 := snoc_good (A := pre0 ++ run) (ws := [r]) (B := rs') he (by rw [hw]; simp) (by simp) (by intro x hx; simp at hx; subst hx; exact blank_not_mark x h2)
        have h4 := ih (pre0 ++ run ++ [r]) [] (endR l run (((pre0 ++ run).length + 1 : Nat) : Int) ++ [(Utf8.encode r, (((pre0 ++ run).length + 1 : Nat) : Int))]) (by rw [hw]; simp) (by simp) hok' (by rw [runesBytes_one] at h5; exact h5)
        rw [len_nil3] at h4
        exact h4
    · rw [cutGo_join _ _ _ _ _ h1]
      have h4 := ih pre0 (run ++ [r]) l (by rw [hw]; simp) (by
        intro x hx
        rcases List.mem_append.1 hx with h | h
        · exact hj x h
        · simp at h; subst h; exact h1) hok' hg
      rw [← List.append_assoc, len_snoc3] at h4
      exact h4

theorem okR_of_bad (rs : List Int) : ∀ p, badGo p rs = 0 → ∀ r ∈ rs, okR r = true := by
  induction rs with
  | nil => intro p _ r hr; simp at hr
  | cons a rs ih =>
    intro p h r hr
    cases ha : okR a
    · rw [badGo_no _ _ _ ha] at h; omega
    · rw [badGo_yes _ _ _ ha] at h
      rcases List.mem_cons.1 hr with rfl | h2
      · exact ha
      · exact ih _ h r h2

theorem sgOf_good (s : ByteArray) (h : badOf s = 0) : GoodS (runesOf s) (runesOf s).length (sgOf s) := by
  have := cut_good (runesOf s) (runesOf s) [] [] [] rfl (by simp) (okR_of_bad _ 0 h) ⟨by simp, by simp, by simp, rfl⟩
  exact this

/-- What is said of the sign at place k. -/
theorem sign_at {rs : List Int} {l : List Sg} (hv : ∀ r ∈ rs, Utf8.valid r = true) (h : GoodS rs rs.length l) (k : Nat) (hk : k < l.length) :
    ∃ A : Nat, l[k].2 = (A : Int) + 1 ∧ 0 < (runesOf l[k].1).length ∧ A + (runesOf l[k].1).length ≤ rs.length ∧ (∀ j, j < (runesOf l[k].1).length → (runesOf l[k].1)[j]? = rs[A + j]?) ∧ l[k].1.toList ≠ [] := by
  obtain ⟨A, ws, B, hne, hw, h1, h2⟩ := h.each l[k] (List.getElem_mem hk)
  have hws : ∀ r ∈ ws, Utf8.valid r = true := fun r hr => hv r (by rw [hw]; simp [hr])
  have e : runesOf l[k].1 = ws := by rw [h1]; exact runesOf_all ws hws
  refine ⟨A.length, h2, by rw [e]; exact List.length_pos_iff.2 hne, by rw [e, hw]; simp, ?_, ?_⟩
  · intro j hj
    rw [e] at hj ⊢
    rw [hw, List.append_assoc, List.getElem?_append_right (by omega), Nat.add_sub_cancel_left, List.getElem?_append_left hj]
  · rw [h1, ByteArray.toList_eq]
    intro h0
    exact hne ((runesBytes_nil_iff ws).1 h0)

theorem sign_order {rs : List Int} {l : List Sg} (h : GoodS rs rs.length l) (k : Nat) (hk : k + 1 < l.length) : l[k].2 < l[k + 1].2 :=
  List.pairwise_iff_getElem.1 h.sorted k (k + 1) (by omega) hk (by omega)

end Go.Proofs.Ytpopboanflnphaa
