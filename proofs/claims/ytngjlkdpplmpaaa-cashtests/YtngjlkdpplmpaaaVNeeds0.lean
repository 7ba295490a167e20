/- What more comes to be known of a number's own names: pure facts for ValueNeeds. -/
import Derived.Test.YtngjlkdpplmpaaaV3
namespace Go.Proofs.Ytngjlkdpplmpaaa.Vl
open Go.RowKit Wd Cn
set_option linter.unusedVariables false

def addK (K : KW) (d v : Int) (l : List ByteArray) : KW := ⟨K.F ++ l.map fun s => ((s, d), v), K.C⟩
theorem addK_nil (K : KW) (d v : Int) : addK K d v [] = K := by simp [addK]
theorem addK_snoc (K : KW) (d v : Int) (l : List ByteArray) (s : ByteArray) : (⟨(addK K d v l).F ++ [((s, d), v)], (addK K d v l).C⟩ : KW) = addK K d v (l ++ [s]) := by simp [addK]
theorem fixed_none (K : KW) (p : ByteArray × Int) : K.fixed p = none ↔ ∀ q ∈ K.F, q.1 ≠ p := find_none K.F p
theorem addK_none (K : KW) (d v : Int) (l : List ByteArray) (s : ByteArray) : (addK K d v l).fixed (s, d) = none ↔ K.fixed (s, d) = none ∧ s ∉ l := by
  rw [fixed_none, fixed_none]
  simp only [addK, List.mem_append, List.mem_map]
  constructor
  · intro h
    exact ⟨fun q hq => h q (.inl hq), fun hs => h _ (.inr ⟨s, hs, rfl⟩) rfl⟩
  · rintro ⟨h1, h2⟩ q (hq | ⟨t, ht, rfl⟩)
    · exact h1 q hq
    · intro e
      simp at e
      subst e
      exact h2 ht
theorem addN_nodup (acc : List ByteArray) (s : ByteArray) (h : acc.Nodup) : (addN acc s).Nodup := by
  unfold addN
  split
  · exact h
  · rename_i h1
    rw [inN_iff] at h1
    rw [List.nodup_append]
    refine ⟨h, by simp, ?_⟩
    intro a ha b hb e
    simp at hb
    subst hb e
    exact h1 ha
theorem addAll_nodup (l : List ByteArray) : ∀ acc : List ByteArray, acc.Nodup → (addAll acc l).Nodup := by
  induction l with
  | nil => intro acc h; exact h
  | cons x l ih => intro acc h; exact ih _ (addN_nodup acc x h)
theorem names_nodup (o : O) : o.names.Nodup := addAll_nodup _ _ (by simp)
theorem lackN_nodup (K : KW) (d : Int) (l : List ByteArray) (h : l.Nodup) : (lackN K d l).Nodup := h.filter _
theorem leaves (o : O) : o.all.length * 2 ≤ o.nodes + 1 := by
  induction o <;> simp [O.all, O.nodes] <;> omega
theorem names_few (o : O) : o.names.length * 2 ≤ o.nodes + 1 := by
  have h1 := addAll_length o.all []
  have h2 := leaves o
  simp at h1
  show (addAll [] o.all).length * 2 ≤ _
  omega
theorem all_names (o : O) (h : formB o = true) : ∀ s ∈ o.all, nameGo 0 (runesOf s) = true := by
  induction o with
  | const n => intro s hs; simp [O.all] at hs
  | fix t => intro s hs; simp [O.all] at hs; subst hs; exact h
  | add l r hl hr => simp only [formB, Bool.and_eq_true] at h; intro s hs; simp only [O.all, List.mem_append] at hs; exact hs.elim (hl h.1 s) (hr h.2 s)
  | neg o ho => intro s hs; exact ho h s hs
  | mul l r hl hr => simp only [formB, Bool.and_eq_true] at h; intro s hs; simp only [O.all, List.mem_append] at hs; exact hs.elim (hl h.1 s) (hr h.2 s)
  | max l r hl hr => simp only [formB, Bool.and_eq_true] at h; intro s hs; simp only [O.all, List.mem_append] at hs; exact hs.elim (hl h.1 s) (hr h.2 s)
  | odd v => intro s hs; simp [O.all] at hs
theorem names_form (o : O) (h : formB o = true) : ∀ s ∈ o.names, nameGo 0 (runesOf s) = true := fun s hs => all_names o h s ((mem_names o s).1 hs)
theorem lack_mem {K : KW} {d : Int} {l : List ByteArray} {s : ByteArray} (h : s ∈ lackN K d l) : s ∈ l ∧ K.fixed (s, d) = none := by
  unfold lackN at h
  rw [List.mem_filter] at h
  refine ⟨h.1, ?_⟩
  cases hx : K.fixed (s, d) with
  | none => rfl
  | some v => rw [hx] at h; simp at h
/-- What is told of a step: the name lacks, and stands next among those that lack. -/
theorem lack_take (K : KW) (d : Int) (l : List ByteArray) (i : Nat) (hi : i < l.length) (h : (K.fixed (l[i], d)).isSome = false) :
    ∃ hk : (lackN K d (l.take i)).length < (lackN K d l).length, (lackN K d l)[(lackN K d (l.take i)).length]'hk = l[i] := by
  have e : lackN K d l = lackN K d (l.take i) ++ (l[i] :: lackN K d (l.drop (i + 1))) := by
    have e1 : l = l.take i ++ (l[i] :: l.drop (i + 1)) := by rw [← List.drop_eq_getElem_cons hi, List.take_append_drop]
    conv => lhs; rw [e1]
    unfold lackN
    rw [List.filter_append, List.filter_cons_of_pos (by simp [h])]
  refine ⟨by rw [e]; simp, ?_⟩
  simp only [e, List.getElem_append_right (Nat.le_refl _), Nat.sub_self, List.getElem_cons_zero]
theorem addK_all (K : KW) (d v : Int) (o : O) (hc : chk o = 0) : needR (addK K d v (lackN K d o.names)) d o = [] := by
  unfold needR
  rw [if_pos hc]
  unfold lackN
  rw [List.filter_eq_nil_iff]
  intro s hs
  simp only [Bool.not_eq_true', Bool.not_eq_false]
  cases hx : (addK K d v (List.filter (fun s => !(K.fixed (s, d)).isSome) o.names)).fixed (s, d) with
  | some u => rfl
  | none =>
    exfalso
    obtain ⟨h1, h2⟩ := (addK_none _ _ _ _ _).1 hx
    apply h2
    rw [List.mem_filter]
    exact ⟨hs, by rw [h1]; rfl⟩
theorem addK_vals (K : KW) (d v : Int) (l : List ByteArray) (h : KW.Vals K) (hv : vB v = true) : KW.Vals (addK K d v l) := by
  intro q hq
  simp only [addK, List.mem_append, List.mem_map] at hq
  rcases hq with hq | ⟨t, ht, rfl⟩
  · exact h q hq
  · exact hv
/-- What is known where no name lacks. -/
theorem full_of (K : KW) (hK : KW.Vals K) (d : Int) (o : O) (hc : chk o = 0) (hn : needR K d o = []) : (ofR K d o).e = 0 ∧ (ofR K d o).known = true ∨ (ofR K d o).e = 6 ∧ (ofR K d o).known = false := by
  have hg := rk_good hK d o (chk_form hc)
  have ho : ofR K d o = rk K d o := by unfold ofR; rw [if_pos hc]
  rcases hg.errs with h | h
  · left
    refine ⟨by rw [ho]; exact h, ?_⟩
    have := of_needs K d o (by rw [ho]; exact h)
    rw [this, hn]
    rfl
  · right
    rw [ho]
    exact ⟨h, (hg.err (by rw [h]; decide)).2⟩
theorem fixN_vals (K : KW) (s : ByteArray) (d v : Int) (h : KW.Vals K) : KW.Vals (fixN K s d v) := by
  unfold fixN
  split
  · rename_i h0
    intro q hq
    simp only [List.mem_append, List.mem_singleton] at hq
    rcases hq with hq | rfl
    · exact h q hq
    · unfold fixE at h0
      split at h0
      · cases h0
      · rename_i h1
        have : (nameGo 0 (runesOf s) && Wd.dayB d && vB v) = true := by
          cases hx : (nameGo 0 (runesOf s) && Wd.dayB d && vB v)
          · exact absurd hx h1
          · rfl
        simp only [Bool.and_eq_true] at this
        exact this.2
  · exact h
theorem fixN_length (K : KW) (s : ByteArray) (d v : Int) : (fixN K s d v).F.length ≤ K.F.length + 1 := by
  unfold fixN
  split <;> simp
theorem in_base {w W W' : World} {p f c : Nat} {K : KW} (h : In W W' p f c K) (hb : Below w.heap.size w W) : In w W' p f c K :=
  ⟨h.kin, hb.trans (h.below.mono hb.size), Nat.le_trans hb.size h.hp, Nat.le_trans hb.size h.hf, Nat.le_trans hb.size h.hc⟩
theorem step_fixE (K : KW) (d v : Int) (l : List ByteArray) (i : Nat) (hi : i < l.length) (hnd : l.Nodup) (hn : nameGo 0 (runesOf l[i]) = true) (hd : Wd.dayB d = true) (hv : vB v = true) (hf : K.fixed (l[i], d) = none) (hlen : K.F.length + l.length < 32) :
    fixE (addK K d v (l.take i)) l[i] d v = 0 ∧ fixN (addK K d v (l.take i)) l[i] d v = addK K d v (l.take (i + 1)) := by
  have hmem : l[i] ∉ l.take i := by
    intro h
    obtain ⟨j, hj, e⟩ := List.getElem_of_mem h
    rw [List.getElem_take] at e
    have hj' : j < i := by rw [List.length_take] at hj; omega
    exact (List.pairwise_iff_getElem.1 hnd) j i (by omega) hi hj' e
  have hx : (addK K d v (l.take i)).fixed (l[i], d) = none := (addK_none _ _ _ _ _).2 ⟨hf, hmem⟩
  have h0 : fixE (addK K d v (l.take i)) l[i] d v = 0 := by
    unfold fixE
    rw [hn, hd, hv, hx]
    have : ¬ 32 ≤ (addK K d v (l.take i)).F.length := by simp [addK]; omega
    rw [if_neg (by simp), if_neg (by simp), if_neg this]
  refine ⟨h0, ?_⟩
  unfold fixN
  rw [if_pos h0, addK_snoc, take_more l i l[i] (List.getElem?_eq_getElem hi)]

end Go.Proofs.Ytngjlkdpplmpaaa.Vl
