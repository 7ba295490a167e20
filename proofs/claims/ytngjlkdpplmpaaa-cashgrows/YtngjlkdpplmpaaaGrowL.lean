/- A region that draws its order, as in Grow, whose last operation waits for all others and may do what it will. -/
import Derived.Test.YtngjlkdpplmpaaaGrow
namespace Go.Proofs.Ytngjlkdpplmpaaa
open Go.RowKit
set_option linter.unusedVariables false

section
variable {P : Program} {ops : Array Oper} {md : Region.Mode} {C : World → Prop} {Le : World → World → Prop} {M : Nat → Mode} {n : Nat}
/-- The last operation waits for all others. -/
def waitsAll (md : Region.Mode) (ops : Array Oper) (n : Nat) : Bool := (List.range n).all fun i => (ops[n]?).any fun o => o.after.any fun e => Region.binds md e && e.on == i
theorem waits_spec (h : waitsAll md ops n = true) {i : Nat} (hi : i < n) : ∃ o, ops[n]? = some o ∧ ∃ e ∈ o.after, Region.binds md e = true ∧ e.on = i := by
  unfold waitsAll at h
  rw [List.all_eq_true] at h
  have h1 := h i (List.mem_range.2 hi)
  cases ho : ops[n]? with
  | none => rw [ho] at h1; simp at h1
  | some o =>
    rw [ho] at h1
    simp only [Option.any_some] at h1
    rw [Array.any_eq_true] at h1
    obtain ⟨j, hj, h2⟩ := h1
    simp only [Bool.and_eq_true, beq_iff_eq] at h2
    exact ⟨o, rfl, o.after[j], Array.getElem_mem _, h2.1, h2.2⟩
theorem last_waits (h : waitsAll md ops n = true) {i : Nat} (hi : i < n) {listed : Array Bool} (hun : listed.getD i true = false) : n ∉ Region.ready md ops listed := by
  intro hr
  obtain ⟨o, ho, e, he, hb, hon⟩ := waits_spec h hi
  obtain ⟨_, o', ho', hall⟩ := mem_ready.1 hr
  rw [ho] at ho'
  injection ho' with ho'
  subst ho'
  have h1 := hall e he hb
  rw [hon] at h1
  rcases Nat.lt_or_ge i listed.size with h' | h'
  · simp [h'] at hun h1; rw [hun] at h1; cases h1
  · simp [Array.getElem?_eq_none h'] at h1
def wpAnyL (P : Program) (md : Region.Mode) (ops : Array Oper) (C : World → Prop) (Le : World → World → Prop) (M : Nat → Mode) (n : Nat) (Q : Act → Kn → Prop) : Nat → Array Bool → Act → Kn → Prop
  | 0, listed, a, k => Region.ready md ops listed ≠ [] ∧ (∀ j ∈ Region.ready md ops listed, j = n) ∧ Region.ready md ops (listed.setIfInBounds n true) = [] ∧ Q a k
  | fuel + 1, listed, a, k => Region.ready md ops listed ≠ [] ∧ (∀ j ∈ Region.ready md ops listed, j ≠ n) ∧ ∀ i ∈ Region.ready md ops listed, gOp P ops C Le M i (wpAnyL P md ops C Le M n Q fuel (listed.setIfInBounds i true)) a k
theorem wpAny_of_growL {Q : Act → Kn → Prop} {Q' : Exit → Act → World → Prop} (hCL : ∀ w w', C w → Le w w' → C w') (hQ : ∀ a k w, C w → (∀ s, k s w) → Q a k → wpOp P ops Q' n (fun a w => Q' .normal a w) a w) : ∀ (fuel : Nat) (listed : Array Bool) (a : Act) (k : Kn) (w : World), Stays Le k → C w → (∀ s, k s w) →
    wpAnyL P md ops C Le M n Q fuel listed a k → wpAny P md ops Q' (fuel + 1) listed a w
  | 0, _, _, _, _, hs, hw, hk, h => ⟨fun h0 => absurd h0 h.1, fun i hi => by
      have := h.2.1 i hi
      subst this
      exact wpOp_mono (fun a w hq => ⟨h.2.2.1, hq⟩) (hQ _ _ _ hw hk h.2.2.2)⟩
  | fuel + 1, _, _, _, _, hs, hw, hk, h => ⟨fun h0 => absurd h0 h.1, fun i hi => wpOp_of_gOp hCL hs hw hk (fun a' k' w' hs' hw' hk' => wpAny_of_growL hCL hQ fuel _ a' k' w' hs' hw' hk') (h.2.2 i hi)⟩
theorem wpAnyL_first {Q : Act → Kn → Prop} {i : Nat} {oi : Oper} {ok : Value → Prop} {f : Value → World → Prop} (hwt : waitsAll md ops n = true) (hin : i < n) (hi : ops[i]? = some oi) (hsel : ∀ (j : Nat) (o : Oper) cs b, ops[j]? = some o → o.op ≠ .select cs b) :
    ∀ (fuel : Nat) (listed : Array Bool) (a : Act) (k : Kn),
      (∀ j oj, ops[j]? = some oj → j ≠ i → listed.getD j true = false → (∀ e ∈ oj.after, Region.binds md e = true → e.on ≠ i) → oi.apart ops oj = true) →
      i ∈ Region.ready md ops listed → YieldsG P ops C Le (M i) oi ok f a k →
      (∀ u, ok u → wpAnyL P md ops C Le M n Q fuel (listed.setIfInBounds i true) (a.put oi.dst u) (kput k oi.dst (f u))) → wpAnyL P md ops C Le M n Q (fuel + 1) listed a k := by
  intro fuel
  induction fuel with
  | zero =>
    intro listed a k _ hr hy H
    have hnl : ∀ j ∈ Region.ready md ops listed, j ≠ n := fun j hj e => last_waits hwt hin (mem_ready.1 hr).1 (e ▸ hj)
    refine ⟨fun h => (by rw [h] at hr; cases hr), hnl, fun j hj => ?_⟩
    by_cases hji : j = i
    · subst hji; exact hy.gOp hi H
    · obtain ⟨u0, hu0⟩ := yields_some hy
      exact absurd ((H u0 hu0).2.1 j (ready_mono hj hji)) (hnl j hj)
  | succ fuel ih =>
    intro listed a k hfree hr hy H
    have hnl : ∀ j ∈ Region.ready md ops listed, j ≠ n := fun j hj e => last_waits hwt hin (mem_ready.1 hr).1 (e ▸ hj)
    refine ⟨fun h => (by rw [h] at hr; cases hr), hnl, fun j hj => ?_⟩
    by_cases hji : j = i
    · subst hji; exact hy.gOp hi H
    · have h1 : ∀ u, ok u → _ := fun u hu => (H u hu).2.2 j (ready_mono hj hji)
      obtain ⟨hjun, oj, hoj, hall⟩ := mem_ready.1 hj
      have hnot : ∀ e ∈ oj.after, Region.binds md e = true → e.on ≠ i := fun e he hb heq => by
        have h1 := hall e he hb
        have h0 := (mem_ready.1 hr).1
        rw [heq] at h1
        rcases Nat.lt_or_ge i listed.size with h' | h'
        · simp [h'] at h0 h1; rw [h0] at h1; cases h1
        · simp [Array.getElem?_eq_none h'] at h1
      have h2 := gOp_put hoj (hfree j oj hoj hji hjun hnot) (fun cs b => hsel i oi cs b hi) (fun cs b => hsel j oj cs b hoj) hy h1
      have hfree' : ∀ k ok, ops[k]? = some ok → k ≠ i → (listed.setIfInBounds j true).getD k true = false →
          (∀ e ∈ ok.after, Region.binds md e = true → e.on ≠ i) → oi.apart ops ok = true := fun k ok hk hki hun hno => by
        refine hfree k ok hk hki ?_ hno
        by_cases hjk : j = k
        · subst hjk; exact hjun
        · rw [getD_set_ne true hjk] at hun; exact hun
      refine gOp_mono (fun a' k' h3 => ih (listed.setIfInBounds j true) a' k' hfree' (ready_mono hr (Ne.symm hji)) h3.1 (fun u hu => ?_)) h2
      rw [Array.setIfInBounds_comm _ _ hji]
      exact h3.2 u hu
theorem wpAnyL_lex {Q : Act → Kn → Prop} (hs : Region.noSelect ops = true) (hwt : waitsAll md ops n = true) : ∀ (l : List Oper) (i : Nat) (listed : Array Bool) (a : Act) (k : Kn), i + l.length = n → (∀ j, j < l.length → l[j]? = ops[i + j]?) →
    Region.lexFrom md ops (l.length + 1) i listed = true → wpGrow P ops C Le M Q i l a k → wpAnyL P md ops C Le M n Q l.length listed a k
  | [], i, listed, _, _, hn, _, hB, h => by
    have hin : i = n := by simpa using hn
    subst hin
    simp only [List.length_nil, Region.lexFrom, Bool.and_eq_true, List.isEmpty_iff] at hB
    obtain ⟨⟨hr, hf⟩, he⟩ := hB
    have hr' : i ∈ Region.ready md ops listed := by simpa using hr
    refine ⟨fun h0 => (by rw [h0] at hr'; cases hr'), fun j hj => ?_, he, h⟩
    by_cases hji : j = i
    · exact hji
    · have := ready_mono hj hji
      rw [he] at this
      cases this
  | o :: l, i, listed, a, k, hn, hl, hB, h => by
    have h0 : ops[i]? = some o := by simpa using (hl 0 (by simp)).symm
    simp only [List.length_cons] at hn
    rw [List.length_cons] at hB
    unfold Region.lexFrom at hB
    simp only [Bool.and_eq_true] at hB
    obtain ⟨⟨hr, hf⟩, hB'⟩ := hB
    have hst : gOp P ops C Le M i (wpGrow P ops C Le M Q (i + 1) l) a k := by unfold gOp; simp only [h0]; exact h
    obtain ⟨ok, f, hy, hK⟩ := yieldsG_of_gOp h0 hst
    exact wpAnyL_first hwt (by omega) h0 (Region.noSelect_spec hs) l.length listed a k (Region.free_spec h0 hf) (by simpa using hr) hy
      (fun u hu => wpAnyL_lex hs hwt l (i + 1) _ _ _ (by omega) (fun j hj => by have := hl (j + 1) (by simp; omega); simpa [Nat.add_assoc, Nat.add_comm 1 j] using this) hB' (hK u hu))
/-- All but the last in the text's order, then the last. -/
theorem wp_region_growL {id : Nat} {Q : Exit → Act → World → Prop} {a : Act} {w : World} {l : List Oper} {o : Oper} {L : List Oper} (C : World → Prop) (Le : World → World → Prop) (M : Nat → Mode) (hm : P.follows .mixedOrders = true) (hL : L = l ++ [o]) (hB : Region.lexB .any L.toArray = true) (hwt : waitsAll .any L.toArray l.length = true) (hCL : ∀ w w', C w → Le w w' → C w') (hC : C w.drew)
    (h : wpGrow P L.toArray C Le M (fun a' k' => ∀ w', C w' → (∀ s, k' s w') → wpList P L.toArray Q [o] a' w') 0 l a (fun _ _ => True)) : (Code.region id L.toArray true).wp P Q a w := by
  simp only [Region.lexB, Bool.and_eq_true] at hB
  have hsz : L.toArray.size = l.length + 1 := by rw [hL]; simp
  have ho : L.toArray[l.length]? = some o := by rw [hL]; simp
  refine wp_region_any hm ?_
  rw [hsz]
  refine wpAny_of_growL (M := M) (n := l.length) (Q := fun a' k' => ∀ w', C w' → (∀ s, k' s w') → wpList P L.toArray Q [o] a' w') hCL (fun a k w' hw' hk h => ?_) _ _ _ (fun _ _ => True) _ (fun _ _ _ _ h => h) hC (fun _ => trivial) ?_
  · have := h w' hw' hk
    unfold wpList at this
    unfold wpOp
    simp only [ho]
    exact this
  · have hB2 := hB.2
    rw [hsz] at hB2
    exact wpAnyL_lex (C := C) (Le := Le) (M := M) (md := .any) hB.1 hwt l 0 _ a (fun _ _ => True) (by simp) (fun j hj => by rw [hL]; simp [List.getElem?_append_left hj]) hB2 h
end

end Go.Proofs.Ytngjlkdpplmpaaa
