/- Mix, whose last operation (a store) waits for all others, and may turn what the others read. -/
import Derived.Test.YtngjlkdpplmpaabMix3
import Derived.Test.YtngjlkdpplmpaabGrowL
namespace Go.Proofs.Ytngjlkdpplmpaab.Mx
open Go.RowKit
set_option linter.unusedVariables false

section
variable {P : Program} {ops : Array Oper} {md : Region.Mode} {C : World → Prop}
def wpAny4 (P : Program) (md : Region.Mode) (ops : Array Oper) (C : World → Prop) (jj : Nat) (Q : Act → World → Prop) : Nat → Array Bool → Act → World → Prop
  | 0, listed, a, w => (listed.getD jj false = false → C w) ∧ Region.ready md ops listed = [] ∧ Q a w
  | fuel + 1, listed, a, w => (listed.getD jj false = false → C w) ∧ Region.ready md ops listed ≠ [] ∧ ∀ i ∈ Region.ready md ops listed, ∀ o, ops[i]? = some o →
      (Region.wanted o (yielded ops a.tmps) = true ∧ stepK P o a w (fun u w' => wpAny4 P md ops C jj Q fuel (listed.setIfInBounds i true) (a.put o.dst u) w')) ∨
      (Region.wanted o (yielded ops a.tmps) = false ∧ wpAny4 P md ops C jj Q fuel (listed.setIfInBounds i true) (a.put o.dst undef) w)
theorem any_of_4 {jj : Nat} {Q : Act → World → Prop} {Q' : Exit → Act → World → Prop} (hQ : ∀ a w, Q a w → Q' .normal a w) : ∀ (fuel : Nat) (listed : Array Bool) (a : Act) (w : World), wpAny4 P md ops C jj Q fuel listed a w → wpAny P md ops Q' fuel listed a w
  | 0, _, _, _, h => ⟨h.2.1, hQ _ _ h.2.2⟩
  | fuel + 1, listed, a, w, h => ⟨fun h0 => absurd h0 h.2.1, fun i hi => by
      obtain ⟨_, o, ho, _⟩ := mem_ready.1 hi
      unfold wpOp
      simp only [ho]
      rcases h.2.2 i hi o ho with ⟨h1, h2⟩ | ⟨h1, h2⟩
      · rw [if_pos h1]
        exact .inl (wp_of_stepK (stepK_mono (fun u w' hk => any_of_4 hQ fuel _ _ w' hk) h2))
      · rw [if_neg (by rw [h1]; decide)]
        exact any_of_4 hQ fuel _ _ w h2⟩
theorem first4 {jj : Nat} {Q : Act → World → Prop} {i : Nat} {oi : Oper} {u : Value} (hwt : waitsAll md ops jj = true) (hin : i < jj) (hi : ops[i]? = some oi) (hsel : ∀ (j : Nat) (o : Oper) cs b, ops[j]? = some o → o.op ≠ .select cs b) :
    ∀ (fuel : Nat) (listed : Array Bool) (a : Act) (w : World),
      (∀ j oj, ops[j]? = some oj → j ≠ i → listed.getD j true = false → (∀ e ∈ oj.after, Region.binds md e = true → e.on ≠ i) → oi.apart ops oj = true) →
      i ∈ Region.ready md ops listed → listed.getD jj false = false → ((Region.wanted oi (yielded ops a.tmps) = true ∧ ∀ w, C w → stepK P oi a w (fun u' w' => u' = u ∧ w' = w)) ∨ (Region.wanted oi (yielded ops a.tmps) = false ∧ u = undef)) →
      wpAny4 P md ops C jj Q fuel (listed.setIfInBounds i true) (a.put oi.dst u) w → wpAny4 P md ops C jj Q (fuel + 1) listed a w := by
  have hij : i ≠ jj := by omega
  intro fuel
  induction fuel with
  | zero =>
    intro listed a w hfree hr hlj hst h
    have hc : C w := h.1 (by rw [getD_set_ne false hij]; exact hlj)
    refine ⟨fun _ => hc, fun h0 => (by rw [h0] at hr; cases hr), fun j hj o ho => ?_⟩
    by_cases hji : j = i
    · subst hji
      rw [hi] at ho
      cases ho
      rcases hst with ⟨hw, hst⟩ | ⟨hw, hu⟩
      · exact .inl ⟨hw, stepK_mono (fun u' w' hu => by rw [hu.1, hu.2]; exact h) (hst w hc)⟩
      · exact .inr ⟨hw, by rw [← hu]; exact h⟩
    · have := ready_mono hj hji
      rw [h.2.1] at this
      cases this
  | succ fuel ih =>
    intro listed a w hfree hr hlj hst h
    have hc : C w := h.1 (by rw [getD_set_ne false hij]; exact hlj)
    refine ⟨fun _ => hc, fun h0 => (by rw [h0] at hr; cases hr), fun j hj oj hoj => ?_⟩
    by_cases hji : j = i
    · subst hji
      rw [hi] at hoj
      cases hoj
      rcases hst with ⟨hw, hst⟩ | ⟨hw, hu⟩
      · exact .inl ⟨hw, stepK_mono (fun u' w' hu => by rw [hu.1, hu.2]; exact h) (hst w hc)⟩
      · exact .inr ⟨hw, by rw [← hu]; exact h⟩
    · obtain ⟨hjun, oj', hoj', hall⟩ := mem_ready.1 hj
      rw [hoj] at hoj'
      cases hoj'
      have hjj : j ≠ jj := fun e => last_waits hwt hin (mem_ready.1 hr).1 (e ▸ hj)
      have hnot : ∀ e ∈ oj.after, Region.binds md e = true → e.on ≠ i := fun e he hb heq => by
        have h1 := hall e he hb
        have h0 := (mem_ready.1 hr).1
        rw [heq] at h1
        rcases Nat.lt_or_ge i listed.size with h' | h'
        · simp [h'] at h0 h1; rw [h0] at h1; cases h1
        · simp [Array.getElem?_eq_none h'] at h1
      obtain ⟨p1, p2, p3⟩ := Oper.apart_spec (hfree j oj hoj hji hjun hnot)
      have hfree' : ∀ k ok, ops[k]? = some ok → k ≠ i → (listed.setIfInBounds j true).getD k true = false →
          (∀ e ∈ ok.after, Region.binds md e = true → e.on ≠ i) → oi.apart ops ok = true := fun k ok hk hki hun hno => by
        refine hfree k ok hk hki ?_ hno
        by_cases hjk : j = k
        · subst hjk; exact hjun
        · rw [getD_set_ne true hjk] at hun; exact hun
      have next : ∀ (v : Value) (w' : World), wpAny4 P md ops C jj Q fuel ((listed.setIfInBounds i true).setIfInBounds j true) ((a.put oi.dst u).put oj.dst v) w' → wpAny4 P md ops C jj Q (fuel + 1) (listed.setIfInBounds j true) (a.put oj.dst v) w' := fun v w' hk => by
        refine ih (listed.setIfInBounds j true) (a.put oj.dst v) w' hfree' (ready_mono hr (Ne.symm hji)) (by rw [getD_set_ne false hjj]; exact hlj) ?_ ?_
        · rw [wanted_put oi a oj.dst v p3]
          rcases hst with ⟨hw, hst⟩ | hst
          · refine .inl ⟨hw, fun w hw => ?_⟩
            have := hst w hw
            unfold stepK at this ⊢
            rw [execOp_put oi (fun cs b => hsel i oi cs b hi) a oj.dst v p3]
            exact this
          · exact .inr hst
        · rw [Array.setIfInBounds_comm _ _ hji, ← Act.put_comm a u v p2]
          exact hk
      rcases h.2.2 j (ready_mono hj hji) oj hoj with ⟨h1, h2⟩ | ⟨h1, h2⟩
      · refine .inl ⟨by rw [wanted_put oj a oi.dst u p1] at h1; exact h1, ?_⟩
        unfold stepK at h2 ⊢
        rw [execOp_put oj (fun cs b => hsel j oj cs b hoj) a oi.dst u p1] at h2
        exact stepK_mono (o := oj) (a := a) (w := w) (fun v w' hk => next v w' hk) h2
      · exact .inr ⟨by rw [wanted_put oj a oi.dst u p1] at h1; exact h1, next undef w h2⟩
/-- C is known of each world until operation jj, the last. -/
def mix4 (P : Program) (ops : Array Oper) (C : World → Prop) (jj : Nat) (Q : Act → World → Prop) : List (Oper × Nat × Bool) → Act → World → Prop
  | [], a, w => Q a w
  | (o, i, true) :: r, a, w => Region.wanted o (yielded ops a.tmps) = true ∧ stepK P o a w (fun u w' => (i ≠ jj → C w') ∧ mix4 P ops C jj Q r (a.put o.dst u) w')
  | (o, i, false) :: r, a, w => i < jj ∧ ∃ u, ((Region.wanted o (yielded ops a.tmps) = true ∧ ∀ w, C w → stepK P o a w (fun u' w' => u' = u ∧ w' = w)) ∨ (Region.wanted o (yielded ops a.tmps) = false ∧ u = undef)) ∧ mix4 P ops C jj Q r (a.put o.dst u) w
def lastB (jj : Nat) : List (Nat × Bool) → Bool
  | [] => true
  | (i, _) :: r => (i != jj || r.isEmpty) && lastB jj r
theorem any4_of_mix {jj : Nat} {Q : Act → World → Prop} (hs : Region.noSelect ops = true) (hwt : waitsAll md ops jj = true) : ∀ (plan : List (Nat × Bool)) (L : List (Oper × Nat × Bool)) (listed : Array Bool) (a : Act) (w : World), plan.map (fun p => (ops[p.1]?, p.1, p.2)) = L.map (fun q => (some q.1, q.2.1, q.2.2)) →
    planB md ops plan listed = true → lastB jj plan = true → (listed.getD jj false = true → plan = []) → jj < listed.size → (listed.getD jj false = false → C w) → mix4 P ops C jj Q L a w → wpAny4 P md ops C jj Q plan.length listed a w
  | [], L, listed, a, w, hL, hB, hlb, hp, hz, hC, h => by
    cases L with
    | nil => exact ⟨hC, by simpa [planB] using hB, h⟩
    | cons q L => simp at hL
  | (i, al) :: r, L, listed, a, w, hL, hB, hlb, hp, hz, hC, h => by
    cases L with
    | nil => simp at hL
    | cons q L =>
      obtain ⟨o, i', al'⟩ := q
      simp only [List.map_cons, List.cons.injEq, Prod.mk.injEq] at hL
      obtain ⟨⟨ho, rfl, rfl⟩, hL'⟩ := hL
      simp only [planB, Bool.and_eq_true] at hB
      obtain ⟨⟨hr, hf⟩, hB'⟩ := hB
      have hr' : i ∈ Region.ready md ops listed := by simpa using hr
      have hz' : jj < (listed.setIfInBounds i true).size := by simpa using hz
      have hlj : listed.getD jj false = false := by
        cases hx : listed.getD jj false with
        | false => rfl
        | true => have := hp hx; cases this
      simp only [lastB, Bool.and_eq_true] at hlb
      have hp' : (listed.setIfInBounds i true).getD jj false = true → r = [] := fun hx => by
        by_cases e : i = jj
        · have h1 := hlb.1
          subst e
          simpa using h1
        · rw [getD_set_ne false e, hlj] at hx
          cases hx
      cases al with
      | true =>
        simp only [if_true, List.all_eq_true, beq_iff_eq] at hf
        obtain ⟨h1, h2⟩ := h
        refine ⟨hC, fun h0 => (by rw [h0] at hr'; cases hr'), fun j hj oj hoj => ?_⟩
        have hji := hf j hj
        subst hji
        rw [ho] at hoj
        cases hoj
        refine .inl ⟨h1, stepK_mono (fun u w' hk => any4_of_mix hs hwt r L _ _ w' hL' hB' hlb.2 hp' hz' (fun hx => hk.1 (fun e => ?_)) hk.2) h2⟩
        subst e
        simp [hz] at hx
      | false =>
        simp only [Bool.false_eq_true, if_false] at hf
        obtain ⟨hij, u, h2, h3⟩ := h
        exact first4 hwt hij ho (Region.noSelect_spec hs) r.length listed a w (Region.free_spec ho hf) hr' hlj h2 (any4_of_mix hs hwt r L _ _ w hL' hB' hlb.2 hp' hz' (fun hx => hC hlj) h3)
/-- One walk serves every order; the last operation waits for all others. -/
theorem wp_region_mix4 {id : Nat} {Q : Exit → Act → World → Prop} {a : Act} {w : World} {l : List Oper} (C : World → Prop) (jj : Nat) (plan : List (Nat × Bool)) (hm : P.follows .mixedOrders = true)
    (hB : (Region.noSelect l.toArray && planB .any l.toArray plan (Array.replicate l.length false) && lastB jj plan && waitsAll .any l.toArray jj && plan.length == l.length) = true) (hC : C w.drew)
    (h : mix4 P l.toArray C jj (fun a w => Q .normal a w) (plan.map fun p => (l.getD p.1 default, p.1, p.2)) a w.drew) (hin : (plan.all (fun p => p.1 < l.length) && decide (jj < l.length)) = true) : (Code.region id l.toArray true).wp P Q a w := by
  simp only [Bool.and_eq_true, beq_iff_eq, decide_eq_true_eq] at hB hin
  refine wp_region_any hm (any_of_4 (C := C) (jj := jj) (Q := fun a w => Q .normal a w) (fun _ _ h => h) _ _ _ _ ?_)
  have := any4_of_mix (C := C) (jj := jj) (md := .any) hB.1.1.1.1 hB.1.2 plan _ (Array.replicate l.length false) a w.drew (by
    rw [List.map_map]
    apply List.map_congr_left
    intro p hp
    have hlt : p.1 < l.length := by simpa using List.all_eq_true.1 hin.1 p hp
    simp [List.getD, List.getElem?_eq_getElem hlt]) hB.1.1.1.2 hB.1.1.2 (fun x => by simp [hin.2] at x) (by simpa using hin.2) (fun _ => hC) h
  rw [hB.2] at this
  simpa using this
variable {jj : Nat} {Q : Act → World → Prop}
theorem l_pure {o : Oper} {i : Nat} {r : List (Oper × Nat × Bool)} {a : Act} {w : World} (v : Value) (hij : i < jj) (hw : Region.wanted o (yielded ops a.tmps) = true) (h : ∀ w, C w → (execOp a.eval o).run P w = .ok (.value v) w) (hk : mix4 P ops C jj Q r (a.put o.dst v) w) : mix4 P ops C jj Q ((o, i, false) :: r) a w :=
  ⟨hij, v, .inl ⟨hw, fun w h1 => by unfold stepK; rw [h w h1]; exact ⟨rfl, rfl⟩⟩, hk⟩
/-- What is left out. -/
theorem l_skip {o : Oper} {i : Nat} {r : List (Oper × Nat × Bool)} {a : Act} {w : World} (hij : i < jj) (hw : Region.wanted o (yielded ops a.tmps) = false) (hk : mix4 P ops C jj Q r (a.put o.dst undef) w) : mix4 P ops C jj Q ((o, i, false) :: r) a w := ⟨hij, undef, .inr ⟨hw, rfl⟩, hk⟩
theorem l_call {o : Oper} {i : Nat} {r : List (Oper × Nat × Bool)} {a : Act} {w : World} (f : FuncId) (args : Array Value) (hw : Region.wanted o (yielded ops a.tmps) = true) (h : (execOp a.eval o).run P w = .ok (.enter f args) w)
    (hc : Calls P f args w (fun e w' => ∃ v, e = .returned v ∧ C w' ∧ mix4 P ops C jj Q r (a.put o.dst v) w')) : mix4 P ops C jj Q ((o, i, true) :: r) a w := by
  refine ⟨hw, ?_⟩
  unfold stepK
  rw [h]
  exact ⟨rfl, hc.mono fun e w' ⟨v, h1, h2, h3⟩ => ⟨v, h1, fun _ => h2, h3⟩⟩
theorem l_run {o : Oper} {i : Nat} {r : List (Oper × Nat × Bool)} {a : Act} {w w' : World} (v : Value) (hw : Region.wanted o (yielded ops a.tmps) = true) (h : (execOp a.eval o).run P w = .ok (.value v) w') (hC : C w') (hk : mix4 P ops C jj Q r (a.put o.dst v) w') : mix4 P ops C jj Q ((o, i, true) :: r) a w := by
  refine ⟨hw, ?_⟩
  unfold stepK
  rw [h]
  exact ⟨fun _ => hC, hk⟩
/-- The last one, a store. -/
theorem l_last {o : Oper} {a : Act} {w w' : World} (hw : Region.wanted o (yielded ops a.tmps) = true) (h : (execOp a.eval o).run P w = .ok .skip w') (hk : Q (a.put o.dst undef) w') : mix4 P ops C jj Q [(o, jj, true)] a w := by
  refine ⟨hw, ?_⟩
  unfold stepK
  rw [h]
  exact ⟨fun e => absurd rfl e, hk⟩
theorem unwanted_undef {ops : Array Oper} {a : Act} {o : Oper} (j d : Nat) (want : Bool) (hg : o.guard = some (j, want)) (hd : (ops[j]?).bind (·.dst) = some d) (hv : a.tmps[d]? = some undef) : Region.wanted o (yielded ops a.tmps) = false := by
  unfold Region.wanted yielded
  rw [hg]
  simp only [hd, Option.bind_some, hv]
  cases want <;> rfl
end

end Go.Proofs.Ytngjlkdpplmpaab.Mx
