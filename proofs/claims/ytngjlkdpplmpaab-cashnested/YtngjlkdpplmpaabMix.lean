/- A region that draws its order and whose calls stand in a row: what only reads what stays may come first, in the text's order; what is left comes in the one order that it can: so one walk serves every order, whatever the calls do. -/
import Derived.Test.YtngjlkdpplmpaabBase
namespace Go.Proofs.Ytngjlkdpplmpaab.Mx
open Go.RowKit
set_option linter.unusedVariables false

section
variable {P : Program} {ops : Array Oper} {md : Region.Mode} {C : World → Prop}

/-- An operation run to its end. -/
def uponK (P : Program) (K : Value → World → Prop) (w : World) : Result Next → Prop
  | .ok (.value u) w' => K u w'
  | .ok .skip w' => K undef w'
  | .ok (.enter f args) w' => w' = w ∧ Calls P f args w (fun e w'' => ∃ v, e = .returned v ∧ K v w'')
  | _ => False
def stepK (P : Program) (o : Oper) (a : Act) (w : World) (K : Value → World → Prop) : Prop := uponK P K w ((execOp a.eval o).run P w)
theorem stepK_mono {o : Oper} {a : Act} {w : World} {K K' : Value → World → Prop} (h : ∀ u w', K u w' → K' u w') (hh : stepK P o a w K) : stepK P o a w K' := by
  unfold stepK at *
  generalize (execOp a.eval o).run P w = r at *
  cases r with
  | ok n w' =>
    cases n <;> simp only [uponK] at hh ⊢
    case value u => exact h _ _ hh
    case skip => exact h _ _ hh
    case enter f args => exact ⟨hh.1, hh.2.mono fun e w'' ⟨v, he, hk⟩ => ⟨v, he, h _ _ hk⟩⟩
  | halt x w' => simp only [uponK] at hh
theorem wp_of_stepK {o : Oper} {a : Act} {w : World} {K : Act → World → Prop} {Q : Exit → Act → World → Prop} (hh : stepK P o a w (fun u w' => K (a.put o.dst u) w')) : o.wp P a w K Q := by
  unfold stepK at hh
  unfold Oper.wp
  generalize (execOp a.eval o).run P w = r at *
  cases r with
  | ok n w' =>
    cases n <;> simp only [uponK] at hh <;> simp only [Oper.upon]
    case value u => exact hh
    case skip => exact hh
    case enter f args =>
      obtain ⟨e1, hc⟩ := hh
      rw [e1]
      refine hc.mono fun e w'' ⟨v, he, hk⟩ => ?_
      subst he
      exact hk
  | halt x w' => simp only [uponK] at hh
def wpAnyC (P : Program) (md : Region.Mode) (ops : Array Oper) (C : World → Prop) (Q : Act → World → Prop) : Nat → Array Bool → Act → World → Prop
  | 0, listed, a, w => C w ∧ Region.ready md ops listed = [] ∧ Q a w
  | fuel + 1, listed, a, w => C w ∧ Region.ready md ops listed ≠ [] ∧ ∀ i ∈ Region.ready md ops listed, ∀ o, ops[i]? = some o →
      Region.wanted o (yielded ops a.tmps) = true ∧ stepK P o a w (fun u w' => wpAnyC P md ops C Q fuel (listed.setIfInBounds i true) (a.put o.dst u) w')
theorem wpAnyC_c {Q : Act → World → Prop} : ∀ {fuel : Nat} {listed : Array Bool} {a : Act} {w : World}, wpAnyC P md ops C Q fuel listed a w → C w
  | 0, _, _, _, h => h.1
  | _ + 1, _, _, _, h => h.1
theorem any_of_C {Q : Act → World → Prop} {Q' : Exit → Act → World → Prop} (hQ : ∀ a w, Q a w → Q' .normal a w) : ∀ (fuel : Nat) (listed : Array Bool) (a : Act) (w : World), wpAnyC P md ops C Q fuel listed a w → wpAny P md ops Q' fuel listed a w
  | 0, _, _, _, h => ⟨h.2.1, hQ _ _ h.2.2⟩
  | fuel + 1, listed, a, w, h => ⟨fun h0 => absurd h0 h.2.1, fun i hi => by
      obtain ⟨_, o, ho, _⟩ := mem_ready.1 hi
      obtain ⟨h1, h2⟩ := h.2.2 i hi o ho
      unfold wpOp
      simp only [ho]
      rw [if_pos h1]
      exact .inl (wp_of_stepK (stepK_mono (fun u w' hk => any_of_C hQ fuel _ _ w' hk) h2))⟩
theorem first {Q : Act → World → Prop} {i : Nat} {oi : Oper} {u : Value} (hi : ops[i]? = some oi) (hsel : ∀ (j : Nat) (o : Oper) cs b, ops[j]? = some o → o.op ≠ .select cs b) :
    ∀ (fuel : Nat) (listed : Array Bool) (a : Act) (w : World),
      (∀ j oj, ops[j]? = some oj → j ≠ i → listed.getD j true = false → (∀ e ∈ oj.after, Region.binds md e = true → e.on ≠ i) → oi.apart ops oj = true) →
      i ∈ Region.ready md ops listed → Region.wanted oi (yielded ops a.tmps) = true → (∀ w, C w → (execOp a.eval oi).run P w = .ok (.value u) w) →
      wpAnyC P md ops C Q fuel (listed.setIfInBounds i true) (a.put oi.dst u) w → wpAnyC P md ops C Q (fuel + 1) listed a w := by
  intro fuel
  induction fuel with
  | zero =>
    intro listed a w hfree hr hw hst h
    refine ⟨h.1, fun h0 => (by rw [h0] at hr; cases hr), fun j hj o ho => ?_⟩
    by_cases hji : j = i
    · subst hji
      rw [hi] at ho
      cases ho
      refine ⟨hw, ?_⟩
      unfold stepK
      rw [hst w h.1]
      exact h
    · have := ready_mono hj hji
      rw [h.2.1] at this
      cases this
  | succ fuel ih =>
    intro listed a w hfree hr hw hst h
    refine ⟨h.1, fun h0 => (by rw [h0] at hr; cases hr), fun j hj oj hoj => ?_⟩
    by_cases hji : j = i
    · subst hji
      rw [hi] at hoj
      cases hoj
      refine ⟨hw, ?_⟩
      unfold stepK
      rw [hst w h.1]
      exact h
    · obtain ⟨h1, h2⟩ := h.2.2 j (ready_mono hj hji) oj hoj
      obtain ⟨hjun, oj', hoj', hall⟩ := mem_ready.1 hj
      rw [hoj] at hoj'
      cases hoj'
      have hnot : ∀ e ∈ oj.after, Region.binds md e = true → e.on ≠ i := fun e he hb heq => by
        have h1 := hall e he hb
        have h0 := (mem_ready.1 hr).1
        rw [heq] at h1
        rcases Nat.lt_or_ge i listed.size with h' | h'
        · simp [h'] at h0 h1; rw [h0] at h1; cases h1
        · simp [Array.getElem?_eq_none h'] at h1
      obtain ⟨p1, p2, p3⟩ := Oper.apart_spec (hfree j oj hoj hji hjun hnot)
      have hfree' : ∀ k ok, ops[k]? = some ok → k ≠ i → (listed.setIfInBounds j true).getD k true = false →
          (∀ e ∈ ok.after, Region.binds md e = true → e.on ≠ i) → oi.apart ops ok = true := fun k ok hk hki hun hno => by
        refine hfree k ok hk hki ?_ hno
        by_cases hjk : j = k
        · subst hjk; exact hjun
        · rw [getD_set_ne true hjk] at hun; exact hun
      refine ⟨by rw [wanted_put oj a oi.dst u p1] at h1; exact h1, ?_⟩
      unfold stepK at h2 ⊢
      rw [execOp_put oj (fun cs b => hsel j oj cs b hoj) a oi.dst u p1] at h2
      refine stepK_mono (o := oj) (a := a) (w := w) (fun v w' hk => ?_) h2
      refine ih (listed.setIfInBounds j true) (a.put oj.dst v) w' hfree' (ready_mono hr (Ne.symm hji)) ?_ ?_ ?_
      · rw [wanted_put oi a oj.dst v p3]; exact hw
      · intro w hw
        rw [execOp_put oi (fun cs b => hsel i oi cs b hi) a oj.dst v p3]
        exact hst w hw
      · rw [Array.setIfInBounds_comm _ _ hji, ← Act.put_comm a u v p2]
        exact hk
/-- The order of the one walk: which comes when, and whether it comes alone. -/
def planB (md : Region.Mode) (ops : Array Oper) : List (Nat × Bool) → Array Bool → Bool
  | [], listed => (Region.ready md ops listed).isEmpty
  | (i, al) :: r, listed => (Region.ready md ops listed).contains i && (if al then (Region.ready md ops listed).all (· == i) else Region.free md ops listed i) && planB md ops r (listed.setIfInBounds i true)
def mix (P : Program) (ops : Array Oper) (C : World → Prop) (Q : Act → World → Prop) : List (Oper × Bool) → Act → World → Prop
  | [], a, w => C w → Q a w
  | (o, true) :: r, a, w => Region.wanted o (yielded ops a.tmps) = true ∧ stepK P o a w (fun u w' => C w' ∧ mix P ops C Q r (a.put o.dst u) w')
  | (o, false) :: r, a, w => Region.wanted o (yielded ops a.tmps) = true ∧ ∃ u, (∀ w, C w → (execOp a.eval o).run P w = .ok (.value u) w) ∧ mix P ops C Q r (a.put o.dst u) w
theorem C_of_mix {Q : Act → World → Prop} (hs : Region.noSelect ops = true) : ∀ (plan : List (Nat × Bool)) (L : List (Oper × Bool)) (listed : Array Bool) (a : Act) (w : World), plan.map (fun p => ((ops[p.1]?), p.2)) = L.map (fun q => (some q.1, q.2)) →
    planB md ops plan listed = true → C w → mix P ops C Q L a w → wpAnyC P md ops C Q plan.length listed a w
  | [], L, listed, a, w, hL, hB, hC, h => by
    cases L with
    | nil => exact ⟨hC, by simpa [planB] using hB, h hC⟩
    | cons q L => simp at hL
  | (i, al) :: r, L, listed, a, w, hL, hB, hC, h => by
    cases L with
    | nil => simp at hL
    | cons q L =>
      obtain ⟨o, al'⟩ := q
      simp only [List.map_cons, List.cons.injEq, Prod.mk.injEq] at hL
      obtain ⟨⟨ho, rfl⟩, hL'⟩ := hL
      simp only [planB, Bool.and_eq_true] at hB
      obtain ⟨⟨hr, hf⟩, hB'⟩ := hB
      have hr' : i ∈ Region.ready md ops listed := by simpa using hr
      cases al with
      | true =>
        simp only [if_true, List.all_eq_true, beq_iff_eq] at hf
        obtain ⟨h1, h2⟩ := h
        refine ⟨hC, fun h0 => (by rw [h0] at hr'; cases hr'), fun j hj oj hoj => ?_⟩
        have hji := hf j hj
        subst hji
        rw [ho] at hoj
        cases hoj
        exact ⟨h1, stepK_mono (fun u w' hk => C_of_mix hs r L _ _ w' hL' hB' hk.1 hk.2) h2⟩
      | false =>
        simp only [Bool.false_eq_true, if_false] at hf
        obtain ⟨h1, u, h2, h3⟩ := h
        exact first ho (Region.noSelect_spec hs) r.length listed a w (Region.free_spec ho hf) hr' h1 h2 (C_of_mix hs r L _ _ w hL' hB' hC h3)
/-- One walk serves every order. -/
theorem wp_region_mix {id : Nat} {Q : Exit → Act → World → Prop} {a : Act} {w : World} {l : List Oper} (C : World → Prop) (plan : List (Nat × Bool)) (hm : P.follows .mixedOrders = true)
    (hB : (Region.noSelect l.toArray && planB .any l.toArray plan (Array.replicate l.length false) && plan.length == l.length) = true) (hC : C w.drew)
    (h : mix P l.toArray C (fun a w => Q .normal a w) (plan.map fun p => (l.getD p.1 default, p.2)) a w.drew) (hin : plan.all (fun p => p.1 < l.length) = true) : (Code.region id l.toArray true).wp P Q a w := by
  simp only [Bool.and_eq_true, beq_iff_eq] at hB
  refine wp_region_any hm (any_of_C (C := C) (Q := fun a w => Q .normal a w) (fun _ _ h => h) _ _ _ _ ?_)
  have := C_of_mix (C := C) (md := .any) hB.1.1 plan _ (Array.replicate l.length false) a w.drew (by
    rw [List.map_map]
    apply List.map_congr_left
    intro p hp
    have hlt : p.1 < l.length := by simpa using List.all_eq_true.1 hin p hp
    simp [List.getD, List.getElem?_eq_getElem hlt]) hB.1.2 hC h
  rw [hB.2] at this
  simpa using this
variable {Q : Act → World → Prop}
/-- What only reads what stays. -/
theorem m_pure {o : Oper} {r : List (Oper × Bool)} {a : Act} {w : World} (v : Value) (hw : Region.wanted o (yielded ops a.tmps) = true) (h : ∀ w, C w → (execOp a.eval o).run P w = .ok (.value v) w) (hk : mix P ops C Q r (a.put o.dst v) w) : mix P ops C Q ((o, false) :: r) a w := ⟨hw, v, h, hk⟩
/-- A call. -/
theorem m_call {o : Oper} {r : List (Oper × Bool)} {a : Act} {w : World} (f : FuncId) (args : Array Value) (hw : Region.wanted o (yielded ops a.tmps) = true) (h : (execOp a.eval o).run P w = .ok (.enter f args) w)
    (hc : Calls P f args w (fun e w' => ∃ v, e = .returned v ∧ C w' ∧ mix P ops C Q r (a.put o.dst v) w')) : mix P ops C Q ((o, true) :: r) a w := by
  refine ⟨hw, ?_⟩
  unfold stepK
  rw [h]
  exact ⟨rfl, hc⟩
/-- An operation that comes alone. -/
theorem m_run {o : Oper} {r : List (Oper × Bool)} {a : Act} {w w' : World} (v : Value) (hw : Region.wanted o (yielded ops a.tmps) = true) (h : (execOp a.eval o).run P w = .ok (.value v) w') (hC : C w') (hk : mix P ops C Q r (a.put o.dst v) w') : mix P ops C Q ((o, true) :: r) a w := by
  refine ⟨hw, ?_⟩
  unfold stepK
  rw [h]
  exact ⟨hC, hk⟩
theorem m_nil {a : Act} {w : World} (h : C w → Q a w) : mix P ops C Q [] a w := h
theorem wanted_none {o : Oper} {y : Nat → Option Bool} (hg : o.guard = none) : Region.wanted o y = true := by unfold Region.wanted; rw [hg]
theorem wanted_met {ops : Array Oper} {a : Act} {o : Oper} (j d : Nat) (want : Bool) (hg : o.guard = some (j, want)) (hd : (ops[j]?).bind (·.dst) = some d) (hv : a.tmps[d]? = some (.bool want)) : Region.wanted o (yielded ops a.tmps) = true := by
  unfold Region.wanted yielded
  rw [hg]
  simp only [hd, Option.bind_some, hv]
  simp
end

end Go.Proofs.Ytngjlkdpplmpaab.Mx
