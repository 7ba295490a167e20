/- A region that draws its order, whose operations may make memory and turn nothing that was there: one walk in the text's order serves every order. -/
import Derived.Test.YtmhckbcddmdchaaObsT
import Derived.Test.YtmhckbcddmdchaaTtA
import Derived.Test.YtmhckbcddmdchaaRefT
import Derived.Test.YtmhckbcddmdchaaFormA
import Derived.Test.YtmhckbcddmdchaaRefLab
import Derived.Test.YtmhckbcddmdchaaTermCheck
import Derived.Test.YtmhckbcddmdchaaPlainL
import Derived.Test.YtmhckbcddmdchaaRightP
import Derived.Test.YtmhckbcddmdchaaTermNames
namespace Go.Proofs.Ytmhckbcddmdchaa
open Go.RowKit
set_option linter.unusedVariables false

/-- What is known of an operation's value: which it may be, and what is known of it from then on. -/
structure Mode where
  ok : Value → Prop
  some' : ∃ u, ok u
  fact : Value → World → Prop
/-- What is known of the slots. -/
abbrev Kn := Nat → World → Prop
def kput (k : Kn) : Option Tmp → (World → Prop) → Kn
  | none, _ => k
  | some d, f => fun s => if s = d then f else k s
theorem kput_ne (k : Kn) (dst : Option Tmp) (f : World → Prop) (s : Nat) (h : dst ≠ some s) : kput k dst f s = k s := by
  cases dst with
  | none => rfl
  | some d => simp only [kput]; rw [if_neg (fun e => h (by rw [e]))]
theorem kput_comm (k : Kn) (d e : Option Tmp) (f g : World → Prop) (h : ∀ x, d = some x → e ≠ some x) : kput (kput k d f) e g = kput (kput k e g) d f := by
  cases d with
  | none => rfl
  | some d =>
    cases e with
    | none => rfl
    | some e =>
      have hne : e ≠ d := fun x => h d rfl (by rw [x])
      funext s
      simp only [kput]
      by_cases h1 : s = e
      · subst h1; rw [if_pos rfl, if_neg hne, if_pos rfl]
      · by_cases h2 : s = d
        · subst h2; rw [if_neg h1, if_pos rfl, if_pos rfl]
        · rw [if_neg h1, if_neg h2, if_neg h2, if_neg h1]

section
variable {P : Program} {ops : Array Oper} {md : Region.Mode} {C : World → Prop} {Le : World → World → Prop} {M : Nat → Mode}

def growUpon (P : Program) (Le : World → World → Prop) (m : Mode) (w : World) : Result Next → Prop
  | .ok (.value u) w' => Le w w' ∧ m.ok u ∧ m.fact u w'
  | .ok .skip w' => Le w w' ∧ m.ok undef ∧ m.fact undef w'
  | .ok (.enter f args) w' => w' = w ∧ Calls P f args w (fun e w'' => ∃ v, e = .returned v ∧ Le w w'' ∧ m.ok v ∧ m.fact v w'')
  | _ => False
def growAt (P : Program) (o : Oper) (a : Act) (Le : World → World → Prop) (m : Mode) (w : World) : Prop := growUpon P Le m w ((execOp a.eval o).run P w)
/-- What is asked of an operation that comes up. -/
def grow (P : Program) (ops : Array Oper) (C : World → Prop) (Le : World → World → Prop) (m : Mode) (o : Oper) (a : Act) (k : Kn) (K : Act → Kn → Prop) : Prop :=
  (∀ u w w', Le w w' → m.fact u w → m.fact u w') ∧ (∀ w, C w → (∀ s ∈ o.looksAt ops, k s w) → growAt P o a Le m w) ∧ ∀ u, m.ok u → K (a.put o.dst u) (kput k o.dst (m.fact u))
def wpGrow (P : Program) (ops : Array Oper) (C : World → Prop) (Le : World → World → Prop) (M : Nat → Mode) (Q : Act → Kn → Prop) : Nat → List Oper → Act → Kn → Prop
  | _, [], a, k => Q a k
  | i, o :: rest, a, k => if Region.wanted o (yielded ops a.tmps) then grow P ops C Le (M i) o a k (wpGrow P ops C Le M Q (i + 1) rest) else wpGrow P ops C Le M Q (i + 1) rest (a.put o.dst undef) (kput k o.dst (fun _ => True))
def gOp (P : Program) (ops : Array Oper) (C : World → Prop) (Le : World → World → Prop) (M : Nat → Mode) (i : Nat) (K : Act → Kn → Prop) (a : Act) (k : Kn) : Prop :=
  match ops[i]? with
  | none => K a k
  | some o => if Region.wanted o (yielded ops a.tmps) then grow P ops C Le (M i) o a k K else K (a.put o.dst undef) (kput k o.dst (fun _ => True))
theorem grow_mono {m : Mode} {o : Oper} {a : Act} {k : Kn} {K K' : Act → Kn → Prop} (h : ∀ a k, K a k → K' a k) (hh : grow P ops C Le m o a k K) : grow P ops C Le m o a k K' :=
  ⟨hh.1, hh.2.1, fun u hu => h _ _ (hh.2.2 u hu)⟩
theorem gOp_mono {i : Nat} {a : Act} {k : Kn} {K K' : Act → Kn → Prop} (h : ∀ a k, K a k → K' a k) (hh : gOp P ops C Le M i K a k) : gOp P ops C Le M i K' a k := by
  unfold gOp at *
  split
  · exact h _ _ (by simpa [*] using hh)
  · rename_i o ho
    simp only [ho] at hh
    split
    · rename_i hw; simp only [hw, if_true] at hh; exact grow_mono h hh
    · rename_i hw; simp only [hw] at hh; exact h _ _ hh
def wpAnyG (P : Program) (md : Region.Mode) (ops : Array Oper) (C : World → Prop) (Le : World → World → Prop) (M : Nat → Mode) (Q : Act → Kn → Prop) : Nat → Array Bool → Act → Kn → Prop
  | 0, listed, a, k => Region.ready md ops listed = [] ∧ Q a k
  | fuel + 1, listed, a, k => (Region.ready md ops listed = [] → Q a k) ∧ ∀ i ∈ Region.ready md ops listed, gOp P ops C Le M i (wpAnyG P md ops C Le M Q fuel (listed.setIfInBounds i true)) a k
/-- What is known stays known. -/
def Stays (Le : World → World → Prop) (k : Kn) : Prop := ∀ s w w', Le w w' → k s w → k s w'
theorem Stays.put {k : Kn} (h : Stays Le k) (dst : Option Tmp) {f : World → Prop} (hf : ∀ w w', Le w w' → f w → f w') : Stays Le (kput k dst f) := by
  cases dst with
  | none => exact h
  | some d =>
    intro s w w' hle hk
    simp only [kput] at hk ⊢
    split
    · rename_i e; rw [if_pos e] at hk; exact hf w w' hle hk
    · rename_i e; rw [if_neg e] at hk; exact h s w w' hle hk
theorem all_put {k : Kn} {w : World} (h : ∀ s, k s w) (dst : Option Tmp) {f : World → Prop} (hf : f w) : ∀ s, kput k dst f s w := by
  cases dst with
  | none => exact h
  | some d =>
    intro s
    simp only [kput]
    split
    · exact hf
    · exact h s
theorem wp_of_grow {o : Oper} {m : Mode} {a : Act} {k : Kn} {K : Act → Kn → Prop} {K' : Act → World → Prop} {Q' : Exit → Act → World → Prop} {w : World} (hCL : ∀ w w', C w → Le w w' → C w') (hs : Stays Le k) (hw : C w) (hk : ∀ s, k s w)
    (h : ∀ a k w', Stays Le k → C w' → (∀ s, k s w') → K a k → K' a w') (hh : grow P ops C Le m o a k K) : o.wp P a w K' Q' := by
  obtain ⟨h0, h1, h2⟩ := hh
  have h3 := h1 w hw (fun s _ => hk s)
  unfold growAt at h3
  unfold Oper.wp
  generalize (execOp a.eval o).run P w = r at *
  cases r with
  | ok n w' =>
    cases n <;> simp only [growUpon] at h3 <;> simp only [Oper.upon]
    case value u =>
      obtain ⟨e1, e2, e3⟩ := h3
      exact h _ _ _ (hs.put o.dst (h0 u)) (hCL w w' hw e1) (all_put (fun s => hs s w w' e1 (hk s)) o.dst e3) (h2 u e2)
    case skip =>
      obtain ⟨e1, e2, e3⟩ := h3
      exact h _ _ _ (hs.put o.dst (h0 undef)) (hCL w w' hw e1) (all_put (fun s => hs s w w' e1 (hk s)) o.dst e3) (h2 undef e2)
    case enter f args =>
      obtain ⟨e1, hc⟩ := h3
      rw [e1]
      refine hc.mono fun e w'' ⟨v, he, e1, e2, e3⟩ => ?_
      subst he
      exact h _ _ _ (hs.put o.dst (h0 v)) (hCL w w'' hw e1) (all_put (fun s => hs s w w'' e1 (hk s)) o.dst e3) (h2 v e2)
  | halt x w' => simp only [growUpon] at h3
theorem wpOp_of_gOp {i : Nat} {a : Act} {k : Kn} {K : Act → Kn → Prop} {K' : Act → World → Prop} {Q' : Exit → Act → World → Prop} {w : World} (hCL : ∀ w w', C w → Le w w' → C w') (hs : Stays Le k) (hw : C w) (hk : ∀ s, k s w)
    (h : ∀ a k w', Stays Le k → C w' → (∀ s, k s w') → K a k → K' a w') (hh : gOp P ops C Le M i K a k) : wpOp P ops Q' i K' a w := by
  unfold gOp at hh
  unfold wpOp
  split
  · rename_i ho; simp only [ho] at hh; exact h _ _ _ hs hw hk hh
  · rename_i o ho
    simp only [ho] at hh
    split
    · rename_i hwt; simp only [hwt, if_true] at hh; exact .inl (wp_of_grow hCL hs hw hk h hh)
    · rename_i hwt; simp only [hwt] at hh; exact h _ _ _ (hs.put o.dst (fun _ _ _ h => h)) hw (all_put hk o.dst trivial) hh
theorem wpAny_of_grow {Q : Act → Kn → Prop} {Q' : Exit → Act → World → Prop} (hCL : ∀ w w', C w → Le w w' → C w') (hQ : ∀ a k w, C w → (∀ s, k s w) → Q a k → Q' .normal a w) : ∀ (fuel : Nat) (listed : Array Bool) (a : Act) (k : Kn) (w : World), Stays Le k → C w → (∀ s, k s w) →
    wpAnyG P md ops C Le M Q fuel listed a k → wpAny P md ops Q' fuel listed a w
  | 0, _, _, _, _, hs, hw, hk, h => ⟨h.1, hQ _ _ _ hw hk h.2⟩
  | fuel + 1, _, _, _, _, hs, hw, hk, h => ⟨fun h0 => hQ _ _ _ hw hk (h.1 h0), fun i hi => wpOp_of_gOp hCL hs hw hk (fun a' k' w' hs' hw' hk' => wpAny_of_grow hCL hQ fuel _ a' k' w' hs' hw' hk') (h.2 i hi)⟩
/-- What an operation yields: the values that it may, and what is known of them. -/
def YieldsG (P : Program) (ops : Array Oper) (C : World → Prop) (Le : World → World → Prop) (m : Mode) (o : Oper) (ok : Value → Prop) (f : Value → World → Prop) (a : Act) (k : Kn) : Prop :=
  (Region.wanted o (yielded ops a.tmps) = true ∧ ok = m.ok ∧ f = m.fact ∧ (∀ u w w', Le w w' → m.fact u w → m.fact u w') ∧ ∀ w, C w → (∀ s ∈ o.looksAt ops, k s w) → growAt P o a Le m w) ∨
  (Region.wanted o (yielded ops a.tmps) = false ∧ ok = (fun u => u = undef) ∧ f = fun _ _ => True)
theorem YieldsG.gOp {i : Nat} {o : Oper} {ok : Value → Prop} {f : Value → World → Prop} {a : Act} {k : Kn} (hi : ops[i]? = some o) (hy : YieldsG P ops C Le (M i) o ok f a k) {K : Act → Kn → Prop} (h : ∀ u, ok u → K (a.put o.dst u) (kput k o.dst (f u))) : gOp P ops C Le M i K a k := by
  unfold Go.Proofs.Ytmhckbcddmdchaa.gOp
  simp only [hi]
  rcases hy with ⟨hw, rfl, rfl, h0, hv⟩ | ⟨hw, rfl, rfl⟩
  · simp only [hw, if_true]; exact ⟨h0, hv, h⟩
  · simp only [hw, Bool.false_eq_true, if_false]; exact h undef rfl
theorem looks_put {o : Oper} {k : Kn} {dst : Option Tmp} {f : World → Prop} {w : World} (h : ∀ d, dst = some d → d ∉ o.looksAt ops) : (∀ s ∈ o.looksAt ops, kput k dst f s w) ↔ ∀ s ∈ o.looksAt ops, k s w := by
  constructor
  · intro hk s hs
    have := hk s hs
    rwa [kput_ne k dst f s (fun e => h s e hs)] at this
  · intro hk s hs
    rw [kput_ne k dst f s (fun e => h s e hs)]
    exact hk s hs
theorem YieldsG.of_same {m : Mode} {o : Oper} {ok : Value → Prop} {f : Value → World → Prop} {a a' : Act} {k k' : Kn} (hy : YieldsG P ops C Le m o ok f a k) (he : execOp a'.eval o = execOp a.eval o)
    (hw : Region.wanted o (yielded ops a'.tmps) = Region.wanted o (yielded ops a.tmps)) (hk : ∀ w, (∀ s ∈ o.looksAt ops, k' s w) → ∀ s ∈ o.looksAt ops, k s w) : YieldsG P ops C Le m o ok f a' k' := by
  rcases hy with ⟨h1, h2, h3, h4, h5⟩ | ⟨h1, h2, h3⟩
  · refine .inl ⟨by rw [hw]; exact h1, h2, h3, h4, fun w hC hl => ?_⟩
    have := h5 w hC (hk w hl)
    unfold growAt at *
    rwa [he]
  · exact .inr ⟨by rw [hw]; exact h1, h2, h3⟩
theorem yields_some {m : Mode} {o : Oper} {ok : Value → Prop} {f : Value → World → Prop} {a : Act} {k : Kn} (hy : YieldsG P ops C Le m o ok f a k) : ∃ u, ok u := by
  rcases hy with ⟨_, rfl, _⟩ | ⟨_, rfl, _⟩
  · exact m.some'
  · exact ⟨_, rfl⟩
theorem gOp_put {j : Nat} {m : Mode} {oi oj : Oper} {ok : Value → Prop} {f : Value → World → Prop} (hj : ops[j]? = some oj) (hap : oi.apart ops oj = true)
    (hsi : ∀ cs b, oi.op ≠ .select cs b) (hsj : ∀ cs b, oj.op ≠ .select cs b) {K : Act → Kn → Prop} {a : Act} {k : Kn}
    (hy : YieldsG P ops C Le m oi ok f a k) (h : ∀ u, ok u → gOp P ops C Le M j K (a.put oi.dst u) (kput k oi.dst (f u))) :
    gOp P ops C Le M j (fun a' k' => YieldsG P ops C Le m oi ok f a' k' ∧ ∀ u, ok u → K (a'.put oi.dst u) (kput k' oi.dst (f u))) a k := by
  obtain ⟨h1, h2, h3⟩ := Oper.apart_spec hap
  have keep : ∀ u g, YieldsG P ops C Le m oi ok f (a.put oj.dst u) (kput k oj.dst g) := fun u g =>
    hy.of_same (execOp_put oi hsi a oj.dst u h3) (wanted_put oi a oj.dst u h3) (fun w hl => (looks_put h3).1 hl)
  obtain ⟨u0, hu0⟩ := yields_some hy
  unfold gOp at *
  simp only [hj] at *
  by_cases hw : Region.wanted oj (yielded ops a.tmps) = true
  · simp only [hw, if_true]
    have hw' : ∀ u, Region.wanted oj (yielded ops (a.put oi.dst u).tmps) = true := fun u => by rw [wanted_put oj a oi.dst u h1]; exact hw
    simp only [hw', if_true] at h
    refine ⟨(h u0 hu0).1, fun w hC hl => ?_, fun u' hu' => ⟨keep u' _, fun u hu => ?_⟩⟩
    · have := (h u0 hu0).2.1 w hC ((looks_put h1).2 hl)
      unfold growAt at *
      rwa [execOp_put oj hsj a oi.dst u0 h1] at this
    · have := (h u hu).2.2 u' hu'
      rw [← Act.put_comm a u u' h2, ← kput_comm k oi.dst oj.dst _ _ h2]
      exact this
  · have hwf : Region.wanted oj (yielded ops a.tmps) = false := by simpa using hw
    simp only [hwf, Bool.false_eq_true, if_false]
    have hw' : ∀ u, Region.wanted oj (yielded ops (a.put oi.dst u).tmps) = false := fun u => by rw [wanted_put oj a oi.dst u h1]; exact hwf
    simp only [hw', Bool.false_eq_true, if_false] at h
    refine ⟨keep _ _, fun u hu => ?_⟩
    have := h u hu
    rw [← Act.put_comm a u undef h2, ← kput_comm k oi.dst oj.dst _ _ h2]
    exact this
theorem wpAnyG_first {Q : Act → Kn → Prop} {i : Nat} {oi : Oper} {ok : Value → Prop} {f : Value → World → Prop} (hi : ops[i]? = some oi) (hsel : ∀ (j : Nat) (o : Oper) cs b, ops[j]? = some o → o.op ≠ .select cs b) :
    ∀ (fuel : Nat) (listed : Array Bool) (a : Act) (k : Kn),
      (∀ j oj, ops[j]? = some oj → j ≠ i → listed.getD j true = false → (∀ e ∈ oj.after, Region.binds md e = true → e.on ≠ i) → oi.apart ops oj = true) →
      i ∈ Region.ready md ops listed → YieldsG P ops C Le (M i) oi ok f a k →
      (∀ u, ok u → wpAnyG P md ops C Le M Q fuel (listed.setIfInBounds i true) (a.put oi.dst u) (kput k oi.dst (f u))) → wpAnyG P md ops C Le M Q (fuel + 1) listed a k := by
  intro fuel
  induction fuel with
  | zero =>
    intro listed a k _ hr hy H
    refine ⟨fun h => (by rw [h] at hr; cases hr), fun j hj => ?_⟩
    by_cases hji : j = i
    · subst hji; exact hy.gOp hi H
    · obtain ⟨u0, hu0⟩ := yields_some hy
      have := ready_mono hj hji
      rw [(H u0 hu0).1] at this
      cases this
  | succ fuel ih =>
    intro listed a k hfree hr hy H
    refine ⟨fun h => (by rw [h] at hr; cases hr), fun j hj => ?_⟩
    by_cases hji : j = i
    · subst hji; exact hy.gOp hi H
    · have h1 : ∀ u, ok u → _ := fun u hu => (H u hu).2 j (ready_mono hj hji)
      obtain ⟨hjun, oj, hoj, hall⟩ := mem_ready.1 hj
      have hnot : ∀ e ∈ oj.after, Region.binds md e = true → e.on ≠ i := fun e he hb heq => by
        have h1 := hall e he hb
        have h0 := (mem_ready.1 hr).1
        rw [heq] at h1
        rcases Nat.lt_or_ge i listed.size with h' | h'
        · simp [h'] at h0 h1; rw [h0] at h1; cases h1
        · simp [Array.getElem?_eq_none h'] at h1
      have h2 := gOp_put hoj (hfree j oj hoj hji hjun hnot) (fun cs b => hsel i oi cs b hi) (fun cs b => hsel j oj cs b hoj) hy h1
      have hfree' : ∀ k ok, ops[k]? = some ok → k ≠ i → (listed.setIfInBounds j true).getD k true = false →
          (∀ e ∈ ok.after, Region.binds md e = true → e.on ≠ i) → oi.apart ops ok = true := fun k ok hk hki hun hno => by
        refine hfree k ok hk hki ?_ hno
        by_cases hjk : j = k
        · subst hjk; exact hjun
        · rw [getD_set_ne true hjk] at hun; exact hun
      refine gOp_mono (fun a' k' h3 => ih (listed.setIfInBounds j true) a' k' hfree' (ready_mono hr (Ne.symm hji)) h3.1 (fun u hu => ?_)) h2
      rw [Array.setIfInBounds_comm _ _ hji]
      exact h3.2 u hu
theorem yieldsG_of_gOp {i : Nat} {o : Oper} {a : Act} {k : Kn} {K : Act → Kn → Prop} (hi : ops[i]? = some o) (h : gOp P ops C Le M i K a k) : ∃ ok f, YieldsG P ops C Le (M i) o ok f a k ∧ ∀ u, ok u → K (a.put o.dst u) (kput k o.dst (f u)) := by
  unfold gOp at h
  simp only [hi] at h
  by_cases hw : Region.wanted o (yielded ops a.tmps) = true
  · simp only [hw, if_true] at h
    exact ⟨_, _, .inl ⟨hw, rfl, rfl, h.1, h.2.1⟩, h.2.2⟩
  · simp only [hw] at h
    exact ⟨_, _, .inr ⟨by simpa using hw, rfl, rfl⟩, fun u hu => by subst hu; exact h⟩
theorem wpAnyG_lex {Q : Act → Kn → Prop} (hs : Region.noSelect ops = true) : ∀ (l : List Oper) (i : Nat) (listed : Array Bool) (a : Act) (k : Kn), (∀ j, l[j]? = ops[i + j]?) →
    Region.lexFrom md ops l.length i listed = true → wpGrow P ops C Le M Q i l a k → wpAnyG P md ops C Le M Q l.length listed a k
  | [], _, _, _, _, _, hB, h => ⟨by simpa [Region.lexFrom] using hB, h⟩
  | o :: l, i, listed, a, k, hl, hB, h => by
    have h0 : ops[i]? = some o := by simpa using (hl 0).symm
    simp only [List.length_cons, Region.lexFrom, Bool.and_eq_true] at hB
    obtain ⟨⟨hr, hf⟩, hB'⟩ := hB
    have hst : gOp P ops C Le M i (wpGrow P ops C Le M Q (i + 1) l) a k := by unfold gOp; simp only [h0]; exact h
    obtain ⟨ok, f, hy, hK⟩ := yieldsG_of_gOp h0 hst
    exact wpAnyG_first h0 (Region.noSelect_spec hs) l.length listed a k (Region.free_spec h0 hf) (by simpa using hr) hy
      (fun u hu => wpAnyG_lex hs l (i + 1) _ _ _ (fun j => by have := hl (j + 1); simpa [Nat.add_assoc, Nat.add_comm 1 j] using this) hB' (hK u hu))
/-- One walk of the text's order serves every order. -/
theorem wp_region_grow {id : Nat} {Q : Exit → Act → World → Prop} {a : Act} {w : World} {l : List Oper} (C : World → Prop) (Le : World → World → Prop) (M : Nat → Mode) (hm : P.follows .mixedOrders = true) (hB : Region.lexB .any l.toArray = true) (hCL : ∀ w w', C w → Le w w' → C w') (hC : C w.drew)
    (h : wpGrow P l.toArray C Le M (fun a' k' => ∀ w', C w' → (∀ s, k' s w') → Q .normal a' w') 0 l a (fun _ _ => True)) : (Code.region id l.toArray true).wp P Q a w := by
  simp only [Region.lexB, Bool.and_eq_true] at hB
  refine wp_region_any hm (wpAny_of_grow (M := M) (Q := fun a' k' => ∀ w', C w' → (∀ s, k' s w') → Q .normal a' w') hCL (fun _ _ w' hw' hk h => h w' hw' hk) _ _ _ (fun _ _ => True) _ (fun _ _ _ _ h => h) hC (fun _ => trivial) ?_)
  have := wpAnyG_lex (C := C) (Le := Le) (M := M) (md := .any) hB.1 l 0 (Array.replicate l.toArray.size false) a (fun _ _ => True) (by simp) (by simpa using hB.2) h
  simpa using this
end
/-- One value. -/
def one (v : Value) : Mode := ⟨fun u => u = v, ⟨v, rfl⟩, fun _ _ => True⟩
/-- Any value of which something is known. -/
def loose (f : Value → World → Prop) : Mode := ⟨fun _ => True, ⟨undef, trivial⟩, f⟩
def modes (l : List Mode) (i : Nat) : Mode := l.getD i (one undef)
theorem wanted_none {o : Oper} {y : Nat → Option Bool} (hg : o.guard = none) : Region.wanted o y = true := by unfold Region.wanted; rw [hg]
theorem wanted_met {ops : Array Oper} {a : Act} {o : Oper} (j d : Nat) (want : Bool) (hg : o.guard = some (j, want)) (hd : (ops[j]?).bind (·.dst) = some d) (hv : a.tmps[d]? = some (.bool want)) : Region.wanted o (yielded ops a.tmps) = true := by
  unfold Region.wanted yielded
  rw [hg]
  simp only [hd, Option.bind_some, hv]
  simp
section
variable {P : Program} {ops : Array Oper} {C : World → Prop} {Le : World → World → Prop} {M : Nat → Mode} {Q : Act → Kn → Prop}
theorem grow_less {i : Nat} {rest : List Oper} (hQ : ∀ a k k', (∀ s w, k' s w → k s w) → Q a k → Q a k') : ∀ {i : Nat} {rest : List Oper} {a : Act} {k k' : Kn}, (∀ s w, k' s w → k s w) → wpGrow P ops C Le M Q i rest a k → wpGrow P ops C Le M Q i rest a k' := by
  intro i rest
  induction rest generalizing i with
  | nil => intro a k k' h hh; exact hQ a k k' h hh
  | cons o rest ih =>
    intro a k k' h hh
    unfold wpGrow at hh ⊢
    have hp : ∀ (f : World → Prop) s w, kput k' o.dst f s w → kput k o.dst f s w := by
      intro f s w
      cases o.dst with
      | none => exact h s w
      | some d =>
        simp only [kput]
        split
        · exact id
        · exact h s w
    split
    · rename_i hw
      rw [if_pos hw] at hh
      exact ⟨hh.1, fun w hC hl => hh.2.1 w hC (fun s hs => h s w (hl s hs)), fun u hu => ih (hp _) (hh.2.2 u hu)⟩
    · rename_i hw
      rw [if_neg hw] at hh
      exact ih (hp _) hh
theorem put_less {k : Kn} {dst : Option Tmp} (hd : ∀ d, dst = some d → ∀ w, k d w) : ∀ s w, kput k dst (fun _ => True) s w → k s w := by
  intro s w
  cases dst with
  | none => exact id
  | some d =>
    simp only [kput]
    split
    · rename_i e; subst e; exact fun _ => hd _ rfl w
    · exact id
/-- An operation that yields one value, and leaves the world. -/
theorem g_runs {i : Nat} {o : Oper} {rest : List Oper} {a : Act} {k : Kn} (v : Value) (hQ : ∀ a k k', (∀ s w, k' s w → k s w) → Q a k → Q a k') (hR : ∀ w, Le w w) (hM : M i = one v) (hw : Region.wanted o (yielded ops a.tmps) = true) (hkd : ∀ d, o.dst = some d → ∀ w, k d w)
    (h : ∀ w, C w → (execOp a.eval o).run P w = .ok (.value v) w) (hk : wpGrow P ops C Le M Q (i + 1) rest (a.put o.dst v) k) : wpGrow P ops C Le M Q i (o :: rest) a k := by
  unfold wpGrow
  rw [if_pos hw, hM]
  refine ⟨fun _ _ _ _ h => h, fun w hC _ => ?_, fun u hu => ?_⟩
  · unfold growAt
    rw [h w hC]
    exact ⟨hR w, rfl, trivial⟩
  · cases hu
    exact grow_less (i := i) (rest := rest) hQ (put_less hkd) hk
/-- A call that answers one value. -/
theorem g_calls {i : Nat} {o : Oper} {rest : List Oper} {a : Act} {k : Kn} (f : FuncId) (args : Array Value) (v : Value) (hQ : ∀ a k k', (∀ s w, k' s w → k s w) → Q a k → Q a k') (hM : M i = one v) (hw : Region.wanted o (yielded ops a.tmps) = true) (hkd : ∀ d, o.dst = some d → ∀ w, k d w)
    (h : ∀ w, C w → (execOp a.eval o).run P w = .ok (.enter f args) w) (hc : ∀ w, C w → (∀ s ∈ o.looksAt ops, k s w) → Calls P f args w (fun e w' => e = .returned v ∧ Le w w')) (hk : wpGrow P ops C Le M Q (i + 1) rest (a.put o.dst v) k) : wpGrow P ops C Le M Q i (o :: rest) a k := by
  unfold wpGrow
  rw [if_pos hw, hM]
  refine ⟨fun _ _ _ _ h => h, fun w hC hl => ?_, fun u hu => ?_⟩
  · unfold growAt
    rw [h w hC]
    exact ⟨rfl, (hc w hC hl).mono fun e w' ⟨h1, h2⟩ => ⟨v, h1, h2, rfl, trivial⟩⟩
  · cases hu
    exact grow_less (i := i) (rest := rest) hQ (put_less hkd) hk
/-- A call of whose answer something is known. -/
theorem g_loose {i : Nat} {o : Oper} {rest : List Oper} {a : Act} {k : Kn} (f : FuncId) (args : Array Value) (φ : Value → World → Prop) (hM : M i = loose φ) (hφ : ∀ u w w', Le w w' → φ u w → φ u w') (hw : Region.wanted o (yielded ops a.tmps) = true)
    (h : ∀ w, C w → (execOp a.eval o).run P w = .ok (.enter f args) w) (hc : ∀ w, C w → (∀ s ∈ o.looksAt ops, k s w) → Calls P f args w (fun e w' => ∃ v, e = .returned v ∧ Le w w' ∧ φ v w')) (hk : ∀ u, wpGrow P ops C Le M Q (i + 1) rest (a.put o.dst u) (kput k o.dst (φ u))) : wpGrow P ops C Le M Q i (o :: rest) a k := by
  unfold wpGrow
  rw [if_pos hw, hM]
  refine ⟨hφ, fun w hC hl => ?_, fun u _ => hk u⟩
  unfold growAt
  rw [h w hC]
  exact ⟨rfl, (hc w hC hl).mono fun e w' ⟨v, h1, h2, h3⟩ => ⟨v, h1, h2, trivial, h3⟩⟩
/-- An operation that yields one value, by what is known of what it reads. -/
theorem g_knows {i : Nat} {o : Oper} {rest : List Oper} {a : Act} {k : Kn} (v : Value) (hQ : ∀ a k k', (∀ s w, k' s w → k s w) → Q a k → Q a k') (hR : ∀ w, Le w w) (hM : M i = one v) (hw : Region.wanted o (yielded ops a.tmps) = true) (hkd : ∀ d, o.dst = some d → ∀ w, k d w)
    (h : ∀ w, C w → (∀ s ∈ o.looksAt ops, k s w) → (execOp a.eval o).run P w = .ok (.value v) w) (hk : wpGrow P ops C Le M Q (i + 1) rest (a.put o.dst v) k) : wpGrow P ops C Le M Q i (o :: rest) a k := by
  unfold wpGrow
  rw [if_pos hw, hM]
  refine ⟨fun _ _ _ _ h => h, fun w hC hl => ?_, fun u hu => ?_⟩
  · unfold growAt
    rw [h w hC hl]
    exact ⟨hR w, rfl, trivial⟩
  · cases hu
    exact grow_less (i := i) (rest := rest) hQ (put_less hkd) hk
/-- An operation that may make memory, and of whose value something is known. -/
theorem g_makes {i : Nat} {o : Oper} {rest : List Oper} {a : Act} {k : Kn} (φ : Value → World → Prop) (hM : M i = loose φ) (hφ : ∀ u w w', Le w w' → φ u w → φ u w') (hw : Region.wanted o (yielded ops a.tmps) = true)
    (h : ∀ w, C w → (∀ s ∈ o.looksAt ops, k s w) → ∃ u w', (execOp a.eval o).run P w = .ok (.value u) w' ∧ Le w w' ∧ φ u w') (hk : ∀ u, wpGrow P ops C Le M Q (i + 1) rest (a.put o.dst u) (kput k o.dst (φ u))) : wpGrow P ops C Le M Q i (o :: rest) a k := by
  unfold wpGrow
  rw [if_pos hw, hM]
  refine ⟨hφ, fun w hC hl => ?_, fun u _ => hk u⟩
  obtain ⟨u, w', h1, h2, h3⟩ := h w hC hl
  unfold growAt
  rw [h1]
  exact ⟨h2, trivial, h3⟩
theorem g_nil {i : Nat} {a : Act} {k : Kn} (h : Q a k) : wpGrow P ops C Le M Q i [] a k := h
theorem looks_at {o : Oper} {s : Nat} (h : Operand.tmp s ∈ o.op.operands.toList) : s ∈ o.looksAt ops :=
  List.mem_append_left _ (List.mem_filterMap.2 ⟨.tmp s, h, rfl⟩)
end
/-- Nothing that was there has turned. -/
def Up (w w' : World) : Prop := Below w.heap.size w w'
theorem Up.refl (w : World) : Up w w := Below.refl _ _
theorem up_class (W : World) : ∀ w w', Below W.heap.size W w → Up w w' → Below W.heap.size W w' := fun w w' h h' => h.trans (h'.mono h.size)
theorem grow_end {C : World → Prop} {R : Act → World → Prop} : ∀ (a : Act) (k k' : Kn), (∀ s w, k' s w → k s w) → (∀ w', C w' → (∀ s, k s w') → R a w') → ∀ w', C w' → (∀ s, k' s w') → R a w' :=
  fun a k k' h hq w' hC hk => hq w' hC (fun s => h s w' (hk s))

end Go.Proofs.Ytmhckbcddmdchaa
namespace Go.Proofs.Ytmhckbcddmdchaa
open Go.RowKit
set_option linter.unusedVariables false

section
variable {P : Program} {ops : Array Oper} {md : Region.Mode} {C : World → Prop} {Le : World → World → Prop} {M : Nat → Mode} {n : Nat}
/-- The last operation waits for all others. -/
def waitsAll (md : Region.Mode) (ops : Array Oper) (n : Nat) : Bool := (List.range n).all fun i => (ops[n]?).any fun o => o.after.any fun e => Region.binds md e && e.on == i
theorem waits_spec (h : waitsAll md ops n = true) {i : Nat} (hi : i < n) : ∃ o, ops[n]? = some o ∧ ∃ e ∈ o.after, Region.binds md e = true ∧ e.on = i := by
  unfold waitsAll at h
  rw [List.all_eq_true] at h
  have h1 := h i (List.mem_range.2 hi)
  cases ho : ops[n]? with
  | none => rw [ho] at h1; simp at h1
  | some o =>
    rw [ho] at h1
    simp only [Option.any_some] at h1
    rw [Array.any_eq_true] at h1
    obtain ⟨j, hj, h2⟩ := h1
    simp only [Bool.and_eq_true, beq_iff_eq] at h2
    exact ⟨o, rfl, o.after[j], Array.getElem_mem _, h2.1, h2.2⟩
theorem last_waits (h : waitsAll md ops n = true) {i : Nat} (hi : i < n) {listed : Array Bool} (hun : listed.getD i true = false) : n ∉ Region.ready md ops listed := by
  intro hr
  obtain ⟨o, ho, e, he, hb, hon⟩ := waits_spec h hi
  obtain ⟨_, o', ho', hall⟩ := mem_ready.1 hr
  rw [ho] at ho'
  injection ho' with ho'
  subst ho'
  have h1 := hall e he hb
  rw [hon] at h1
  rcases Nat.lt_or_ge i listed.size with h' | h'
  · simp [h'] at hun h1; rw [hun] at h1; cases h1
  · simp [Array.getElem?_eq_none h'] at h1
def wpAnyL (P : Program) (md : Region.Mode) (ops : Array Oper) (C : World → Prop) (Le : World → World → Prop) (M : Nat → Mode) (n : Nat) (Q : Act → Kn → Prop) : Nat → Array Bool → Act → Kn → Prop
  | 0, listed, a, k => Region.ready md ops listed ≠ [] ∧ (∀ j ∈ Region.ready md ops listed, j = n) ∧ Region.ready md ops (listed.setIfInBounds n true) = [] ∧ Q a k
  | fuel + 1, listed, a, k => Region.ready md ops listed ≠ [] ∧ (∀ j ∈ Region.ready md ops listed, j ≠ n) ∧ ∀ i ∈ Region.ready md ops listed, gOp P ops C Le M i (wpAnyL P md ops C Le M n Q fuel (listed.setIfInBounds i true)) a k
theorem wpAny_of_growL {Q : Act → Kn → Prop} {Q' : Exit → Act → World → Prop} (hCL : ∀ w w', C w → Le w w' → C w') (hQ : ∀ a k w, C w → (∀ s, k s w) → Q a k → wpOp P ops Q' n (fun a w => Q' .normal a w) a w) : ∀ (fuel : Nat) (listed : Array Bool) (a : Act) (k : Kn) (w : World), Stays Le k → C w → (∀ s, k s w) →
    wpAnyL P md ops C Le M n Q fuel listed a k → wpAny P md ops Q' (fuel + 1) listed a w
  | 0, _, _, _, _, hs, hw, hk, h => ⟨fun h0 => absurd h0 h.1, fun i hi => by
      have := h.2.1 i hi
      subst this
      exact wpOp_mono (fun a w hq => ⟨h.2.2.1, hq⟩) (hQ _ _ _ hw hk h.2.2.2)⟩
  | fuel + 1, _, _, _, _, hs, hw, hk, h => ⟨fun h0 => absurd h0 h.1, fun i hi => wpOp_of_gOp hCL hs hw hk (fun a' k' w' hs' hw' hk' => wpAny_of_growL hCL hQ fuel _ a' k' w' hs' hw' hk') (h.2.2 i hi)⟩
theorem wpAnyL_first {Q : Act → Kn → Prop} {i : Nat} {oi : Oper} {ok : Value → Prop} {f : Value → World → Prop} (hwt : waitsAll md ops n = true) (hin : i < n) (hi : ops[i]? = some oi) (hsel : ∀ (j : Nat) (o : Oper) cs b, ops[j]? = some o → o.op ≠ .select cs b) :
    ∀ (fuel : Nat) (listed : Array Bool) (a : Act) (k : Kn),
      (∀ j oj, ops[j]? = some oj → j ≠ i → listed.getD j true = false → (∀ e ∈ oj.after, Region.binds md e = true → e.on ≠ i) → oi.apart ops oj = true) →
      i ∈ Region.ready md ops listed → YieldsG P ops C Le (M i) oi ok f a k →
      (∀ u, ok u → wpAnyL P md ops C Le M n Q fuel (listed.setIfInBounds i true) (a.put oi.dst u) (kput k oi.dst (f u))) → wpAnyL P md ops C Le M n Q (fuel + 1) listed a k := by
  intro fuel
  induction fuel with
  | zero =>
    intro listed a k _ hr hy H
    have hnl : ∀ j ∈ Region.ready md ops listed, j ≠ n := fun j hj e => last_waits hwt hin (mem_ready.1 hr).1 (e ▸ hj)
    refine ⟨fun h => (by rw [h] at hr; cases hr), hnl, fun j hj => ?_⟩
    by_cases hji : j = i
    · subst hji; exact hy.gOp hi H
    · obtain ⟨u0, hu0⟩ := yields_some hy
      exact absurd ((H u0 hu0).2.1 j (ready_mono hj hji)) (hnl j hj)
  | succ fuel ih =>
    intro listed a k hfree hr hy H
    have hnl : ∀ j ∈ Region.ready md ops listed, j ≠ n := fun j hj e => last_waits hwt hin (mem_ready.1 hr).1 (e ▸ hj)
    refine ⟨fun h => (by rw [h] at hr; cases hr), hnl, fun j hj => ?_⟩
    by_cases hji : j = i
    · subst hji; exact hy.gOp hi H
    · have h1 : ∀ u, ok u → _ := fun u hu => (H u hu).2.2 j (ready_mono hj hji)
      obtain ⟨hjun, oj, hoj, hall⟩ := mem_ready.1 hj
      have hnot : ∀ e ∈ oj.after, Region.binds md e = true → e.on ≠ i := fun e he hb heq => by
        have h1 := hall e he hb
        have h0 := (mem_ready.1 hr).1
        rw [heq] at h1
        rcases Nat.lt_or_ge i listed.size with h' | h'
        · simp [h'] at h0 h1; rw [h0] at h1; cases h1
        · simp [Array.getElem?_eq_none h'] at h1
      have h2 := gOp_put hoj (hfree j oj hoj hji hjun hnot) (fun cs b => hsel i oi cs b hi) (fun cs b => hsel j oj cs b hoj) hy h1
      have hfree' : ∀ k ok, ops[k]? = some ok → k ≠ i → (listed.setIfInBounds j true).getD k true = false →
          (∀ e ∈ ok.after, Region.binds md e = true → e.on ≠ i) → oi.apart ops ok = true := fun k ok hk hki hun hno => by
        refine hfree k ok hk hki ?_ hno
        by_cases hjk : j = k
        · subst hjk; exact hjun
        · rw [getD_set_ne true hjk] at hun; exact hun
      refine gOp_mono (fun a' k' h3 => ih (listed.setIfInBounds j true) a' k' hfree' (ready_mono hr (Ne.symm hji)) h3.1 (fun u hu => ?_)) h2
      rw [Array.setIfInBounds_comm _ _ hji]
      exact h3.2 u hu
theorem wpAnyL_lex {Q : Act → Kn → Prop} (hs : Region.noSelect ops = true) (hwt : waitsAll md ops n = true) : ∀ (l : List Oper) (i : Nat) (listed : Array Bool) (a : Act) (k : Kn), i + l.length = n → (∀ j, j < l.length → l[j]? = ops[i + j]?) →
    Region.lexFrom md ops (l.length + 1) i listed = true → wpGrow P ops C Le M Q i l a k → wpAnyL P md ops C Le M n Q l.length listed a k
  | [], i, listed, _, _, hn, _, hB, h => by
    have hin : i = n := by simpa using hn
    subst hin
    simp only [List.length_nil, Region.lexFrom, Bool.and_eq_true, List.isEmpty_iff] at hB
    obtain ⟨⟨hr, hf⟩, he⟩ := hB
    have hr' : i ∈ Region.ready md ops listed := by simpa using hr
    refine ⟨fun h0 => (by rw [h0] at hr'; cases hr'), fun j hj => ?_, he, h⟩
    by_cases hji : j = i
    · exact hji
    · have := ready_mono hj hji
      rw [he] at this
      cases this
  | o :: l, i, listed, a, k, hn, hl, hB, h => by
    have h0 : ops[i]? = some o := by simpa using (hl 0 (by simp)).symm
    simp only [List.length_cons] at hn
    rw [List.length_cons] at hB
    unfold Region.lexFrom at hB
    simp only [Bool.and_eq_true] at hB
    obtain ⟨⟨hr, hf⟩, hB'⟩ := hB
    have hst : gOp P ops C Le M i (wpGrow P ops C Le M Q (i + 1) l) a k := by unfold gOp; simp only [h0]; exact h
    obtain ⟨ok, f, hy, hK⟩ := yieldsG_of_gOp h0 hst
    exact wpAnyL_first hwt (by omega) h0 (Region.noSelect_spec hs) l.length listed a k (Region.free_spec h0 hf) (by simpa using hr) hy
      (fun u hu => wpAnyL_lex hs hwt l (i + 1) _ _ _ (by omega) (fun j hj => by have := hl (j + 1) (by simp; omega); simpa [Nat.add_assoc, Nat.add_comm 1 j] using this) hB' (hK u hu))
/-- All but the last in the text's order, then the last. -/
theorem wp_region_growL {id : Nat} {Q : Exit → Act → World → Prop} {a : Act} {w : World} {l : List Oper} {o : Oper} {L : List Oper} (C : World → Prop) (Le : World → World → Prop) (M : Nat → Mode) (hm : P.follows .mixedOrders = true) (hL : L = l ++ [o]) (hB : Region.lexB .any L.toArray = true) (hwt : waitsAll .any L.toArray l.length = true) (hCL : ∀ w w', C w → Le w w' → C w') (hC : C w.drew)
    (h : wpGrow P L.toArray C Le M (fun a' k' => ∀ w', C w' → (∀ s, k' s w') → wpList P L.toArray Q [o] a' w') 0 l a (fun _ _ => True)) : (Code.region id L.toArray true).wp P Q a w := by
  simp only [Region.lexB, Bool.and_eq_true] at hB
  have hsz : L.toArray.size = l.length + 1 := by rw [hL]; simp
  have ho : L.toArray[l.length]? = some o := by rw [hL]; simp
  refine wp_region_any hm ?_
  rw [hsz]
  refine wpAny_of_growL (M := M) (n := l.length) (Q := fun a' k' => ∀ w', C w' → (∀ s, k' s w') → wpList P L.toArray Q [o] a' w') hCL (fun a k w' hw' hk h => ?_) _ _ _ (fun _ _ => True) _ (fun _ _ _ _ h => h) hC (fun _ => trivial) ?_
  · have := h w' hw' hk
    unfold wpList at this
    unfold wpOp
    simp only [ho]
    exact this
  · have hB2 := hB.2
    rw [hsz] at hB2
    exact wpAnyL_lex (C := C) (Le := Le) (M := M) (md := .any) hB.1 hwt l 0 _ a (fun _ _ => True) (by simp) (fun j hj => by rw [hL]; simp [List.getElem?_append_left hj]) hB2 h
end

end Go.Proofs.Ytmhckbcddmdchaa
namespace Go.Proofs.Ytmhckbcddmdchaa.Ivl
open Go.RowKit
set_option linter.unusedVariables false

/-- What is known of an operation's value: which it may be, and what is known of it from then on. -/
structure Mode where
  ok : Value → Prop
  some' : ∃ u, ok u
  fact : Value → Nat × Nat → World → Prop
/-- What is known of the slots. -/
abbrev Kn := Nat → Nat × Nat → World → Prop
def kput (k : Kn) : Option Tmp → (Nat × Nat → World → Prop) → Kn
  | none, _ => k
  | some d, f => fun s => if s = d then f else k s
theorem kput_ne (k : Kn) (dst : Option Tmp) (f : Nat × Nat → World → Prop) (s : Nat) (h : dst ≠ some s) : kput k dst f s = k s := by
  cases dst with
  | none => rfl
  | some d => simp only [kput]; rw [if_neg (fun e => h (by rw [e]))]
theorem kput_comm (k : Kn) (d e : Option Tmp) (f g : Nat × Nat → World → Prop) (h : ∀ x, d = some x → e ≠ some x) : kput (kput k d f) e g = kput (kput k e g) d f := by
  cases d with
  | none => rfl
  | some d =>
    cases e with
    | none => rfl
    | some e =>
      have hne : e ≠ d := fun x => h d rfl (by rw [x])
      funext s
      simp only [kput]
      by_cases h1 : s = e
      · subst h1; rw [if_pos rfl, if_neg hne, if_pos rfl]
      · by_cases h2 : s = d
        · subst h2; rw [if_neg h1, if_pos rfl, if_pos rfl]
        · rw [if_neg h1, if_neg h2, if_neg h2, if_neg h1]

/-- What an operation reads. -/
def reads (ops : Array Oper) (o : Oper) (a : Act) : List Value := (o.looksAt ops).map fun s => a.tmps.getD s undef
theorem reads_put (ops : Array Oper) (o : Oper) (a : Act) (dst : Option Tmp) (v : Value) (h : ∀ d, dst = some d → d ∉ o.looksAt ops) : reads ops o (a.put dst v) = reads ops o a := by
  unfold reads
  refine List.map_congr_left (fun s hs => ?_)
  cases dst with
  | none => rfl
  | some d =>
    have hne : d ≠ s := fun e => h d rfl (e ▸ hs)
    simp [Act.put, Array.getElem?_setIfInBounds_ne hne]
section
variable {P : Program} {ops : Array Oper} {md : Region.Mode} {C : World → Prop} {Le : World → World → Prop} {M : Nat → List Value → Mode} {n : Nat}

def growUpon (P : Program) (Le : World → World → Prop) (m : Mode) (w : World) : Result Next → Prop
  | .ok (.value u) w' => Le w w' ∧ m.ok u ∧ m.fact u (w.heap.size, w'.heap.size) w'
  | .ok .skip w' => Le w w' ∧ m.ok undef ∧ m.fact undef (w.heap.size, w'.heap.size) w'
  | .ok (.enter f args) w' => w' = w ∧ Calls P f args w (fun e w'' => ∃ v, e = .returned v ∧ Le w w'' ∧ m.ok v ∧ m.fact v (w.heap.size, w''.heap.size) w'')
  | _ => False
def growAt (P : Program) (o : Oper) (a : Act) (Le : World → World → Prop) (m : Mode) (w : World) : Prop := growUpon P Le m w ((execOp a.eval o).run P w)
/-- What is asked of an operation that comes up. -/
def grow (P : Program) (ops : Array Oper) (C : World → Prop) (Le : World → World → Prop) (m : Mode) (o : Oper) (a : Act) (k : Kn) (K : Act → Kn → Prop) : Prop :=
  (∀ u I w w', Le w w' → m.fact u I w → m.fact u I w') ∧ (∀ w, C w → (∀ s ∈ o.looksAt ops, ∃ I, k s I w) → growAt P o a Le m w) ∧ ∀ u, m.ok u → K (a.put o.dst u) (kput k o.dst (m.fact u))
def wpGrow (P : Program) (ops : Array Oper) (C : World → Prop) (Le : World → World → Prop) (M : Nat → List Value → Mode) (Q : Act → Kn → Prop) : Nat → List Oper → Act → Kn → Prop
  | _, [], a, k => Q a k
  | i, o :: rest, a, k => if Region.wanted o (yielded ops a.tmps) then grow P ops C Le (M i (reads ops o a)) o a k (wpGrow P ops C Le M Q (i + 1) rest) else wpGrow P ops C Le M Q (i + 1) rest (a.put o.dst undef) (kput k o.dst (fun _ _ => True))
def gOp (P : Program) (ops : Array Oper) (C : World → Prop) (Le : World → World → Prop) (M : Nat → List Value → Mode) (i : Nat) (K : Act → Kn → Prop) (a : Act) (k : Kn) : Prop :=
  match ops[i]? with
  | none => K a k
  | some o => if Region.wanted o (yielded ops a.tmps) then grow P ops C Le (M i (reads ops o a)) o a k K else K (a.put o.dst undef) (kput k o.dst (fun _ _ => True))
theorem grow_mono {m : Mode} {o : Oper} {a : Act} {k : Kn} {K K' : Act → Kn → Prop} (h : ∀ a k, K a k → K' a k) (hh : grow P ops C Le m o a k K) : grow P ops C Le m o a k K' :=
  ⟨hh.1, hh.2.1, fun u hu => h _ _ (hh.2.2 u hu)⟩
theorem gOp_mono {i : Nat} {a : Act} {k : Kn} {K K' : Act → Kn → Prop} (h : ∀ a k, K a k → K' a k) (hh : gOp P ops C Le M i K a k) : gOp P ops C Le M i K' a k := by
  unfold gOp at *
  split
  · exact h _ _ (by simpa [*] using hh)
  · rename_i o ho
    simp only [ho] at hh
    split
    · rename_i hw; simp only [hw, if_true] at hh; exact grow_mono h hh
    · rename_i hw; simp only [hw] at hh; exact h _ _ hh
def Stays (Le : World → World → Prop) (k : Kn) : Prop := ∀ s I w w', Le w w' → k s I w → k s I w'
theorem Stays.put {k : Kn} (h : Stays Le k) (dst : Option Tmp) {f : Nat × Nat → World → Prop} (hf : ∀ I w w', Le w w' → f I w → f I w') : Stays Le (kput k dst f) := by
  cases dst with
  | none => exact h
  | some d =>
    intro s I w w' hle hk
    simp only [kput] at hk ⊢
    split
    · rename_i e; rw [if_pos e] at hk; exact hf I w w' hle hk
    · rename_i e; rw [if_neg e] at hk; exact h s I w w' hle hk
/-- Which blocks each slot's value was made in. -/
def putL (L : Nat → Nat × Nat) : Option Tmp → Nat × Nat → Nat → Nat × Nat
  | none, _ => L
  | some d, I => fun s => if s = d then I else L s
/-- All of them made by now, no two in one. -/
def Apt (L : Nat → Nat × Nat) (w : World) : Prop := (∀ s, (L s).2 ≤ w.heap.size) ∧ ∀ s t, s ≠ t → (L s).2 ≤ (L t).1 ∨ (L t).2 ≤ (L s).1
theorem Apt.put {L : Nat → Nat × Nat} {w w' : World} (h : Apt L w) (hs : w.heap.size ≤ w'.heap.size) (dst : Option Tmp) : Apt (putL L dst (w.heap.size, w'.heap.size)) w' := by
  cases dst with
  | none => exact ⟨fun s => Nat.le_trans (h.1 s) hs, h.2⟩
  | some d =>
    constructor
    · intro s
      simp only [putL]
      split
      · exact Nat.le_refl _
      · exact Nat.le_trans (h.1 s) hs
    · intro s t hst
      have h1 := h.1 s
      have h2 := h.1 t
      simp only [putL]
      by_cases e1 : s = d
      · by_cases e2 : t = d
        · exact absurd (e1.trans e2.symm) hst
        · rw [if_pos e1, if_neg e2]; exact .inr h2
      · by_cases e2 : t = d
        · rw [if_neg e1, if_pos e2]; exact .inl h1
        · rw [if_neg e1, if_neg e2]; exact h.2 s t hst
theorem all_put {k : Kn} {L : Nat → Nat × Nat} {w : World} (h : ∀ s, k s (L s) w) (dst : Option Tmp) {f : Nat × Nat → World → Prop} {I : Nat × Nat} (hf : f I w) : ∀ s, kput k dst f s (putL L dst I s) w := by
  cases dst with
  | none => exact h
  | some d =>
    intro s
    simp only [kput, putL]
    split
    · exact hf
    · exact h s
theorem all_true {k : Kn} {L : Nat → Nat × Nat} {w : World} (h : ∀ s, k s (L s) w) (dst : Option Tmp) : ∀ s, kput k dst (fun _ _ => True) s (L s) w := by
  cases dst with
  | none => exact h
  | some d =>
    intro s
    simp only [kput]
    split
    · trivial
    · exact h s
theorem wp_of_grow {o : Oper} {m : Mode} {a : Act} {k : Kn} {L : Nat → Nat × Nat} {K : Act → Kn → Prop} {K' : Act → World → Prop} {Q' : Exit → Act → World → Prop} {w : World} (hLS : ∀ w w', Le w w' → w.heap.size ≤ w'.heap.size) (hCL : ∀ w w', C w → Le w w' → C w') (hs : Stays Le k) (hw : C w) (hk : ∀ s, k s (L s) w) (hL : Apt L w)
    (h : ∀ a k L w', Stays Le k → C w' → (∀ s, k s (L s) w') → Apt L w' → K a k → K' a w') (hh : grow P ops C Le m o a k K) : o.wp P a w K' Q' := by
  obtain ⟨h0, h1, h2⟩ := hh
  have h3 := h1 w hw (fun s _ => ⟨_, hk s⟩)
  unfold growAt at h3
  unfold Oper.wp
  generalize (execOp a.eval o).run P w = r at *
  cases r with
  | ok n w' =>
    cases n <;> simp only [growUpon] at h3 <;> simp only [Oper.upon]
    case value u =>
      obtain ⟨e1, e2, e3⟩ := h3
      exact h _ _ _ _ (hs.put o.dst (h0 u)) (hCL w w' hw e1) (all_put (fun s => hs s _ w w' e1 (hk s)) o.dst e3) (hL.put (hLS _ _ e1) o.dst) (h2 u e2)
    case skip =>
      obtain ⟨e1, e2, e3⟩ := h3
      exact h _ _ _ _ (hs.put o.dst (h0 undef)) (hCL w w' hw e1) (all_put (fun s => hs s _ w w' e1 (hk s)) o.dst e3) (hL.put (hLS _ _ e1) o.dst) (h2 undef e2)
    case enter f args =>
      obtain ⟨e1, hc⟩ := h3
      rw [e1]
      refine hc.mono fun e w'' ⟨v, he, e1, e2, e3⟩ => ?_
      subst he
      exact h _ _ _ _ (hs.put o.dst (h0 v)) (hCL w w'' hw e1) (all_put (fun s => hs s _ w w'' e1 (hk s)) o.dst e3) (hL.put (hLS _ _ e1) o.dst) (h2 v e2)
  | halt x w' => simp only [growUpon] at h3
theorem wpOp_of_gOp {i : Nat} {a : Act} {k : Kn} {L : Nat → Nat × Nat} {K : Act → Kn → Prop} {K' : Act → World → Prop} {Q' : Exit → Act → World → Prop} {w : World} (hLS : ∀ w w', Le w w' → w.heap.size ≤ w'.heap.size) (hCL : ∀ w w', C w → Le w w' → C w') (hs : Stays Le k) (hw : C w) (hk : ∀ s, k s (L s) w) (hL : Apt L w)
    (h : ∀ a k L w', Stays Le k → C w' → (∀ s, k s (L s) w') → Apt L w' → K a k → K' a w') (hh : gOp P ops C Le M i K a k) : wpOp P ops Q' i K' a w := by
  unfold gOp at hh
  unfold wpOp
  split
  · rename_i ho; simp only [ho] at hh; exact h _ _ _ _ hs hw hk hL hh
  · rename_i o ho
    simp only [ho] at hh
    split
    · rename_i hwt; simp only [hwt, if_true] at hh; exact .inl (wp_of_grow hLS hCL hs hw hk hL h hh)
    · rename_i hwt; simp only [hwt] at hh; exact h _ _ _ _ (hs.put o.dst (fun _ _ _ _ h => h)) hw (all_true hk o.dst) hL hh
/-- What an operation yields: the values that it may, and what is known of them. -/
def YieldsG (P : Program) (ops : Array Oper) (C : World → Prop) (Le : World → World → Prop) (m : Mode) (o : Oper) (ok : Value → Prop) (f : Value → Nat × Nat → World → Prop) (a : Act) (k : Kn) : Prop :=
  (Region.wanted o (yielded ops a.tmps) = true ∧ ok = m.ok ∧ f = m.fact ∧ (∀ u I w w', Le w w' → m.fact u I w → m.fact u I w') ∧ ∀ w, C w → (∀ s ∈ o.looksAt ops, ∃ I, k s I w) → growAt P o a Le m w) ∨
  (Region.wanted o (yielded ops a.tmps) = false ∧ ok = (fun u => u = undef) ∧ f = fun _ _ _ => True)
theorem YieldsG.gOp {i : Nat} {o : Oper} {ok : Value → Prop} {f : Value → Nat × Nat → World → Prop} {a : Act} {k : Kn} (hi : ops[i]? = some o) (hy : YieldsG P ops C Le (M i (reads ops o a)) o ok f a k) {K : Act → Kn → Prop} (h : ∀ u, ok u → K (a.put o.dst u) (kput k o.dst (f u))) : gOp P ops C Le M i K a k := by
  unfold Go.Proofs.Ytmhckbcddmdchaa.Ivl.gOp
  simp only [hi]
  rcases hy with ⟨hw, rfl, rfl, h0, hv⟩ | ⟨hw, rfl, rfl⟩
  · simp only [hw, if_true]; exact ⟨h0, hv, h⟩
  · simp only [hw, Bool.false_eq_true, if_false]; exact h undef rfl
theorem looks_put {o : Oper} {k : Kn} {dst : Option Tmp} {f : Nat × Nat → World → Prop} {w : World} (h : ∀ d, dst = some d → d ∉ o.looksAt ops) : (∀ s ∈ o.looksAt ops, ∃ I, kput k dst f s I w) ↔ ∀ s ∈ o.looksAt ops, ∃ I, k s I w := by
  constructor
  · intro hk s hs
    have := hk s hs
    rwa [kput_ne k dst f s (fun e => h s e hs)] at this
  · intro hk s hs
    rw [kput_ne k dst f s (fun e => h s e hs)]
    exact hk s hs
theorem YieldsG.of_same {m : Mode} {o : Oper} {ok : Value → Prop} {f : Value → Nat × Nat → World → Prop} {a a' : Act} {k k' : Kn} (hy : YieldsG P ops C Le m o ok f a k) (he : execOp a'.eval o = execOp a.eval o)
    (hw : Region.wanted o (yielded ops a'.tmps) = Region.wanted o (yielded ops a.tmps)) (hk : ∀ w, (∀ s ∈ o.looksAt ops, ∃ I, k' s I w) → ∀ s ∈ o.looksAt ops, ∃ I, k s I w) : YieldsG P ops C Le m o ok f a' k' := by
  rcases hy with ⟨h1, h2, h3, h4, h5⟩ | ⟨h1, h2, h3⟩
  · refine .inl ⟨by rw [hw]; exact h1, h2, h3, h4, fun w hC hl => ?_⟩
    have := h5 w hC (hk w hl)
    unfold growAt at *
    rwa [he]
  · exact .inr ⟨by rw [hw]; exact h1, h2, h3⟩
theorem yields_some {m : Mode} {o : Oper} {ok : Value → Prop} {f : Value → Nat × Nat → World → Prop} {a : Act} {k : Kn} (hy : YieldsG P ops C Le m o ok f a k) : ∃ u, ok u := by
  rcases hy with ⟨_, rfl, _⟩ | ⟨_, rfl, _⟩
  · exact m.some'
  · exact ⟨_, rfl⟩
theorem gOp_put {j : Nat} {m : Mode} {oi oj : Oper} {ok : Value → Prop} {f : Value → Nat × Nat → World → Prop} (hj : ops[j]? = some oj) (hap : oi.apart ops oj = true)
    (hsi : ∀ cs b, oi.op ≠ .select cs b) (hsj : ∀ cs b, oj.op ≠ .select cs b) {K : Act → Kn → Prop} {a : Act} {k : Kn}
    (hy : YieldsG P ops C Le m oi ok f a k) (h : ∀ u, ok u → gOp P ops C Le M j K (a.put oi.dst u) (kput k oi.dst (f u))) :
    gOp P ops C Le M j (fun a' k' => reads ops oi a' = reads ops oi a ∧ YieldsG P ops C Le m oi ok f a' k' ∧ ∀ u, ok u → K (a'.put oi.dst u) (kput k' oi.dst (f u))) a k := by
  obtain ⟨h1, h2, h3⟩ := Oper.apart_spec hap
  have keep : ∀ u g, YieldsG P ops C Le m oi ok f (a.put oj.dst u) (kput k oj.dst g) := fun u g =>
    hy.of_same (execOp_put oi hsi a oj.dst u h3) (wanted_put oi a oj.dst u h3) (fun w hl => (looks_put h3).1 hl)
  obtain ⟨u0, hu0⟩ := yields_some hy
  unfold gOp at *
  simp only [hj] at *
  by_cases hw : Region.wanted oj (yielded ops a.tmps) = true
  · simp only [hw, if_true]
    have hw' : ∀ u, Region.wanted oj (yielded ops (a.put oi.dst u).tmps) = true := fun u => by rw [wanted_put oj a oi.dst u h1]; exact hw
    simp only [hw', if_true] at h
    have hrd : ∀ u, reads ops oj (a.put oi.dst u) = reads ops oj a := fun u => reads_put ops oj a oi.dst u h1
    simp only [hrd] at h
    refine ⟨(h u0 hu0).1, fun w hC hl => ?_, fun u' hu' => ⟨reads_put ops oi a oj.dst u' h3, keep u' _, fun u hu => ?_⟩⟩
    · have := (h u0 hu0).2.1 w hC ((looks_put h1).2 hl)
      unfold growAt at *
      rwa [execOp_put oj hsj a oi.dst u0 h1] at this
    · have := (h u hu).2.2 u' hu'
      rw [← Act.put_comm a u u' h2, ← kput_comm k oi.dst oj.dst _ _ h2]
      exact this
  · have hwf : Region.wanted oj (yielded ops a.tmps) = false := by simpa using hw
    simp only [hwf, Bool.false_eq_true, if_false]
    have hw' : ∀ u, Region.wanted oj (yielded ops (a.put oi.dst u).tmps) = false := fun u => by rw [wanted_put oj a oi.dst u h1]; exact hwf
    simp only [hw', Bool.false_eq_true, if_false] at h
    refine ⟨reads_put ops oi a oj.dst _ h3, keep _ _, fun u hu => ?_⟩
    have := h u hu
    rw [← Act.put_comm a u undef h2, ← kput_comm k oi.dst oj.dst _ _ h2]
    exact this
theorem yieldsG_of_gOp {i : Nat} {o : Oper} {a : Act} {k : Kn} {K : Act → Kn → Prop} (hi : ops[i]? = some o) (h : gOp P ops C Le M i K a k) : ∃ ok f, YieldsG P ops C Le (M i (reads ops o a)) o ok f a k ∧ ∀ u, ok u → K (a.put o.dst u) (kput k o.dst (f u)) := by
  unfold gOp at h
  simp only [hi] at h
  by_cases hw : Region.wanted o (yielded ops a.tmps) = true
  · simp only [hw, if_true] at h
    exact ⟨_, _, .inl ⟨hw, rfl, rfl, h.1, h.2.1⟩, h.2.2⟩
  · simp only [hw] at h
    exact ⟨_, _, .inr ⟨by simpa using hw, rfl, rfl⟩, fun u hu => by subst hu; exact h⟩
def wpAnyL (P : Program) (md : Region.Mode) (ops : Array Oper) (C : World → Prop) (Le : World → World → Prop) (M : Nat → List Value → Mode) (n : Nat) (Q : Act → Kn → Prop) : Nat → Array Bool → Act → Kn → Prop
  | 0, listed, a, k => Region.ready md ops listed ≠ [] ∧ (∀ j ∈ Region.ready md ops listed, j = n) ∧ Region.ready md ops (listed.setIfInBounds n true) = [] ∧ Q a k
  | fuel + 1, listed, a, k => Region.ready md ops listed ≠ [] ∧ (∀ j ∈ Region.ready md ops listed, j ≠ n) ∧ ∀ i ∈ Region.ready md ops listed, gOp P ops C Le M i (wpAnyL P md ops C Le M n Q fuel (listed.setIfInBounds i true)) a k
theorem wpAny_of_growL {Q : Act → Kn → Prop} {Q' : Exit → Act → World → Prop} (hLS : ∀ w w', Le w w' → w.heap.size ≤ w'.heap.size) (hCL : ∀ w w', C w → Le w w' → C w') (hQ : ∀ a k L w, C w → (∀ s, k s (L s) w) → Apt L w → Q a k → wpOp P ops Q' n (fun a w => Q' .normal a w) a w) : ∀ (fuel : Nat) (listed : Array Bool) (a : Act) (k : Kn) (L : Nat → Nat × Nat) (w : World), Stays Le k → C w → (∀ s, k s (L s) w) → Apt L w →
    wpAnyL P md ops C Le M n Q fuel listed a k → wpAny P md ops Q' (fuel + 1) listed a w
  | 0, _, _, _, _, _, hs, hw, hk, hL, h => ⟨fun h0 => absurd h0 h.1, fun i hi => by
      have := h.2.1 i hi
      subst this
      exact wpOp_mono (fun a w hq => ⟨h.2.2.1, hq⟩) (hQ _ _ _ _ hw hk hL h.2.2.2)⟩
  | fuel + 1, _, _, _, _, _, hs, hw, hk, hL, h => ⟨fun h0 => absurd h0 h.1, fun i hi => wpOp_of_gOp hLS hCL hs hw hk hL (fun a' k' L' w' hs' hw' hk' hL' => wpAny_of_growL hLS hCL hQ fuel _ a' k' L' w' hs' hw' hk' hL') (h.2.2 i hi)⟩
theorem wpAnyL_first {Q : Act → Kn → Prop} {i : Nat} {oi : Oper} {ok : Value → Prop} {f : Value → Nat × Nat → World → Prop} (hwt : waitsAll md ops n = true) (hin : i < n) (hi : ops[i]? = some oi) (hsel : ∀ (j : Nat) (o : Oper) cs b, ops[j]? = some o → o.op ≠ .select cs b) :
    ∀ (fuel : Nat) (listed : Array Bool) (a : Act) (k : Kn),
      (∀ j oj, ops[j]? = some oj → j ≠ i → listed.getD j true = false → (∀ e ∈ oj.after, Region.binds md e = true → e.on ≠ i) → oi.apart ops oj = true) →
      i ∈ Region.ready md ops listed → YieldsG P ops C Le (M i (reads ops oi a)) oi ok f a k →
      (∀ u, ok u → wpAnyL P md ops C Le M n Q fuel (listed.setIfInBounds i true) (a.put oi.dst u) (kput k oi.dst (f u))) → wpAnyL P md ops C Le M n Q (fuel + 1) listed a k := by
  intro fuel
  induction fuel with
  | zero =>
    intro listed a k _ hr hy H
    have hnl : ∀ j ∈ Region.ready md ops listed, j ≠ n := fun j hj e => last_waits hwt hin (mem_ready.1 hr).1 (e ▸ hj)
    refine ⟨fun h => (by rw [h] at hr; cases hr), hnl, fun j hj => ?_⟩
    by_cases hji : j = i
    · subst hji; exact hy.gOp hi H
    · obtain ⟨u0, hu0⟩ := yields_some hy
      exact absurd ((H u0 hu0).2.1 j (ready_mono hj hji)) (hnl j hj)
  | succ fuel ih =>
    intro listed a k hfree hr hy H
    have hnl : ∀ j ∈ Region.ready md ops listed, j ≠ n := fun j hj e => last_waits hwt hin (mem_ready.1 hr).1 (e ▸ hj)
    refine ⟨fun h => (by rw [h] at hr; cases hr), hnl, fun j hj => ?_⟩
    by_cases hji : j = i
    · subst hji; exact hy.gOp hi H
    · have h1 : ∀ u, ok u → _ := fun u hu => (H u hu).2.2 j (ready_mono hj hji)
      obtain ⟨hjun, oj, hoj, hall⟩ := mem_ready.1 hj
      have hnot : ∀ e ∈ oj.after, Region.binds md e = true → e.on ≠ i := fun e he hb heq => by
        have h1 := hall e he hb
        have h0 := (mem_ready.1 hr).1
        rw [heq] at h1
        rcases Nat.lt_or_ge i listed.size with h' | h'
        · simp [h'] at h0 h1; rw [h0] at h1; cases h1
        · simp [Array.getElem?_eq_none h'] at h1
      have h2 := gOp_put hoj (hfree j oj hoj hji hjun hnot) (fun cs b => hsel i oi cs b hi) (fun cs b => hsel j oj cs b hoj) hy h1
      have hfree' : ∀ k ok, ops[k]? = some ok → k ≠ i → (listed.setIfInBounds j true).getD k true = false →
          (∀ e ∈ ok.after, Region.binds md e = true → e.on ≠ i) → oi.apart ops ok = true := fun k ok hk hki hun hno => by
        refine hfree k ok hk hki ?_ hno
        by_cases hjk : j = k
        · subst hjk; exact hjun
        · rw [getD_set_ne true hjk] at hun; exact hun
      refine gOp_mono (fun a' k' h3 => ih (listed.setIfInBounds j true) a' k' hfree' (ready_mono hr (Ne.symm hji)) (by rw [h3.1]; exact h3.2.1) (fun u hu => ?_)) h2
      rw [Array.setIfInBounds_comm _ _ hji]
      exact h3.2.2 u hu
theorem wpAnyL_lex {Q : Act → Kn → Prop} (hs : Region.noSelect ops = true) (hwt : waitsAll md ops n = true) : ∀ (l : List Oper) (i : Nat) (listed : Array Bool) (a : Act) (k : Kn), i + l.length = n → (∀ j, j < l.length → l[j]? = ops[i + j]?) →
    Region.lexFrom md ops (l.length + 1) i listed = true → wpGrow P ops C Le M Q i l a k → wpAnyL P md ops C Le M n Q l.length listed a k
  | [], i, listed, _, _, hn, _, hB, h => by
    have hin : i = n := by simpa using hn
    subst hin
    simp only [List.length_nil, Region.lexFrom, Bool.and_eq_true, List.isEmpty_iff] at hB
    obtain ⟨⟨hr, hf⟩, he⟩ := hB
    have hr' : i ∈ Region.ready md ops listed := by simpa using hr
    refine ⟨fun h0 => (by rw [h0] at hr'; cases hr'), fun j hj => ?_, he, h⟩
    by_cases hji : j = i
    · exact hji
    · have := ready_mono hj hji
      rw [he] at this
      cases this
  | o :: l, i, listed, a, k, hn, hl, hB, h => by
    have h0 : ops[i]? = some o := by simpa using (hl 0 (by simp)).symm
    simp only [List.length_cons] at hn
    rw [List.length_cons] at hB
    unfold Region.lexFrom at hB
    simp only [Bool.and_eq_true] at hB
    obtain ⟨⟨hr, hf⟩, hB'⟩ := hB
    have hst : gOp P ops C Le M i (wpGrow P ops C Le M Q (i + 1) l) a k := by unfold gOp; simp only [h0]; exact h
    obtain ⟨ok, f, hy, hK⟩ := yieldsG_of_gOp h0 hst
    exact wpAnyL_first hwt (by omega) h0 (Region.noSelect_spec hs) l.length listed a k (Region.free_spec h0 hf) (by simpa using hr) hy
      (fun u hu => wpAnyL_lex hs hwt l (i + 1) _ _ _ (by omega) (fun j hj => by have := hl (j + 1) (by simp; omega); simpa [Nat.add_assoc, Nat.add_comm 1 j] using this) hB' (hK u hu))
/-- All but the last in the text's order, then the last; what was made by two of them lies apart. -/
theorem wp_region_growI {id : Nat} {Q : Exit → Act → World → Prop} {a : Act} {w : World} {l : List Oper} {o : Oper} {L : List Oper} (C : World → Prop) (Le : World → World → Prop) (M : Nat → List Value → Mode) (hm : P.follows .mixedOrders = true) (hL : L = l ++ [o]) (hB : Region.lexB .any L.toArray = true) (hwt : waitsAll .any L.toArray l.length = true) (hLS : ∀ w w', Le w w' → w.heap.size ≤ w'.heap.size) (hCL : ∀ w w', C w → Le w w' → C w') (hC : C w.drew)
    (h : wpGrow P L.toArray C Le M (fun a' k' => ∀ I w', C w' → (∀ s, k' s (I s) w') → Apt I w' → wpList P L.toArray Q [o] a' w') 0 l a (fun _ _ _ => True)) : (Code.region id L.toArray true).wp P Q a w := by
  simp only [Region.lexB, Bool.and_eq_true] at hB
  have hsz : L.toArray.size = l.length + 1 := by rw [hL]; simp
  have ho : L.toArray[l.length]? = some o := by rw [hL]; simp
  refine wp_region_any hm ?_
  rw [hsz]
  refine wpAny_of_growL (M := M) (n := l.length) (Q := fun a' k' => ∀ I w', C w' → (∀ s, k' s (I s) w') → Apt I w' → wpList P L.toArray Q [o] a' w') hLS hCL (fun a k I w' hw' hk hA h => ?_) _ _ _ (fun _ _ _ => True) (fun _ => (0, 0)) _ (fun _ _ _ _ _ h => h) hC (fun _ => trivial) ⟨fun _ => Nat.zero_le _, fun _ _ _ => .inl (Nat.le_refl _)⟩ ?_
  · have := h I w' hw' hk hA
    unfold wpList at this
    unfold wpOp
    simp only [ho]
    exact this
  · have hB2 := hB.2
    rw [hsz] at hB2
    exact wpAnyL_lex (C := C) (Le := Le) (M := M) (md := .any) hB.1 hwt l 0 _ a (fun _ _ _ => True) (by simp) (fun j hj => by rw [hL]; simp [List.getElem?_append_left hj]) hB2 h
end
/-- One value. -/
def one (v : Value) : Mode := ⟨fun u => u = v, ⟨v, rfl⟩, fun _ _ _ => True⟩
/-- Any value of which something is known, and in which blocks it was made. -/
def loose (f : Value → Nat × Nat → World → Prop) : Mode := ⟨fun _ => True, ⟨undef, trivial⟩, f⟩
def modes (l : List (List Value → Mode)) (i : Nat) : List Value → Mode := l.getD i (fun _ => one undef)
section
variable {P : Program} {ops : Array Oper} {C : World → Prop} {Le : World → World → Prop} {M : Nat → List Value → Mode} {Q : Act → Kn → Prop}
theorem g_runs {i : Nat} {o : Oper} {rest : List Oper} {a : Act} {k : Kn} (v : Value) (hR : ∀ w, Le w w) (hM : M i (reads ops o a) = one v) (hw : Region.wanted o (yielded ops a.tmps) = true)
    (h : ∀ w, C w → (execOp a.eval o).run P w = .ok (.value v) w) (hk : wpGrow P ops C Le M Q (i + 1) rest (a.put o.dst v) (kput k o.dst (fun _ _ => True))) : wpGrow P ops C Le M Q i (o :: rest) a k := by
  unfold wpGrow
  rw [if_pos hw, hM]
  refine ⟨fun _ _ _ _ _ h => h, fun w hC _ => ?_, fun u hu => ?_⟩
  · unfold growAt
    rw [h w hC]
    exact ⟨hR w, rfl, trivial⟩
  · cases hu
    exact hk
theorem g_loose {i : Nat} {o : Oper} {rest : List Oper} {a : Act} {k : Kn} (f : FuncId) (args : Array Value) (φ : Value → Nat × Nat → World → Prop) (hM : M i (reads ops o a) = loose φ) (hφ : ∀ u I w w', Le w w' → φ u I w → φ u I w') (hw : Region.wanted o (yielded ops a.tmps) = true)
    (h : ∀ w, C w → (execOp a.eval o).run P w = .ok (.enter f args) w) (hc : ∀ w, C w → (∀ s ∈ o.looksAt ops, ∃ I, k s I w) → Calls P f args w (fun e w' => ∃ v, e = .returned v ∧ Le w w' ∧ φ v (w.heap.size, w'.heap.size) w')) (hk : ∀ u, wpGrow P ops C Le M Q (i + 1) rest (a.put o.dst u) (kput k o.dst (φ u))) : wpGrow P ops C Le M Q i (o :: rest) a k := by
  unfold wpGrow
  rw [if_pos hw, hM]
  refine ⟨hφ, fun w hC hl => ?_, fun u _ => hk u⟩
  unfold growAt
  rw [h w hC]
  exact ⟨rfl, (hc w hC hl).mono fun e w' ⟨v, h1, h2, h3⟩ => ⟨v, h1, h2, trivial, h3⟩⟩
theorem g_makes {i : Nat} {o : Oper} {rest : List Oper} {a : Act} {k : Kn} (φ : Value → Nat × Nat → World → Prop) (hM : M i (reads ops o a) = loose φ) (hφ : ∀ u I w w', Le w w' → φ u I w → φ u I w') (hw : Region.wanted o (yielded ops a.tmps) = true)
    (h : ∀ w, C w → (∀ s ∈ o.looksAt ops, ∃ I, k s I w) → ∃ u w', (execOp a.eval o).run P w = .ok (.value u) w' ∧ Le w w' ∧ φ u (w.heap.size, w'.heap.size) w') (hk : ∀ u, wpGrow P ops C Le M Q (i + 1) rest (a.put o.dst u) (kput k o.dst (φ u))) : wpGrow P ops C Le M Q i (o :: rest) a k := by
  unfold wpGrow
  rw [if_pos hw, hM]
  refine ⟨hφ, fun w hC hl => ?_, fun u _ => hk u⟩
  obtain ⟨u, w', h1, h2, h3⟩ := h w hC hl
  unfold growAt
  rw [h1]
  exact ⟨h2, trivial, h3⟩
theorem g_nil {i : Nat} {a : Act} {k : Kn} (h : Q a k) : wpGrow P ops C Le M Q i [] a k := h
end

end Go.Proofs.Ytmhckbcddmdchaa.Ivl
namespace Go.Proofs.Ytmhckbcddmdchaa
open Go.RowKit
set_option linter.unusedVariables false

set_option maxHeartbeats 1000000 in
set_option maxRecDepth 100000 in
theorem two_raw (kind : Int) (t u : T) (ka la : Option Addr) (kc lc : Nat) (w : World) :
    Calls Try.prog 50 #[.int .i64 kind, .agg #[.int .i64 t.kind, .string t.s, .int .i64 t.n, .slice ka t.k.length kc], .agg #[.int .i64 u.kind, .string u.s, .int .i64 u.n, .slice la u.k.length lc]] w fun e w' => ∃ b, e = .returned (.agg #[.int .i64 kind, .string ⟨#[]⟩, .int .i64 0, .slice (some ⟨b, 0, none⟩) 2 2]) ∧ w.heap.size ≤ b ∧ Blk w' b 29 (eight t ka kc u la lc) ∧ Up w w' := by
  go_enter Try.func50, Try.ntmps50
  go_wp2_with fail
  refine bodyPost_ret (results_cell_row rfl _ _ (w.heap.size + 1 + 1) 29 #[.int .i64 kind, .string ⟨#[]⟩, .int .i64 0, .slice (some ⟨w.heap.size + 1 + 1 + 1, 0, none⟩) 2 2] (0, 0) _ rfl ?blk Try.underlying29 rfl infoT) rfl ?post
  case blk => exact blk_keep (blk_new (by simp)) _
  case post => exact ⟨_, rfl, by omega, blk_new (by simp), below_alloc (below_alloc (below_alloc (below_alloc (Below.refl _ _) _) _) _) _⟩
theorem cell_nine {W : World} {R g : Nat} {a b c d e a' b' c' d' : Value} {k o : Nat} (h1 : k ≠ g) (h2 : k ≠ R) : (((((((((W.setCell ⟨g, 0, none⟩ a).setCell ⟨g, 1, none⟩ b).setCell ⟨g, 2, none⟩ c).setCell ⟨g, 3, none⟩ d).setCell ⟨g, 1, none⟩ e).setCell ⟨R, 0, none⟩ a').setCell ⟨R, 1, none⟩ b').setCell ⟨R, 2, none⟩ c').setCell ⟨R, 3, none⟩ d').cell? ⟨k, o, none⟩ = W.cell? ⟨k, o, none⟩ := by
  rw [set4_cell' h2, World.cell?_setCell_other _ _ _ _ (by intro e; injection e with e; exact h1 e.symm), set4_cell' h1]
/-- A tree that was made in these blocks. -/
def treeI (B : Nat) (t : T) (v : Value) (I : Nat × Nat) (w : World) : Prop := ∃ ka kc, v = .agg #[.int .i64 t.kind, .string t.s, .int .i64 t.n, .slice ka t.k.length kc] ∧ B ≤ I.1 ∧ ∀ X : World, (∀ b o c, I.1 ≤ b → b < I.2 → w.cell? ⟨b, o, none⟩ = some c → X.cell? ⟨b, o, none⟩ = some c) → TIn X I.1 t (.agg (four t ka kc))
theorem treeI_stays (B : Nat) (t : T) : ∀ u I w w', Up w w' → treeI B t u I w → treeI B t u I w' := fun u I w w' h ⟨ka, kc, e, hB, ht⟩ => ⟨ka, kc, e, hB, fun X hX => ht X (fun b o c h1 h2 hc => hX b o c h1 h2 ((Below.cell h (p := ⟨b, o, none⟩) (World.block_lt_of_cell? w _ hc)).trans hc))⟩
theorem treeI_made {B : Nat} {w w' : World} {t : T} {ka : Option Addr} {kc : Nat} (hB : B ≤ w.heap.size) (ht : TIn w' w.heap.size t (.agg (four t ka kc))) : treeI B t (.agg #[.int .i64 t.kind, .string t.s, .int .i64 t.n, .slice ka t.k.length kc]) (w.heap.size, w'.heap.size) w' :=
  ⟨ka, kc, rfl, hB, fun X hX => ht.kept (Nat.le_refl _) (fun b o c hb hc => hX b o c hb (World.block_lt_of_cell? w' _ hc) hc)⟩
/-- The row of two trees. -/
def rowI (B : Nat) (ta tb : T) (r : List Value) (v : Value) (I : Nat × Nat) (w : World) : Prop := ∃ ka kc la lc b, r = [.agg #[.int .i64 ta.kind, .string ta.s, .int .i64 ta.n, .slice ka ta.k.length kc], .agg #[.int .i64 tb.kind, .string tb.s, .int .i64 tb.n, .slice la tb.k.length lc]] ∧ v = .agg #[.int .i64 5, .string ⟨#[]⟩, .int .i64 0, .slice (some ⟨b, 0, none⟩) 2 2] ∧ B ≤ b ∧ I.1 ≤ b ∧ b < I.2 ∧ Blk w b 29 (eight ta ka kc tb la lc)
theorem rowI_stays (B : Nat) (ta tb : T) (r : List Value) : ∀ u I w w', Up w w' → rowI B ta tb r u I w → rowI B ta tb r u I w' := fun u I w w' h ⟨ka, kc, la, lc, b, e1, e2, h0, h1, h2, hb⟩ => ⟨ka, kc, la, lc, b, e1, e2, h0, h1, h2, hb.below h hb.lt⟩
/-- A struct of its own, empty. -/
def zeroI (B : Nat) (v : Value) (I : Nat × Nat) (w : World) : Prop := v = .pointer (some ⟨I.1, 0, none⟩) ∧ B ≤ I.1 ∧ I.1 < I.2 ∧ Blk w I.1 29 zeroT
theorem zeroI_stays (B : Nat) : ∀ u I w w', Up w w' → zeroI B u I w → zeroI B u I w' := fun u I w w' h ⟨e, h1, h2, hb⟩ => ⟨e, h1, h2, hb.below h hb.lt⟩
set_option maxHeartbeats 1000000 in
set_option maxRecDepth 100000 in
theorem plainC_or (s : ByteArray) (l r : C) (q1 : One' l.val) (q2 : One' r.val) (ih1 : MakesC l) (ih2 : MakesC r) : MakesC (.or s l r) := by
  intro w
  have a0 := fun v xT w => notZero 68 v xT w (by decide)
  have a1 := fun v xT w => notOne 68 v xT w (by decide)
  have a2 := fun v xT w => notGive 68 v xT w (by decide)
  have a3 := fun v xT w => notAnd 68 v xT w (by decide)
  have a4 := fun v xT w => isOr v xT w
  have hs1 := q1.store
  have cv1 := q1.cells
  have mv1 := q1.cells
  unfold Value.cells at mv1
  have hs2 := q2.store
  have cv2 := q2.cells
  have mv2 := q2.cells
  unfold Value.cells at mv2
  unfold C.val
  clear q1 q2
  go_enter Try.func40, Try.ntmps40
  go_wp2_with fail
  obtain ⟨W, hW⟩ : ∃ W, W = (w.alloc (.cells #[.int .i64 0, .string ⟨#[]⟩, .int .i64 0, .slice none 0 0] 29)).alloc (.cells #[.string s, l.val, r.val] 68) := ⟨_, rfl⟩
  have HB : Hid (Below w.heap.size w W) := by rw [hW]; exact below_alloc (below_alloc (Below.refl _ _) _) _
  have HZ : Hid (Blk W w.heap.size 29 zeroT) := by rw [hW]; exact blk_keep (blk_new rfl) _
  have HX : Hid (Blk W (w.heap.size + 1) 68 #[.string s, l.val, r.val]) := by rw [hW]; exact blk_new (by simp)
  have HWS : Hid (W.heap.size = w.heap.size + 2) := by unfold Hid; rw [hW]; simp
  rw [← hW]
  clear hW
  have HI1 : Hid (∀ w, Calls Try.prog 40 #[l.val] w (TreePost w (plainC l))) := ih1
  have HI2 : Hid (∀ w, Calls Try.prog 40 #[r.val] w (TreePost w (plainC r))) := ih2
  have HPL : Hid (plainC (.or s l r) = .mk 5 s 0 [plainC l, plainC r]) := rfl
  have HF : Hid (∀ w', Below W.heap.size W w' → w'.cell? ⟨w.heap.size + 1, 0, none⟩ = some (.string s) ∧ w'.cell? ⟨w.heap.size + 1, 1, none⟩ = some l.val ∧ w'.cell? ⟨w.heap.size + 1, 2, none⟩ = some r.val) := fun w' hw' => ⟨(HX.out.below hw' HX.out.lt).cell 0, (HX.out.below hw' HX.out.lt).cell 1, (HX.out.below hw' HX.out.lt).cell 2⟩
  clear ih1 ih2
  generalize l.val = va at *
  generalize r.val = vb at *
  generalize plainC l = ta at *
  generalize plainC r = tb at *
  clear hs1 cv1 mv1 hs2 cv2 mv2 a0 a1 a2 a3 a4
  refine Ivl.wp_region_growI (l := [_, _, _, _, _, _, _, _]) (fun w' => Below W.heap.size W w') Up (Ivl.modes [fun _ => Ivl.one (.pointer (some ⟨w.heap.size + 1, 1, none⟩)), fun _ => Ivl.one va, fun _ => Ivl.loose (treeI W.heap.size ta), fun _ => Ivl.one (.pointer (some ⟨w.heap.size + 1, 2, none⟩)), fun _ => Ivl.one vb, fun _ => Ivl.loose (treeI W.heap.size tb), fun r => Ivl.loose (rowI W.heap.size ta tb r), fun _ => Ivl.loose (zeroI W.heap.size)]) (by kernel_rfl) rfl (by kernel_rfl) (by kernel_rfl) (fun _ _ h => Below.size h) (up_class _) (below_drew (Below.refl _ _)) ?_
  generalize hops : (#[_, _, _, _, _, _, _, _, _] : Array Oper) = ops
  clear hops
  refine Ivl.g_runs (.pointer (some ⟨w.heap.size + 1, 1, none⟩)) Up.refl rfl (wanted_none rfl) (fun w' hw' => ?_) ?_
  · go_simp
  simp only [Act.put, List.setIfInBounds_toArray, List.set_cons_zero, List.set_cons_succ]
  refine Ivl.g_runs (va) Up.refl rfl (wanted_none rfl) (fun w' hw' => ?_) ?_
  · obtain ⟨y0, y1, y2⟩ := HF.out w' hw'
    go_simp
  simp only [Act.put, List.setIfInBounds_toArray, List.set_cons_zero, List.set_cons_succ]
  refine Ivl.g_loose 40 #[va] (treeI W.heap.size ta) rfl (treeI_stays _ _) (wanted_none rfl) (fun w' hw' => ?_) (fun w' hw' hk => ?_) (fun u46 => ?_)
  · go_simp
  · refine (HI1.out w').mono ?_
    rintro e w3 ⟨ka, kc, rfl, ht, hb⟩
    exact ⟨_, rfl, hb, treeI_made hw'.size ht⟩
  simp only [Act.put, List.setIfInBounds_toArray, List.set_cons_zero, List.set_cons_succ]
  refine Ivl.g_runs (.pointer (some ⟨w.heap.size + 1, 2, none⟩)) Up.refl rfl (wanted_none rfl) (fun w' hw' => ?_) ?_
  · go_simp
  simp only [Act.put, List.setIfInBounds_toArray, List.set_cons_zero, List.set_cons_succ]
  refine Ivl.g_runs (vb) Up.refl rfl (wanted_none rfl) (fun w' hw' => ?_) ?_
  · obtain ⟨y0, y1, y2⟩ := HF.out w' hw'
    go_simp
  simp only [Act.put, List.setIfInBounds_toArray, List.set_cons_zero, List.set_cons_succ]
  refine Ivl.g_loose 40 #[vb] (treeI W.heap.size tb) rfl (treeI_stays _ _) (wanted_none rfl) (fun w' hw' => ?_) (fun w' hw' hk => ?_) (fun u49 => ?_)
  · go_simp
  · refine (HI2.out w').mono ?_
    rintro e w3 ⟨ka, kc, rfl, ht, hb⟩
    exact ⟨_, rfl, hb, treeI_made hw'.size ht⟩
  simp only [Act.put, List.setIfInBounds_toArray, List.set_cons_zero, List.set_cons_succ]
  refine Ivl.g_loose 50 #[.int .i64 5, u46, u49] (rowI W.heap.size ta tb [u46, u49]) rfl (rowI_stays _ _ _ _) (wanted_none rfl) (fun w' hw' => ?_) (fun w' hw' hk => ?_) (fun u50 => ?_)
  · go_simp
  · obtain ⟨_, ka, kc, rfl, _, _⟩ : ∃ I, treeI W.heap.size ta u46 I w' := hk 46 (looks_at (by simp [Op.operands, Call.operands]))
    obtain ⟨_, la, lc, rfl, _, _⟩ : ∃ I, treeI W.heap.size tb u49 I w' := hk 49 (looks_at (by simp [Op.operands, Call.operands]))
    refine (two_raw 5 ta tb ka la kc lc w').mono ?_
    rintro e w3 ⟨b, rfl, hbb, hblk, hb⟩
    exact ⟨_, rfl, hb, ka, kc, la, lc, b, rfl, rfl, Nat.le_trans hw'.size hbb, hbb, hblk.lt, hblk⟩
  simp only [Act.put, List.setIfInBounds_toArray, List.set_cons_zero, List.set_cons_succ]
  refine Ivl.g_makes (zeroI W.heap.size) rfl (zeroI_stays _) (wanted_none rfl) (fun w' hw' hk => ?_) (fun u8 => ?_)
  · refine ⟨.pointer (some ⟨w'.heap.size, 0, none⟩), w'.alloc (.cells zeroT 29), ?_, below_alloc (Below.refl _ _) _, rfl, hw'.size, ?_, blk_new rfl⟩
    · unfold zeroT
      go_simp
    · show w'.heap.size < (w'.alloc _).heap.size
      rw [World.size_alloc]
      exact Nat.lt_succ_self _
  simp only [Act.put, List.setIfInBounds_toArray, List.set_cons_zero, List.set_cons_succ]
  refine Ivl.g_nil ?_
  intro I w9 hw9 hk9 hA
  obtain ⟨ka, kc, e46, b46, t46⟩ : treeI W.heap.size ta u46 (I 46) w9 := hk9 46
  obtain ⟨la, lc, e49, b49, t49⟩ : treeI W.heap.size tb u49 (I 49) w9 := hk9 49
  obtain ⟨ka', kc', la', lc', b, e50, f50, b0, b1, b2, hblk⟩ : rowI W.heap.size ta tb [u46, u49] u50 (I 50) w9 := hk9 50
  obtain ⟨f8, b8, c8, hz8⟩ : zeroI W.heap.size u8 (I 8) w9 := hk9 8
  have d1 := hA.2 46 8 (by decide)
  have d2 := hA.2 49 8 (by decide)
  have d3 := hA.2 50 8 (by decide)
  have d4 := hA.2 46 50 (by decide)
  rw [e46, e49] at e50
  simp only [List.cons.injEq, Value.agg.injEq, and_true] at e50
  have hka : ka' = ka ∧ kc' = kc ∧ la' = la ∧ lc' = lc := by
    obtain ⟨h1, h2⟩ := e50
    simp at h1 h2
    exact ⟨h1.1.symm, h1.2.symm, h2.1.symm, h2.2.symm⟩
  obtain ⟨rfl, rfl, rfl, rfl⟩ := hka
  subst f50 f8 e46 e49
  have hws := HWS.out
  generalize hg : (I 8).1 = g at *
  have ng0 : ¬ g = w.heap.size := by omega
  have ng1 : ¬ g = w.heap.size + 1 := by omega
  have ng2 : ¬ w.heap.size = g := by omega
  have ng3 : ¬ w.heap.size + 1 = g := by omega
  obtain ⟨⟨g0, g1, g2, g3⟩, k0, k1, k2, k3⟩ := blk_zero hz8
  have hz9 := HZ.out.below hw9 HZ.out.lt
  obtain ⟨⟨z0, z1, z2, z3⟩, f0, f1, f2, f3⟩ := blk_zero hz9
  obtain ⟨y0, _, _⟩ := HF.out w9 hw9
  have HZ9 := hidIn hz9
  have HZ8 := hidIn hz8
  have HB9 := hidIn hw9
  have HT46 := hidIn t46
  have HT49 := hidIn t49
  have HBLK := hidIn hblk
  have HNUM : Hid (W.heap.size ≤ (I 46).1 ∧ W.heap.size ≤ (I 49).1 ∧ (I 50).1 ≤ b ∧ b < (I 50).2 ∧ W.heap.size ≤ g ∧ ((I 46).2 ≤ g ∨ g < (I 46).1) ∧ ((I 49).2 ≤ g ∨ g < (I 49).1) ∧ ((I 50).2 ≤ g ∨ g < (I 50).1)) := ⟨b46, b49, b1, b2, b8, by omega, by omega, by omega⟩
  have HBL : Hid (W.heap.size ≤ b) := b0
  have HG := hidIn hws
  clear hz8 hz9 hw9 t46 t49 hblk hk9 hA d1 d2 d3 d4 b46 b49 b0 b1 b2 b8 c8 e50 hws hg
  go_upto_region 17 with fail
  obtain ⟨w10, h10⟩ : ∃ y, y = (((w9.setCell ⟨g, 0, none⟩ (.int .i64 5)).setCell ⟨g, 1, none⟩ (.string ⟨#[]⟩)).setCell ⟨g, 2, none⟩ (.int .i64 0)).setCell ⟨g, 3, none⟩ (.slice (some ⟨b, 0, none⟩) 2 2) := ⟨_, rfl⟩
  have hg10 : Blk w10 g 29 #[.int .i64 5, .string ⟨#[]⟩, .int .i64 0, .slice (some ⟨b, 0, none⟩) 2 2] := by rw [h10]; exact blk_set4' HZ8.out _ _ _ _
  have hr10 : Blk w10 w.heap.size 29 zeroT := by rw [h10]; exact blk_other (blk_other (blk_other (blk_other HZ9.out ng2 _ _) ng2 _ _) ng2 _ _) ng2 _ _
  have HC10 : Hid (∀ k x, k ≠ g → w10.cell? ⟨k, x, none⟩ = w9.cell? ⟨k, x, none⟩) := by intro k x hk; rw [h10]; exact set4_cell' hk
  have HB10 : Hid (Below w.heap.size w w10) := by
    have hbw : Below w.heap.size w w9 := HB.out.trans (HB9.out.mono HB.out.size)
    have hws := HG.out
    obtain ⟨m1, m2, m3, m4, m5, m6, m7, m8⟩ := HNUM.out
    rw [h10]
    exact below_set (below_set (below_set (below_set hbw (by omega) _ _) (by omega) _ _) (by omega) _ _) (by omega) _ _
  have HBLK10 : Hid (Blk w10 b 29 (eight ta ka' kc' tb la' lc')) := by
    obtain ⟨m1, m2, m3, m4, m5, m6, m7, m8⟩ := HNUM.out
    rw [h10]
    exact blk_other (blk_other (blk_other (blk_other HBLK.out (by omega) _ _) (by omega) _ _) (by omega) _ _) (by omega) _ _
  rw [← h10]
  have y10 : w10.cell? ⟨w.heap.size + 1, 0, none⟩ = some (.string s) := (HC10.out _ _ ng3).trans y0
  clear h10 g0 g1 g2 g3 k0 k1 k2 k3 z0 z1 z2 z3 f0 f1 f2 f3 y0
  have g0 : w10.cell? ⟨g, 0, none⟩ = some (.int .i64 5) := hg10.cell 0
  have g1 : w10.cell? ⟨g, 1, none⟩ = some (.string ⟨#[]⟩) := hg10.cell 1
  have g2 : w10.cell? ⟨g, 2, none⟩ = some (.int .i64 0) := hg10.cell 2
  have g3 : w10.cell? ⟨g, 3, none⟩ = some (.slice (some ⟨b, 0, none⟩) 2 2) := hg10.cell 3
  have k1 := hg10.frozen 1
  obtain ⟨⟨z0, z1, z2, z3⟩, f0, f1, f2, f3⟩ := blk_zero hr10
  have HR10 := hidIn hr10
  clear hg10 hr10
  go_wp2_with fail
  refine bodyPost_ret (results_cell_row rfl _ _ w.heap.size 29 #[.int .i64 5, .string s, .int .i64 0, .slice (some ⟨b, 0, none⟩) 2 2] (0, 0) _ rfl ?blk Try.underlying29 rfl infoT) rfl ?post
  case blk => change Blk _ _ _ _; (with_reducible refine blk_set4' ?_ _ _ _ _); (repeat first | with_reducible exact HR10.out | with_reducible refine blk_other ?_ ng2 _ _)
  case post =>
    have hws := HG.out
    obtain ⟨m1, m2, m3, m4, m5, m6, m7, m8⟩ := HNUM.out
    have m9 := HBL.out
    rw [HPL.out]
    have hcl : ∀ k x c, k ≠ g → k ≠ w.heap.size → w9.cell? ⟨k, x, none⟩ = some c → ((((((w10.setCell ⟨g, 1, none⟩ (.string s)).setCell ⟨w.heap.size, 0, none⟩ (.int .i64 5)).setCell ⟨w.heap.size, 1, none⟩ (.string s)).setCell ⟨w.heap.size, 2, none⟩ (.int .i64 0)).setCell ⟨w.heap.size, 3, none⟩ (.slice (some ⟨b, 0, none⟩) 2 2)).cell? ⟨k, x, none⟩) = some c := by
      intro k x c h1 h2 hc
      rw [set4_cell' h2, World.cell?_setCell_other _ _ _ _ (by intro e; injection e with e; exact h1 e.symm), HC10.out k x h1]
      exact hc
    refine ⟨some ⟨b, 0, none⟩, 2, rfl, ⟨some ⟨b, 0, none⟩, 2, rfl, Nat.le_refl _, by omega, kat_two ((HT46.out _ (fun k x c h1 h2 hc => ?_)).low (by omega)) ((HT49.out _ (fun k x c h1 h2 hc => ?_)).low (by omega)) (by omega) ?_⟩, ?_⟩
    · exact hcl k x c (by omega) (by omega) hc
    · exact hcl k x c (by omega) (by omega) hc
    · (repeat first | with_reducible exact HBLK10.out | with_reducible refine blk_other ?_ (by omega) _ _)
    · (repeat first | with_reducible exact HB10.out | with_reducible refine below_set ?_ (by omega) _ _)

end Go.Proofs.Ytmhckbcddmdchaa
namespace Go.Proofs.Ytmhckbcddmdchaa
open Go.RowKit
set_option linter.unusedVariables false

/-- A tree in new memory. -/
def treeF (B : Nat) (t : T) (v : Value) (w : World) : Prop := ∃ ka kc, v = .agg #[.int .i64 t.kind, .string t.s, .int .i64 t.n, .slice ka t.k.length kc] ∧ TIn w B t (.agg (four t ka kc))
theorem treeF_stays (B : Nat) (t : T) : ∀ u w w', Up w w' → treeF B t u w → treeF B t u w' := fun u w w' h ⟨ka, kc, e, ht⟩ => ⟨ka, kc, e, ht.below h⟩
/-- Trees one behind another in new memory. -/
def kidsF (B : Nat) (l : List T) (n : Nat) (v : Value) (w : World) : Prop := ∃ b, v = .slice (some ⟨b, 0, none⟩) n n ∧ KAt w B l (some ⟨b, 0, none⟩) 0
theorem kidsF_stays (B : Nat) (l : List T) (n : Nat) : ∀ u w w', Up w w' → kidsF B l n u w → kidsF B l n u w' := fun u w w' h ⟨b, e, ht⟩ => ⟨b, e, ht.below h⟩
def madeF (B : Nat) (kind : Int) (d : Int) (l : List T) (n : Nat) (v : Value) (w : World) : Prop := ∃ b, v = .agg #[.int .i64 kind, .string ⟨#[]⟩, .int .i64 d, .slice (some ⟨b, 0, none⟩) n n] ∧ KAt w B l (some ⟨b, 0, none⟩) 0
theorem madeF_stays (B : Nat) (kind d : Int) (l : List T) (n : Nat) : ∀ u w w', Up w w' → madeF B kind d l n u w → madeF B kind d l n u w' := fun u w w' h ⟨b, e, ht⟩ => ⟨b, e, ht.below h⟩
set_option maxHeartbeats 4000000 in
set_option maxRecDepth 100000 in
theorem plainC_when (d : Int) (c : C) (q1 : One' c.val) (ih1 : MakesC c) : MakesC (.when d c) := by
  intro w
  have a0 := fun v xT w => notZero 60 v xT w (by decide)
  have a1 := fun v xT w => notOne 60 v xT w (by decide)
  have a2 := fun v xT w => notGive 60 v xT w (by decide)
  have a3 := fun v xT w => notAnd 60 v xT w (by decide)
  have a4 := fun v xT w => notOr 60 v xT w (by decide)
  have a5 := fun v xT w => notScale 60 v xT w (by decide)
  have a6 := fun v xT w => isWhen v xT w
  have hs1 := q1.store
  have cv1 := q1.cells
  have mv1 := q1.cells
  unfold Value.cells at mv1
  unfold C.val
  have HI1 := hidIn ih1
  clear q1
  go_enter Try.func40, Try.ntmps40
  go_wp2_with fail
  obtain ⟨W, hW⟩ : ∃ W, W = (w.alloc (.cells #[.int .i64 0, .string ⟨#[]⟩, .int .i64 0, .slice none 0 0] 29)).alloc (.cells #[.int .i64 d, c.val] 60) := ⟨_, rfl⟩
  have HB : Hid (Below w.heap.size w W) := by rw [hW]; exact below_alloc (below_alloc (Below.refl _ _) _) _
  have HZ : Hid (Blk W w.heap.size 29 zeroT) := by rw [hW]; exact blk_keep (blk_new rfl) _
  have HX : Hid (Blk W (w.heap.size + 1) 60 #[.int .i64 d, c.val]) := by rw [hW]; exact blk_new (by simp)
  have HWS : Hid (W.heap.size = w.heap.size + 2) := by unfold Hid; rw [hW]; simp
  rw [← hW]
  clear hW
  have HI1 : Hid (∀ w, Calls Try.prog 40 #[c.val] w (TreePost w (plainC c))) := ih1
  have HPL : Hid (plainC (.when d c) = .mk 7 ⟨#[]⟩ d [plainC c]) := rfl
  have HF : Hid (∀ w', Below W.heap.size W w' → w'.cell? ⟨w.heap.size + 1, 0, none⟩ = some (.int .i64 d) ∧ w'.cell? ⟨w.heap.size + 1, 1, none⟩ = some c.val) := fun w' hw' => ⟨(HX.out.below hw' HX.out.lt).cell 0, (HX.out.below hw' HX.out.lt).cell 1⟩
  clear ih1
  generalize c.val = vc at *
  generalize plainC c = tc at *
  clear hs1 cv1 mv1 a0 a1 a2 a3 a4 a5 a6
  refine wp_region_growL (l := [_, _, _, _, _, _, _]) (fun w' => Below W.heap.size W w') Up (modes [one (.pointer (some ⟨w.heap.size + 1, 0, none⟩)), one (.int .i64 d), one (.pointer (some ⟨w.heap.size + 1, 1, none⟩)), one (vc), loose (treeF W.heap.size tc), loose (kidsF W.heap.size [tc] 1), loose (madeF W.heap.size 7 d [tc] 1)]) (by kernel_rfl) rfl (by kernel_rfl) (by kernel_rfl) (up_class _) (below_drew (Below.refl _ _)) ?_
  generalize hops : (#[_, _, _, _, _, _, _, _] : Array Oper) = ops
  clear hops
  refine g_runs (.pointer (some ⟨w.heap.size + 1, 0, none⟩)) grow_end Up.refl rfl (wanted_none rfl) (by intro d hd w; cases hd; exact trivial) (fun w' hw' => ?_) ?_
  · go_simp
  simp only [Act.put, List.setIfInBounds_toArray, List.set_cons_zero, List.set_cons_succ]
  refine g_runs (.int .i64 d) grow_end Up.refl rfl (wanted_none rfl) (by intro d hd w; cases hd; exact trivial) (fun w' hw' => ?_) ?_
  · obtain ⟨y0, y1⟩ := HF.out w' hw'
    go_simp
  simp only [Act.put, List.setIfInBounds_toArray, List.set_cons_zero, List.set_cons_succ]
  refine g_runs (.pointer (some ⟨w.heap.size + 1, 1, none⟩)) grow_end Up.refl rfl (wanted_none rfl) (by intro d hd w; cases hd; exact trivial) (fun w' hw' => ?_) ?_
  · go_simp
  simp only [Act.put, List.setIfInBounds_toArray, List.set_cons_zero, List.set_cons_succ]
  refine g_runs (vc) grow_end Up.refl rfl (wanted_none rfl) (by intro d hd w; cases hd; exact trivial) (fun w' hw' => ?_) ?_
  · obtain ⟨y0, y1⟩ := HF.out w' hw'
    go_simp
  simp only [Act.put, List.setIfInBounds_toArray, List.set_cons_zero, List.set_cons_succ]
  refine g_loose 40 #[vc] (treeF W.heap.size tc) rfl (treeF_stays _ _) (wanted_none rfl) (fun w' hw' => ?_) (fun w' hw' hk => ?_) (fun u72 => ?_)
  · go_simp
  · refine (HI1.out w').mono ?_
    rintro e w3 ⟨ka, kc, rfl, ht, hb⟩
    exact ⟨_, rfl, hb, ka, kc, rfl, ht.low hw'.size⟩
  simp only [Act.put, List.setIfInBounds_toArray, List.set_cons_zero, List.set_cons_succ]
  refine g_makes (kidsF W.heap.size [tc] 1) rfl (kidsF_stays _ _ _) (wanted_none rfl) (fun w' hw' hk => ?_) (fun u73 => ?_)
  · obtain ⟨ka72, kc72, rfl, ht72⟩ : treeF W.heap.size tc u72 w' := hk 72 (looks_at (by simp [Op.operands]))
    refine ⟨.slice (some ⟨w'.heap.size, 0, none⟩) 1 1, w'.alloc (.cells (four tc ka72 kc72) 29), ?_, below_alloc (Below.refl _ _) _, w'.heap.size, rfl, kat_one (ht72.below (below_alloc (Below.refl _ _) _)) hw'.size (blk_new rfl)⟩
    unfold four
    go_simp
  simp only [Act.put, List.setIfInBounds_toArray, List.set_cons_zero, List.set_cons_succ]
  refine g_makes (madeF W.heap.size 7 d [tc] 1) rfl (madeF_stays _ _ _ _ _) (wanted_none rfl) (fun w' hw' hk => ?_) (fun u74 => ?_)
  · obtain ⟨b, rfl, hb⟩ : kidsF W.heap.size [tc] 1 u73 w' := hk 73 (looks_at (by simp [Op.operands]))
    refine ⟨_, w', ?_, Up.refl _, b, rfl, hb⟩
    go_simp
  simp only [Act.put, List.setIfInBounds_toArray, List.set_cons_zero, List.set_cons_succ]
  refine g_nil ?_
  intro w9 hw9 hk9
  obtain ⟨b, rfl, hkat⟩ : madeF W.heap.size 7 d [tc] 1 u74 w9 := hk9 74
  have hz9 := HZ.out.below hw9 HZ.out.lt
  obtain ⟨⟨z0, z1, z2, z3⟩, f0, f1, f2, f3⟩ := blk_zero hz9
  have HZ9 := hidIn hz9
  have HB9 := hidIn hw9
  have HK9 := hidIn hkat
  clear hz9 hw9 hkat hk9
  go_wp2_with fail
  refine bodyPost_ret (results_cell_row rfl _ _ w.heap.size 29 #[.int .i64 7, .string ⟨#[]⟩, .int .i64 d, .slice (some ⟨b, 0, none⟩) 1 1] (0, 0) _ rfl ?blk Try.underlying29 rfl infoT) rfl ?post
  case blk => change Blk _ _ _ _; (with_reducible exact blk_set4' HZ9.out _ _ _ _)
  case post =>
    have hbw : Below w.heap.size w w9 := HB.out.trans (HB9.out.mono HB.out.size)
    have hWS := HWS.out
    rw [HPL.out]
    refine ⟨some ⟨b, 0, none⟩, 1, rfl, ⟨some ⟨b, 0, none⟩, 1, rfl, Nat.le_refl _, by omega, HK9.out.kept (by omega) (fun k x v hk hv => ?_)⟩, ?_⟩
    · rw [set4_cell' (by omega)]
      exact hv
    · (repeat first | with_reducible exact hbw | with_reducible refine below_set ?_ (by omega) _ _)
set_option maxHeartbeats 4000000 in
set_option maxRecDepth 100000 in
theorem plainC_iff (n : O) (l r : C) (q1 : One' n.val) (q2 : One' l.val) (q3 : One' r.val) (ih1 : MakesO n) (ih2 : MakesC l) (ih3 : MakesC r) : MakesC (.iff n l r) := by
  intro w
  have a0 := fun v xT w => notZero 66 v xT w (by decide)
  have a1 := fun v xT w => notOne 66 v xT w (by decide)
  have a2 := fun v xT w => notGive 66 v xT w (by decide)
  have a3 := fun v xT w => notAnd 66 v xT w (by decide)
  have a4 := fun v xT w => notOr 66 v xT w (by decide)
  have a5 := fun v xT w => notScale 66 v xT w (by decide)
  have a6 := fun v xT w => notWhen 66 v xT w (by decide)
  have a7 := fun v xT w => isIf v xT w
  have hs1 := q1.store
  have cv1 := q1.cells
  have mv1 := q1.cells
  unfold Value.cells at mv1
  have hs2 := q2.store
  have cv2 := q2.cells
  have mv2 := q2.cells
  unfold Value.cells at mv2
  have hs3 := q3.store
  have cv3 := q3.cells
  have mv3 := q3.cells
  unfold Value.cells at mv3
  unfold C.val
  clear q1 q2 q3
  go_enter Try.func40, Try.ntmps40
  go_wp2_with fail
  obtain ⟨W, hW⟩ : ∃ W, W = (w.alloc (.cells #[.int .i64 0, .string ⟨#[]⟩, .int .i64 0, .slice none 0 0] 29)).alloc (.cells #[n.val, l.val, r.val] 66) := ⟨_, rfl⟩
  have HB : Hid (Below w.heap.size w W) := by rw [hW]; exact below_alloc (below_alloc (Below.refl _ _) _) _
  have HZ : Hid (Blk W w.heap.size 29 zeroT) := by rw [hW]; exact blk_keep (blk_new rfl) _
  have HX : Hid (Blk W (w.heap.size + 1) 66 #[n.val, l.val, r.val]) := by rw [hW]; exact blk_new (by simp)
  have HWS : Hid (W.heap.size = w.heap.size + 2) := by unfold Hid; rw [hW]; simp
  rw [← hW]
  clear hW
  have HI1 : Hid (∀ w, Calls Try.prog 32 #[n.val] w (TreePost w (plain n))) := ih1
  have HI2 : Hid (∀ w, Calls Try.prog 40 #[l.val] w (TreePost w (plainC l))) := ih2
  have HI3 : Hid (∀ w, Calls Try.prog 40 #[r.val] w (TreePost w (plainC r))) := ih3
  have HPL : Hid (plainC (.iff n l r) = .mk 8 ⟨#[]⟩ 0 [plain n, plainC l, plainC r]) := rfl
  have HF : Hid (∀ w', Below W.heap.size W w' → w'.cell? ⟨w.heap.size + 1, 0, none⟩ = some n.val ∧ w'.cell? ⟨w.heap.size + 1, 1, none⟩ = some l.val ∧ w'.cell? ⟨w.heap.size + 1, 2, none⟩ = some r.val) := fun w' hw' => ⟨(HX.out.below hw' HX.out.lt).cell 0, (HX.out.below hw' HX.out.lt).cell 1, (HX.out.below hw' HX.out.lt).cell 2⟩
  clear ih1 ih2 ih3
  generalize n.val = vn at *
  generalize l.val = vl at *
  generalize r.val = vr at *
  generalize plain n = tn at *
  generalize plainC l = tl at *
  generalize plainC r = tr at *
  clear hs1 cv1 mv1 hs2 cv2 mv2 hs3 cv3 mv3 a0 a1 a2 a3 a4 a5 a6 a7
  refine wp_region_growL (l := [_, _, _, _, _, _, _, _, _, _, _]) (fun w' => Below W.heap.size W w') Up (modes [one (.pointer (some ⟨w.heap.size + 1, 0, none⟩)), one (vn), loose (treeF W.heap.size tn), one (.pointer (some ⟨w.heap.size + 1, 1, none⟩)), one (vl), loose (treeF W.heap.size tl), one (.pointer (some ⟨w.heap.size + 1, 2, none⟩)), one (vr), loose (treeF W.heap.size tr), loose (kidsF W.heap.size [tn, tl, tr] 3), loose (madeF W.heap.size 8 0 [tn, tl, tr] 3)]) (by kernel_rfl) rfl (by kernel_rfl) (by kernel_rfl) (up_class _) (below_drew (Below.refl _ _)) ?_
  generalize hops : (#[_, _, _, _, _, _, _, _, _, _, _, _] : Array Oper) = ops
  clear hops
  refine g_runs (.pointer (some ⟨w.heap.size + 1, 0, none⟩)) grow_end Up.refl rfl (wanted_none rfl) (by intro d hd w; cases hd; exact trivial) (fun w' hw' => ?_) ?_
  · go_simp
  simp only [Act.put, List.setIfInBounds_toArray, List.set_cons_zero, List.set_cons_succ]
  refine g_runs (vn) grow_end Up.refl rfl (wanted_none rfl) (by intro d hd w; cases hd; exact trivial) (fun w' hw' => ?_) ?_
  · obtain ⟨y0, y1, y2⟩ := HF.out w' hw'
    go_simp
  simp only [Act.put, List.setIfInBounds_toArray, List.set_cons_zero, List.set_cons_succ]
  refine g_loose 32 #[vn] (treeF W.heap.size tn) rfl (treeF_stays _ _) (wanted_none rfl) (fun w' hw' => ?_) (fun w' hw' hk => ?_) (fun u80 => ?_)
  · go_simp
  · refine (HI1.out w').mono ?_
    rintro e w3 ⟨ka, kc, rfl, ht, hb⟩
    exact ⟨_, rfl, hb, ka, kc, rfl, ht.low hw'.size⟩
  simp only [Act.put, List.setIfInBounds_toArray, List.set_cons_zero, List.set_cons_succ]
  refine g_runs (.pointer (some ⟨w.heap.size + 1, 1, none⟩)) grow_end Up.refl rfl (wanted_none rfl) (by intro d hd w; cases hd; exact trivial) (fun w' hw' => ?_) ?_
  · go_simp
  simp only [Act.put, List.setIfInBounds_toArray, List.set_cons_zero, List.set_cons_succ]
  refine g_runs (vl) grow_end Up.refl rfl (wanted_none rfl) (by intro d hd w; cases hd; exact trivial) (fun w' hw' => ?_) ?_
  · obtain ⟨y0, y1, y2⟩ := HF.out w' hw'
    go_simp
  simp only [Act.put, List.setIfInBounds_toArray, List.set_cons_zero, List.set_cons_succ]
  refine g_loose 40 #[vl] (treeF W.heap.size tl) rfl (treeF_stays _ _) (wanted_none rfl) (fun w' hw' => ?_) (fun w' hw' hk => ?_) (fun u83 => ?_)
  · go_simp
  · refine (HI2.out w').mono ?_
    rintro e w3 ⟨ka, kc, rfl, ht, hb⟩
    exact ⟨_, rfl, hb, ka, kc, rfl, ht.low hw'.size⟩
  simp only [Act.put, List.setIfInBounds_toArray, List.set_cons_zero, List.set_cons_succ]
  refine g_runs (.pointer (some ⟨w.heap.size + 1, 2, none⟩)) grow_end Up.refl rfl (wanted_none rfl) (by intro d hd w; cases hd; exact trivial) (fun w' hw' => ?_) ?_
  · go_simp
  simp only [Act.put, List.setIfInBounds_toArray, List.set_cons_zero, List.set_cons_succ]
  refine g_runs (vr) grow_end Up.refl rfl (wanted_none rfl) (by intro d hd w; cases hd; exact trivial) (fun w' hw' => ?_) ?_
  · obtain ⟨y0, y1, y2⟩ := HF.out w' hw'
    go_simp
  simp only [Act.put, List.setIfInBounds_toArray, List.set_cons_zero, List.set_cons_succ]
  refine g_loose 40 #[vr] (treeF W.heap.size tr) rfl (treeF_stays _ _) (wanted_none rfl) (fun w' hw' => ?_) (fun w' hw' hk => ?_) (fun u86 => ?_)
  · go_simp
  · refine (HI3.out w').mono ?_
    rintro e w3 ⟨ka, kc, rfl, ht, hb⟩
    exact ⟨_, rfl, hb, ka, kc, rfl, ht.low hw'.size⟩
  simp only [Act.put, List.setIfInBounds_toArray, List.set_cons_zero, List.set_cons_succ]
  refine g_makes (kidsF W.heap.size [tn, tl, tr] 3) rfl (kidsF_stays _ _ _) (wanted_none rfl) (fun w' hw' hk => ?_) (fun u87 => ?_)
  · obtain ⟨ka80, kc80, rfl, ht80⟩ : treeF W.heap.size tn u80 w' := hk 80 (looks_at (by simp [Op.operands]))
    obtain ⟨ka83, kc83, rfl, ht83⟩ : treeF W.heap.size tl u83 w' := hk 83 (looks_at (by simp [Op.operands]))
    obtain ⟨ka86, kc86, rfl, ht86⟩ : treeF W.heap.size tr u86 w' := hk 86 (looks_at (by simp [Op.operands]))
    refine ⟨.slice (some ⟨w'.heap.size, 0, none⟩) 3 3, w'.alloc (.cells (twelve tn ka80 kc80 tl ka83 kc83 tr ka86 kc86) 29), ?_, below_alloc (Below.refl _ _) _, w'.heap.size, rfl, kat_three (ht80.below (below_alloc (Below.refl _ _) _)) (ht83.below (below_alloc (Below.refl _ _) _)) (ht86.below (below_alloc (Below.refl _ _) _)) hw'.size (blk_new rfl)⟩
    unfold twelve
    go_simp
  simp only [Act.put, List.setIfInBounds_toArray, List.set_cons_zero, List.set_cons_succ]
  refine g_makes (madeF W.heap.size 8 0 [tn, tl, tr] 3) rfl (madeF_stays _ _ _ _ _) (wanted_none rfl) (fun w' hw' hk => ?_) (fun u88 => ?_)
  · obtain ⟨b, rfl, hb⟩ : kidsF W.heap.size [tn, tl, tr] 3 u87 w' := hk 87 (looks_at (by simp [Op.operands]))
    refine ⟨_, w', ?_, Up.refl _, b, rfl, hb⟩
    go_simp
  simp only [Act.put, List.setIfInBounds_toArray, List.set_cons_zero, List.set_cons_succ]
  refine g_nil ?_
  intro w9 hw9 hk9
  obtain ⟨b, rfl, hkat⟩ : madeF W.heap.size 8 0 [tn, tl, tr] 3 u88 w9 := hk9 88
  have hz9 := HZ.out.below hw9 HZ.out.lt
  obtain ⟨⟨z0, z1, z2, z3⟩, f0, f1, f2, f3⟩ := blk_zero hz9
  have HZ9 := hidIn hz9
  have HB9 := hidIn hw9
  have HK9 := hidIn hkat
  clear hz9 hw9 hkat hk9
  go_wp2_with fail
  refine bodyPost_ret (results_cell_row rfl _ _ w.heap.size 29 #[.int .i64 8, .string ⟨#[]⟩, .int .i64 0, .slice (some ⟨b, 0, none⟩) 3 3] (0, 0) _ rfl ?blk Try.underlying29 rfl infoT) rfl ?post
  case blk => change Blk _ _ _ _; (with_reducible exact blk_set4' HZ9.out _ _ _ _)
  case post =>
    have hbw : Below w.heap.size w w9 := HB.out.trans (HB9.out.mono HB.out.size)
    have hWS := HWS.out
    rw [HPL.out]
    refine ⟨some ⟨b, 0, none⟩, 3, rfl, ⟨some ⟨b, 0, none⟩, 3, rfl, Nat.le_refl _, by omega, HK9.out.kept (by omega) (fun k x v hk hv => ?_)⟩, ?_⟩
    · rw [set4_cell' (by omega)]
      exact hv
    · (repeat first | with_reducible exact hbw | with_reducible refine below_set ?_ (by omega) _ _)

end Go.Proofs.Ytmhckbcddmdchaa
namespace Go.Proofs.Ytmhckbcddmdchaa
open Go.RowKit
set_option linter.unusedVariables false

theorem plainCC_any (c : C) (h : c.Ok) : MakesC c := by
  induction c with
  | zero => exact plainC_zero
  | one s => exact plainC_one s
  | odd v => exact plainC_odd v h
  | give c ih => exact plainC_give c (c.one' h) (ih h)
  | and l r ihl ihr => exact plainC_and l r (l.one' h.1) (r.one' h.2) (ihl h.1) (ihr h.2)
  | or s l r ihl ihr => exact plainC_or s l r (l.one' h.2.1) (r.one' h.2.2) (ihl h.2.1) (ihr h.2.2)
  | scale o c ih => exact plainC_scale o c (o.one' h.1) (c.one' h.2) (plainO_any o h.1) (ih h.2)
  | when d c ih => exact plainC_when d c (c.one' h.2) (ih h.2)
  | iff o l r ihl ihr => exact plainC_iff o l r (o.one' h.1) (l.one' h.2.1) (r.one' h.2.2) (plainO_any o h.1) (ihl h.2.1) (ihr h.2.2)

end Go.Proofs.Ytmhckbcddmdchaa
namespace Go.Proofs.Ytmhckbcddmdchaa
open Go.RowKit
set_option linter.unusedVariables false

mutual
/-- Two trees are the same, and none of them is, or has, nothing. -/
def sameTr : T → T → Bool
  | .mk kind s n k, u => decide (kind ≠ 0) && (decide (kind = u.kind) && (decide (s = u.s) && (decide (n = u.n) && (decide (k.length = u.k.length) && sameTL k u.k))))
def sameTL : List T → List T → Bool
  | a :: l, m => match m with
    | b :: m => sameTr a b && sameTL l m
    | [] => true
  | [], _ => true
end
theorem sameTL_take (l m : List T) (i : Nat) (a b : T) (h1 : l[i]? = some a) (h2 : m[i]? = some b) : sameTL (l.take (i + 1)) (m.take (i + 1)) = (sameTL (l.take i) (m.take i) && sameTr a b) := by
  induction l generalizing m i with
  | nil => simp at h1
  | cons x l ih =>
    cases m with
    | nil => simp at h2
    | cons y m =>
      cases i with
      | zero => simp at h1 h2; subst h1 h2; simp [sameTL]
      | succ i =>
        simp at h1 h2
        simp only [List.take_succ_cons, sameTL]
        rw [ih m i h1 h2, Bool.and_assoc]
theorem sameTL_false (l m : List T) (i : Nat) (a b : T) (h1 : l[i]? = some a) (h2 : m[i]? = some b) (h : sameTr a b = false) : sameTL l m = false := by
  induction l generalizing m i with
  | nil => simp at h1
  | cons x l ih =>
    cases m with
    | nil => simp at h2
    | cons y m =>
      cases i with
      | zero => simp at h1 h2; subst h1 h2; simp [sameTL, h]
      | succ i =>
        simp at h1 h2
        simp only [sameTL]
        rw [ih m i h1 h2, Bool.and_false]

set_option maxHeartbeats 2000000 in
set_option maxRecDepth 100000 in
theorem refSame_any (t : T) : ∀ (u : T) (w : World) (v x : Value), TIn w 0 t v → TIn w 0 u x → Calls Try.prog 16 #[v, x] w fun e w' => e = .returned (.bool (sameTr t u)) ∧ Below w.heap.size w w' := by
  induction t using T.ind with
  | _ kind s n k ih =>
  rintro ⟨kind2, s2, n2, k2⟩ w v x hv hx
  have hkl := len_cap hv
  have hul := len_cap hx
  obtain ⟨a, cap, rfl, hc1, hc2, hK⟩ := hv
  obtain ⟨ua, ucap, rfl, uc1, uc2, uK⟩ := hx
  simp only [T.kind, T.s, T.n, T.k] at hc1 hK hkl uc1 uK hul ⊢
  have HIH : Hid (∀ t ∈ k, ∀ (u : T) (w : World) (v x : Value), TIn w 0 t v → TIn w 0 u x → Calls Try.prog 16 #[v, x] w fun e w' => e = .returned (.bool (sameTr t u)) ∧ Below w.heap.size w w') := ih
  have HK := hidIn hK
  have HU := hidIn uK
  clear ih hK uK
  by_cases h0 : kind = 0
  · have HS : Hid (sameTr (.mk kind s n k) (.mk kind2 s2 n2 k2) = false) := by unfold Hid sameTr; simp [T.kind, T.s, T.n, T.k, h0]
    subst h0
    go_enter Try.func16, Try.ntmps16
    go_wp2_with fail
    go_ret
    exact ⟨by rw [HS.out]; rfl, below_alloc (below_alloc (Below.refl _ _) _) _⟩
  have h0' : (kind == 0) = false := by rw [beq_eq_false_iff_ne]; exact h0
  by_cases h1 : kind = kind2
  case neg =>
    have HS : Hid (sameTr (.mk kind s n k) (.mk kind2 s2 n2 k2) = false) := by unfold Hid sameTr; simp [T.kind, T.s, T.n, T.k, h1]
    have h1' : (kind == kind2) = false := by rw [beq_eq_false_iff_ne]; exact h1
    go_enter Try.func16, Try.ntmps16
    go_wp2_with fail
    go_ret
    exact ⟨by rw [HS.out]; rfl, below_alloc (below_alloc (Below.refl _ _) _) _⟩
  by_cases h2 : s = s2
  case neg =>
    have HS : Hid (sameTr (.mk kind s n k) (.mk kind2 s2 n2 k2) = false) := by unfold Hid sameTr; simp [T.kind, T.s, T.n, T.k, h2]
    have h2' : ¬ s.toList = s2.toList := fun e => h2 (toList_inj e)
    have h2'' : (s.toList == s2.toList) = false := by rw [beq_eq_false_iff_ne]; exact h2'
    go_enter Try.func16, Try.ntmps16
    go_wp2_with fail
    go_ret
    exact ⟨by rw [HS.out]; rfl, below_alloc (below_alloc (Below.refl _ _) _) _⟩
  by_cases h3 : n = n2
  case neg =>
    have HS : Hid (sameTr (.mk kind s n k) (.mk kind2 s2 n2 k2) = false) := by unfold Hid sameTr; simp [T.kind, T.s, T.n, T.k, h3]
    have h3' : (n == n2) = false := by rw [beq_eq_false_iff_ne]; exact h3
    go_enter Try.func16, Try.ntmps16
    go_wp2_with fail
    go_ret
    exact ⟨by rw [HS.out]; rfl, below_alloc (below_alloc (Below.refl _ _) _) _⟩
  by_cases h4 : k.length = k2.length
  case neg =>
    have HS : Hid (sameTr (.mk kind s n k) (.mk kind2 s2 n2 k2) = false) := by unfold Hid sameTr; simp [T.kind, T.s, T.n, T.k, h4]
    have h4' : ((k.length : Int) == (k2.length : Int)) = false := by rw [beq_eq_false_iff_ne]; omega
    have h4'' : ¬ (k.length : Int) = (k2.length : Int) := by omega
    have h4b : ((k.length : Int) != (k2.length : Int)) = true := by rw [bne, h4']; rfl
    go_enter Try.func16, Try.ntmps16
    go_wp2_with fail
    go_ret
    exact ⟨by rw [HS.out]; rfl, below_alloc (below_alloc (Below.refl _ _) _) _⟩
  have HS : Hid (sameTr (.mk kind s n k) (.mk kind s n k2) = sameTL k k2) := by unfold Hid sameTr; simp [T.kind, T.s, T.n, T.k, h0, h4]
  rw [← h1, ← h2, ← h3, ← h4]
  rw [← h4] at uc1 hul
  have H4 := hidIn h4
  clear h1 h2 h3 h4
  go_enter Try.func16, Try.ntmps16
  go_wp2_with fail
  obtain ⟨W, hW⟩ : ∃ W, W = (w.alloc (.cells #[.int .i64 kind, .string s, .int .i64 n, .slice a k.length cap] 29)).alloc (.cells #[.int .i64 kind, .string s, .int .i64 n, .slice ua k.length ucap] 29) := ⟨_, rfl⟩
  have HB : Hid (Below w.heap.size w W) := by rw [hW]; exact below_alloc (below_alloc (Below.refl _ _) _) _
  have HG : Hid (W.cell? ⟨w.heap.size, 3, none⟩ = some (.slice a k.length cap)) := by rw [hW]; exact (below_alloc (Below.refl _ _) _).cell (p := ⟨w.heap.size, 3, none⟩) (by simp) |>.trans ((cell_of_row _ _ _ _ _ _ (heap_alloc_new _ _)).trans rfl)
  have HG2 : Hid (W.cell? ⟨w.heap.size + 1, 3, none⟩ = some (.slice ua k.length ucap)) := by
    rw [hW]
    have := heap_alloc_new (w.alloc (.cells #[.int .i64 kind, .string s, .int .i64 n, .slice a k.length cap] 29)) (.cells #[.int .i64 kind, .string s, .int .i64 n, .slice ua k.length ucap] 29)
    rw [World.size_alloc] at this
    exact (cell_of_row _ _ _ _ _ _ this).trans rfl
  rw [← hW]
  clear hW
  have HKW : Hid (KAt W 0 k a 0) := HK.out.below HB.out
  have HUW : Hid (KAt W 0 k2 ua 0) := HU.out.below HB.out
  clear HK HU
  go_loopw [42] (fun s42 wr => ∃ i : Nat, i ≤ k.length ∧ s42 = .int .i64 i ∧ sameTL (k.take i) (k2.take i) = true ∧ Below W.heap.size W wr) (fun s42 _ => k.length - (intOf s42).toNat)
  case atStart => exact ⟨0, by omega, rfl, by simp [sameTL], Below.refl _ _⟩
  case round =>
    obtain ⟨i, hi, rfl, hso, hbr⟩ := hrel
    have HSO := hidIn hso
    have HBR := hidIn hbr
    clear hso
    by_cases hlt : i < k.length
    · have hlt' : (i : Int) < (k.length : Int) := by omega
      obtain ⟨t, hti⟩ : ∃ t, k[i]? = some t := ⟨_, List.getElem?_eq_getElem hlt⟩
      obtain ⟨u, hui⟩ : ∃ u, k2[i]? = some u := ⟨_, List.getElem?_eq_getElem (by have := H4.out; omega)⟩
      obtain ⟨b, o, ka, ca, rfl, c0, c1, c2, c3, ht⟩ := (HKW.out.below hbr).cells hti
      obtain ⟨b2, o2, kb, cb, rfl, d0, d1, d2, d3, hu⟩ := (HUW.out.below hbr).cells hui
      have g3 : wr.cell? ⟨w.heap.size, 3, none⟩ = some (.slice (some ⟨b, o, none⟩) k.length cap) := (hbr.cell (p := ⟨w.heap.size, 3, none⟩) (World.block_lt_of_cell? _ _ HG.out)).trans HG.out
      have g4 : wr.cell? ⟨w.heap.size + 1, 3, none⟩ = some (.slice (some ⟨b2, o2, none⟩) k.length ucap) := (hbr.cell (p := ⟨w.heap.size + 1, 3, none⟩) (World.block_lt_of_cell? _ _ HG2.out)).trans HG2.out
      have HM : Hid (t ∈ k) := List.mem_of_getElem? hti
      have HTI := hidIn ht
      have HUI := hidIn hu
      have HNX := hidIn (sameTL_take k k2 i t u hti hui)
      have HFL : Hid (sameTr t u = false → sameTL k k2 = false) := fun h => sameTL_false k k2 i t u hti hui h
      have HLT := World.block_lt_of_cell? _ _ c0
      have HLU := World.block_lt_of_cell? _ _ d0
      have HL3 := World.block_lt_of_cell? _ _ g3
      have HL4 := World.block_lt_of_cell? _ _ g4
      have HF : Hid (∀ w', Below wr.heap.size wr w' → w'.cell? ⟨w.heap.size, 3, none⟩ = some (.slice (some ⟨b, o, none⟩) k.length cap) ∧ w'.cell? ⟨w.heap.size + 1, 3, none⟩ = some (.slice (some ⟨b2, o2, none⟩) k.length ucap) ∧ (w'.cell? ⟨b, o + i * 4, none⟩ = some (.int .i64 t.kind) ∧ w'.cell? ⟨b, o + i * 4 + 1, none⟩ = some (.string t.s) ∧ w'.cell? ⟨b, o + i * 4 + 2, none⟩ = some (.int .i64 t.n) ∧ w'.cell? ⟨b, o + i * 4 + 3, none⟩ = some (.slice ka t.k.length ca)) ∧ (w'.cell? ⟨b2, o2 + i * 4, none⟩ = some (.int .i64 u.kind) ∧ w'.cell? ⟨b2, o2 + i * 4 + 1, none⟩ = some (.string u.s) ∧ w'.cell? ⟨b2, o2 + i * 4 + 2, none⟩ = some (.int .i64 u.n) ∧ w'.cell? ⟨b2, o2 + i * 4 + 3, none⟩ = some (.slice kb u.k.length cb))) := fun w' h =>
        ⟨(h.cell (p := ⟨w.heap.size, 3, none⟩) HL3).trans g3, (h.cell (p := ⟨w.heap.size + 1, 3, none⟩) HL4).trans g4, ⟨(h.cell (p := ⟨b, o + i * 4, none⟩) HLT).trans c0, (h.cell (p := ⟨b, o + i * 4 + 1, none⟩) HLT).trans c1, (h.cell (p := ⟨b, o + i * 4 + 2, none⟩) HLT).trans c2, (h.cell (p := ⟨b, o + i * 4 + 3, none⟩) HLT).trans c3⟩, ⟨(h.cell (p := ⟨b2, o2 + i * 4, none⟩) HLU).trans d0, (h.cell (p := ⟨b2, o2 + i * 4 + 1, none⟩) HLU).trans d1, (h.cell (p := ⟨b2, o2 + i * 4 + 2, none⟩) HLU).trans d2, (h.cell (p := ⟨b2, o2 + i * 4 + 3, none⟩) HLU).trans d3⟩⟩
      clear hti hui ht hu c0 c1 c2 c3 d0 d1 d2 d3 g3 g4 hbr HLT HLU HL3 HL4
      go_wp2_with fail
      refine wp_region_class (fun w' => Below wr.heap.size wr w') (by kernel_rfl) (by kernel_rfl) (below_drew (Below.refl _ _)) ?_
      generalize hops : (#[_, _, _, _, _, _, _, _, _, _, _, _] : Array Oper) = ops
      refine quiet_runs (.pointer (some ⟨w.heap.size, 3, none⟩)) rfl (fun w' hw' => ?_) ?_
      · go_simp
      simp only [Act.put, List.setIfInBounds_toArray, List.set_cons_zero, List.set_cons_succ]
      refine quiet_runs (.slice (some ⟨b, o, none⟩) k.length cap) rfl (fun w' hw' => ?_) ?_
      · obtain ⟨f0, f1, ⟨f2, f3, f4, f5⟩, f6, f7, f8, f9⟩ := HF.out w' hw'
        go_simp
      simp only [Act.put, List.setIfInBounds_toArray, List.set_cons_zero, List.set_cons_succ]
      refine quiet_runs (.int .i64 i) rfl (fun w' hw' => ?_) ?_
      · go_simp
      simp only [Act.put, List.setIfInBounds_toArray, List.set_cons_zero, List.set_cons_succ]
      refine quiet_runs (.pointer (some ⟨b, o + i * 4, none⟩)) rfl (fun w' hw' => ?_) ?_
      · go_simp
      simp only [Act.put, List.setIfInBounds_toArray, List.set_cons_zero, List.set_cons_succ]
      refine quiet_runs (.agg #[.int .i64 t.kind, .string t.s, .int .i64 t.n, .slice ka t.k.length ca]) rfl (fun w' hw' => ?_) ?_
      · obtain ⟨f0, f1, ⟨f2, f3, f4, f5⟩, f6, f7, f8, f9⟩ := HF.out w' hw'
        go_simp
      simp only [Act.put, List.setIfInBounds_toArray, List.set_cons_zero, List.set_cons_succ]
      refine quiet_runs (.pointer (some ⟨w.heap.size + 1, 3, none⟩)) rfl (fun w' hw' => ?_) ?_
      · go_simp
      simp only [Act.put, List.setIfInBounds_toArray, List.set_cons_zero, List.set_cons_succ]
      refine quiet_runs (.slice (some ⟨b2, o2, none⟩) k.length ucap) rfl (fun w' hw' => ?_) ?_
      · obtain ⟨f0, f1, ⟨f2, f3, f4, f5⟩, f6, f7, f8, f9⟩ := HF.out w' hw'
        go_simp
      simp only [Act.put, List.setIfInBounds_toArray, List.set_cons_zero, List.set_cons_succ]
      refine quiet_runs (.int .i64 i) rfl (fun w' hw' => ?_) ?_
      · go_simp
      simp only [Act.put, List.setIfInBounds_toArray, List.set_cons_zero, List.set_cons_succ]
      refine quiet_runs (.pointer (some ⟨b2, o2 + i * 4, none⟩)) rfl (fun w' hw' => ?_) ?_
      · go_simp
      simp only [Act.put, List.setIfInBounds_toArray, List.set_cons_zero, List.set_cons_succ]
      refine quiet_runs (.agg #[.int .i64 u.kind, .string u.s, .int .i64 u.n, .slice kb u.k.length cb]) rfl (fun w' hw' => ?_) ?_
      · obtain ⟨f0, f1, ⟨f2, f3, f4, f5⟩, f6, f7, f8, f9⟩ := HF.out w' hw'
        go_simp
      simp only [Act.put, List.setIfInBounds_toArray, List.set_cons_zero, List.set_cons_succ]
      refine quiet_calls 16 #[.agg #[.int .i64 t.kind, .string t.s, .int .i64 t.n, .slice ka t.k.length ca], .agg #[.int .i64 u.kind, .string u.s, .int .i64 u.n, .slice kb u.k.length cb]] (.bool (sameTr t u)) rfl (fun w' hw' => ?_) (fun w' hw' => ?_) ?_
      · go_simp
      · refine (HIH.out t HM.out u w' _ _ (HTI.out.below hw') (HUI.out.below hw')).mono ?_
        rintro e w3 ⟨rfl, hb3⟩
        exact ⟨rfl, hw'.trans (hb3.mono hw'.size)⟩
      simp only [Act.put, List.setIfInBounds_toArray, List.set_cons_zero, List.set_cons_succ]
      refine quiet_runs (.bool (!sameTr t u)) rfl (fun w' hw' => ?_) ?_
      · go_simp
      simp only [Act.put, List.setIfInBounds_toArray, List.set_cons_zero, List.set_cons_succ]
      refine wpQuiet_nil ?_
      intro w4 hw4
      have HB4 := hidIn (HBR.out.trans (hw4.mono HBR.out.size))
      clear hw4
      cases hst : sameTr t u with
      | true =>
        rw [hst] at HNX
        go_wp2_with fail
        go_roundw
        case rel => exact ⟨i + 1, by omega, by go_num, by rw [HNX.out, HSO.out]; rfl, HB4.out⟩
        case measure => simp [intOf]; omega
      | false =>
        have HFA := hidIn (HFL.out hst)
        go_wp2_with fail
        go_ret
        exact ⟨by rw [HS.out, HFA.out]; rfl, HB.out.trans (HB4.out.mono HB.out.size)⟩
    · have hle : i = k.length := by omega
      subst hle
      have HE : Hid (sameTL k k2 = true) := by
        have h := HSO.out
        rw [List.take_length] at h
        rw [show k.length = k2.length from H4.out, List.take_length] at h
        exact h
      go_wp2_with fail
      go_ret
      exact ⟨by rw [HS.out, HE.out]; rfl, HB.out.trans (HBR.out.mono HB.out.size)⟩

end Go.Proofs.Ytmhckbcddmdchaa
namespace Go.Proofs.Ytmhckbcddmdchaa
open Go.RowKit
set_option linter.unusedVariables false

mutual
/-- The names of a tree's Fixes, in order. -/
def T.nams : T → List ByteArray
  | .mk kind s _ k => if kind = 12 then [s] else namsL k
def namsL : List T → List ByteArray
  | [] => []
  | t :: l => t.nams ++ namsL l
end
theorem namsL_snoc (l : List T) (k : T) : namsL (l ++ [k]) = namsL l ++ k.nams := by
  induction l with
  | nil => simp [namsL]
  | cons a l ih => simp [namsL, ih]
theorem nams_cnt : ∀ t : T, t.nams.length ≤ t.cnt := by
  intro t
  induction t using T.ind with
  | _ kind s n k ih =>
    have h : (namsL k).length ≤ cntL k := by
      induction k with
      | nil => simp [namsL]
      | cons a l ihl =>
        have h1 := ih a (by simp)
        have h2 := ihl (fun t ht => ih t (by simp [ht]))
        simp only [namsL, cntL, List.length_append]
        omega
    unfold T.nams T.cnt
    split
    · simp
    · omega
theorem namsL_cnt (l : List T) : (namsL l).length ≤ cntL l := by
  induction l with
  | nil => simp [namsL]
  | cons a l ih => have := nams_cnt a; simp only [namsL, cntL, List.length_append]; omega
/-- A new list of one text is a row of the call's own. -/
theorem own_one (w : World) (s : ByteArray) : (w.alloc (.cells #[.string s] 9)).ownsRow w.heap.size 9 1 (.slice (some ⟨w.heap.size, 0, none⟩) 1 1) [s].length (strCells [s]) := by
  refine ⟨by simp [strCells], .inr ⟨w.heap.size, 1, #[.string s], rfl, Nat.le_refl _, heap_alloc_new _ _, by simp, by unfold maxLen; omega, by simp, by simp [strCells]⟩⟩

set_option maxHeartbeats 4000000 in
set_option maxRecDepth 100000 in
theorem refNames0_any (t : T) : t.cnt ≤ 999990 → ∀ (w : World) (v : Value), TIn w 0 t v → Calls Try.prog 38 #[v] w fun e w' => ∃ v', e = .returned v' ∧ w'.ownsRow w.heap.size 9 1 v' t.nams.length (strCells t.nams) ∧ Below w.heap.size w w' := by
  induction t using T.ind with
  | _ kind s n k ih =>
  intro hcnt w v hv
  have hkl := len_cap hv
  obtain ⟨a, cap, rfl, hc1, hc2, hK⟩ := hv
  simp only [T.kind, T.s, T.n, T.k] at hc1 hK hkl ⊢
  have hct : (T.mk kind s n k).cnt = cntL k + 1 := by rw [T.cnt]
  rw [hct] at hcnt
  have HIH : Hid (∀ t ∈ k, ∀ (w : World) (v : Value), TIn w 0 t v → Calls Try.prog 38 #[v] w fun e w' => ∃ v', e = .returned v' ∧ w'.ownsRow w.heap.size 9 1 v' t.nams.length (strCells t.nams) ∧ Below w.heap.size w w') := fun t ht => ih t ht (by have := cntL_mem k t ht; omega)
  have HK := hidIn hK
  have HCN := hidIn hcnt
  clear ih hK hct
  by_cases h12 : kind = 12
  · have HL : Hid ((T.mk kind s n k).nams = [s]) := by unfold Hid; rw [T.nams, if_pos h12]
    subst h12
    go_enter Try.func38, Try.ntmps38
    go_wp2_with fail
    go_ret
    refine ⟨_, rfl, ?_, below_alloc (below_alloc (Below.refl _ _) _) _⟩
    rw [HL.out]
    have h := own_one (w.alloc (.cells #[.int .i64 12, .string s, .int .i64 n, .slice a k.length cap] 29)) s
    rw [World.size_alloc] at h
    exact ownsRow_base h (by omega)
  · have HL : Hid ((T.mk kind s n k).nams = namsL k) := by unfold Hid; rw [T.nams, if_neg h12]
    have h12' : (kind == 12) = false := by rw [beq_eq_false_iff_ne]; exact h12
    clear h12
    go_enter Try.func38, Try.ntmps38
    go_wp2_with fail
    obtain ⟨W, hW⟩ : ∃ W, W = w.alloc (.cells #[.int .i64 kind, .string s, .int .i64 n, .slice a k.length cap] 29) := ⟨_, rfl⟩
    have HB : Hid (Below w.heap.size w W) := by rw [hW]; exact below_alloc (Below.refl _ _) _
    have HBK : Hid (W.heap[w.heap.size]? = some (.cells #[.int .i64 kind, .string s, .int .i64 n, .slice a k.length cap] 29 (0, 0))) := by rw [hW]; exact heap_alloc_new _ _
    rw [← hW]
    clear hW
    have HG : Hid (∀ X, Below W.heap.size W X → X.cell? ⟨w.heap.size, 3, none⟩ = some (.slice a k.length cap)) := fun X hX => (cell_of_row _ _ _ _ _ _ ((hX.block _ (Array.getElem?_eq_some_iff.1 HBK.out).1).trans HBK.out)).trans rfl
    have HKW : Hid (KAt W 0 k a 0) := HK.out.below HB.out
    clear HBK HK
    go_loopw [14, 3] (fun s14 s3 wr => ∃ i : Nat, i ≤ k.length ∧ s14 = .int .i64 i ∧ wr.ownsRow W.heap.size 9 1 s3 (namsL (k.take i)).length (strCells (namsL (k.take i))) ∧ Below W.heap.size W wr) (fun s14 _ _ => k.length - (intOf s14).toNat)
    case atStart => exact ⟨0, by omega, rfl, by simp only [List.take_zero, namsL]; exact World.ownsRow_nil _ _ _ _, Below.refl _ _⟩
    case round =>
      obtain ⟨i, hi, rfl, hrow, hbr⟩ := hrel
      have HROW := hidIn hrow
      have HBR := hidIn hbr
      by_cases hlt : i < k.length
      · have hlt' : (i : Int) < (k.length : Int) := by omega
        obtain ⟨t, hti⟩ : ∃ t, k[i]? = some t := ⟨_, List.getElem?_eq_getElem hlt⟩
        obtain ⟨b, o, ka, ca, rfl, c0, c1, c2, c3, ht⟩ := (HKW.out.below hbr).cells hti
        have g3 := HG.out wr hbr
        have HM : Hid (t ∈ k) := List.mem_of_getElem? hti
        have HTI := hidIn ht
        have htk := take_more _ _ _ hti
        have HT3 : Hid (namsL (k.take (i + 1)) = namsL (k.take i) ++ t.nams) := by unfold Hid; rw [htk, namsL_snoc]
        have HLEN : Hid ((namsL (k.take i)).length + t.nams.length ≤ 1000000) := by
          have h1 := nams_cnt t
          have h2 := namsL_cnt (k.take i)
          have h3 := cntL_take k (i + 1)
          rw [htk, cntL_snoc] at h3
          have := HCN.out
          show _ ≤ _
          omega
        clear hti htk ht hrow hbr
        generalize namsL (k.take i) = L at *
        go_wp2_with fail
        refine (HIH.out t HM.out wr _ HTI.out).mono ?_
        rintro e w4 ⟨v4, rfl, hrow4, hb4⟩
        have HB4 := hidIn (HBR.out.trans (hb4.mono HBR.out.size))
        have HROW4 := hidIn (ownsRow_below HROW.out hb4)
        have HNEW := hidIn hrow4
        clear hb4 hrow4 c0 c1 c2 c3 g3 HTI
        go_wp2_with (first
          | (at_builtin; refine wpList_append_rows _ rfl _ _ rfl W.heap.size _ L rfl HROW4.out wr.heap.size _ t.nams rfl HNEW.out HLEN.out HB4.out.size ?_; intro v5 w5 hown5 hgrow5 hloc5)
          | go_in)
        have HB5 : Hid (Below W.heap.size W w5) := HB4.out.grown hgrow5 HB4.out.size (fun j hj => (HROW4.out.lt j hj).1)
        have HOWN5 := hidIn hown5
        clear hown5 hgrow5 hloc5
        go_wp2_with fail
        go_roundw
        case rel => exact ⟨i + 1, by omega, by go_num, by rw [HT3.out]; exact HOWN5.out, HB5.out⟩
        case measure => simp [intOf]; omega
      · have hle : i = k.length := by omega
        subst hle
        have HE : Hid (wr.ownsRow W.heap.size 9 1 u3 (namsL k).length (strCells (namsL k))) := by have h := HROW.out; rw [List.take_length] at h; exact h
        clear hrow HROW hbr
        go_wp2_with fail
        go_ret
        refine ⟨_, rfl, ?_, HB.out.trans (HBR.out.mono HB.out.size)⟩
        rw [HL.out]
        exact ownsRow_base HE.out HB.out.size

end Go.Proofs.Ytmhckbcddmdchaa
namespace Go.Proofs.Ytmhckbcddmdchaa
open Go.RowKit
set_option linter.unusedVariables false

/-- A text is among the first of a list. -/
def inFirst (L : List ByteArray) (s : ByteArray) (j : Nat) : Bool := (L.take j).any (fun x => decide (x = s))
theorem inFirst_next (L : List ByteArray) (s : ByteArray) (j : Nat) (x : ByteArray) (h : L[j]? = some x) : inFirst L s (j + 1) = (inFirst L s j || decide (x = s)) := by
  unfold inFirst
  rw [take_more _ _ _ h, List.any_append]
  simp

theorem addAll_le (acc l : List ByteArray) : (addAll acc l).length ≤ acc.length + l.length := by
  induction l generalizing acc with
  | nil => simp [addAll]
  | cons x l ih =>
    have h1 := ih (addN acc x)
    have h2 := addN_length acc x
    have e : addAll acc (x :: l) = addAll (addN acc x) l := rfl
    rw [e]
    simp only [List.length_cons]
    omega

set_option maxHeartbeats 4000000 in
set_option maxRecDepth 100000 in
theorem refNames_any (t : T) (hcnt : t.cnt ≤ 999990) (w : World) (v : Value) (hv : TIn w 0 t v) : Calls Try.prog 14 #[v] w fun e w' => ∃ v', e = .returned v' ∧ w'.ownsRow w.heap.size 9 1 v' (addAll [] t.nams).length (strCells (addAll [] t.nams)) ∧ Below w.heap.size w w' := by
  have HV := hidIn hv
  obtain ⟨a, cap, rfl, hc1, hc2, hK⟩ := hv
  have HLEN : Hid (t.nams.length ≤ 999990) := by have := nams_cnt t; show _ ≤ _; omega
  clear hK
  go_enter Try.func14, Try.ntmps14
  go_wp2_with fail
  obtain ⟨W, hW⟩ : ∃ W, W = w.alloc (.cells #[.int .i64 t.kind, .string t.s, .int .i64 t.n, .slice a t.k.length cap] 29) := ⟨_, rfl⟩
  have HB : Hid (Below w.heap.size w W) := by rw [hW]; exact below_alloc (Below.refl _ _) _
  have HVW := hidIn (HV.out.below HB.out)
  rw [← hW]
  clear hW HV
  refine (refNames0_any t hcnt W _ HVW.out).mono ?_
  rintro e w1 ⟨v1, rfl, hown1, hb1⟩
  have HB1 := hidIn hb1
  have HO1 := hidIn hown1
  clear hb1
  obtain ⟨L, HL⟩ : ∃ L, Hid (t.nams = L) := ⟨_, rfl⟩
  rw [HL.out] at hown1 HLEN HO1
  obtain ⟨sa, sc, rfl, htx, hll, _⟩ := own_txt hown1
  obtain ⟨i0, gi, gz0, gz1, gz2⟩ := info_parts infoStr
  have HTX := hidIn htx
  clear hown1 hcnt htx
  have hLl := HLEN.out
  go_wp2_with fail
  go_loopw [11, 3] (fun s11 s3 wr => ∃ i : Nat, i ≤ L.length ∧ s11 = .int .i64 i ∧ wr.ownsRow w1.heap.size 9 1 s3 (addAll [] (L.take i)).length (strCells (addAll [] (L.take i))) ∧ Below w1.heap.size w1 wr) (fun s11 _ _ => L.length - (intOf s11).toNat)
  case atStart => exact ⟨0, by omega, rfl, by simp only [List.take_zero]; exact World.ownsRow_nil _ _ _ _, Below.refl _ _⟩
  case round =>
    obtain ⟨i, hi, rfl, hrow, hbr⟩ := hrel
    obtain ⟨wA, hwA⟩ : ∃ y, y = wr := ⟨_, rfl⟩
    subst hwA
    have HROW := hidIn hrow
    have HBA := hidIn hbr
    clear hrow
    by_cases hlt : i < L.length
    · have hlt' : (i : Int) < (L.length : Int) := by omega
      obtain ⟨s, hs⟩ : ∃ s, L[i]? = some s := ⟨_, List.getElem?_eq_getElem hlt⟩
      obtain ⟨g, rfl, k0⟩ := (HTX.out.below hbr) i s hs
      have HNX : Hid (addAll [] (L.take (i + 1)) = addN (addAll [] (L.take i)) s) := by unfold Hid; rw [take_more _ _ _ hs, addAll_append]; rfl
      have haln : (addAll [] (L.take i)).length ≤ i := by have := addAll_le [] (L.take i); simp at this; omega
      clear hs hbr
      generalize addAll [] (L.take i) = acc at *
      obtain ⟨ao, ac, rfl, hatx, hal, _⟩ := own_txt HROW.out
      have HATX := hidIn hatx
      clear hatx
      go_wp2_with fail
      go_loopw [17, 6] (fun s17 s6 wr => ∃ j : Nat, j ≤ acc.length ∧ s17 = .int .i64 j ∧ s6 = .bool (inFirst acc s j) ∧ wr = wA) (fun s17 _ _ => acc.length - (intOf s17).toNat)
      case atStart => exact ⟨0, by omega, rfl, by simp [inFirst], rfl⟩
      case round =>
        obtain ⟨j, hj, rfl, rfl, hwr⟩ := hrel
        subst hwr
        by_cases hjl : j < acc.length
        · have hjl' : (j : Int) < (acc.length : Int) := by omega
          obtain ⟨y, hy⟩ : ∃ y, acc[j]? = some y := ⟨_, List.getElem?_eq_getElem hjl⟩
          obtain ⟨g2, rfl, k1⟩ := HATX.out j y hy
          have HJ := hidIn (inFirst_next acc s j y hy)
          clear hy
          cases hin : inFirst acc s j with
          | true =>
            rw [hin] at HJ
            go_wp2_with fail
            go_roundw
            case rel => exact ⟨j + 1, by omega, by go_num, by rw [HJ.out]; rfl, trivial⟩
            case measure => simp [intOf]; omega
          | false =>
            rw [hin] at HJ
            by_cases hys : y = s
            · subst hys
              go_wp2_with fail
              go_roundw
              case rel => exact ⟨j + 1, by omega, by go_num, by rw [HJ.out]; simp, trivial⟩
              case measure => simp [intOf]; omega
            · have hys' : ¬ y.toList = s.toList := fun e => hys (toList_inj e)
              have hys2 : (y.toList == s.toList) = false := by rw [beq_eq_false_iff_ne]; exact hys'
              go_wp2_with fail
              go_roundw
              case rel => exact ⟨j + 1, by omega, by go_num, by rw [HJ.out]; simp [hys], trivial⟩
              case measure => simp [intOf]; omega
        · have hje : j = acc.length := by omega
          subst hje
          have HIN : Hid (inFirst acc s acc.length = inN acc s) := by unfold Hid inFirst inN; rw [List.take_length]
          rw [HIN.out]
          cases hin : inN acc s with
          | true =>
            have HAD : Hid (addN acc s = acc) := by unfold Hid addN; rw [if_pos hin]
            go_wp2_with fail
            go_roundw
            case rel => exact ⟨i + 1, by omega, by go_num, by rw [HNX.out, HAD.out]; exact HROW.out, HBA.out⟩
            case measure => simp [intOf]; omega
          | false =>
            have HAD : Hid (addN acc s = acc ++ [s]) := by unfold Hid addN; rw [if_neg (by rw [hin]; simp)]
            go_wp2_with (first
              | (at_builtin; refine wpList_append_own _ rfl _ _ 23 rfl w1.heap.size 9 i0 (.string ByteArray.empty) 1 16 Try.underlying23 gi gz0 gz1 gz2 rfl (by decide) _ _ _ rfl (HROW.out.alloc _) ⟨_, 0, none⟩ 1 1 [.string s] rfl rfl (cell_one_in rfl _ _) (by intro u hu; simp at hu; subst hu; rfl) (by unfold maxLen; omega) (by omega) (by have := HBA.out.size; simp; omega) ?_; intro v2 w2 hown2 hgrow2 _)
              | go_in)
            go_roundw
            case rel => exact ⟨i + 1, by omega, by go_num, by rw [HNX.out, HAD.out]; simpa [strCells] using hown2, ((HBA.out.alloc HBA.out.size _).grown hgrow2 (by have := HBA.out.size; simp; omega) (fun j hj => (HROW.out.lt j hj).1))⟩
            case measure => simp [intOf]; omega
    · have hle : i = L.length := by omega
      subst hle
      have HE : Hid (wA.ownsRow w1.heap.size 9 1 u3 (addAll [] L).length (strCells (addAll [] L))) := by have h := HROW.out; rw [List.take_length] at h; exact h
      go_wp2_with fail
      go_ret
      rw [HL.out]
      exact ⟨_, rfl, ownsRow_base HE.out (Nat.le_trans HB.out.size HB1.out.size), HB.out.trans ((HB1.out.trans (HBA.out.mono HB1.out.size)).mono HB.out.size)⟩

end Go.Proofs.Ytmhckbcddmdchaa
namespace Go.Proofs.Ytmhckbcddmdchaa
open Go.RowKit
set_option linter.unusedVariables false

theorem sameTr_mk (kind : Int) (s : ByteArray) (n : Int) (k : List T) (u : T) : sameTr (.mk kind s n k) u = (decide (kind ≠ 0) && (decide (kind = u.kind) && (decide (s = u.s) && (decide (n = u.n) && (decide (k.length = u.k.length) && sameTL k u.k))))) := by rw [sameTr]
theorem plain_same (a : O) : ∀ b, sameTr (plain a) (plain b) = sameO a b := by
  induction a with
  | const n => intro b; cases b <;> simp [plain, sameTr_mk, sameTL, sameO, T.kind, T.s, T.n, T.k] <;> (first | rfl | congr)
  | fix s => intro b; cases b <;> simp [plain, sameTr_mk, sameTL, sameO, T.kind, T.s, T.n, T.k] <;> (first | rfl | congr)
  | odd v => intro b; cases b <;> simp [plain, sameTr_mk, sameTL, sameO, T.kind, T.s, T.n, T.k]
  | neg o ih => intro b; cases b <;> simp [plain, sameTr_mk, sameTL, sameO, T.kind, T.s, T.n, T.k, ih]
  | add l r h1 h2 => intro b; cases b <;> simp [plain, sameTr_mk, sameTL, sameO, T.kind, T.s, T.n, T.k, h1, h2]
  | mul l r h1 h2 => intro b; cases b <;> simp [plain, sameTr_mk, sameTL, sameO, T.kind, T.s, T.n, T.k, h1, h2]
  | max l r h1 h2 => intro b; cases b <;> simp [plain, sameTr_mk, sameTL, sameO, T.kind, T.s, T.n, T.k, h1, h2]
theorem sameO_comm (a : O) : ∀ b, sameO a b = sameO b a := by
  induction a with
  | const n => intro b; cases b <;> simp [sameO, eq_comm]
  | fix s => intro b; cases b <;> simp [sameO, eq_comm]
  | odd v => intro b; cases b <;> simp [sameO]
  | neg o ih => intro b; cases b <;> simp [sameO, ih]
  | add l r h1 h2 => intro b; cases b <;> simp [sameO, h1, h2]
  | mul l r h1 h2 => intro b; cases b <;> simp [sameO, h1, h2]
  | max l r h1 h2 => intro b; cases b <;> simp [sameO, h1, h2]
theorem plain_nams (o : O) : (plain o).nams = o.all := by
  induction o <;> simp_all [plain, T.nams, namsL, O.all]
theorem plain_names (o : O) : addAll [] (plain o).nams = o.names := by rw [plain_nams]; rfl
theorem plain_chk (o : O) : chkT (plain o) true = chk o := by
  unfold chkT chk
  rw [plain_form, plain_nodes, plain_depth, plain_labs]
  simp [twice]
theorem plain_back (o : O) : plain (obsOf (plain o)) = plain o := by
  induction o with
  | const n => rfl
  | fix s => rfl
  | odd v => rfl
  | neg o ih => simp [plain, obsOf, obsL, ih]
  | add l r h1 h2 => simp [plain, obsOf, obsL, h1, h2]
  | mul l r h1 h2 => simp [plain, obsOf, obsL, h1, h2]
  | max l r h1 h2 => simp [plain, obsOf, obsL, h1, h2]

end Go.Proofs.Ytmhckbcddmdchaa
namespace Go.Proofs.Ytmhckbcddmdchaa
open Go.RowKit
set_option linter.unusedVariables false

theorem plainC_same (a : C) : ∀ b, sameTr (plainC a) (plainC b) = sameC a b := by
  induction a with
  | zero => intro b; cases b <;> simp [plainC, sameTr_mk, sameTL, sameC, T.kind, T.s, T.n, T.k]
  | one s => intro b; cases b <;> simp [plainC, sameTr_mk, sameTL, sameC, T.kind, T.s, T.n, T.k] <;> (first | rfl | congr)
  | odd v => intro b; cases b <;> simp [plainC, sameTr_mk, sameTL, sameC, T.kind, T.s, T.n, T.k]
  | give c ih => intro b; cases b <;> simp [plainC, sameTr_mk, sameTL, sameC, T.kind, T.s, T.n, T.k, ih]
  | and l r h1 h2 => intro b; cases b <;> simp [plainC, sameTr_mk, sameTL, sameC, T.kind, T.s, T.n, T.k, h1, h2]
  | or s l r h1 h2 => intro b; cases b <;> simp [plainC, sameTr_mk, sameTL, sameC, T.kind, T.s, T.n, T.k, h1, h2] <;> (first | rfl | congr)
  | scale o c h1 => intro b; cases b <;> simp [plainC, sameTr_mk, sameTL, sameC, T.kind, T.s, T.n, T.k, h1, plain_same]
  | when d c h1 => intro b; cases b <;> simp [plainC, sameTr_mk, sameTL, sameC, T.kind, T.s, T.n, T.k, h1] <;> (first | rfl | congr)
  | iff o l r h1 h2 => intro b; cases b <;> simp [plainC, sameTr_mk, sameTL, sameC, T.kind, T.s, T.n, T.k, h1, h2, plain_same]
theorem sameC_comm (a : C) : ∀ b, sameC a b = sameC b a := by
  induction a with
  | zero => intro b; cases b <;> simp [sameC]
  | one s => intro b; cases b <;> simp [sameC, eq_comm]
  | odd v => intro b; cases b <;> simp [sameC]
  | give c ih => intro b; cases b <;> simp [sameC, ih]
  | and l r h1 h2 => intro b; cases b <;> simp [sameC, h1, h2]
  | or s l r h1 h2 =>
    intro b
    cases b <;> simp [sameC]
    rename_i s2 l2 r2
    rw [h1, h2, show decide (s = s2) = decide (s2 = s) from by simp [eq_comm]]
  | scale o c h1 => intro b; cases b <;> simp [sameC, h1, sameO_comm]
  | when d c h1 =>
    intro b
    cases b <;> simp [sameC]
    rename_i d2 c2
    rw [h1, show decide (d = d2) = decide (d2 = d) from by simp [eq_comm]]
  | iff o l r h1 h2 => intro b; cases b <;> simp [sameC, h1, h2, sameO_comm]
theorem plainC_nams (c : C) : (plainC c).nams = c.all := by
  induction c <;> simp_all [plainC, T.nams, namsL, C.all, plain_nams]
theorem plainC_names (c : C) : addAll [] (plainC c).nams = c.names := by rw [plainC_nams]; rfl
theorem plainC_back (c : C) : plainC (termOf (plainC c)) = plainC c := by
  induction c with
  | zero => rfl
  | one s => rfl
  | odd v => rfl
  | give c ih => show plainC (.give (termOf (plainC c))) = _; simp [plainC, ih]
  | and l r h1 h2 => show plainC (.and (termOf (plainC l)) (termOf (plainC r))) = _; simp [plainC, h1, h2]
  | or s l r h1 h2 => show plainC (.or s (termOf (plainC l)) (termOf (plainC r))) = _; simp [plainC, h1, h2]
  | scale o c h1 => show plainC (.scale (obsOf (plain o)) (termOf (plainC c))) = _; simp [plainC, h1, plain_back]
  | when d c h1 => show plainC (.when d (termOf (plainC c))) = _; simp [plainC, h1]
  | iff o l r h1 h2 => show plainC (.iff (obsOf (plain o)) (termOf (plainC l)) (termOf (plainC r))) = _; simp [plainC, h1, h2, plain_back]

end Go.Proofs.Ytmhckbcddmdchaa
