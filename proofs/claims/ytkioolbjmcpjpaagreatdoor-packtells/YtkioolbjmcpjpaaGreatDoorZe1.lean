/- A region that draws its order, whose operations may make memory and turn nothing that was there: one walk in the text's order serves every order. -/
import Derived.Test.YtkioolbjmcpjpaaGreatDoorObsT
import Derived.Test.YtkioolbjmcpjpaaGreatDoorTermForm
import Derived.Test.YtkioolbjmcpjpaaGreatDoorShelf
import Derived.Shelf.Abstract
import Derived.Test.YtkioolbjmcpjpaaGreatDoorTermSize
import Derived.Test.YtkioolbjmcpjpaaGreatDoorTermWalk
import Derived.Test.YtkioolbjmcpjpaaGreatDoorWObs0
import Derived.Test.YtkioolbjmcpjpaaGreatDoorTermV
import Derived.Shelf.Unicode.PredsPay
import Derived.Test.YtkioolbjmcpjpaaGreatDoorSize
import Derived.Lib.ItoaLen
import Derived.Test.YtkioolbjmcpjpaaGreatDoorNames
import Derived.Test.YtkioolbjmcpjpaaGreatDoorRefName
import Derived.Test.YtkioolbjmcpjpaaGreatDoorMakerC0
import Derived.Laws.AppendOwnNone
import Derived.Test.YtkioolbjmcpjpaaGreatDoorRefT
import Derived.Test.YtkioolbjmcpjpaaGreatDoorBase
namespace Go.Proofs.YtkioolbjmcpjpaaGreatDoor
open Go.RowKit
set_option linter.unusedVariables false

/-- What is known of an operation's value: which it may be, and what is known of it from then on. -/
structure Mode where
  ok : Value → Prop
  some' : ∃ u, ok u
  fact : Value → World → Prop
/-- What is known of the slots. -/
abbrev Kn := Nat → World → Prop
def kput (k : Kn) : Option Tmp → (World → Prop) → Kn
  | none, _ => k
  | some d, f => fun s => if s = d then f else k s
theorem kput_ne (k : Kn) (dst : Option Tmp) (f : World → Prop) (s : Nat) (h : dst ≠ some s) : kput k dst f s = k s := by
  cases dst with
  | none => rfl
  | some d => simp only [kput]; rw [if_neg (fun e => h (by rw [e]))]
theorem kput_comm (k : Kn) (d e : Option Tmp) (f g : World → Prop) (h : ∀ x, d = some x → e ≠ some x) : kput (kput k d f) e g = kput (kput k e g) d f := by
  cases d with
  | none => rfl
  | some d =>
    cases e with
    | none => rfl
    | some e =>
      have hne : e ≠ d := fun x => h d rfl (by rw [x])
      funext s
      simp only [kput]
      by_cases h1 : s = e
      · subst h1; rw [if_pos rfl, if_neg hne, if_pos rfl]
      · by_cases h2 : s = d
        · subst h2; rw [if_neg h1, if_pos rfl, if_pos rfl]
        · rw [if_neg h1, if_neg h2, if_neg h2, if_neg h1]

section
variable {P : Program} {ops : Array Oper} {md : Region.Mode} {C : World → Prop} {Le : World → World → Prop} {M : Nat → Mode}

def growUpon (P : Program) (Le : World → World → Prop) (m : Mode) (w : World) : Result Next → Prop
  | .ok (.value u) w' => Le w w' ∧ m.ok u ∧ m.fact u w'
  | .ok .skip w' => Le w w' ∧ m.ok undef ∧ m.fact undef w'
  | .ok (.enter f args) w' => w' = w ∧ Calls P f args w (fun e w'' => ∃ v, e = .returned v ∧ Le w w'' ∧ m.ok v ∧ m.fact v w'')
  | _ => False
def growAt (P : Program) (o : Oper) (a : Act) (Le : World → World → Prop) (m : Mode) (w : World) : Prop := growUpon P Le m w ((execOp a.eval o).run P w)
/-- What is asked of an operation that comes up. -/
def grow (P : Program) (ops : Array Oper) (C : World → Prop) (Le : World → World → Prop) (m : Mode) (o : Oper) (a : Act) (k : Kn) (K : Act → Kn → Prop) : Prop :=
  (∀ u w w', Le w w' → m.fact u w → m.fact u w') ∧ (∀ w, C w → (∀ s ∈ o.looksAt ops, k s w) → growAt P o a Le m w) ∧ ∀ u, m.ok u → K (a.put o.dst u) (kput k o.dst (m.fact u))
def wpGrow (P : Program) (ops : Array Oper) (C : World → Prop) (Le : World → World → Prop) (M : Nat → Mode) (Q : Act → Kn → Prop) : Nat → List Oper → Act → Kn → Prop
  | _, [], a, k => Q a k
  | i, o :: rest, a, k => if Region.wanted o (yielded ops a.tmps) then grow P ops C Le (M i) o a k (wpGrow P ops C Le M Q (i + 1) rest) else wpGrow P ops C Le M Q (i + 1) rest (a.put o.dst undef) (kput k o.dst (fun _ => True))
def gOp (P : Program) (ops : Array Oper) (C : World → Prop) (Le : World → World → Prop) (M : Nat → Mode) (i : Nat) (K : Act → Kn → Prop) (a : Act) (k : Kn) : Prop :=
  match ops[i]? with
  | none => K a k
  | some o => if Region.wanted o (yielded ops a.tmps) then grow P ops C Le (M i) o a k K else K (a.put o.dst undef) (kput k o.dst (fun _ => True))
theorem grow_mono {m : Mode} {o : Oper} {a : Act} {k : Kn} {K K' : Act → Kn → Prop} (h : ∀ a k, K a k → K' a k) (hh : grow P ops C Le m o a k K) : grow P ops C Le m o a k K' :=
  ⟨hh.1, hh.2.1, fun u hu => h _ _ (hh.2.2 u hu)⟩
theorem gOp_mono {i : Nat} {a : Act} {k : Kn} {K K' : Act → Kn → Prop} (h : ∀ a k, K a k → K' a k) (hh : gOp P ops C Le M i K a k) : gOp P ops C Le M i K' a k := by
  unfold gOp at *
  split
  · exact h _ _ (by simpa [*] using hh)
  · rename_i o ho
    simp only [ho] at hh
    split
    · rename_i hw; simp only [hw, if_true] at hh; exact grow_mono h hh
    · rename_i hw; simp only [hw] at hh; exact h _ _ hh
def wpAnyG (P : Program) (md : Region.Mode) (ops : Array Oper) (C : World → Prop) (Le : World → World → Prop) (M : Nat → Mode) (Q : Act → Kn → Prop) : Nat → Array Bool → Act → Kn → Prop
  | 0, listed, a, k => Region.ready md ops listed = [] ∧ Q a k
  | fuel + 1, listed, a, k => (Region.ready md ops listed = [] → Q a k) ∧ ∀ i ∈ Region.ready md ops listed, gOp P ops C Le M i (wpAnyG P md ops C Le M Q fuel (listed.setIfInBounds i true)) a k
/-- What is known stays known. -/
def Stays (Le : World → World → Prop) (k : Kn) : Prop := ∀ s w w', Le w w' → k s w → k s w'
theorem Stays.put {k : Kn} (h : Stays Le k) (dst : Option Tmp) {f : World → Prop} (hf : ∀ w w', Le w w' → f w → f w') : Stays Le (kput k dst f) := by
  cases dst with
  | none => exact h
  | some d =>
    intro s w w' hle hk
    simp only [kput] at hk ⊢
    split
    · rename_i e; rw [if_pos e] at hk; exact hf w w' hle hk
    · rename_i e; rw [if_neg e] at hk; exact h s w w' hle hk
theorem all_put {k : Kn} {w : World} (h : ∀ s, k s w) (dst : Option Tmp) {f : World → Prop} (hf : f w) : ∀ s, kput k dst f s w := by
  cases dst with
  | none => exact h
  | some d =>
    intro s
    simp only [kput]
    split
    · exact hf
    · exact h s
theorem wp_of_grow {o : Oper} {m : Mode} {a : Act} {k : Kn} {K : Act → Kn → Prop} {K' : Act → World → Prop} {Q' : Exit → Act → World → Prop} {w : World} (hCL : ∀ w w', C w → Le w w' → C w') (hs : Stays Le k) (hw : C w) (hk : ∀ s, k s w)
    (h : ∀ a k w', Stays Le k → C w' → (∀ s, k s w') → K a k → K' a w') (hh : grow P ops C Le m o a k K) : o.wp P a w K' Q' := by
  obtain ⟨h0, h1, h2⟩ := hh
  have h3 := h1 w hw (fun s _ => hk s)
  unfold growAt at h3
  unfold Oper.wp
  generalize (execOp a.eval o).run P w = r at *
  cases r with
  | ok n w' =>
    cases n <;> simp only [growUpon] at h3 <;> simp only [Oper.upon]
    case value u =>
      obtain ⟨e1, e2, e3⟩ := h3
      exact h _ _ _ (hs.put o.dst (h0 u)) (hCL w w' hw e1) (all_put (fun s => hs s w w' e1 (hk s)) o.dst e3) (h2 u e2)
    case skip =>
      obtain ⟨e1, e2, e3⟩ := h3
      exact h _ _ _ (hs.put o.dst (h0 undef)) (hCL w w' hw e1) (all_put (fun s => hs s w w' e1 (hk s)) o.dst e3) (h2 undef e2)
    case enter f args =>
      obtain ⟨e1, hc⟩ := h3
      rw [e1]
      refine hc.mono fun e w'' ⟨v, he, e1, e2, e3⟩ => ?_
      subst he
      exact h _ _ _ (hs.put o.dst (h0 v)) (hCL w w'' hw e1) (all_put (fun s => hs s w w'' e1 (hk s)) o.dst e3) (h2 v e2)
  | halt x w' => simp only [growUpon] at h3
theorem wpOp_of_gOp {i : Nat} {a : Act} {k : Kn} {K : Act → Kn → Prop} {K' : Act → World → Prop} {Q' : Exit → Act → World → Prop} {w : World} (hCL : ∀ w w', C w → Le w w' → C w') (hs : Stays Le k) (hw : C w) (hk : ∀ s, k s w)
    (h : ∀ a k w', Stays Le k → C w' → (∀ s, k s w') → K a k → K' a w') (hh : gOp P ops C Le M i K a k) : wpOp P ops Q' i K' a w := by
  unfold gOp at hh
  unfold wpOp
  split
  · rename_i ho; simp only [ho] at hh; exact h _ _ _ hs hw hk hh
  · rename_i o ho
    simp only [ho] at hh
    split
    · rename_i hwt; simp only [hwt, if_true] at hh; exact .inl (wp_of_grow hCL hs hw hk h hh)
    · rename_i hwt; simp only [hwt] at hh; exact h _ _ _ (hs.put o.dst (fun _ _ _ h => h)) hw (all_put hk o.dst trivial) hh
theorem wpAny_of_grow {Q : Act → Kn → Prop} {Q' : Exit → Act → World → Prop} (hCL : ∀ w w', C w → Le w w' → C w') (hQ : ∀ a k w, C w → (∀ s, k s w) → Q a k → Q' .normal a w) : ∀ (fuel : Nat) (listed : Array Bool) (a : Act) (k : Kn) (w : World), Stays Le k → C w → (∀ s, k s w) →
    wpAnyG P md ops C Le M Q fuel listed a k → wpAny P md ops Q' fuel listed a w
  | 0, _, _, _, _, hs, hw, hk, h => ⟨h.1, hQ _ _ _ hw hk h.2⟩
  | fuel + 1, _, _, _, _, hs, hw, hk, h => ⟨fun h0 => hQ _ _ _ hw hk (h.1 h0), fun i hi => wpOp_of_gOp hCL hs hw hk (fun a' k' w' hs' hw' hk' => wpAny_of_grow hCL hQ fuel _ a' k' w' hs' hw' hk') (h.2 i hi)⟩
/-- What an operation yields: the values that it may, and what is known of them. -/
def YieldsG (P : Program) (ops : Array Oper) (C : World → Prop) (Le : World → World → Prop) (m : Mode) (o : Oper) (ok : Value → Prop) (f : Value → World → Prop) (a : Act) (k : Kn) : Prop :=
  (Region.wanted o (yielded ops a.tmps) = true ∧ ok = m.ok ∧ f = m.fact ∧ (∀ u w w', Le w w' → m.fact u w → m.fact u w') ∧ ∀ w, C w → (∀ s ∈ o.looksAt ops, k s w) → growAt P o a Le m w) ∨
  (Region.wanted o (yielded ops a.tmps) = false ∧ ok = (fun u => u = undef) ∧ f = fun _ _ => True)
theorem YieldsG.gOp {i : Nat} {o : Oper} {ok : Value → Prop} {f : Value → World → Prop} {a : Act} {k : Kn} (hi : ops[i]? = some o) (hy : YieldsG P ops C Le (M i) o ok f a k) {K : Act → Kn → Prop} (h : ∀ u, ok u → K (a.put o.dst u) (kput k o.dst (f u))) : gOp P ops C Le M i K a k := by
  unfold Go.Proofs.YtkioolbjmcpjpaaGreatDoor.gOp
  simp only [hi]
  rcases hy with ⟨hw, rfl, rfl, h0, hv⟩ | ⟨hw, rfl, rfl⟩
  · simp only [hw, if_true]; exact ⟨h0, hv, h⟩
  · simp only [hw, Bool.false_eq_true, if_false]; exact h undef rfl
theorem looks_put {o : Oper} {k : Kn} {dst : Option Tmp} {f : World → Prop} {w : World} (h : ∀ d, dst = some d → d ∉ o.looksAt ops) : (∀ s ∈ o.looksAt ops, kput k dst f s w) ↔ ∀ s ∈ o.looksAt ops, k s w := by
  constructor
  · intro hk s hs
    have := hk s hs
    rwa [kput_ne k dst f s (fun e => h s e hs)] at this
  · intro hk s hs
    rw [kput_ne k dst f s (fun e => h s e hs)]
    exact hk s hs
theorem YieldsG.of_same {m : Mode} {o : Oper} {ok : Value → Prop} {f : Value → World → Prop} {a a' : Act} {k k' : Kn} (hy : YieldsG P ops C Le m o ok f a k) (he : execOp a'.eval o = execOp a.eval o)
    (hw : Region.wanted o (yielded ops a'.tmps) = Region.wanted o (yielded ops a.tmps)) (hk : ∀ w, (∀ s ∈ o.looksAt ops, k' s w) → ∀ s ∈ o.looksAt ops, k s w) : YieldsG P ops C Le m o ok f a' k' := by
  rcases hy with ⟨h1, h2, h3, h4, h5⟩ | ⟨h1, h2, h3⟩
  · refine .inl ⟨by rw [hw]; exact h1, h2, h3, h4, fun w hC hl => ?_⟩
    have := h5 w hC (hk w hl)
    unfold growAt at *
    rwa [he]
  · exact .inr ⟨by rw [hw]; exact h1, h2, h3⟩
theorem yields_some {m : Mode} {o : Oper} {ok : Value → Prop} {f : Value → World → Prop} {a : Act} {k : Kn} (hy : YieldsG P ops C Le m o ok f a k) : ∃ u, ok u := by
  rcases hy with ⟨_, rfl, _⟩ | ⟨_, rfl, _⟩
  · exact m.some'
  · exact ⟨_, rfl⟩
theorem gOp_put {j : Nat} {m : Mode} {oi oj : Oper} {ok : Value → Prop} {f : Value → World → Prop} (hj : ops[j]? = some oj) (hap : oi.apart ops oj = true)
    (hsi : ∀ cs b, oi.op ≠ .select cs b) (hsj : ∀ cs b, oj.op ≠ .select cs b) {K : Act → Kn → Prop} {a : Act} {k : Kn}
    (hy : YieldsG P ops C Le m oi ok f a k) (h : ∀ u, ok u → gOp P ops C Le M j K (a.put oi.dst u) (kput k oi.dst (f u))) :
    gOp P ops C Le M j (fun a' k' => YieldsG P ops C Le m oi ok f a' k' ∧ ∀ u, ok u → K (a'.put oi.dst u) (kput k' oi.dst (f u))) a k := by
  obtain ⟨h1, h2, h3⟩ := Oper.apart_spec hap
  have keep : ∀ u g, YieldsG P ops C Le m oi ok f (a.put oj.dst u) (kput k oj.dst g) := fun u g =>
    hy.of_same (execOp_put oi hsi a oj.dst u h3) (wanted_put oi a oj.dst u h3) (fun w hl => (looks_put h3).1 hl)
  obtain ⟨u0, hu0⟩ := yields_some hy
  unfold gOp at *
  simp only [hj] at *
  by_cases hw : Region.wanted oj (yielded ops a.tmps) = true
  · simp only [hw, if_true]
    have hw' : ∀ u, Region.wanted oj (yielded ops (a.put oi.dst u).tmps) = true := fun u => by rw [wanted_put oj a oi.dst u h1]; exact hw
    simp only [hw', if_true] at h
    refine ⟨(h u0 hu0).1, fun w hC hl => ?_, fun u' hu' => ⟨keep u' _, fun u hu => ?_⟩⟩
    · have := (h u0 hu0).2.1 w hC ((looks_put h1).2 hl)
      unfold growAt at *
      rwa [execOp_put oj hsj a oi.dst u0 h1] at this
    · have := (h u hu).2.2 u' hu'
      rw [← Act.put_comm a u u' h2, ← kput_comm k oi.dst oj.dst _ _ h2]
      exact this
  · have hwf : Region.wanted oj (yielded ops a.tmps) = false := by simpa using hw
    simp only [hwf, Bool.false_eq_true, if_false]
    have hw' : ∀ u, Region.wanted oj (yielded ops (a.put oi.dst u).tmps) = false := fun u => by rw [wanted_put oj a oi.dst u h1]; exact hwf
    simp only [hw', Bool.false_eq_true, if_false] at h
    refine ⟨keep _ _, fun u hu => ?_⟩
    have := h u hu
    rw [← Act.put_comm a u undef h2, ← kput_comm k oi.dst oj.dst _ _ h2]
    exact this
theorem wpAnyG_first {Q : Act → Kn → Prop} {i : Nat} {oi : Oper} {ok : Value → Prop} {f : Value → World → Prop} (hi : ops[i]? = some oi) (hsel : ∀ (j : Nat) (o : Oper) cs b, ops[j]? = some o → o.op ≠ .select cs b) :
    ∀ (fuel : Nat) (listed : Array Bool) (a : Act) (k : Kn),
      (∀ j oj, ops[j]? = some oj → j ≠ i → listed.getD j true = false → (∀ e ∈ oj.after, Region.binds md e = true → e.on ≠ i) → oi.apart ops oj = true) →
      i ∈ Region.ready md ops listed → YieldsG P ops C Le (M i) oi ok f a k →
      (∀ u, ok u → wpAnyG P md ops C Le M Q fuel (listed.setIfInBounds i true) (a.put oi.dst u) (kput k oi.dst (f u))) → wpAnyG P md ops C Le M Q (fuel + 1) listed a k := by
  intro fuel
  induction fuel with
  | zero =>
    intro listed a k _ hr hy H
    refine ⟨fun h => (by rw [h] at hr; cases hr), fun j hj => ?_⟩
    by_cases hji : j = i
    · subst hji; exact hy.gOp hi H
    · obtain ⟨u0, hu0⟩ := yields_some hy
      have := ready_mono hj hji
      rw [(H u0 hu0).1] at this
      cases this
  | succ fuel ih =>
    intro listed a k hfree hr hy H
    refine ⟨fun h => (by rw [h] at hr; cases hr), fun j hj => ?_⟩
    by_cases hji : j = i
    · subst hji; exact hy.gOp hi H
    · have h1 : ∀ u, ok u → _ := fun u hu => (H u hu).2 j (ready_mono hj hji)
      obtain ⟨hjun, oj, hoj, hall⟩ := mem_ready.1 hj
      have hnot : ∀ e ∈ oj.after, Region.binds md e = true → e.on ≠ i := fun e he hb heq => by
        have h1 := hall e he hb
        have h0 := (mem_ready.1 hr).1
        rw [heq] at h1
        rcases Nat.lt_or_ge i listed.size with h' | h'
        · simp [h'] at h0 h1; rw [h0] at h1; cases h1
        · simp [Array.getElem?_eq_none h'] at h1
      have h2 := gOp_put hoj (hfree j oj hoj hji hjun hnot) (fun cs b => hsel i oi cs b hi) (fun cs b => hsel j oj cs b hoj) hy h1
      have hfree' : ∀ k ok, ops[k]? = some ok → k ≠ i → (listed.setIfInBounds j true).getD k true = false →
          (∀ e ∈ ok.after, Region.binds md e = true → e.on ≠ i) → oi.apart ops ok = true := fun k ok hk hki hun hno => by
        refine hfree k ok hk hki ?_ hno
        by_cases hjk : j = k
        · subst hjk; exact hjun
        · rw [getD_set_ne true hjk] at hun; exact hun
      refine gOp_mono (fun a' k' h3 => ih (listed.setIfInBounds j true) a' k' hfree' (ready_mono hr (Ne.symm hji)) h3.1 (fun u hu => ?_)) h2
      rw [Array.setIfInBounds_comm _ _ hji]
      exact h3.2 u hu
theorem yieldsG_of_gOp {i : Nat} {o : Oper} {a : Act} {k : Kn} {K : Act → Kn → Prop} (hi : ops[i]? = some o) (h : gOp P ops C Le M i K a k) : ∃ ok f, YieldsG P ops C Le (M i) o ok f a k ∧ ∀ u, ok u → K (a.put o.dst u) (kput k o.dst (f u)) := by
  unfold gOp at h
  simp only [hi] at h
  by_cases hw : Region.wanted o (yielded ops a.tmps) = true
  · simp only [hw, if_true] at h
    exact ⟨_, _, .inl ⟨hw, rfl, rfl, h.1, h.2.1⟩, h.2.2⟩
  · simp only [hw] at h
    exact ⟨_, _, .inr ⟨by simpa using hw, rfl, rfl⟩, fun u hu => by subst hu; exact h⟩
theorem wpAnyG_lex {Q : Act → Kn → Prop} (hs : Region.noSelect ops = true) : ∀ (l : List Oper) (i : Nat) (listed : Array Bool) (a : Act) (k : Kn), (∀ j, l[j]? = ops[i + j]?) →
    Region.lexFrom md ops l.length i listed = true → wpGrow P ops C Le M Q i l a k → wpAnyG P md ops C Le M Q l.length listed a k
  | [], _, _, _, _, _, hB, h => ⟨by simpa [Region.lexFrom] using hB, h⟩
  | o :: l, i, listed, a, k, hl, hB, h => by
    have h0 : ops[i]? = some o := by simpa using (hl 0).symm
    simp only [List.length_cons, Region.lexFrom, Bool.and_eq_true] at hB
    obtain ⟨⟨hr, hf⟩, hB'⟩ := hB
    have hst : gOp P ops C Le M i (wpGrow P ops C Le M Q (i + 1) l) a k := by unfold gOp; simp only [h0]; exact h
    obtain ⟨ok, f, hy, hK⟩ := yieldsG_of_gOp h0 hst
    exact wpAnyG_first h0 (Region.noSelect_spec hs) l.length listed a k (Region.free_spec h0 hf) (by simpa using hr) hy
      (fun u hu => wpAnyG_lex hs l (i + 1) _ _ _ (fun j => by have := hl (j + 1); simpa [Nat.add_assoc, Nat.add_comm 1 j] using this) hB' (hK u hu))
/-- One walk of the text's order serves every order. -/
theorem wp_region_grow {id : Nat} {Q : Exit → Act → World → Prop} {a : Act} {w : World} {l : List Oper} (C : World → Prop) (Le : World → World → Prop) (M : Nat → Mode) (hm : P.follows .mixedOrders = true) (hB : Region.lexB .any l.toArray = true) (hCL : ∀ w w', C w → Le w w' → C w') (hC : C w.drew)
    (h : wpGrow P l.toArray C Le M (fun a' k' => ∀ w', C w' → (∀ s, k' s w') → Q .normal a' w') 0 l a (fun _ _ => True)) : (Code.region id l.toArray true).wp P Q a w := by
  simp only [Region.lexB, Bool.and_eq_true] at hB
  refine wp_region_any hm (wpAny_of_grow (M := M) (Q := fun a' k' => ∀ w', C w' → (∀ s, k' s w') → Q .normal a' w') hCL (fun _ _ w' hw' hk h => h w' hw' hk) _ _ _ (fun _ _ => True) _ (fun _ _ _ _ h => h) hC (fun _ => trivial) ?_)
  have := wpAnyG_lex (C := C) (Le := Le) (M := M) (md := .any) hB.1 l 0 (Array.replicate l.toArray.size false) a (fun _ _ => True) (by simp) (by simpa using hB.2) h
  simpa using this
end
/-- One value. -/
def one (v : Value) : Mode := ⟨fun u => u = v, ⟨v, rfl⟩, fun _ _ => True⟩
/-- Any value of which something is known. -/
def loose (f : Value → World → Prop) : Mode := ⟨fun _ => True, ⟨undef, trivial⟩, f⟩
def modes (l : List Mode) (i : Nat) : Mode := l.getD i (one undef)
theorem wanted_none {o : Oper} {y : Nat → Option Bool} (hg : o.guard = none) : Region.wanted o y = true := by unfold Region.wanted; rw [hg]
theorem wanted_met {ops : Array Oper} {a : Act} {o : Oper} (j d : Nat) (want : Bool) (hg : o.guard = some (j, want)) (hd : (ops[j]?).bind (·.dst) = some d) (hv : a.tmps[d]? = some (.bool want)) : Region.wanted o (yielded ops a.tmps) = true := by
  unfold Region.wanted yielded
  rw [hg]
  simp only [hd, Option.bind_some, hv]
  simp
section
variable {P : Program} {ops : Array Oper} {C : World → Prop} {Le : World → World → Prop} {M : Nat → Mode} {Q : Act → Kn → Prop}
theorem grow_less {i : Nat} {rest : List Oper} (hQ : ∀ a k k', (∀ s w, k' s w → k s w) → Q a k → Q a k') : ∀ {i : Nat} {rest : List Oper} {a : Act} {k k' : Kn}, (∀ s w, k' s w → k s w) → wpGrow P ops C Le M Q i rest a k → wpGrow P ops C Le M Q i rest a k' := by
  intro i rest
  induction rest generalizing i with
  | nil => intro a k k' h hh; exact hQ a k k' h hh
  | cons o rest ih =>
    intro a k k' h hh
    unfold wpGrow at hh ⊢
    have hp : ∀ (f : World → Prop) s w, kput k' o.dst f s w → kput k o.dst f s w := by
      intro f s w
      cases o.dst with
      | none => exact h s w
      | some d =>
        simp only [kput]
        split
        · exact id
        · exact h s w
    split
    · rename_i hw
      rw [if_pos hw] at hh
      exact ⟨hh.1, fun w hC hl => hh.2.1 w hC (fun s hs => h s w (hl s hs)), fun u hu => ih (hp _) (hh.2.2 u hu)⟩
    · rename_i hw
      rw [if_neg hw] at hh
      exact ih (hp _) hh
theorem put_less {k : Kn} {dst : Option Tmp} (hd : ∀ d, dst = some d → ∀ w, k d w) : ∀ s w, kput k dst (fun _ => True) s w → k s w := by
  intro s w
  cases dst with
  | none => exact id
  | some d =>
    simp only [kput]
    split
    · rename_i e; subst e; exact fun _ => hd _ rfl w
    · exact id
/-- An operation that yields one value, and leaves the world. -/
theorem g_runs {i : Nat} {o : Oper} {rest : List Oper} {a : Act} {k : Kn} (v : Value) (hQ : ∀ a k k', (∀ s w, k' s w → k s w) → Q a k → Q a k') (hR : ∀ w, Le w w) (hM : M i = one v) (hw : Region.wanted o (yielded ops a.tmps) = true) (hkd : ∀ d, o.dst = some d → ∀ w, k d w)
    (h : ∀ w, C w → (execOp a.eval o).run P w = .ok (.value v) w) (hk : wpGrow P ops C Le M Q (i + 1) rest (a.put o.dst v) k) : wpGrow P ops C Le M Q i (o :: rest) a k := by
  unfold wpGrow
  rw [if_pos hw, hM]
  refine ⟨fun _ _ _ _ h => h, fun w hC _ => ?_, fun u hu => ?_⟩
  · unfold growAt
    rw [h w hC]
    exact ⟨hR w, rfl, trivial⟩
  · cases hu
    exact grow_less (i := i) (rest := rest) hQ (put_less hkd) hk
/-- A call that answers one value. -/
theorem g_calls {i : Nat} {o : Oper} {rest : List Oper} {a : Act} {k : Kn} (f : FuncId) (args : Array Value) (v : Value) (hQ : ∀ a k k', (∀ s w, k' s w → k s w) → Q a k → Q a k') (hM : M i = one v) (hw : Region.wanted o (yielded ops a.tmps) = true) (hkd : ∀ d, o.dst = some d → ∀ w, k d w)
    (h : ∀ w, C w → (execOp a.eval o).run P w = .ok (.enter f args) w) (hc : ∀ w, C w → (∀ s ∈ o.looksAt ops, k s w) → Calls P f args w (fun e w' => e = .returned v ∧ Le w w')) (hk : wpGrow P ops C Le M Q (i + 1) rest (a.put o.dst v) k) : wpGrow P ops C Le M Q i (o :: rest) a k := by
  unfold wpGrow
  rw [if_pos hw, hM]
  refine ⟨fun _ _ _ _ h => h, fun w hC hl => ?_, fun u hu => ?_⟩
  · unfold growAt
    rw [h w hC]
    exact ⟨rfl, (hc w hC hl).mono fun e w' ⟨h1, h2⟩ => ⟨v, h1, h2, rfl, trivial⟩⟩
  · cases hu
    exact grow_less (i := i) (rest := rest) hQ (put_less hkd) hk
/-- A call of whose answer something is known. -/
theorem g_loose {i : Nat} {o : Oper} {rest : List Oper} {a : Act} {k : Kn} (f : FuncId) (args : Array Value) (φ : Value → World → Prop) (hM : M i = loose φ) (hφ : ∀ u w w', Le w w' → φ u w → φ u w') (hw : Region.wanted o (yielded ops a.tmps) = true)
    (h : ∀ w, C w → (execOp a.eval o).run P w = .ok (.enter f args) w) (hc : ∀ w, C w → (∀ s ∈ o.looksAt ops, k s w) → Calls P f args w (fun e w' => ∃ v, e = .returned v ∧ Le w w' ∧ φ v w')) (hk : ∀ u, wpGrow P ops C Le M Q (i + 1) rest (a.put o.dst u) (kput k o.dst (φ u))) : wpGrow P ops C Le M Q i (o :: rest) a k := by
  unfold wpGrow
  rw [if_pos hw, hM]
  refine ⟨hφ, fun w hC hl => ?_, fun u _ => hk u⟩
  unfold growAt
  rw [h w hC]
  exact ⟨rfl, (hc w hC hl).mono fun e w' ⟨v, h1, h2, h3⟩ => ⟨v, h1, h2, trivial, h3⟩⟩
/-- An operation that yields one value, by what is known of what it reads. -/
theorem g_knows {i : Nat} {o : Oper} {rest : List Oper} {a : Act} {k : Kn} (v : Value) (hQ : ∀ a k k', (∀ s w, k' s w → k s w) → Q a k → Q a k') (hR : ∀ w, Le w w) (hM : M i = one v) (hw : Region.wanted o (yielded ops a.tmps) = true) (hkd : ∀ d, o.dst = some d → ∀ w, k d w)
    (h : ∀ w, C w → (∀ s ∈ o.looksAt ops, k s w) → (execOp a.eval o).run P w = .ok (.value v) w) (hk : wpGrow P ops C Le M Q (i + 1) rest (a.put o.dst v) k) : wpGrow P ops C Le M Q i (o :: rest) a k := by
  unfold wpGrow
  rw [if_pos hw, hM]
  refine ⟨fun _ _ _ _ h => h, fun w hC hl => ?_, fun u hu => ?_⟩
  · unfold growAt
    rw [h w hC hl]
    exact ⟨hR w, rfl, trivial⟩
  · cases hu
    exact grow_less (i := i) (rest := rest) hQ (put_less hkd) hk
/-- An operation that may make memory, and of whose value something is known. -/
theorem g_makes {i : Nat} {o : Oper} {rest : List Oper} {a : Act} {k : Kn} (φ : Value → World → Prop) (hM : M i = loose φ) (hφ : ∀ u w w', Le w w' → φ u w → φ u w') (hw : Region.wanted o (yielded ops a.tmps) = true)
    (h : ∀ w, C w → (∀ s ∈ o.looksAt ops, k s w) → ∃ u w', (execOp a.eval o).run P w = .ok (.value u) w' ∧ Le w w' ∧ φ u w') (hk : ∀ u, wpGrow P ops C Le M Q (i + 1) rest (a.put o.dst u) (kput k o.dst (φ u))) : wpGrow P ops C Le M Q i (o :: rest) a k := by
  unfold wpGrow
  rw [if_pos hw, hM]
  refine ⟨hφ, fun w hC hl => ?_, fun u _ => hk u⟩
  obtain ⟨u, w', h1, h2, h3⟩ := h w hC hl
  unfold growAt
  rw [h1]
  exact ⟨h2, trivial, h3⟩
theorem g_nil {i : Nat} {a : Act} {k : Kn} (h : Q a k) : wpGrow P ops C Le M Q i [] a k := h
theorem looks_at {o : Oper} {s : Nat} (h : Operand.tmp s ∈ o.op.operands.toList) : s ∈ o.looksAt ops :=
  List.mem_append_left _ (List.mem_filterMap.2 ⟨.tmp s, h, rfl⟩)
end
/-- Nothing that was there has turned. -/
def Up (w w' : World) : Prop := Below w.heap.size w w'
theorem Up.refl (w : World) : Up w w := Below.refl _ _
theorem up_class (W : World) : ∀ w w', Below W.heap.size W w → Up w w' → Below W.heap.size W w' := fun w w' h h' => h.trans (h'.mono h.size)
theorem grow_end {C : World → Prop} {R : Act → World → Prop} : ∀ (a : Act) (k k' : Kn), (∀ s w, k' s w → k s w) → (∀ w', C w' → (∀ s, k s w') → R a w') → ∀ w', C w' → (∀ s, k' s w') → R a w' :=
  fun a k k' h hq w' hC hk => hq w' hC (fun s => h s w' (hk s))

end Go.Proofs.YtkioolbjmcpjpaaGreatDoor
namespace Go.Proofs.YtkioolbjmcpjpaaGreatDoor
open Go.RowKit
set_option linter.unusedVariables false

/-- A value, if a test was met. -/
def mb (c : Bool) (v : Value) : Value := bif c then v else undef
theorem mb_true (v : Value) : mb true v = v := rfl
theorem mb_false (v : Value) : mb false v = undef := rfl
theorem want_at {ops : Array Oper} {a : Act} {o : Oper} (j d : Nat) (want b : Bool) (hg : o.guard = some (j, want)) (hd : (ops[j]?).bind (·.dst) = some d) (hv : a.tmps[d]? = some (.bool b)) : Region.wanted o (yielded ops a.tmps) = (b == want) := by
  unfold Region.wanted yielded
  rw [hg]
  simp only [hd, Option.bind_some, hv]
  cases b <;> cases want <;> rfl
theorem want_yes {ops : Array Oper} {a : Act} {o : Oper} (j d : Nat) (b : Bool) (hg : o.guard = some (j, true)) (hd : (ops[j]?).bind (·.dst) = some d) (hv : a.tmps[d]? = some (.bool b)) : Region.wanted o (yielded ops a.tmps) = b := by
  rw [want_at j d true b hg hd hv]; cases b <;> rfl
theorem want_no {ops : Array Oper} {a : Act} {o : Oper} (j d : Nat) (b : Bool) (hg : o.guard = some (j, false)) (hd : (ops[j]?).bind (·.dst) = some d) (hv : a.tmps[d]? = some (.bool b)) : Region.wanted o (yielded ops a.tmps) = !b := by
  rw [want_at j d false b hg hd hv]; cases b <;> rfl
theorem want_mb {ops : Array Oper} {a : Act} {o : Oper} (j d : Nat) (want c b : Bool) (hg : o.guard = some (j, want)) (hd : (ops[j]?).bind (·.dst) = some d) (hv : a.tmps[d]? = some (mb c (.bool b))) : Region.wanted o (yielded ops a.tmps) = (c && (b == want)) := by
  cases c
  · unfold Region.wanted yielded
    rw [hg]
    simp only [hd, Option.bind_some, hv]
    rfl
  · rw [want_at j d want b hg hd hv]; rfl
theorem want_mb_yes {ops : Array Oper} {a : Act} {o : Oper} (j d : Nat) (c b : Bool) (hg : o.guard = some (j, true)) (hd : (ops[j]?).bind (·.dst) = some d) (hv : a.tmps[d]? = some (mb c (.bool b))) : Region.wanted o (yielded ops a.tmps) = (c && b) := by
  rw [want_mb j d true c b hg hd hv]; cases b <;> rfl
theorem want_mb_no {ops : Array Oper} {a : Act} {o : Oper} (j d : Nat) (c b : Bool) (hg : o.guard = some (j, false)) (hd : (ops[j]?).bind (·.dst) = some d) (hv : a.tmps[d]? = some (mb c (.bool b))) : Region.wanted o (yielded ops a.tmps) = (c && !b) := by
  rw [want_mb j d false c b hg hd hv]; cases b <;> rfl
section
variable {P : Program} {ops : Array Oper} {C : World → Prop} {Q : Act → Prop} {a : Act} {o : Oper} {rest : List Oper}
theorem mb_runs (c : Bool) (v : Value) (hw : Region.wanted o (yielded ops a.tmps) = c) (h : c = true → ∀ w, C w → (execOp a.eval o).run P w = .ok (.value v) w) (hk : wpQuiet P ops C Q rest (a.put o.dst (mb c v))) : wpQuiet P ops C Q (o :: rest) a := by
  cases c
  · exact BigFrame.wpQuiet_skip hw hk
  · exact quiet_runs v hw (h rfl) hk
theorem mb_calls (c : Bool) (f : FuncId) (args : Array Value) (v : Value) (hw : Region.wanted o (yielded ops a.tmps) = c) (h : c = true → ∀ w, C w → (execOp a.eval o).run P w = .ok (.enter f args) w) (hc : c = true → ∀ w, C w → Calls P f args w (fun e w' => e = .returned v ∧ C w')) (hk : wpQuiet P ops C Q rest (a.put o.dst (mb c v))) : wpQuiet P ops C Q (o :: rest) a := by
  cases c
  · exact BigFrame.wpQuiet_skip hw hk
  · exact quiet_calls f args v hw (h rfl) (hc rfl) hk
end

end Go.Proofs.YtkioolbjmcpjpaaGreatDoor
namespace Go.Proofs.YtkioolbjmcpjpaaGreatDoor.Ev
open Go.RowKit
set_option linter.unusedVariables false

structure Ev where
  k : Int
  i : ByteArray
  n : ByteArray
  l : ByteArray
  u : ByteArray
  d : Int
  v : Int
  t : C
def Ev.cs (e : Ev) : Array Value := #[.int .i64 e.k, .string e.i, .string e.n, .string e.l, .string e.u, .int .i64 e.d, .int .i64 e.v, e.t.val]
def Ev.val (e : Ev) : Value := .agg e.cs
structure Ev.Ok (e : Ev) : Prop where
  k1 : -9223372036854775808 ≤ e.k
  k2 : e.k ≤ 9223372036854775807
  d1 : -9223372036854775808 ≤ e.d
  d2 : e.d ≤ 9223372036854775807
  v1 : -9223372036854775808 ≤ e.v
  v2 : e.v ≤ 9223372036854775807
  i : e.i.size ≤ maxLen
  n : e.n.size ≤ maxLen
  l : e.l.size ≤ maxLen
  u : e.u.size ≤ maxLen
  t : e.t.Ok
  w : e.t.weight ≤ 1000000
/-- The letters of a kind's fields. -/
def flds (k : Int) : ByteArray :=
  if k = 1 then ⟨#[]⟩ else if k = 2 then ⟨#[73, 84]⟩ else if k = 3 then ⟨#[78, 68, 86]⟩ else if k = 4 then ⟨#[73, 76, 86]⟩ else if k = 5 then ⟨#[68]⟩ else if k = 6 then ⟨#[68, 67, 86]⟩ else ⟨#[63]⟩
def hasL (k : Int) (c : UInt8) : Bool := decide (0 ≤ Lib.indexByte (flds k).data.toList c)

set_option maxHeartbeats 1000000 in
theorem fields_any (k : Int) (w : World) : Calls Tryz.prog 15 #[.int .i64 k] w fun e w' => e = .returned (.string (flds k)) ∧ w' = w := by
  by_cases h1 : k = 1
  · subst h1
    go_enter Tryz.func15, Tryz.ntmps15
    go_wp2_with fail
    go_ret
    exact ⟨rfl, rfl⟩
  by_cases h2 : k = 2
  · subst h2
    go_enter Tryz.func15, Tryz.ntmps15
    go_wp2_with fail
    go_ret
    exact ⟨rfl, rfl⟩
  by_cases h3 : k = 3
  · subst h3
    go_enter Tryz.func15, Tryz.ntmps15
    go_wp2_with fail
    go_ret
    exact ⟨rfl, rfl⟩
  by_cases h4 : k = 4
  · subst h4
    go_enter Tryz.func15, Tryz.ntmps15
    go_wp2_with fail
    go_ret
    exact ⟨rfl, rfl⟩
  by_cases h5 : k = 5
  · subst h5
    go_enter Tryz.func15, Tryz.ntmps15
    go_wp2_with fail
    go_ret
    exact ⟨rfl, rfl⟩
  by_cases h6 : k = 6
  · subst h6
    go_enter Tryz.func15, Tryz.ntmps15
    go_wp2_with fail
    go_ret
    exact ⟨rfl, rfl⟩
  have HF : Hid (flds k = ⟨#[63]⟩) := by simp [Hid, flds, h1, h2, h3, h4, h5, h6]
  have e1 : (k == 1) = false := by simpa using h1
  have e2 : (k == 2) = false := by simpa using h2
  have e3 : (k == 3) = false := by simpa using h3
  have e4 : (k == 4) = false := by simpa using h4
  have e5 : (k == 5) = false := by simpa using h5
  have e6 : (k == 6) = false := by simpa using h6
  clear h1 h2 h3 h4 h5 h6
  go_enter Tryz.func15, Tryz.ntmps15
  go_wp2_with fail
  go_ret
  exact ⟨by rw [HF.out]; rfl, rfl⟩

set_option maxHeartbeats 1000000 in
theorem has_any (f : ByteArray) (c : UInt8) (b : Nat) (w : World) (hc : w.cell? ⟨b, 0, none⟩ = some (.string f)) :
    Calls Tryz.prog 73 #[.string ⟨#[c]⟩, .pointer (some ⟨b, 0, none⟩)] w fun e w' => e = .returned (.bool (decide (0 ≤ Lib.indexByte f.data.toList c))) ∧ w' = w := by
  go_enter Tryz.func73, Tryz.ntmps73
  go_wp2_with fail
  refine (Tryz.strings_Contains_one f c w).mono ?_
  rintro e w1 ⟨rfl, rfl⟩
  go_wp2_with fail
  go_ret
  exact ⟨rfl, rfl⟩

def fitS (s : ByteArray) (named : Bool) : Bool := bif named then nameGo 0 (runesOf s) else s.toList.isEmpty
def fitI (n : Int) (named may : Bool) : Bool := bif named then may else n == 0

set_option maxHeartbeats 1000000 in
theorem fitS_any (s : ByteArray) (named : Bool) (w : World) :
    Calls Tryz.prog 75 #[.string s, .bool named, .func (.func 76) #[] #[]] w fun e w' => e = .returned (.bool (fitS s named)) ∧ Below w.heap.size w w' := by
  have hent := enters_of Tryz.func76 (by kernel_rfl) rfl
  cases named
  · go_enter Tryz.func75, Tryz.ntmps75
    go_wp2_with fail
    go_ret
    exact ⟨rfl, Below.refl _ _⟩
  · go_enter Tryz.func75, Tryz.ntmps75
    go_wp2_with fail
    refine (name_any s w).mono ?_
    rintro e w1 ⟨rfl, pos, rfl⟩
    go_wp2_with fail
    go_ret
    exact ⟨rfl, below_iter _ _ _⟩

set_option maxHeartbeats 1000000 in
theorem fitI_any (n : Int) (named may : Bool) (f : Nat) (w : World) (hent : ∀ (args : Array Value) (w : World), (callFunc f args).run Tryz.prog w = .ok (.enter f args) w)
    (hm : ∀ w, Calls Tryz.prog f #[.int .i64 n] w fun e w' => e = .returned (.bool may) ∧ w' = w) :
    Calls Tryz.prog 77 #[.int .i64 n, .bool named, .func (.func f) #[] #[]] w fun e w' => e = .returned (.bool (fitI n named may)) ∧ w' = w := by
  have HM : Hid (∀ w, Calls Tryz.prog f #[.int .i64 n] w fun e w' => e = .returned (.bool may) ∧ w' = w) := hm
  clear hm
  cases named
  · go_enter Tryz.func77, Tryz.ntmps77
    go_wp2_with fail
    go_ret
    exact ⟨rfl, rfl⟩
  · go_enter Tryz.func77, Tryz.ntmps77
    go_wp2_with fail
    refine calls_same (HM.out w) ?_
    go_wp2_with fail
    go_ret
    exact ⟨rfl, rfl⟩

set_option maxHeartbeats 1000000 in
theorem isDay_any (n : Int) (w : World) : Calls Tryz.prog 78 #[.int .i64 n] w fun e w' => e = .returned (.bool (dayB n)) ∧ w' = w := by
  by_cases h1 : (0 : Int) ≤ n <;> by_cases h2 : n ≤ (10000 : Int)
  all_goals
    go_enter Tryz.func78, Tryz.ntmps78
    go_wp2
    go_ret
    exact ⟨by simp [dayB, h1, h2], rfl⟩
def pickB (n : Int) : Bool := n == 0 || n == 1
set_option maxHeartbeats 1000000 in
theorem isPick_any (n : Int) (w : World) : Calls Tryz.prog 80 #[.int .i64 n] w fun e w' => e = .returned (.bool (pickB n)) ∧ w' = w := by
  cases h1 : (n == 0) <;> cases h2 : (n == 1)
  all_goals
    go_enter Tryz.func80, Tryz.ntmps80
    go_wp2
    go_ret
    exact ⟨by simp [pickB, h1, h2], rfl⟩
def nilB (c : C) : Bool := match c with
  | .odd .nilIface => true
  | _ => false

end Go.Proofs.YtkioolbjmcpjpaaGreatDoor.Ev
namespace Go.Proofs.YtkioolbjmcpjpaaGreatDoor
open Go.RowKit
set_option linter.unusedVariables false

def sameC : C → C → Bool
  | .zero, .zero => true
  | .one s, .one t => decide (s = t)
  | .give a, .give b => sameC a b
  | .and l r, .and x y => sameC l x && sameC r y
  | .or s l r, .or t x y => decide (s = t) && (sameC l x && sameC r y)
  | .scale o a, .scale p b => sameO o p && sameC a b
  | .when d a, .when e b => decide (d = e) && sameC a b
  | .iff o l r, .iff p x y => sameO o p && (sameC l x && sameC r y)
  | _, _ => false
def sameCL : List C → List C → Bool
  | a :: l, b :: m => sameC a b && sameCL l m
  | _, _ => true
theorem sameC_head (a b : C) (h : ¬ (a.kind = b.kind ∧ a.text = b.text ∧ a.day = b.day)) : sameC a b = false := by
  cases a <;> cases b <;> simp [sameC, C.kind, C.text, C.day] at h ⊢ <;> simp [h]
theorem sameC_none (a b : C) (h : a.kind = 0) : sameC a b = false := by
  cases a <;> simp [C.kind] at h
  cases b <;> rfl
theorem sameC_kids (a b : C) (h0 : a.kind ≠ 0) (h : a.kind = b.kind ∧ a.text = b.text ∧ a.day = b.day) : a.nums.length = b.nums.length ∧ a.kids.length = b.kids.length ∧ sameC a b = (sameL a.nums b.nums && sameCL a.kids b.kids) := by
  cases a <;> cases b <;> simp [sameC, sameL, sameCL, C.kids, C.nums, C.kind, C.text, C.day] at h h0 ⊢ <;> simp [h]
theorem sameCL_take (l m : List C) (i : Nat) (a b : C) (h1 : l[i]? = some a) (h2 : m[i]? = some b) : sameCL (l.take (i + 1)) (m.take (i + 1)) = (sameCL (l.take i) (m.take i) && sameC a b) := by
  induction l generalizing m i with
  | nil => simp at h1
  | cons x l ih =>
    cases m with
    | nil => simp at h2
    | cons y m =>
      cases i with
      | zero => simp at h1 h2; subst h1 h2; simp [sameCL]
      | succ i =>
        simp at h1 h2
        simp only [List.take_succ_cons, sameCL]
        rw [ih m i h1 h2, Bool.and_assoc]
theorem sameCL_no (l m : List C) (i : Nat) (a b : C) (h1 : l[i]? = some a) (h2 : m[i]? = some b) (h : sameC a b = false) : sameCL l m = false := by
  induction l generalizing m i with
  | nil => simp at h1
  | cons x l ih =>
    cases m with
    | nil => simp at h2
    | cons y m =>
      cases i with
      | zero => simp at h1 h2; subst h1 h2; simp [sameCL, h]
      | succ i =>
        simp at h1 h2
        simp [sameCL, ih m i h1 h2]
set_option maxHeartbeats 4000000 in
set_option maxRecDepth 100000 in
theorem sameT_any (a : C) : a.Ok → ∀ b : C, b.Ok → ∀ w : World, Calls Tryz.prog 72 #[a.val, b.val] w fun e w' => e = .returned (.bool (sameC a b)) ∧ Below w.heap.size w w' := by
  induction a using C.ind with
  | _ a ih =>
  intro hok b hokb w
  have HIH : Hid (∀ k ∈ a.kids, ∀ b : C, b.Ok → ∀ w : World, Calls Tryz.prog 72 #[k.val, b.val] w fun e w' => e = .returned (.bool (sameC k b)) ∧ Below w.heap.size w w') :=
    fun k hk => ih k hk (hok.kid hk)
  clear ih
  have h2 := a.kids_two
  have h1n := a.nums_one
  have HOB : Hid b.Ok := hokb
  have HOA : Hid a.Ok := hok
  go_enter Tryz.func72, Tryz.ntmps72
  go_wp2_with fail
  refine (openT_any a w hok).mono ?_
  rintro e w1 ⟨xa, xb, rfl, hn, hk, hna, hnb, hb1⟩
  have HN : Hid (HasObs w1 xa a.nums) := hn
  have HK : Hid (HasTerm w1 xb a.kids) := hk
  have HB1 : Hid (Below w.heap.size w w1) := hb1
  clear hn hk hok hb1 hna hnb
  unfold headT
  go_wp2_with fail
  refine (openT_any b _ hokb).mono ?_
  rintro e w2 ⟨ya, yb, rfl, hn, hk, hna, hnb, hb2⟩
  have HB2 : Hid (Below w1.heap.size w1 w2) := (below_alloc (Below.refl w1.heap.size w1) _).trans (hb2.mono (by simp))
  have HN2 : Hid (HasObs w2 ya b.nums) := hn
  have HK2 : Hid (HasTerm w2 yb b.kids) := hk
  have hbk : w2.heap[w1.heap.size]? = some (.cells #[.int .i64 a.kind, .string a.text, .int .i64 a.day] 209 (0, 0)) := (hb2.block _ (by simp)).trans (heap_alloc_new _ _)
  have hbk2 : (w2.alloc (.cells #[.int .i64 b.kind, .string b.text, .int .i64 b.day] 209)).heap[w1.heap.size]? = some (.cells #[.int .i64 a.kind, .string a.text, .int .i64 a.day] 209 (0, 0)) := heap_keeps hbk _
  have g0 := cell_of_row _ _ 0 _ _ _ hbk2
  have g1 := cell_of_row _ _ 1 _ _ _ hbk2
  have g2 := cell_of_row _ _ 2 _ _ _ hbk2
  rw [show (#[.int .i64 a.kind, .string a.text, .int .i64 a.day] : Array Value)[0]? = some (.int .i64 a.kind) from rfl] at g0
  rw [show (#[.int .i64 a.kind, .string a.text, .int .i64 a.day] : Array Value)[1]? = some (.string a.text) from rfl] at g1
  rw [show (#[.int .i64 a.kind, .string a.text, .int .i64 a.day] : Array Value)[2]? = some (.int .i64 a.day) from rfl] at g2
  clear hn hk hokb hb2 hbk hbk2 hna hnb
  unfold headT
  have HBW : Hid (∀ o, Below w.heap.size w (w2.alloc o)) := fun o => by
    have h := HB1.out.trans (HB2.out.mono HB1.out.size)
    exact h.alloc h.size o
  by_cases h0 : a.kind = 0
  · have HS : Hid (sameC a b = false) := sameC_none a b h0
    go_wp2_with fail
    go_ret
    exact ⟨by rw [HS.out]; rfl, HBW.out _⟩
  · have h0' : (a.kind == 0) = false := by simpa using h0
    by_cases hh : a.kind = b.kind ∧ a.text = b.text ∧ a.day = b.day
    · obtain ⟨hlen1, hlen, hsame⟩ := sameC_kids a b h0 hh
      have HS : Hid (sameC a b = (sameL a.nums b.nums && sameCL a.kids b.kids)) := hsame
      have HL : Hid (a.kids.length = b.kids.length) := hlen
      have HL1 : Hid (a.nums.length = b.nums.length) := hlen1
      obtain ⟨e1, e2, e3⟩ := hh
      have hlb : b.kids.length ≤ 2 := by omega
      have hlb1 : b.nums.length ≤ 1 := by omega
      have h0b : (b.kind == 0) = false := by rw [← e1]; exact h0'
      clear hsame hlen hlen1
      go_wp2_with fail
      go_loopw [37] (fun s37 wr => ∃ i : Nat, i ≤ a.nums.length ∧ s37 = .int .i64 i ∧ Hid (sameL (a.nums.take i) (b.nums.take i) = true) ∧ Below w2.heap.size w2 wr) (fun s37 _ => a.nums.length - (intOf s37).toNat)
      case atStart => exact ⟨0, by omega, rfl, rfl, below_alloc (Below.refl _ _) _⟩
      case round =>
        clear g0 g1 g2
        obtain ⟨i, hi, rfl, HA, hbr⟩ := hrel
        have HB3 : Hid (Below w.heap.size w wr) := by
          have h := HB1.out.trans (HB2.out.mono HB1.out.size)
          exact h.trans (hbr.mono h.size)
        by_cases hlt : i < a.nums.length
        · have hlt' : (i : Int) < (a.nums.length : Int) := by omega
          have hltb : i < b.nums.length := by have := HL1.out; omega
          have hltb' : (i : Int) < (b.nums.length : Int) := by omega
          obtain ⟨k, hki⟩ : ∃ k, a.nums[i]? = some k := ⟨_, List.getElem?_eq_getElem hlt⟩
          obtain ⟨m, hmi⟩ : ∃ m, b.nums[i]? = some m := ⟨_, List.getElem?_eq_getElem hltb⟩
          obtain ⟨p, rfl, hc⟩ := ((HN.out.below HB2.out).below hbr) i k hki
          obtain ⟨q, rfl, hcm⟩ := (HN2.out.below hbr) i m hmi
          have HOK : Hid k.Ok := HOA.out.num (List.mem_of_getElem? hki)
          have HOM : Hid m.Ok := HOB.out.num (List.mem_of_getElem? hmi)
          have HT : Hid (sameL (a.nums.take (i + 1)) (b.nums.take (i + 1)) = (sameL (a.nums.take i) (b.nums.take i) && sameO k m)) := sameL_take _ _ _ _ _ hki hmi
          have HNO : Hid (sameO k m = false → sameL a.nums b.nums = false) := sameL_no _ _ _ _ _ hki hmi
          clear hki hmi
          go_wp2_with fail
          refine (same_any k HOK.out m HOM.out wr).mono ?_
          rintro e w3 ⟨rfl, hb3⟩
          have HB4 : Hid (Below w2.heap.size w2 w3) := hbr.trans (hb3.mono hbr.size)
          have HB5 : Hid (Below w.heap.size w w3) := HB3.out.trans (hb3.mono HB3.out.size)
          clear hb3 hbr hc hcm
          cases hf : sameO k m
          · go_wp2_with fail
            go_ret
            exact ⟨ret_bool (by rw [HS.out, HNO.out hf, Bool.false_and]), HB5.out⟩
          · go_wp2_with fail
            go_roundw
            case rel => exact ⟨i + 1, by omega, by go_num, by unfold Hid; rw [HT.out, HA.out, hf]; rfl, HB4.out⟩
            case measure => simp [intOf]; omega
        · have hle : i = a.nums.length := by omega
          subst hle
          have HA1 : Hid (sameL a.nums b.nums = true) := by
            have h := HA.out
            rw [List.take_length, HL1.out, List.take_length] at h
            exact h
          clear HA hlt
          obtain ⟨wA, hwA⟩ : ∃ y, y = wr := ⟨_, rfl⟩
          subst hwA
          have HBA : Hid (Below w2.heap.size w2 wA) := hbr
          clear hbr HB3
          go_wp2_with fail
          go_loopw [52] (fun s52 wr => ∃ i : Nat, i ≤ a.kids.length ∧ s52 = .int .i64 i ∧ Hid (sameCL (a.kids.take i) (b.kids.take i) = true) ∧ Below w2.heap.size w2 wr) (fun s52 _ => a.kids.length - (intOf s52).toNat)
          case atStart => exact ⟨0, by omega, rfl, rfl, HBA.out⟩
          case round =>
            obtain ⟨i, hi, rfl, HA, hbr⟩ := hrel
            have HB3 : Hid (Below w.heap.size w wr) := by
              have h := HB1.out.trans (HB2.out.mono HB1.out.size)
              exact h.trans (hbr.mono h.size)
            by_cases hlt : i < a.kids.length
            · have hlt' : (i : Int) < (a.kids.length : Int) := by omega
              have hltb : i < b.kids.length := by have := HL.out; omega
              have hltb' : (i : Int) < (b.kids.length : Int) := by omega
              obtain ⟨k, hki⟩ : ∃ k, a.kids[i]? = some k := ⟨_, List.getElem?_eq_getElem hlt⟩
              obtain ⟨m, hmi⟩ : ∃ m, b.kids[i]? = some m := ⟨_, List.getElem?_eq_getElem hltb⟩
              obtain ⟨p, rfl, hc⟩ := ((HK.out.below HB2.out).below hbr) i k hki
              obtain ⟨q, rfl, hcm⟩ := (HK2.out.below hbr) i m hmi
              have HM : Hid (k ∈ a.kids) := List.mem_of_getElem? hki
              have HOM : Hid m.Ok := HOB.out.kid (List.mem_of_getElem? hmi)
              have HT : Hid (sameCL (a.kids.take (i + 1)) (b.kids.take (i + 1)) = (sameCL (a.kids.take i) (b.kids.take i) && sameC k m)) := sameCL_take _ _ _ _ _ hki hmi
              have HNO : Hid (sameC k m = false → sameCL a.kids b.kids = false) := sameCL_no _ _ _ _ _ hki hmi
              clear hki hmi
              go_wp2_with fail
              refine (HIH.out k HM.out m HOM.out wr).mono ?_
              rintro e w3 ⟨rfl, hb3⟩
              have HB4 : Hid (Below w2.heap.size w2 w3) := hbr.trans (hb3.mono hbr.size)
              have HB5 : Hid (Below w.heap.size w w3) := HB3.out.trans (hb3.mono HB3.out.size)
              clear hb3 hbr hc hcm
              cases hf : sameC k m
              · go_wp2_with fail
                go_ret
                exact ⟨ret_bool (by rw [HS.out, HNO.out hf, Bool.and_false]), HB5.out⟩
              · go_wp2_with fail
                go_roundw
                case rel => exact ⟨i + 1, by omega, by go_num, by unfold Hid; rw [HT.out, HA.out, hf]; rfl, HB4.out⟩
                case measure => simp [intOf]; omega
            · have hle : i = a.kids.length := by omega
              subst hle
              have HA2 : Hid (sameCL a.kids b.kids = true) := by
                have h := HA.out
                rw [List.take_length, HL.out, List.take_length] at h
                exact h
              clear HA
              go_wp2_with fail
              go_ret
              exact ⟨ret_bool (by rw [HS.out, HA1.out, HA2.out]; rfl), HB3.out⟩
    · have HS : Hid (sameC a b = false) := sameC_head a b hh
      by_cases e1 : a.kind = b.kind
      · have h0b : (b.kind == 0) = false := by rw [← e1]; exact h0'
        by_cases e2 : a.text = b.text
        · have e3 : ¬ a.day = b.day := fun e3 => hh ⟨e1, e2, e3⟩
          clear hh
          go_wp2_with fail
          go_ret
          exact ⟨ret_bool (by rw [HS.out]), HBW.out _⟩
        · have e2' : ¬ a.text.toList = b.text.toList := fun e => e2 (toList_inj e)
          clear hh
          go_wp2_with fail
          go_ret
          exact ⟨ret_bool (by rw [HS.out]), HBW.out _⟩
      · clear hh
        go_wp2_with fail
        go_ret
        exact ⟨ret_bool (by rw [HS.out]), HBW.out _⟩

end Go.Proofs.YtkioolbjmcpjpaaGreatDoor
namespace Go.Proofs.YtkioolbjmcpjpaaGreatDoor.Ev
open Go.RowKit
set_option linter.unusedVariables false
set_option linter.unusedSimpArgs false

def hasB (f : ByteArray) (c : UInt8) : Bool := decide (0 ≤ Lib.indexByte f.data.toList c)
/-- What event.Check asks of an event, its contract's text aside. -/
def formE (e : Ev) : Bool := !((flds e.k).toList == [63]) && fitS e.i (hasB (flds e.k) 73) && fitS e.n (hasB (flds e.k) 78) && fitS e.l (hasB (flds e.k) 76) && fitS e.u (hasB (flds e.k) 67) && fitI e.d (hasB (flds e.k) 68) (dayB e.d) && fitI e.v (hasB (flds e.k) 86) (vB e.v) && (nilB e.t || hasB (flds e.k) 84) && (!(e.k == 4) || pickB e.v)

set_option maxHeartbeats 4000000 in
set_option maxRecDepth 100000 in
theorem formed_any (e : Ev) (hok : e.Ok) (w : World) : Calls Tryz.prog 42 #[e.val] w fun r w' => r = .returned (.bool (formE e)) ∧ Below w.heap.size w w' := by
  obtain ⟨k, i, n, l, u, d, v, t⟩ := e
  obtain ⟨hk1, hk2, hd1, hd2, hv1, hv2, hi, hn, hl, hu, ht, hw⟩ := hok
  simp only at hk1 hk2 hd1 hd2 hv1 hv2 hi hn hl hu ht hw
  unfold Ev.val Ev.cs
  have HFE : Hid (formE ⟨k, i, n, l, u, d, v, t⟩ = (!((flds k).toList == [63]) && fitS i (hasB (flds k) 73) && fitS n (hasB (flds k) 78) && fitS l (hasB (flds k) 76) && fitS u (hasB (flds k) 67) && fitI d (hasB (flds k) 68) (dayB d) && fitI v (hasB (flds k) 86) (vB v) && (nilB t || hasB (flds k) 84) && (!(k == 4) || pickB v))) := rfl
  generalize formE ⟨k, i, n, l, u, d, v, t⟩ = res at *
  have hent1 := enters_of Tryz.func76 (by kernel_rfl) rfl
  have hent2 := enters_of Tryz.func78 (by kernel_rfl) rfl
  have hent3 := enters_of Tryz.func79 (by kernel_rfl) rfl
  have hent4 := enters_of Tryz.func73 (by kernel_rfl) rfl
  have HE2 := hidIn hent2
  have HE3 := hidIn hent3
  obtain ⟨tv, htv⟩ : ∃ x, t.val = x := ⟨_, rfl⟩
  have HTV := hidIn htv
  have HTO := hidIn ht
  rw [htv]
  obtain ⟨f, hf⟩ : ∃ x, flds k = x := ⟨_, rfl⟩
  rw [hf] at HFE
  have HFF := hidIn hf
  clear hk1 hk2 hd1 hd2 hv1 hv2 hi hn hl hu ht hw htv
  go_enter Tryz.func42, Tryz.ntmps42
  go_wp2_with fail
  refine calls_same (fields_any k _) ?_
  rw [hf]
  clear hf
  go_wp2_with fail
  have hx0 : ((w.alloc (.cells #[.int .i64 k, .string i, .string n, .string l, .string u, .int .i64 d, .int .i64 v, tv] 30)).alloc (.cells #[.string f] 9)).heap[w.heap.size]? = some (.cells #[.int .i64 k, .string i, .string n, .string l, .string u, .int .i64 d, .int .i64 v, tv] 30) := heap_keeps (heap_alloc_new _ _) _
  have hx1 : ((w.alloc (.cells #[.int .i64 k, .string i, .string n, .string l, .string u, .int .i64 d, .int .i64 v, tv] 30)).alloc (.cells #[.string f] 9)).heap[w.heap.size + 1]? = some (.cells #[.string f] 9) := by
    have h := heap_alloc_new (w.alloc (.cells #[.int .i64 k, .string i, .string n, .string l, .string u, .int .i64 d, .int .i64 v, tv] 30)) (.cells #[.string f] 9)
    rwa [show (w.alloc (.cells #[.int .i64 k, .string i, .string n, .string l, .string u, .int .i64 d, .int .i64 v, tv] 30)).heap.size = w.heap.size + 1 by simp] at h
  have HBV : Hid (Below w.heap.size w ((w.alloc (.cells #[.int .i64 k, .string i, .string n, .string l, .string u, .int .i64 d, .int .i64 v, tv] 30)).alloc (.cells #[.string f] 9))) := below_alloc (below_alloc (Below.refl _ _) _) _
  have HX0 := hidIn hx0
  have HX1 := hidIn hx1
  clear hx0 hx1
  generalize (w.alloc (.cells #[.int .i64 k, .string i, .string n, .string l, .string u, .int .i64 d, .int .i64 v, tv] 30)).alloc (.cells #[.string f] 9) = V at *
  have HF : Hid (∀ w', Below V.heap.size V w' → w'.cell? ⟨w.heap.size + 1, 0, none⟩ = some (.string f) ∧ w'.cell? ⟨w.heap.size, 1, none⟩ = some (.string i) ∧ w'.cell? ⟨w.heap.size, 2, none⟩ = some (.string n) ∧ w'.cell? ⟨w.heap.size, 3, none⟩ = some (.string l) ∧ w'.cell? ⟨w.heap.size, 4, none⟩ = some (.string u) ∧ w'.cell? ⟨w.heap.size, 5, none⟩ = some (.int .i64 d) ∧ w'.cell? ⟨w.heap.size, 6, none⟩ = some (.int .i64 v) ∧ w'.cell? ⟨w.heap.size, 7, none⟩ = some tv ∧ w'.cell? ⟨w.heap.size, 0, none⟩ = some (.int .i64 k)) := fun w' hw' => by
    have h0 := (hw'.block _ (Array.getElem?_eq_some_iff.1 HX0.out).1).trans HX0.out
    have h1 := (hw'.block _ (Array.getElem?_eq_some_iff.1 HX1.out).1).trans HX1.out
    exact ⟨cell_of_row _ _ 0 _ _ _ h1, cell_of_row _ _ 1 _ _ _ h0, cell_of_row _ _ 2 _ _ _ h0, cell_of_row _ _ 3 _ _ _ h0, cell_of_row _ _ 4 _ _ _ h0, cell_of_row _ _ 5 _ _ _ h0, cell_of_row _ _ 6 _ _ _ h0, cell_of_row _ _ 7 _ _ _ h0, cell_of_row _ _ 0 _ _ _ h0⟩
  have HH : Hid (∀ (c : UInt8) (w' : World), Below V.heap.size V w' → Calls Tryz.prog 73 #[.string ⟨#[c]⟩, .pointer (some ⟨w.heap.size + 1, 0, none⟩)] w' fun e w2 => e = .returned (.bool (hasB f c)) ∧ Below V.heap.size V w2) := fun c w' hw' => (has_any f c _ w' (HF.out w' hw').1).mono (by rintro e w2 ⟨rfl, rfl⟩; exact ⟨rfl, hw'⟩)
  have HS : Hid (∀ (s : ByteArray) (b : Bool) (w' : World), Below V.heap.size V w' → Calls Tryz.prog 75 #[.string s, .bool b, .func (.func 76) #[] #[]] w' fun e w2 => e = .returned (.bool (fitS s b)) ∧ Below V.heap.size V w2) := fun s b w' hw' => (fitS_any s b w').mono (by rintro e w2 ⟨rfl, hb⟩; exact ⟨rfl, hw'.trans (hb.mono hw'.size)⟩)
  have HD : Hid (∀ (x : Int) (b : Bool) (w' : World), Below V.heap.size V w' → Calls Tryz.prog 77 #[.int .i64 x, .bool b, .func (.func 78) #[] #[]] w' fun e w2 => e = .returned (.bool (fitI x b (dayB x))) ∧ Below V.heap.size V w2) := fun x b w' hw' => (fitI_any x b _ _ w' HE2.out (fun w => isDay_any x w)).mono (by rintro e w2 ⟨rfl, rfl⟩; exact ⟨rfl, hw'⟩)
  have HV : Hid (∀ (x : Int) (b : Bool) (w' : World), Below V.heap.size V w' → Calls Tryz.prog 77 #[.int .i64 x, .bool b, .func (.func 79) #[] #[]] w' fun e w2 => e = .returned (.bool (fitI x b (vB x))) ∧ Below V.heap.size V w2) := fun x b w' hw' => (fitI_any x b _ _ w' HE3.out (fun w => valid_any x w)).mono (by rintro e w2 ⟨rfl, rfl⟩; exact ⟨rfl, hw'⟩)
  have HP : Hid (∀ (x : Int) (w' : World), Below V.heap.size V w' → Calls Tryz.prog 80 #[.int .i64 x] w' fun e w2 => e = .returned (.bool (pickB x)) ∧ Below V.heap.size V w2) := fun x w' hw' => (isPick_any x w').mono (by rintro e w2 ⟨rfl, rfl⟩; exact ⟨rfl, hw'⟩)
  obtain ⟨c0, hc0⟩ : ∃ x, (!(f.toList == [63])) = x := ⟨_, rfl⟩
  have HC0 := hidIn hc0
  clear hc0
  obtain ⟨c1, hc1⟩ : ∃ x, (c0 && fitS i (hasB f 73)) = x := ⟨_, rfl⟩
  have HC1 := hidIn hc1
  clear hc1
  obtain ⟨c2, hc2⟩ : ∃ x, (c1 && fitS n (hasB f 78)) = x := ⟨_, rfl⟩
  have HC2 := hidIn hc2
  clear hc2
  obtain ⟨c3, hc3⟩ : ∃ x, (c2 && fitS l (hasB f 76)) = x := ⟨_, rfl⟩
  have HC3 := hidIn hc3
  clear hc3
  obtain ⟨c4, hc4⟩ : ∃ x, (c3 && fitS u (hasB f 67)) = x := ⟨_, rfl⟩
  have HC4 := hidIn hc4
  clear hc4
  obtain ⟨c5, hc5⟩ : ∃ x, (c4 && fitI d (hasB f 68) (dayB d)) = x := ⟨_, rfl⟩
  have HC5 := hidIn hc5
  clear hc5
  obtain ⟨c6, hc6⟩ : ∃ x, (c5 && fitI v (hasB f 86) (vB v)) = x := ⟨_, rfl⟩
  have HC6 := hidIn hc6
  clear hc6
  obtain ⟨nb, hnb⟩ : ∃ x, (nilB t) = x := ⟨_, rfl⟩
  have HNB := hidIn hnb
  clear hnb
  obtain ⟨bt, hbt⟩ : ∃ x, (nb || hasB f 84) = x := ⟨_, rfl⟩
  have HBT := hidIn hbt
  clear hbt
  obtain ⟨c7, hc7⟩ : ∃ x, (c6 && bt) = x := ⟨_, rfl⟩
  have HC7 := hidIn hc7
  clear hc7
  obtain ⟨n4, hn4⟩ : ∃ x, (!(k == 4)) = x := ⟨_, rfl⟩
  have HN4 := hidIn hn4
  clear hn4
  obtain ⟨bp, hbp⟩ : ∃ x, (n4 || pickB v) = x := ⟨_, rfl⟩
  have HBP := hidIn hbp
  clear hbp
  obtain ⟨c8, hc8⟩ : ∃ x, (c7 && bp) = x := ⟨_, rfl⟩
  have HC8 := hidIn hc8
  clear hc8
  refine wp_region_class (fun w' => Below V.heap.size V w') (by kernel_rfl) (by kernel_rfl) (below_drew (Below.refl _ _)) ?_
  generalize hops : (#[_, _, _, _, _, _, _, _, _, _, _, _, _, _, _, _, _, _, _, _, _, _, _, _, _, _, _, _, _, _, _, _, _, _, _, _, _, _, _, _, _, _, _, _, _, _, _, _, _, _, _, _, _, _, _, _, _, _, _, _, _, _, _, _] : Array Oper) = ops
  have HD2 : Hid ((ops[2]?).bind (·.dst) = some 11) := by rw [← hops]; exact rfl
  have HD9 : Hid ((ops[9]?).bind (·.dst) = some 18) := by rw [← hops]; exact rfl
  have HD16 : Hid ((ops[16]?).bind (·.dst) = some 25) := by rw [← hops]; exact rfl
  have HD23 : Hid ((ops[23]?).bind (·.dst) = some 32) := by rw [← hops]; exact rfl
  have HD30 : Hid ((ops[30]?).bind (·.dst) = some 39) := by rw [← hops]; exact rfl
  have HD37 : Hid ((ops[37]?).bind (·.dst) = some 46) := by rw [← hops]; exact rfl
  have HD44 : Hid ((ops[44]?).bind (·.dst) = some 53) := by rw [← hops]; exact rfl
  have HD48 : Hid ((ops[48]?).bind (·.dst) = some 57) := by rw [← hops]; exact rfl
  have HD53 : Hid ((ops[53]?).bind (·.dst) = some 62) := by rw [← hops]; exact rfl
  have HD57 : Hid ((ops[57]?).bind (·.dst) = some 66) := by rw [← hops]; exact rfl
  clear hops
  refine quiet_runs (.string f) (wanted_none rfl) (fun w' hw' => ?_) ?_
  · have q0 := (HF.out w' hw').1
    go_simp
  simp only [Act.put, List.setIfInBounds_toArray, List.set_cons_zero, List.set_cons_succ]
  refine quiet_runs (.bool c0) (wanted_none rfl) (fun w' hw' => ?_) ?_
  · rw [← HC0.out]
    go_simp
  simp only [Act.put, List.setIfInBounds_toArray, List.set_cons_zero, List.set_cons_succ]
  refine quiet_runs (.bool c0) (wanted_none rfl) (fun w' hw' => ?_) ?_
  · go_simp
  simp only [Act.put, List.setIfInBounds_toArray, List.set_cons_zero, List.set_cons_succ]
  refine mb_runs c0 (.pointer (some ⟨w.heap.size, 1, none⟩)) (want_yes 2 11 c0 rfl HD2.out rfl) (fun hb w' hw' => ?_) ?_
  · subst hb
    try simp only [mb_true]
    go_simp
  simp only [Act.put, List.setIfInBounds_toArray, List.set_cons_zero, List.set_cons_succ]
  refine mb_runs c0 (.string i) (want_yes 2 11 c0 rfl HD2.out rfl) (fun hb w' hw' => ?_) ?_
  · subst hb
    try simp only [mb_true]
    have q0 := (HF.out w' hw').2.1
    go_simp
  simp only [Act.put, List.setIfInBounds_toArray, List.set_cons_zero, List.set_cons_succ]
  refine mb_runs c0 (.func (.func 73) #[] #[.pointer (some ⟨w.heap.size + 1, 0, none⟩)]) (want_yes 2 11 c0 rfl HD2.out rfl) (fun hb w' hw' => ?_) ?_
  · subst hb
    try simp only [mb_true]
    go_simp
  simp only [Act.put, List.setIfInBounds_toArray, List.set_cons_zero, List.set_cons_succ]
  refine mb_calls c0 73 #[.string ⟨#[73]⟩, .pointer (some ⟨w.heap.size + 1, 0, none⟩)] (.bool (hasB f 73)) (want_yes 2 11 c0 rfl HD2.out rfl) (fun hb w' hw' => ?_) (fun hb w' hw' => ?_) ?_
  · subst hb
    try simp only [mb_true]
    go_simp
  · exact HH.out 73 w' hw'
  simp only [Act.put, List.setIfInBounds_toArray, List.set_cons_zero, List.set_cons_succ]
  refine mb_calls c0 75 #[.string i, .bool (hasB f 73), .func (.func 76) #[] #[]] (.bool (fitS i (hasB f 73))) (want_yes 2 11 c0 rfl HD2.out rfl) (fun hb w' hw' => ?_) (fun hb w' hw' => ?_) ?_
  · subst hb
    try simp only [mb_true]
    go_simp
  · exact HS.out i _ w' hw'
  simp only [Act.put, List.setIfInBounds_toArray, List.set_cons_zero, List.set_cons_succ]
  refine quiet_runs (.bool c1) (wanted_none rfl) (fun w' hw' => ?_) ?_
  · rw [← HC1.out]
    cases c0 <;> (try simp only [mb_true, mb_false]; go_simp)
  simp only [Act.put, List.setIfInBounds_toArray, List.set_cons_zero, List.set_cons_succ]
  refine quiet_runs (.bool c1) (wanted_none rfl) (fun w' hw' => ?_) ?_
  · go_simp
  simp only [Act.put, List.setIfInBounds_toArray, List.set_cons_zero, List.set_cons_succ]
  refine mb_runs c1 (.pointer (some ⟨w.heap.size, 2, none⟩)) (want_yes 9 18 c1 rfl HD9.out rfl) (fun hb w' hw' => ?_) ?_
  · subst hb
    try simp only [mb_true]
    go_simp
  simp only [Act.put, List.setIfInBounds_toArray, List.set_cons_zero, List.set_cons_succ]
  refine mb_runs c1 (.string n) (want_yes 9 18 c1 rfl HD9.out rfl) (fun hb w' hw' => ?_) ?_
  · subst hb
    try simp only [mb_true]
    have q0 := (HF.out w' hw').2.2.1
    go_simp
  simp only [Act.put, List.setIfInBounds_toArray, List.set_cons_zero, List.set_cons_succ]
  refine mb_runs c1 (.func (.func 73) #[] #[.pointer (some ⟨w.heap.size + 1, 0, none⟩)]) (want_yes 9 18 c1 rfl HD9.out rfl) (fun hb w' hw' => ?_) ?_
  · subst hb
    try simp only [mb_true]
    go_simp
  simp only [Act.put, List.setIfInBounds_toArray, List.set_cons_zero, List.set_cons_succ]
  refine mb_calls c1 73 #[.string ⟨#[78]⟩, .pointer (some ⟨w.heap.size + 1, 0, none⟩)] (.bool (hasB f 78)) (want_yes 9 18 c1 rfl HD9.out rfl) (fun hb w' hw' => ?_) (fun hb w' hw' => ?_) ?_
  · subst hb
    try simp only [mb_true]
    go_simp
  · exact HH.out 78 w' hw'
  simp only [Act.put, List.setIfInBounds_toArray, List.set_cons_zero, List.set_cons_succ]
  refine mb_calls c1 75 #[.string n, .bool (hasB f 78), .func (.func 76) #[] #[]] (.bool (fitS n (hasB f 78))) (want_yes 9 18 c1 rfl HD9.out rfl) (fun hb w' hw' => ?_) (fun hb w' hw' => ?_) ?_
  · subst hb
    try simp only [mb_true]
    go_simp
  · exact HS.out n _ w' hw'
  simp only [Act.put, List.setIfInBounds_toArray, List.set_cons_zero, List.set_cons_succ]
  refine quiet_runs (.bool c2) (wanted_none rfl) (fun w' hw' => ?_) ?_
  · rw [← HC2.out]
    cases c1 <;> (try simp only [mb_true, mb_false]; go_simp)
  simp only [Act.put, List.setIfInBounds_toArray, List.set_cons_zero, List.set_cons_succ]
  refine quiet_runs (.bool c2) (wanted_none rfl) (fun w' hw' => ?_) ?_
  · go_simp
  simp only [Act.put, List.setIfInBounds_toArray, List.set_cons_zero, List.set_cons_succ]
  refine mb_runs c2 (.pointer (some ⟨w.heap.size, 3, none⟩)) (want_yes 16 25 c2 rfl HD16.out rfl) (fun hb w' hw' => ?_) ?_
  · subst hb
    try simp only [mb_true]
    go_simp
  simp only [Act.put, List.setIfInBounds_toArray, List.set_cons_zero, List.set_cons_succ]
  refine mb_runs c2 (.string l) (want_yes 16 25 c2 rfl HD16.out rfl) (fun hb w' hw' => ?_) ?_
  · subst hb
    try simp only [mb_true]
    have q0 := (HF.out w' hw').2.2.2.1
    go_simp
  simp only [Act.put, List.setIfInBounds_toArray, List.set_cons_zero, List.set_cons_succ]
  refine mb_runs c2 (.func (.func 73) #[] #[.pointer (some ⟨w.heap.size + 1, 0, none⟩)]) (want_yes 16 25 c2 rfl HD16.out rfl) (fun hb w' hw' => ?_) ?_
  · subst hb
    try simp only [mb_true]
    go_simp
  simp only [Act.put, List.setIfInBounds_toArray, List.set_cons_zero, List.set_cons_succ]
  refine mb_calls c2 73 #[.string ⟨#[76]⟩, .pointer (some ⟨w.heap.size + 1, 0, none⟩)] (.bool (hasB f 76)) (want_yes 16 25 c2 rfl HD16.out rfl) (fun hb w' hw' => ?_) (fun hb w' hw' => ?_) ?_
  · subst hb
    try simp only [mb_true]
    go_simp
  · exact HH.out 76 w' hw'
  simp only [Act.put, List.setIfInBounds_toArray, List.set_cons_zero, List.set_cons_succ]
  refine mb_calls c2 75 #[.string l, .bool (hasB f 76), .func (.func 76) #[] #[]] (.bool (fitS l (hasB f 76))) (want_yes 16 25 c2 rfl HD16.out rfl) (fun hb w' hw' => ?_) (fun hb w' hw' => ?_) ?_
  · subst hb
    try simp only [mb_true]
    go_simp
  · exact HS.out l _ w' hw'
  simp only [Act.put, List.setIfInBounds_toArray, List.set_cons_zero, List.set_cons_succ]
  refine quiet_runs (.bool c3) (wanted_none rfl) (fun w' hw' => ?_) ?_
  · rw [← HC3.out]
    cases c2 <;> (try simp only [mb_true, mb_false]; go_simp)
  simp only [Act.put, List.setIfInBounds_toArray, List.set_cons_zero, List.set_cons_succ]
  refine quiet_runs (.bool c3) (wanted_none rfl) (fun w' hw' => ?_) ?_
  · go_simp
  simp only [Act.put, List.setIfInBounds_toArray, List.set_cons_zero, List.set_cons_succ]
  refine mb_runs c3 (.pointer (some ⟨w.heap.size, 4, none⟩)) (want_yes 23 32 c3 rfl HD23.out rfl) (fun hb w' hw' => ?_) ?_
  · subst hb
    try simp only [mb_true]
    go_simp
  simp only [Act.put, List.setIfInBounds_toArray, List.set_cons_zero, List.set_cons_succ]
  refine mb_runs c3 (.string u) (want_yes 23 32 c3 rfl HD23.out rfl) (fun hb w' hw' => ?_) ?_
  · subst hb
    try simp only [mb_true]
    have q0 := (HF.out w' hw').2.2.2.2.1
    go_simp
  simp only [Act.put, List.setIfInBounds_toArray, List.set_cons_zero, List.set_cons_succ]
  refine mb_runs c3 (.func (.func 73) #[] #[.pointer (some ⟨w.heap.size + 1, 0, none⟩)]) (want_yes 23 32 c3 rfl HD23.out rfl) (fun hb w' hw' => ?_) ?_
  · subst hb
    try simp only [mb_true]
    go_simp
  simp only [Act.put, List.setIfInBounds_toArray, List.set_cons_zero, List.set_cons_succ]
  refine mb_calls c3 73 #[.string ⟨#[67]⟩, .pointer (some ⟨w.heap.size + 1, 0, none⟩)] (.bool (hasB f 67)) (want_yes 23 32 c3 rfl HD23.out rfl) (fun hb w' hw' => ?_) (fun hb w' hw' => ?_) ?_
  · subst hb
    try simp only [mb_true]
    go_simp
  · exact HH.out 67 w' hw'
  simp only [Act.put, List.setIfInBounds_toArray, List.set_cons_zero, List.set_cons_succ]
  refine mb_calls c3 75 #[.string u, .bool (hasB f 67), .func (.func 76) #[] #[]] (.bool (fitS u (hasB f 67))) (want_yes 23 32 c3 rfl HD23.out rfl) (fun hb w' hw' => ?_) (fun hb w' hw' => ?_) ?_
  · subst hb
    try simp only [mb_true]
    go_simp
  · exact HS.out u _ w' hw'
  simp only [Act.put, List.setIfInBounds_toArray, List.set_cons_zero, List.set_cons_succ]
  refine quiet_runs (.bool c4) (wanted_none rfl) (fun w' hw' => ?_) ?_
  · rw [← HC4.out]
    cases c3 <;> (try simp only [mb_true, mb_false]; go_simp)
  simp only [Act.put, List.setIfInBounds_toArray, List.set_cons_zero, List.set_cons_succ]
  refine quiet_runs (.bool c4) (wanted_none rfl) (fun w' hw' => ?_) ?_
  · go_simp
  simp only [Act.put, List.setIfInBounds_toArray, List.set_cons_zero, List.set_cons_succ]
  refine mb_runs c4 (.pointer (some ⟨w.heap.size, 5, none⟩)) (want_yes 30 39 c4 rfl HD30.out rfl) (fun hb w' hw' => ?_) ?_
  · subst hb
    try simp only [mb_true]
    go_simp
  simp only [Act.put, List.setIfInBounds_toArray, List.set_cons_zero, List.set_cons_succ]
  refine mb_runs c4 (.int .i64 d) (want_yes 30 39 c4 rfl HD30.out rfl) (fun hb w' hw' => ?_) ?_
  · subst hb
    try simp only [mb_true]
    have q0 := (HF.out w' hw').2.2.2.2.2.1
    go_simp
  simp only [Act.put, List.setIfInBounds_toArray, List.set_cons_zero, List.set_cons_succ]
  refine mb_runs c4 (.func (.func 73) #[] #[.pointer (some ⟨w.heap.size + 1, 0, none⟩)]) (want_yes 30 39 c4 rfl HD30.out rfl) (fun hb w' hw' => ?_) ?_
  · subst hb
    try simp only [mb_true]
    go_simp
  simp only [Act.put, List.setIfInBounds_toArray, List.set_cons_zero, List.set_cons_succ]
  refine mb_calls c4 73 #[.string ⟨#[68]⟩, .pointer (some ⟨w.heap.size + 1, 0, none⟩)] (.bool (hasB f 68)) (want_yes 30 39 c4 rfl HD30.out rfl) (fun hb w' hw' => ?_) (fun hb w' hw' => ?_) ?_
  · subst hb
    try simp only [mb_true]
    go_simp
  · exact HH.out 68 w' hw'
  simp only [Act.put, List.setIfInBounds_toArray, List.set_cons_zero, List.set_cons_succ]
  refine mb_calls c4 77 #[.int .i64 d, .bool (hasB f 68), .func (.func 78) #[] #[]] (.bool (fitI d (hasB f 68) (dayB d))) (want_yes 30 39 c4 rfl HD30.out rfl) (fun hb w' hw' => ?_) (fun hb w' hw' => ?_) ?_
  · subst hb
    try simp only [mb_true]
    go_simp
  · exact HD.out d _ w' hw'
  simp only [Act.put, List.setIfInBounds_toArray, List.set_cons_zero, List.set_cons_succ]
  refine quiet_runs (.bool c5) (wanted_none rfl) (fun w' hw' => ?_) ?_
  · rw [← HC5.out]
    cases c4 <;> (try simp only [mb_true, mb_false]; go_simp)
  simp only [Act.put, List.setIfInBounds_toArray, List.set_cons_zero, List.set_cons_succ]
  refine quiet_runs (.bool c5) (wanted_none rfl) (fun w' hw' => ?_) ?_
  · go_simp
  simp only [Act.put, List.setIfInBounds_toArray, List.set_cons_zero, List.set_cons_succ]
  refine mb_runs c5 (.pointer (some ⟨w.heap.size, 6, none⟩)) (want_yes 37 46 c5 rfl HD37.out rfl) (fun hb w' hw' => ?_) ?_
  · subst hb
    try simp only [mb_true]
    go_simp
  simp only [Act.put, List.setIfInBounds_toArray, List.set_cons_zero, List.set_cons_succ]
  refine mb_runs c5 (.int .i64 v) (want_yes 37 46 c5 rfl HD37.out rfl) (fun hb w' hw' => ?_) ?_
  · subst hb
    try simp only [mb_true]
    have q0 := (HF.out w' hw').2.2.2.2.2.2.1
    go_simp
  simp only [Act.put, List.setIfInBounds_toArray, List.set_cons_zero, List.set_cons_succ]
  refine mb_runs c5 (.func (.func 73) #[] #[.pointer (some ⟨w.heap.size + 1, 0, none⟩)]) (want_yes 37 46 c5 rfl HD37.out rfl) (fun hb w' hw' => ?_) ?_
  · subst hb
    try simp only [mb_true]
    go_simp
  simp only [Act.put, List.setIfInBounds_toArray, List.set_cons_zero, List.set_cons_succ]
  refine mb_calls c5 73 #[.string ⟨#[86]⟩, .pointer (some ⟨w.heap.size + 1, 0, none⟩)] (.bool (hasB f 86)) (want_yes 37 46 c5 rfl HD37.out rfl) (fun hb w' hw' => ?_) (fun hb w' hw' => ?_) ?_
  · subst hb
    try simp only [mb_true]
    go_simp
  · exact HH.out 86 w' hw'
  simp only [Act.put, List.setIfInBounds_toArray, List.set_cons_zero, List.set_cons_succ]
  refine mb_calls c5 77 #[.int .i64 v, .bool (hasB f 86), .func (.func 79) #[] #[]] (.bool (fitI v (hasB f 86) (vB v))) (want_yes 37 46 c5 rfl HD37.out rfl) (fun hb w' hw' => ?_) (fun hb w' hw' => ?_) ?_
  · subst hb
    try simp only [mb_true]
    go_simp
  · exact HV.out v _ w' hw'
  simp only [Act.put, List.setIfInBounds_toArray, List.set_cons_zero, List.set_cons_succ]
  refine quiet_runs (.bool c6) (wanted_none rfl) (fun w' hw' => ?_) ?_
  · rw [← HC6.out]
    cases c5 <;> (try simp only [mb_true, mb_false]; go_simp)
  simp only [Act.put, List.setIfInBounds_toArray, List.set_cons_zero, List.set_cons_succ]
  refine quiet_runs (.bool c6) (wanted_none rfl) (fun w' hw' => ?_) ?_
  · go_simp
  simp only [Act.put, List.setIfInBounds_toArray, List.set_cons_zero, List.set_cons_succ]
  refine mb_runs c6 (.pointer (some ⟨w.heap.size, 7, none⟩)) (want_yes 44 53 c6 rfl HD44.out rfl) (fun hb w' hw' => ?_) ?_
  · subst hb
    try simp only [mb_true]
    go_simp
  simp only [Act.put, List.setIfInBounds_toArray, List.set_cons_zero, List.set_cons_succ]
  refine mb_runs c6 (tv) (want_yes 44 53 c6 rfl HD44.out rfl) (fun hb w' hw' => ?_) ?_
  · subst hb
    try simp only [mb_true]
    have q0 := (HF.out w' hw').2.2.2.2.2.2.2.1
    go_simp
  simp only [Act.put, List.setIfInBounds_toArray, List.set_cons_zero, List.set_cons_succ]
  refine mb_runs c6 (.bool nb) (want_yes 44 53 c6 rfl HD44.out rfl) (fun hb w' hw' => ?_) ?_
  · subst hb
    try simp only [mb_true]
    rw [← HNB.out, ← HTV.out]
    have hto := HTO.out
    clear HTV HTO HNB HBT HC7 HFE
    cases t
    case odd x => rcases hto with rfl | ⟨a1, a2, rfl, _⟩ <;> (simp only [C.val, nilB]; go_simp)
    all_goals (simp only [C.val, nilB]; go_simp)
  simp only [Act.put, List.setIfInBounds_toArray, List.set_cons_zero, List.set_cons_succ]
  refine mb_runs c6 (.bool nb) (want_yes 44 53 c6 rfl HD44.out rfl) (fun hb w' hw' => ?_) ?_
  · subst hb
    try simp only [mb_true]
    go_simp
  simp only [Act.put, List.setIfInBounds_toArray, List.set_cons_zero, List.set_cons_succ]
  refine mb_runs (c6 && !nb) (.func (.func 73) #[] #[.pointer (some ⟨w.heap.size + 1, 0, none⟩)]) (want_mb_no 48 57 c6 nb rfl HD48.out rfl) (fun hb w' hw' => ?_) ?_
  · simp only [Bool.and_eq_true, Bool.not_eq_true'] at hb
    obtain ⟨hb1, hb2⟩ := hb
    subst hb1 hb2
    try simp only [mb_true, Bool.true_and, Bool.and_true, Bool.not_false, Bool.not_true]
    go_simp
  simp only [Act.put, List.setIfInBounds_toArray, List.set_cons_zero, List.set_cons_succ]
  refine mb_calls (c6 && !nb) 73 #[.string ⟨#[84]⟩, .pointer (some ⟨w.heap.size + 1, 0, none⟩)] (.bool (hasB f 84)) (want_mb_no 48 57 c6 nb rfl HD48.out rfl) (fun hb w' hw' => ?_) (fun hb w' hw' => ?_) ?_
  · simp only [Bool.and_eq_true, Bool.not_eq_true'] at hb
    obtain ⟨hb1, hb2⟩ := hb
    subst hb1 hb2
    try simp only [mb_true, Bool.true_and, Bool.and_true, Bool.not_false, Bool.not_true]
    go_simp
  · exact HH.out 84 w' hw'
  simp only [Act.put, List.setIfInBounds_toArray, List.set_cons_zero, List.set_cons_succ]
  refine mb_runs c6 (.bool bt) (want_yes 44 53 c6 rfl HD44.out rfl) (fun hb w' hw' => ?_) ?_
  · subst hb
    try simp only [mb_true]
    rw [← HBT.out]
    cases nb <;> (simp only [mb_true, mb_false, Bool.true_and, Bool.not_true, Bool.not_false]; go_simp)
  simp only [Act.put, List.setIfInBounds_toArray, List.set_cons_zero, List.set_cons_succ]
  refine quiet_runs (.bool c7) (wanted_none rfl) (fun w' hw' => ?_) ?_
  · rw [← HC7.out]
    cases c6 <;> (try simp only [mb_true, mb_false]; go_simp)
  simp only [Act.put, List.setIfInBounds_toArray, List.set_cons_zero, List.set_cons_succ]
  refine quiet_runs (.bool c7) (wanted_none rfl) (fun w' hw' => ?_) ?_
  · go_simp
  simp only [Act.put, List.setIfInBounds_toArray, List.set_cons_zero, List.set_cons_succ]
  refine mb_runs c7 (.pointer (some ⟨w.heap.size, 0, none⟩)) (want_yes 53 62 c7 rfl HD53.out rfl) (fun hb w' hw' => ?_) ?_
  · subst hb
    try simp only [mb_true]
    go_simp
  simp only [Act.put, List.setIfInBounds_toArray, List.set_cons_zero, List.set_cons_succ]
  refine mb_runs c7 (.int .i64 k) (want_yes 53 62 c7 rfl HD53.out rfl) (fun hb w' hw' => ?_) ?_
  · subst hb
    try simp only [mb_true]
    have q0 := (HF.out w' hw').2.2.2.2.2.2.2.2
    go_simp
  simp only [Act.put, List.setIfInBounds_toArray, List.set_cons_zero, List.set_cons_succ]
  refine mb_runs c7 (.bool n4) (want_yes 53 62 c7 rfl HD53.out rfl) (fun hb w' hw' => ?_) ?_
  · subst hb
    try simp only [mb_true]
    rw [← HN4.out]
    go_simp
    rfl
  simp only [Act.put, List.setIfInBounds_toArray, List.set_cons_zero, List.set_cons_succ]
  refine mb_runs c7 (.bool n4) (want_yes 53 62 c7 rfl HD53.out rfl) (fun hb w' hw' => ?_) ?_
  · subst hb
    try simp only [mb_true]
    go_simp
  simp only [Act.put, List.setIfInBounds_toArray, List.set_cons_zero, List.set_cons_succ]
  refine mb_runs (c7 && !n4) (.pointer (some ⟨w.heap.size, 6, none⟩)) (want_mb_no 57 66 c7 n4 rfl HD57.out rfl) (fun hb w' hw' => ?_) ?_
  · simp only [Bool.and_eq_true, Bool.not_eq_true'] at hb
    obtain ⟨hb1, hb2⟩ := hb
    subst hb1 hb2
    try simp only [mb_true, Bool.true_and, Bool.and_true, Bool.not_false, Bool.not_true]
    go_simp
  simp only [Act.put, List.setIfInBounds_toArray, List.set_cons_zero, List.set_cons_succ]
  refine mb_runs (c7 && !n4) (.int .i64 v) (want_mb_no 57 66 c7 n4 rfl HD57.out rfl) (fun hb w' hw' => ?_) ?_
  · simp only [Bool.and_eq_true, Bool.not_eq_true'] at hb
    obtain ⟨hb1, hb2⟩ := hb
    subst hb1 hb2
    try simp only [mb_true, Bool.true_and, Bool.and_true, Bool.not_false, Bool.not_true]
    have q0 := (HF.out w' hw').2.2.2.2.2.2.1
    go_simp
  simp only [Act.put, List.setIfInBounds_toArray, List.set_cons_zero, List.set_cons_succ]
  refine mb_calls (c7 && !n4) 80 #[.int .i64 v] (.bool (pickB v)) (want_mb_no 57 66 c7 n4 rfl HD57.out rfl) (fun hb w' hw' => ?_) (fun hb w' hw' => ?_) ?_
  · simp only [Bool.and_eq_true, Bool.not_eq_true'] at hb
    obtain ⟨hb1, hb2⟩ := hb
    subst hb1 hb2
    try simp only [mb_true, Bool.true_and, Bool.and_true, Bool.not_false, Bool.not_true]
    go_simp
  · exact HP.out v w' hw'
  simp only [Act.put, List.setIfInBounds_toArray, List.set_cons_zero, List.set_cons_succ]
  refine mb_runs c7 (.bool bp) (want_yes 53 62 c7 rfl HD53.out rfl) (fun hb w' hw' => ?_) ?_
  · subst hb
    try simp only [mb_true]
    rw [← HBP.out]
    cases n4 <;> (simp only [mb_true, mb_false, Bool.true_and, Bool.not_true, Bool.not_false]; go_simp)
  simp only [Act.put, List.setIfInBounds_toArray, List.set_cons_zero, List.set_cons_succ]
  refine quiet_runs (.bool c8) (wanted_none rfl) (fun w' hw' => ?_) ?_
  · rw [← HC8.out]
    cases c7 <;> (try simp only [mb_true, mb_false]; go_simp)
  simp only [Act.put, List.setIfInBounds_toArray, List.set_cons_zero, List.set_cons_succ]
  refine quiet_runs (.bool c8) (wanted_none rfl) (fun w' hw' => ?_) ?_
  · go_simp
  simp only [Act.put, List.setIfInBounds_toArray, List.set_cons_zero, List.set_cons_succ]
  refine wpQuiet_nil ?_
  intro w9 hw9
  have HB9 := hidIn (HBV.out.trans (hw9.mono HBV.out.size))
  have HR : Hid (res = c8) := by unfold Hid; rw [HFE.out, ← HC8.out, ← HBP.out, ← HN4.out, ← HC7.out, ← HBT.out, ← HNB.out, ← HC6.out, ← HC5.out, ← HC4.out, ← HC3.out, ← HC2.out, ← HC1.out, ← HC0.out]
  go_wp2_with fail
  go_ret
  exact ⟨by rw [HR.out]; rfl, HB9.out⟩

end Go.Proofs.YtkioolbjmcpjpaaGreatDoor.Ev
namespace Go.Proofs.YtkioolbjmcpjpaaGreatDoor
open Go.RowKit
set_option linter.unusedVariables false

theorem oneMax (v : Value) (xT : TypeId) (w : World) : (Instr.typeAssert (.iface 170 v) xT 170 false).run Tryz.prog w = .ok v w := assert_one Tryz.underlying170 (by intro m h; cases h) v xT w
theorem hidI {p : Prop} (h : p) : Hid p := h
/-- What is known of the calls on the parts. -/
def Writes (o : O) : Prop := ∀ w : World, TabW w → Calls Tryz.prog 92 #[o.val] w fun e w' => e = .returned (.string (textO o)) ∧ Below w.heap.size w w'
theorem tabW_below {w w' : World} (h : TabW w) (hb : Below w.heap.size w w') : TabW w' := by
  cases hg : Tryz.prog.globalNamed "internal/strconv.uint64pow10" with
  | none =>
    exfalso
    unfold TabW Lib.TabIs World.var? at h
    rw [hg] at h
    simp at h
  | some g => exact TabIs_below hg h hb
theorem row1 {w : World} {b t : Nat} {s : ByteArray} (hb : b = w.heap.size) : ∀ (j : Nat) (x : ByteArray), [s][j]? = some x → (w.alloc (.cells #[.string s] t)).cell? ⟨b, j, none⟩ = some (.string x) := by
  intro j x hj
  subst hb
  rw [cell_of_row _ _ _ _ _ _ (heap_alloc_new _ _)]
  match j, hj with
  | 0, hj => simp at hj; subst hj; rfl
theorem row2 {w : World} {b t : Nat} {s u : ByteArray} (hb : b = w.heap.size) : ∀ (j : Nat) (x : ByteArray), [s, u][j]? = some x → (w.alloc (.cells #[.string s, .string u] t)).cell? ⟨b, j, none⟩ = some (.string x) := by
  intro j x hj
  subst hb
  rw [cell_of_row _ _ _ _ _ _ (heap_alloc_new _ _)]
  match j, hj with
  | 0, hj => simp at hj; subst hj; rfl
  | 1, hj => simp at hj; subst hj; rfl
/-- Two texts in a row. -/
def twoF (s u : ByteArray) (v : Value) (w : World) : Prop := ∃ b, v = .slice (some ⟨b, 0, none⟩) 2 2 ∧ b < w.heap.size ∧ ∀ (j : Nat) (x : ByteArray), [s, u][j]? = some x → w.cell? ⟨b, j, none⟩ = some (.string x)
theorem twoF_stays (s u : ByteArray) : ∀ v w w', Up w w' → twoF s u v w → twoF s u v w' := fun v w w' h ⟨b, e, hb, hc⟩ => ⟨b, e, Nat.lt_of_lt_of_le hb (Below.size h), fun j x hj => (Below.cell h (p := ⟨b, j, none⟩) hb).trans (hc j x hj)⟩
set_option maxHeartbeats 1000000 in
set_option maxRecDepth 100000 in
theorem obsText_const (n : Int) (h0 : -9223372036854775808 ≤ n) (h1 : n ≤ 9223372036854775807) : Writes (.const n) := by
  intro w ht
  have a0 := fun v xT w => isConst v xT w
  have HT := hidI ht
  clear ht
  unfold O.val
  go_enter Tryz.func92, Tryz.ntmps92
  go_wp2_with fail
  refine (itoa_any n h0 h1 _ (tabW_below HT.out (below_alloc (Below.refl _ _) _))).mono ?_
  rintro e w1 ⟨rfl, hb1⟩
  have HB := hidI ((below_alloc (Below.refl _ _) (.cells #[.int .i64 n] 155)).trans (hb1.mono (by simp)))
  clear hb1
  go_wp2_with fail
  go_ret
  exact ⟨rfl, HB.out⟩
set_option maxHeartbeats 1000000 in
set_option maxRecDepth 100000 in
theorem obsText_fix (s : ByteArray) (hs : (Lib.join ([s].map (·.data.toList)) [44]).length ≤ 70368744177664) : Writes (.fix s) := by
  intro w ht
  have a0 := fun v xT w => notConst 164 v xT w (by decide)
  have a1 := fun v xT w => isFix v xT w
  have HS := hidI hs
  clear hs ht
  unfold O.val
  go_enter Tryz.func92, Tryz.ntmps92
  go_wp2_with fail
  refine (join_any _ (w.heap.size + 1) 1 [s] _ (row1 (by simp)) (by simp) (by simp) (by simp) (by decide) HS.out).mono ?_
  rintro e w1 ⟨rfl, hb1⟩
  have HB := hidI ((below_alloc (below_alloc (Below.refl w.heap.size w) (.cells #[.string s] 164)) (.cells #[.string s] 9)).trans (hb1.mono (by simp; omega)))
  clear hb1
  go_wp2_with fail
  go_ret
  exact ⟨rfl, HB.out⟩
set_option maxHeartbeats 1000000 in
set_option maxRecDepth 100000 in
theorem obsText_neg (o : O) (q : One' o.val) (ih : Writes o) (hs : (Lib.join ([textO o].map (·.data.toList)) [44]).length ≤ 70368744177664) : Writes (.neg o) := by
  intro w ht
  have a0 := fun v xT w => notConst 168 v xT w (by decide)
  have a1 := fun v xT w => notFix 168 v xT w (by decide)
  have a2 := fun v xT w => notAdd 168 v xT w (by decide)
  have a3 := fun v xT w => isNeg v xT w
  have HS := hidI hs
  have HT := hidI ht
  have HI := hidI ih
  have hs0 := q.store
  have cv0 := q.cells
  have mv0 := q.cells
  unfold Value.cells at mv0
  clear hs ht ih q
  unfold O.val
  go_enter Tryz.func92, Tryz.ntmps92
  go_wp2_with fail
  refine (HI.out _ (tabW_below HT.out (below_alloc (Below.refl _ _) _))).mono ?_
  rintro e w1 ⟨rfl, hb1⟩
  have HB := hidI ((below_alloc (Below.refl w.heap.size w) (.cells #[o.val] 168)).trans (hb1.mono (by simp)))
  clear hb1
  go_wp2_with fail
  refine (join_any _ w1.heap.size 1 [textO o] _ (row1 rfl) (by simp) (by simp) (by simp) (by decide) HS.out).mono ?_
  rintro e w2 ⟨rfl, hb2⟩
  have HB2 := hidI ((below_alloc HB.out (.cells #[.string (textO o)] 9)).trans (hb2.mono (by have := HB.out.size; simp; omega)))
  clear hb2
  go_wp2_with fail
  go_ret
  exact ⟨rfl, HB2.out⟩
set_option maxHeartbeats 1000000 in
set_option maxRecDepth 100000 in
theorem obsText_add (l r : O) (ql : One' l.val) (qr : One' r.val) (ihl : Writes l) (ihr : Writes r) (hs : (Lib.join ([textO l, textO r].map (·.data.toList)) [44]).length ≤ 70368744177664) : Writes (.add l r) := by
  intro w ht
  have a0 := fun v xT w => notConst 166 v xT w (by decide)
  have a1 := fun v xT w => notFix 166 v xT w (by decide)
  have a2 := fun v xT w => isAdd v xT w
  have HT := hidI ht
  have hs0 := ql.store
  have cv0 := ql.cells
  have mv0 := ql.cells
  unfold Value.cells at mv0
  have hs1 := qr.store
  have cv1 := qr.cells
  have mv1 := qr.cells
  unfold Value.cells at mv1
  have HL : Hid (∀ w, TabW w → Calls Tryz.prog 92 #[l.val] w fun e w' => e = .returned (.string (textO l)) ∧ Below w.heap.size w w') := ihl
  have HR : Hid (∀ w, TabW w → Calls Tryz.prog 92 #[r.val] w fun e w' => e = .returned (.string (textO r)) ∧ Below w.heap.size w w') := ihr
  have HE : Hid (textO (.add l r) = joinT ⟨#[97, 100, 100]⟩ [textO l, textO r]) := rfl
  obtain ⟨tx, HX⟩ : ∃ tx, Hid (joinT ⟨#[97, 100, 100]⟩ [textO l, textO r] = tx) := ⟨_, rfl⟩
  rw [HX.out] at HE
  have HS := hidI hs
  clear hs ht ihl ihr ql qr
  unfold O.val
  go_enter Tryz.func92, Tryz.ntmps92
  go_wp2_with fail
  obtain ⟨W, hW⟩ : ∃ W, W = w.alloc (.cells #[l.val, r.val] 166) := ⟨_, rfl⟩
  have HB : Hid (Below w.heap.size w W) := by rw [hW]; exact below_alloc (Below.refl _ _) _
  have HBK : Hid (W.heap[w.heap.size]? = some (.cells #[l.val, r.val] 166 (0, 0))) := by rw [hW]; exact heap_alloc_new _ _
  rw [← hW]
  clear hW
  have HF : Hid (∀ w', Below W.heap.size W w' → w'.cell? ⟨w.heap.size, 0, none⟩ = some l.val ∧ w'.cell? ⟨w.heap.size, 1, none⟩ = some r.val) := fun w' hw' => by
    have hbk := (hw'.block _ (Array.getElem?_eq_some_iff.1 HBK.out).1).trans HBK.out
    exact ⟨(cell_of_row _ _ _ _ _ _ hbk).trans rfl, (cell_of_row _ _ _ _ _ _ hbk).trans rfl⟩
  have HTW : Hid (∀ w', Below W.heap.size W w' → TabW w') := fun w' hw' => tabW_below HT.out (HB.out.trans (hw'.mono HB.out.size))
  clear HBK
  generalize l.val = vl at *
  generalize r.val = vr at *
  generalize textO l = tl at *
  generalize textO r = tr at *
  clear hs0 cv0 mv0 hs1 cv1 mv1 a0 a1 a2
  refine wp_region_grow (fun w' => Below W.heap.size W w') Up (modes [one (.pointer (some ⟨w.heap.size, 0, none⟩)), one (vl), one (.string tl), one (.pointer (some ⟨w.heap.size, 1, none⟩)), one (vr), one (.string tr), loose (twoF tl tr), one (.string tx), one (.string tx)]) (by kernel_rfl) (by kernel_rfl) (up_class _) (below_drew (Below.refl _ _)) ?_
  generalize hops : (#[_, _, _, _, _, _, _, _, _] : Array Oper) = ops
  clear hops
  refine g_runs (.pointer (some ⟨w.heap.size, 0, none⟩)) grow_end Up.refl rfl (wanted_none rfl) (by intro d hd w; cases hd; exact trivial) (fun w' hw' => ?_) ?_
  · go_simp
  simp only [Act.put, List.setIfInBounds_toArray, List.set_cons_zero, List.set_cons_succ]
  refine g_runs (vl) grow_end Up.refl rfl (wanted_none rfl) (by intro d hd w; cases hd; exact trivial) (fun w' hw' => ?_) ?_
  · obtain ⟨y0, y1⟩ := HF.out w' hw'
    go_simp
  simp only [Act.put, List.setIfInBounds_toArray, List.set_cons_zero, List.set_cons_succ]
  refine g_calls 92 #[vl] (.string tl) grow_end rfl (wanted_none rfl) (by intro d hd w; cases hd; exact trivial) (fun w' hw' => ?_) (fun w' hw' hk => ?_) ?_
  · go_simp
  · refine (HL.out w' (HTW.out w' hw')).mono ?_
    rintro e w3 ⟨rfl, hb3⟩
    exact ⟨rfl, hb3⟩
  simp only [Act.put, List.setIfInBounds_toArray, List.set_cons_zero, List.set_cons_succ]
  refine g_runs (.pointer (some ⟨w.heap.size, 1, none⟩)) grow_end Up.refl rfl (wanted_none rfl) (by intro d hd w; cases hd; exact trivial) (fun w' hw' => ?_) ?_
  · go_simp
  simp only [Act.put, List.setIfInBounds_toArray, List.set_cons_zero, List.set_cons_succ]
  refine g_runs (vr) grow_end Up.refl rfl (wanted_none rfl) (by intro d hd w; cases hd; exact trivial) (fun w' hw' => ?_) ?_
  · obtain ⟨y0, y1⟩ := HF.out w' hw'
    go_simp
  simp only [Act.put, List.setIfInBounds_toArray, List.set_cons_zero, List.set_cons_succ]
  refine g_calls 92 #[vr] (.string tr) grow_end rfl (wanted_none rfl) (by intro d hd w; cases hd; exact trivial) (fun w' hw' => ?_) (fun w' hw' hk => ?_) ?_
  · go_simp
  · refine (HR.out w' (HTW.out w' hw')).mono ?_
    rintro e w3 ⟨rfl, hb3⟩
    exact ⟨rfl, hb3⟩
  simp only [Act.put, List.setIfInBounds_toArray, List.set_cons_zero, List.set_cons_succ]
  refine g_makes (twoF tl tr) rfl (twoF_stays _ _) (wanted_none rfl) (fun w' hw' hk => ?_) (fun u32 => ?_)
  · refine ⟨.slice (some ⟨w'.heap.size, 0, none⟩) 2 2, w'.alloc (.cells #[.string tl, .string tr] 9), ?_, below_alloc (Below.refl _ _) _, w'.heap.size, rfl, by simp, row2 rfl⟩
    go_simp
  simp only [Act.put, List.setIfInBounds_toArray, List.set_cons_zero, List.set_cons_succ]
  refine g_calls 91 #[.string ⟨#[97, 100, 100]⟩, u32] (.string tx) grow_end rfl (wanted_none rfl) (by intro d hd w; cases hd; exact trivial) (fun w' hw' => ?_) (fun w' hw' hk => ?_) ?_
  · go_simp
  · obtain ⟨b, rfl, hb, hc⟩ : twoF tl tr u32 w' := hk 32 (looks_at (by simp [Op.operands, Call.operands]))
    refine (join_any _ b 2 [tl, tr] w' hc hb (by simp) (by simp) (by decide) HS.out).mono ?_
    rintro e w3 ⟨rfl, hb3⟩
    exact ⟨by rw [HX.out], hb3⟩
  simp only [Act.put, List.setIfInBounds_toArray, List.set_cons_zero, List.set_cons_succ]
  refine g_runs (.string tx) grow_end Up.refl rfl (wanted_none rfl) (by intro d hd w; cases hd; exact trivial) (fun w' hw' => ?_) ?_
  · go_simp
  simp only [Act.put, List.setIfInBounds_toArray, List.set_cons_zero, List.set_cons_succ]
  refine g_nil ?_
  intro w9 hw9 hk9
  go_wp2_with fail
  go_ret
  exact ⟨by rw [HE.out]; rfl, HB.out.trans (hw9.mono HB.out.size)⟩
set_option maxHeartbeats 1000000 in
set_option maxRecDepth 100000 in
theorem obsText_mul (l r : O) (ql : One' l.val) (qr : One' r.val) (ihl : Writes l) (ihr : Writes r) (hs : (Lib.join ([textO l, textO r].map (·.data.toList)) [44]).length ≤ 70368744177664) : Writes (.mul l r) := by
  intro w ht
  have a0 := fun v xT w => notConst 169 v xT w (by decide)
  have a1 := fun v xT w => notFix 169 v xT w (by decide)
  have a2 := fun v xT w => notAdd 169 v xT w (by decide)
  have a3 := fun v xT w => notNeg 169 v xT w (by decide)
  have a4 := fun v xT w => isMul v xT w
  have HT := hidI ht
  have hs0 := ql.store
  have cv0 := ql.cells
  have mv0 := ql.cells
  unfold Value.cells at mv0
  have hs1 := qr.store
  have cv1 := qr.cells
  have mv1 := qr.cells
  unfold Value.cells at mv1
  have HL : Hid (∀ w, TabW w → Calls Tryz.prog 92 #[l.val] w fun e w' => e = .returned (.string (textO l)) ∧ Below w.heap.size w w') := ihl
  have HR : Hid (∀ w, TabW w → Calls Tryz.prog 92 #[r.val] w fun e w' => e = .returned (.string (textO r)) ∧ Below w.heap.size w w') := ihr
  have HE : Hid (textO (.mul l r) = joinT ⟨#[109, 117, 108]⟩ [textO l, textO r]) := rfl
  obtain ⟨tx, HX⟩ : ∃ tx, Hid (joinT ⟨#[109, 117, 108]⟩ [textO l, textO r] = tx) := ⟨_, rfl⟩
  rw [HX.out] at HE
  have HS := hidI hs
  clear hs ht ihl ihr ql qr
  unfold O.val
  go_enter Tryz.func92, Tryz.ntmps92
  go_wp2_with fail
  obtain ⟨W, hW⟩ : ∃ W, W = w.alloc (.cells #[l.val, r.val] 169) := ⟨_, rfl⟩
  have HB : Hid (Below w.heap.size w W) := by rw [hW]; exact below_alloc (Below.refl _ _) _
  have HBK : Hid (W.heap[w.heap.size]? = some (.cells #[l.val, r.val] 169 (0, 0))) := by rw [hW]; exact heap_alloc_new _ _
  rw [← hW]
  clear hW
  have HF : Hid (∀ w', Below W.heap.size W w' → w'.cell? ⟨w.heap.size, 0, none⟩ = some l.val ∧ w'.cell? ⟨w.heap.size, 1, none⟩ = some r.val) := fun w' hw' => by
    have hbk := (hw'.block _ (Array.getElem?_eq_some_iff.1 HBK.out).1).trans HBK.out
    exact ⟨(cell_of_row _ _ _ _ _ _ hbk).trans rfl, (cell_of_row _ _ _ _ _ _ hbk).trans rfl⟩
  have HTW : Hid (∀ w', Below W.heap.size W w' → TabW w') := fun w' hw' => tabW_below HT.out (HB.out.trans (hw'.mono HB.out.size))
  clear HBK
  generalize l.val = vl at *
  generalize r.val = vr at *
  generalize textO l = tl at *
  generalize textO r = tr at *
  clear hs0 cv0 mv0 hs1 cv1 mv1 a0 a1 a2 a3 a4
  refine wp_region_grow (fun w' => Below W.heap.size W w') Up (modes [one (.pointer (some ⟨w.heap.size, 0, none⟩)), one (vl), one (.string tl), one (.pointer (some ⟨w.heap.size, 1, none⟩)), one (vr), one (.string tr), loose (twoF tl tr), one (.string tx), one (.string tx)]) (by kernel_rfl) (by kernel_rfl) (up_class _) (below_drew (Below.refl _ _)) ?_
  generalize hops : (#[_, _, _, _, _, _, _, _, _] : Array Oper) = ops
  clear hops
  refine g_runs (.pointer (some ⟨w.heap.size, 0, none⟩)) grow_end Up.refl rfl (wanted_none rfl) (by intro d hd w; cases hd; exact trivial) (fun w' hw' => ?_) ?_
  · go_simp
  simp only [Act.put, List.setIfInBounds_toArray, List.set_cons_zero, List.set_cons_succ]
  refine g_runs (vl) grow_end Up.refl rfl (wanted_none rfl) (by intro d hd w; cases hd; exact trivial) (fun w' hw' => ?_) ?_
  · obtain ⟨y0, y1⟩ := HF.out w' hw'
    go_simp
  simp only [Act.put, List.setIfInBounds_toArray, List.set_cons_zero, List.set_cons_succ]
  refine g_calls 92 #[vl] (.string tl) grow_end rfl (wanted_none rfl) (by intro d hd w; cases hd; exact trivial) (fun w' hw' => ?_) (fun w' hw' hk => ?_) ?_
  · go_simp
  · refine (HL.out w' (HTW.out w' hw')).mono ?_
    rintro e w3 ⟨rfl, hb3⟩
    exact ⟨rfl, hb3⟩
  simp only [Act.put, List.setIfInBounds_toArray, List.set_cons_zero, List.set_cons_succ]
  refine g_runs (.pointer (some ⟨w.heap.size, 1, none⟩)) grow_end Up.refl rfl (wanted_none rfl) (by intro d hd w; cases hd; exact trivial) (fun w' hw' => ?_) ?_
  · go_simp
  simp only [Act.put, List.setIfInBounds_toArray, List.set_cons_zero, List.set_cons_succ]
  refine g_runs (vr) grow_end Up.refl rfl (wanted_none rfl) (by intro d hd w; cases hd; exact trivial) (fun w' hw' => ?_) ?_
  · obtain ⟨y0, y1⟩ := HF.out w' hw'
    go_simp
  simp only [Act.put, List.setIfInBounds_toArray, List.set_cons_zero, List.set_cons_succ]
  refine g_calls 92 #[vr] (.string tr) grow_end rfl (wanted_none rfl) (by intro d hd w; cases hd; exact trivial) (fun w' hw' => ?_) (fun w' hw' hk => ?_) ?_
  · go_simp
  · refine (HR.out w' (HTW.out w' hw')).mono ?_
    rintro e w3 ⟨rfl, hb3⟩
    exact ⟨rfl, hb3⟩
  simp only [Act.put, List.setIfInBounds_toArray, List.set_cons_zero, List.set_cons_succ]
  refine g_makes (twoF tl tr) rfl (twoF_stays _ _) (wanted_none rfl) (fun w' hw' hk => ?_) (fun u51 => ?_)
  · refine ⟨.slice (some ⟨w'.heap.size, 0, none⟩) 2 2, w'.alloc (.cells #[.string tl, .string tr] 9), ?_, below_alloc (Below.refl _ _) _, w'.heap.size, rfl, by simp, row2 rfl⟩
    go_simp
  simp only [Act.put, List.setIfInBounds_toArray, List.set_cons_zero, List.set_cons_succ]
  refine g_calls 91 #[.string ⟨#[109, 117, 108]⟩, u51] (.string tx) grow_end rfl (wanted_none rfl) (by intro d hd w; cases hd; exact trivial) (fun w' hw' => ?_) (fun w' hw' hk => ?_) ?_
  · go_simp
  · obtain ⟨b, rfl, hb, hc⟩ : twoF tl tr u51 w' := hk 51 (looks_at (by simp [Op.operands, Call.operands]))
    refine (join_any _ b 2 [tl, tr] w' hc hb (by simp) (by simp) (by decide) HS.out).mono ?_
    rintro e w3 ⟨rfl, hb3⟩
    exact ⟨by rw [HX.out], hb3⟩
  simp only [Act.put, List.setIfInBounds_toArray, List.set_cons_zero, List.set_cons_succ]
  refine g_runs (.string tx) grow_end Up.refl rfl (wanted_none rfl) (by intro d hd w; cases hd; exact trivial) (fun w' hw' => ?_) ?_
  · go_simp
  simp only [Act.put, List.setIfInBounds_toArray, List.set_cons_zero, List.set_cons_succ]
  refine g_nil ?_
  intro w9 hw9 hk9
  go_wp2_with fail
  go_ret
  exact ⟨by rw [HE.out]; rfl, HB.out.trans (hw9.mono HB.out.size)⟩
set_option maxHeartbeats 1000000 in
set_option maxRecDepth 100000 in
theorem obsText_max (l r : O) (ql : One' l.val) (qr : One' r.val) (ihl : Writes l) (ihr : Writes r) (hs : (Lib.join ([textO l, textO r].map (·.data.toList)) [44]).length ≤ 70368744177664) : Writes (.max l r) := by
  intro w ht
  have a0 := fun v xT w => notConst 170 v xT w (by decide)
  have a1 := fun v xT w => notFix 170 v xT w (by decide)
  have a2 := fun v xT w => notAdd 170 v xT w (by decide)
  have a3 := fun v xT w => notNeg 170 v xT w (by decide)
  have a4 := fun v xT w => notMul 170 v xT w (by decide)
  have a5 := fun v xT w => oneMax v xT w
  have HT := hidI ht
  have hs0 := ql.store
  have cv0 := ql.cells
  have mv0 := ql.cells
  unfold Value.cells at mv0
  have hs1 := qr.store
  have cv1 := qr.cells
  have mv1 := qr.cells
  unfold Value.cells at mv1
  have HL : Hid (∀ w, TabW w → Calls Tryz.prog 92 #[l.val] w fun e w' => e = .returned (.string (textO l)) ∧ Below w.heap.size w w') := ihl
  have HR : Hid (∀ w, TabW w → Calls Tryz.prog 92 #[r.val] w fun e w' => e = .returned (.string (textO r)) ∧ Below w.heap.size w w') := ihr
  have HE : Hid (textO (.max l r) = joinT ⟨#[109, 97, 120]⟩ [textO l, textO r]) := rfl
  obtain ⟨tx, HX⟩ : ∃ tx, Hid (joinT ⟨#[109, 97, 120]⟩ [textO l, textO r] = tx) := ⟨_, rfl⟩
  rw [HX.out] at HE
  have HS := hidI hs
  clear hs ht ihl ihr ql qr
  unfold O.val
  go_enter Tryz.func92, Tryz.ntmps92
  go_wp2_with fail
  obtain ⟨W, hW⟩ : ∃ W, W = w.alloc (.cells #[l.val, r.val] 170) := ⟨_, rfl⟩
  have HB : Hid (Below w.heap.size w W) := by rw [hW]; exact below_alloc (Below.refl _ _) _
  have HBK : Hid (W.heap[w.heap.size]? = some (.cells #[l.val, r.val] 170 (0, 0))) := by rw [hW]; exact heap_alloc_new _ _
  rw [← hW]
  clear hW
  have HF : Hid (∀ w', Below W.heap.size W w' → w'.cell? ⟨w.heap.size, 0, none⟩ = some l.val ∧ w'.cell? ⟨w.heap.size, 1, none⟩ = some r.val) := fun w' hw' => by
    have hbk := (hw'.block _ (Array.getElem?_eq_some_iff.1 HBK.out).1).trans HBK.out
    exact ⟨(cell_of_row _ _ _ _ _ _ hbk).trans rfl, (cell_of_row _ _ _ _ _ _ hbk).trans rfl⟩
  have HTW : Hid (∀ w', Below W.heap.size W w' → TabW w') := fun w' hw' => tabW_below HT.out (HB.out.trans (hw'.mono HB.out.size))
  clear HBK
  generalize l.val = vl at *
  generalize r.val = vr at *
  generalize textO l = tl at *
  generalize textO r = tr at *
  clear hs0 cv0 mv0 hs1 cv1 mv1 a0 a1 a2 a3 a4 a5
  refine wp_region_grow (fun w' => Below W.heap.size W w') Up (modes [one (.pointer (some ⟨w.heap.size, 0, none⟩)), one (vl), one (.string tl), one (.pointer (some ⟨w.heap.size, 1, none⟩)), one (vr), one (.string tr), loose (twoF tl tr), one (.string tx), one (.string tx)]) (by kernel_rfl) (by kernel_rfl) (up_class _) (below_drew (Below.refl _ _)) ?_
  generalize hops : (#[_, _, _, _, _, _, _, _, _] : Array Oper) = ops
  clear hops
  refine g_runs (.pointer (some ⟨w.heap.size, 0, none⟩)) grow_end Up.refl rfl (wanted_none rfl) (by intro d hd w; cases hd; exact trivial) (fun w' hw' => ?_) ?_
  · go_simp
  simp only [Act.put, List.setIfInBounds_toArray, List.set_cons_zero, List.set_cons_succ]
  refine g_runs (vl) grow_end Up.refl rfl (wanted_none rfl) (by intro d hd w; cases hd; exact trivial) (fun w' hw' => ?_) ?_
  · obtain ⟨y0, y1⟩ := HF.out w' hw'
    go_simp
  simp only [Act.put, List.setIfInBounds_toArray, List.set_cons_zero, List.set_cons_succ]
  refine g_calls 92 #[vl] (.string tl) grow_end rfl (wanted_none rfl) (by intro d hd w; cases hd; exact trivial) (fun w' hw' => ?_) (fun w' hw' hk => ?_) ?_
  · go_simp
  · refine (HL.out w' (HTW.out w' hw')).mono ?_
    rintro e w3 ⟨rfl, hb3⟩
    exact ⟨rfl, hb3⟩
  simp only [Act.put, List.setIfInBounds_toArray, List.set_cons_zero, List.set_cons_succ]
  refine g_runs (.pointer (some ⟨w.heap.size, 1, none⟩)) grow_end Up.refl rfl (wanted_none rfl) (by intro d hd w; cases hd; exact trivial) (fun w' hw' => ?_) ?_
  · go_simp
  simp only [Act.put, List.setIfInBounds_toArray, List.set_cons_zero, List.set_cons_succ]
  refine g_runs (vr) grow_end Up.refl rfl (wanted_none rfl) (by intro d hd w; cases hd; exact trivial) (fun w' hw' => ?_) ?_
  · obtain ⟨y0, y1⟩ := HF.out w' hw'
    go_simp
  simp only [Act.put, List.setIfInBounds_toArray, List.set_cons_zero, List.set_cons_succ]
  refine g_calls 92 #[vr] (.string tr) grow_end rfl (wanted_none rfl) (by intro d hd w; cases hd; exact trivial) (fun w' hw' => ?_) (fun w' hw' hk => ?_) ?_
  · go_simp
  · refine (HR.out w' (HTW.out w' hw')).mono ?_
    rintro e w3 ⟨rfl, hb3⟩
    exact ⟨rfl, hb3⟩
  simp only [Act.put, List.setIfInBounds_toArray, List.set_cons_zero, List.set_cons_succ]
  refine g_makes (twoF tl tr) rfl (twoF_stays _ _) (wanted_none rfl) (fun w' hw' hk => ?_) (fun u61 => ?_)
  · refine ⟨.slice (some ⟨w'.heap.size, 0, none⟩) 2 2, w'.alloc (.cells #[.string tl, .string tr] 9), ?_, below_alloc (Below.refl _ _) _, w'.heap.size, rfl, by simp, row2 rfl⟩
    go_simp
  simp only [Act.put, List.setIfInBounds_toArray, List.set_cons_zero, List.set_cons_succ]
  refine g_calls 91 #[.string ⟨#[109, 97, 120]⟩, u61] (.string tx) grow_end rfl (wanted_none rfl) (by intro d hd w; cases hd; exact trivial) (fun w' hw' => ?_) (fun w' hw' hk => ?_) ?_
  · go_simp
  · obtain ⟨b, rfl, hb, hc⟩ : twoF tl tr u61 w' := hk 61 (looks_at (by simp [Op.operands, Call.operands]))
    refine (join_any _ b 2 [tl, tr] w' hc hb (by simp) (by simp) (by decide) HS.out).mono ?_
    rintro e w3 ⟨rfl, hb3⟩
    exact ⟨by rw [HX.out], hb3⟩
  simp only [Act.put, List.setIfInBounds_toArray, List.set_cons_zero, List.set_cons_succ]
  refine g_runs (.string tx) grow_end Up.refl rfl (wanted_none rfl) (by intro d hd w; cases hd; exact trivial) (fun w' hw' => ?_) ?_
  · go_simp
  simp only [Act.put, List.setIfInBounds_toArray, List.set_cons_zero, List.set_cons_succ]
  refine g_nil ?_
  intro w9 hw9 hk9
  go_wp2_with fail
  go_ret
  exact ⟨by rw [HE.out]; rfl, HB.out.trans (hw9.mono HB.out.size)⟩

end Go.Proofs.YtkioolbjmcpjpaaGreatDoor
namespace Go.Proofs.YtkioolbjmcpjpaaGreatDoor
open Go.RowKit
set_option linter.unusedVariables false

theorem oneIf (v : Value) (xT : TypeId) (w : World) : (Instr.typeAssert (.iface 111 v) xT 111 false).run Tryz.prog w = .ok v w := assert_one Tryz.underlying111 (by intro m h; cases h) v xT w
def textC : C → ByteArray
  | .zero => ⟨#[122, 101, 114, 111]⟩
  | .one s => joinT ⟨#[111, 110, 101]⟩ [s]
  | .give c => joinT ⟨#[103, 105, 118, 101]⟩ [textC c]
  | .and l r => joinT ⟨#[97, 110, 100]⟩ [textC l, textC r]
  | .or s l r => joinT ⟨#[111, 114]⟩ [s, textC l, textC r]
  | .scale o c => joinT ⟨#[115, 99, 97, 108, 101]⟩ [textO o, textC c]
  | .when d c => joinT ⟨#[119, 104, 101, 110]⟩ [numT d, textC c]
  | .iff o l r => joinT ⟨#[105, 102]⟩ [textO o, textC l, textC r]
  | .odd _ => ⟨#[]⟩
def WritesC (c : C) : Prop := ∀ w : World, TabW w → Calls Tryz.prog 53 #[c.val] w fun e w' => e = .returned (.string (textC c)) ∧ Below w.heap.size w w'
theorem row3 {w : World} {b t : Nat} {s u z : ByteArray} (hb : b = w.heap.size) : ∀ (j : Nat) (x : ByteArray), [s, u, z][j]? = some x → (w.alloc (.cells #[.string s, .string u, .string z] t)).cell? ⟨b, j, none⟩ = some (.string x) := by
  intro j x hj
  subst hb
  rw [cell_of_row _ _ _ _ _ _ (heap_alloc_new _ _)]
  match j, hj with
  | 0, hj => simp at hj; subst hj; rfl
  | 1, hj => simp at hj; subst hj; rfl
  | 2, hj => simp at hj; subst hj; rfl
/-- Three texts in a row. -/
def threeF (s u z : ByteArray) (v : Value) (w : World) : Prop := ∃ b, v = .slice (some ⟨b, 0, none⟩) 3 3 ∧ b < w.heap.size ∧ ∀ (j : Nat) (x : ByteArray), [s, u, z][j]? = some x → w.cell? ⟨b, j, none⟩ = some (.string x)
theorem threeF_stays (s u z : ByteArray) : ∀ v w w', Up w w' → threeF s u z v w → threeF s u z v w' := fun v w w' h ⟨b, e, hb, hc⟩ => ⟨b, e, Nat.lt_of_lt_of_le hb (Below.size h), fun j x hj => (Below.cell h (p := ⟨b, j, none⟩) hb).trans (hc j x hj)⟩
set_option maxHeartbeats 1000000 in
set_option maxRecDepth 100000 in
theorem termText_zero : WritesC .zero := by
  intro w ht
  have a0 := fun v xT w => isZero v xT w
  clear ht
  unfold C.val
  go_enter Tryz.func53, Tryz.ntmps53
  go_wp2_with fail
  go_ret
  exact ⟨rfl, by repeat first | exact Below.refl _ _ | refine below_alloc ?_ _⟩
set_option maxHeartbeats 1000000 in
set_option maxRecDepth 100000 in
theorem termText_one (s : ByteArray) (hs : (Lib.join ([s].map (·.data.toList)) [44]).length ≤ 70368744177664) : WritesC (.one s) := by
  intro w ht
  have a0 := fun v xT w => notZero 97 v xT w (by decide)
  have a1 := fun v xT w => isOne v xT w
  have HS := hidI hs
  clear hs ht
  unfold C.val
  go_enter Tryz.func53, Tryz.ntmps53
  go_wp2_with fail
  refine (join_any _ (w.heap.size + 1) 1 [s] _ (row1 (by simp)) (by simp) (by simp) (by simp) (by decide) HS.out).mono ?_
  rintro e w1 ⟨rfl, hb1⟩
  have HB := hidI ((below_alloc (below_alloc (Below.refl w.heap.size w) (.cells #[.string s] 97)) (.cells #[.string s] 9)).trans (hb1.mono (by simp; omega)))
  clear hb1
  go_wp2_with fail
  go_ret
  exact ⟨rfl, HB.out⟩
set_option maxHeartbeats 1000000 in
set_option maxRecDepth 100000 in
theorem termText_give (o : C) (q : One' o.val) (ih : WritesC o) (hs : (Lib.join ([textC o].map (·.data.toList)) [44]).length ≤ 70368744177664) : WritesC (.give o) := by
  intro w ht
  have a0 := fun v xT w => notZero 99 v xT w (by decide)
  have a1 := fun v xT w => notOne 99 v xT w (by decide)
  have a2 := fun v xT w => isGive v xT w
  have HS := hidI hs
  have HT := hidI ht
  have HI := hidI ih
  have hs0 := q.store
  have cv0 := q.cells
  have mv0 := q.cells
  unfold Value.cells at mv0
  clear hs ht ih q
  unfold C.val
  go_enter Tryz.func53, Tryz.ntmps53
  go_wp2_with fail
  refine (HI.out _ (tabW_below HT.out (below_alloc (Below.refl _ _) _))).mono ?_
  rintro e w1 ⟨rfl, hb1⟩
  have HB := hidI ((below_alloc (Below.refl w.heap.size w) (.cells #[o.val] 99)).trans (hb1.mono (by simp)))
  clear hb1
  go_wp2_with fail
  refine (join_any _ w1.heap.size 1 [textC o] _ (row1 rfl) (by simp) (by simp) (by simp) (by decide) HS.out).mono ?_
  rintro e w2 ⟨rfl, hb2⟩
  have HB2 := hidI ((below_alloc HB.out (.cells #[.string (textC o)] 9)).trans (hb2.mono (by have := HB.out.size; simp; omega)))
  clear hb2
  go_wp2_with fail
  go_ret
  exact ⟨rfl, HB2.out⟩
set_option maxHeartbeats 1000000 in
set_option maxRecDepth 100000 in
theorem termText_and (l r : C) (q0 : One' l.val) (ih0 : WritesC l) (q1 : One' r.val) (ih1 : WritesC r) (hs : (Lib.join ([textC l, textC r].map (·.data.toList)) [44]).length ≤ 70368744177664) : WritesC (.and l r) := by
  intro w ht
  have a0 := fun v xT w => notZero 101 v xT w (by decide)
  have a1 := fun v xT w => notOne 101 v xT w (by decide)
  have a2 := fun v xT w => notGive 101 v xT w (by decide)
  have a3 := fun v xT w => isAnd v xT w
  have HT := hidI ht
  have HE : Hid (textC (.and l r) = joinT ⟨#[97, 110, 100]⟩ [textC l, textC r]) := rfl
  obtain ⟨tx, HX⟩ : ∃ tx, Hid (joinT ⟨#[97, 110, 100]⟩ [textC l, textC r] = tx) := ⟨_, rfl⟩
  rw [HX.out] at HE
  have HS := hidI hs
  have HI0 : Hid (∀ w, TabW w → Calls Tryz.prog 53 #[l.val] w fun e w' => e = .returned (.string (textC l)) ∧ Below w.heap.size w w') := ih0
  have hs0 := q0.store
  have cv0 := q0.cells
  have mv0 := q0.cells
  unfold Value.cells at mv0
  have HI1 : Hid (∀ w, TabW w → Calls Tryz.prog 53 #[r.val] w fun e w' => e = .returned (.string (textC r)) ∧ Below w.heap.size w w') := ih1
  have hs1 := q1.store
  have cv1 := q1.cells
  have mv1 := q1.cells
  unfold Value.cells at mv1
  clear hs ht ih0 q0 ih1 q1
  unfold C.val
  go_enter Tryz.func53, Tryz.ntmps53
  go_wp2_with fail
  obtain ⟨W, hW⟩ : ∃ W, W = w.alloc (.cells #[l.val, r.val] 101) := ⟨_, rfl⟩
  have HB : Hid (Below w.heap.size w W) := by rw [hW]; exact below_alloc (Below.refl _ _) _
  have HBK : Hid (W.heap[w.heap.size]? = some (.cells #[l.val, r.val] 101 (0, 0))) := by rw [hW]; exact heap_alloc_new _ _
  rw [← hW]
  clear hW
  have HF : Hid (∀ w', Below W.heap.size W w' → w'.cell? ⟨w.heap.size, 0, none⟩ = some (l.val) ∧ w'.cell? ⟨w.heap.size, 1, none⟩ = some (r.val)) := fun w' hw' => by
    have hbk := (hw'.block _ (Array.getElem?_eq_some_iff.1 HBK.out).1).trans HBK.out
    exact ⟨(cell_of_row _ _ _ _ _ _ hbk).trans rfl, (cell_of_row _ _ _ _ _ _ hbk).trans rfl⟩
  have HTW : Hid (∀ w', Below W.heap.size W w' → TabW w') := fun w' hw' => tabW_below HT.out (HB.out.trans (hw'.mono HB.out.size))
  clear HBK
  generalize l.val = v0 at *
  generalize textC l = t0 at *
  generalize r.val = v1 at *
  generalize textC r = t1 at *
  clear hs0 cv0 mv0 hs1 cv1 mv1 a0 a1 a2 a3
  refine wp_region_grow (fun w' => Below W.heap.size W w') Up (modes [one (.pointer (some ⟨w.heap.size, 0, none⟩)), one (v0), one (.string t0), one (.pointer (some ⟨w.heap.size, 1, none⟩)), one (v1), one (.string t1), loose (twoF t0 t1), one (.string tx), one (.string tx)]) (by kernel_rfl) (by kernel_rfl) (up_class _) (below_drew (Below.refl _ _)) ?_
  generalize hops : (#[_, _, _, _, _, _, _, _, _] : Array Oper) = ops
  clear hops
  refine g_runs (.pointer (some ⟨w.heap.size, 0, none⟩)) grow_end Up.refl rfl (wanted_none rfl) (by intro d hd w; cases hd; exact trivial) (fun w' hw' => ?_) ?_
  · go_simp
  simp only [Act.put, List.setIfInBounds_toArray, List.set_cons_zero, List.set_cons_succ]
  refine g_runs (v0) grow_end Up.refl rfl (wanted_none rfl) (by intro d hd w; cases hd; exact trivial) (fun w' hw' => ?_) ?_
  · obtain ⟨y0, y1⟩ := HF.out w' hw'
    go_simp
  simp only [Act.put, List.setIfInBounds_toArray, List.set_cons_zero, List.set_cons_succ]
  refine g_calls 53 #[v0] (.string t0) grow_end rfl (wanted_none rfl) (by intro d hd w; cases hd; exact trivial) (fun w' hw' => ?_) (fun w' hw' hk => ?_) ?_
  · go_simp
  · refine (HI0.out w' (HTW.out w' hw')).mono ?_
    rintro e w3 ⟨rfl, hb3⟩
    exact ⟨rfl, hb3⟩
  simp only [Act.put, List.setIfInBounds_toArray, List.set_cons_zero, List.set_cons_succ]
  refine g_runs (.pointer (some ⟨w.heap.size, 1, none⟩)) grow_end Up.refl rfl (wanted_none rfl) (by intro d hd w; cases hd; exact trivial) (fun w' hw' => ?_) ?_
  · go_simp
  simp only [Act.put, List.setIfInBounds_toArray, List.set_cons_zero, List.set_cons_succ]
  refine g_runs (v1) grow_end Up.refl rfl (wanted_none rfl) (by intro d hd w; cases hd; exact trivial) (fun w' hw' => ?_) ?_
  · obtain ⟨y0, y1⟩ := HF.out w' hw'
    go_simp
  simp only [Act.put, List.setIfInBounds_toArray, List.set_cons_zero, List.set_cons_succ]
  refine g_calls 53 #[v1] (.string t1) grow_end rfl (wanted_none rfl) (by intro d hd w; cases hd; exact trivial) (fun w' hw' => ?_) (fun w' hw' hk => ?_) ?_
  · go_simp
  · refine (HI1.out w' (HTW.out w' hw')).mono ?_
    rintro e w3 ⟨rfl, hb3⟩
    exact ⟨rfl, hb3⟩
  simp only [Act.put, List.setIfInBounds_toArray, List.set_cons_zero, List.set_cons_succ]
  refine g_makes (twoF t0 t1) rfl (twoF_stays _ _) (wanted_none rfl) (fun w' hw' hk => ?_) (fun u39 => ?_)
  · refine ⟨.slice (some ⟨w'.heap.size, 0, none⟩) 2 2, w'.alloc (.cells #[.string t0, .string t1] 9), ?_, below_alloc (Below.refl _ _) _, w'.heap.size, rfl, by simp, row2 rfl⟩
    go_simp
  simp only [Act.put, List.setIfInBounds_toArray, List.set_cons_zero, List.set_cons_succ]
  refine g_calls 91 #[.string ⟨#[97, 110, 100]⟩, u39] (.string tx) grow_end rfl (wanted_none rfl) (by intro d hd w; cases hd; exact trivial) (fun w' hw' => ?_) (fun w' hw' hk => ?_) ?_
  · go_simp
  · obtain ⟨b, rfl, hb, hc⟩ : twoF t0 t1 u39 w' := hk 39 (looks_at (by simp [Op.operands, Call.operands]))
    refine (join_any _ b 2 [t0, t1] w' hc hb (by simp) (by simp) (by decide) HS.out).mono ?_
    rintro e w3 ⟨rfl, hb3⟩
    exact ⟨by rw [HX.out], hb3⟩
  simp only [Act.put, List.setIfInBounds_toArray, List.set_cons_zero, List.set_cons_succ]
  refine g_runs (.string tx) grow_end Up.refl rfl (wanted_none rfl) (by intro d hd w; cases hd; exact trivial) (fun w' hw' => ?_) ?_
  · go_simp
  simp only [Act.put, List.setIfInBounds_toArray, List.set_cons_zero, List.set_cons_succ]
  refine g_nil ?_
  intro w9 hw9 hk9
  go_wp2_with fail
  go_ret
  exact ⟨by rw [HE.out]; rfl, HB.out.trans (hw9.mono HB.out.size)⟩
set_option maxHeartbeats 1000000 in
set_option maxRecDepth 100000 in
theorem termText_or (s : ByteArray) (l r : C) (q1 : One' l.val) (ih1 : WritesC l) (q2 : One' r.val) (ih2 : WritesC r) (hs : (Lib.join ([s, textC l, textC r].map (·.data.toList)) [44]).length ≤ 70368744177664) : WritesC (.or s l r) := by
  intro w ht
  have a0 := fun v xT w => notZero 103 v xT w (by decide)
  have a1 := fun v xT w => notOne 103 v xT w (by decide)
  have a2 := fun v xT w => notGive 103 v xT w (by decide)
  have a3 := fun v xT w => notAnd 103 v xT w (by decide)
  have a4 := fun v xT w => isOr v xT w
  have HT := hidI ht
  have HE : Hid (textC (.or s l r) = joinT ⟨#[111, 114]⟩ [s, textC l, textC r]) := rfl
  obtain ⟨tx, HX⟩ : ∃ tx, Hid (joinT ⟨#[111, 114]⟩ [s, textC l, textC r] = tx) := ⟨_, rfl⟩
  rw [HX.out] at HE
  have HS := hidI hs
  have HI1 : Hid (∀ w, TabW w → Calls Tryz.prog 53 #[l.val] w fun e w' => e = .returned (.string (textC l)) ∧ Below w.heap.size w w') := ih1
  have hs1 := q1.store
  have cv1 := q1.cells
  have mv1 := q1.cells
  unfold Value.cells at mv1
  have HI2 : Hid (∀ w, TabW w → Calls Tryz.prog 53 #[r.val] w fun e w' => e = .returned (.string (textC r)) ∧ Below w.heap.size w w') := ih2
  have hs2 := q2.store
  have cv2 := q2.cells
  have mv2 := q2.cells
  unfold Value.cells at mv2
  clear hs ht ih1 q1 ih2 q2
  unfold C.val
  go_enter Tryz.func53, Tryz.ntmps53
  go_wp2_with fail
  obtain ⟨W, hW⟩ : ∃ W, W = w.alloc (.cells #[.string s, l.val, r.val] 103) := ⟨_, rfl⟩
  have HB : Hid (Below w.heap.size w W) := by rw [hW]; exact below_alloc (Below.refl _ _) _
  have HBK : Hid (W.heap[w.heap.size]? = some (.cells #[.string s, l.val, r.val] 103 (0, 0))) := by rw [hW]; exact heap_alloc_new _ _
  rw [← hW]
  clear hW
  have HF : Hid (∀ w', Below W.heap.size W w' → w'.cell? ⟨w.heap.size, 0, none⟩ = some (.string s) ∧ w'.cell? ⟨w.heap.size, 1, none⟩ = some (l.val) ∧ w'.cell? ⟨w.heap.size, 2, none⟩ = some (r.val)) := fun w' hw' => by
    have hbk := (hw'.block _ (Array.getElem?_eq_some_iff.1 HBK.out).1).trans HBK.out
    exact ⟨(cell_of_row _ _ _ _ _ _ hbk).trans rfl, (cell_of_row _ _ _ _ _ _ hbk).trans rfl, (cell_of_row _ _ _ _ _ _ hbk).trans rfl⟩
  have HTW : Hid (∀ w', Below W.heap.size W w' → TabW w') := fun w' hw' => tabW_below HT.out (HB.out.trans (hw'.mono HB.out.size))
  clear HBK
  generalize l.val = v1 at *
  generalize textC l = t1 at *
  generalize r.val = v2 at *
  generalize textC r = t2 at *
  clear hs1 cv1 mv1 hs2 cv2 mv2 a0 a1 a2 a3 a4
  refine wp_region_grow (fun w' => Below W.heap.size W w') Up (modes [one (.pointer (some ⟨w.heap.size, 0, none⟩)), one (.string s), one (.pointer (some ⟨w.heap.size, 1, none⟩)), one (v1), one (.string t1), one (.pointer (some ⟨w.heap.size, 2, none⟩)), one (v2), one (.string t2), loose (threeF s t1 t2), one (.string tx), one (.string tx)]) (by kernel_rfl) (by kernel_rfl) (up_class _) (below_drew (Below.refl _ _)) ?_
  generalize hops : (#[_, _, _, _, _, _, _, _, _, _, _] : Array Oper) = ops
  clear hops
  refine g_runs (.pointer (some ⟨w.heap.size, 0, none⟩)) grow_end Up.refl rfl (wanted_none rfl) (by intro d hd w; cases hd; exact trivial) (fun w' hw' => ?_) ?_
  · go_simp
  simp only [Act.put, List.setIfInBounds_toArray, List.set_cons_zero, List.set_cons_succ]
  refine g_runs (.string s) grow_end Up.refl rfl (wanted_none rfl) (by intro d hd w; cases hd; exact trivial) (fun w' hw' => ?_) ?_
  · obtain ⟨y0, y1, y2⟩ := HF.out w' hw'
    go_simp
  simp only [Act.put, List.setIfInBounds_toArray, List.set_cons_zero, List.set_cons_succ]
  refine g_runs (.pointer (some ⟨w.heap.size, 1, none⟩)) grow_end Up.refl rfl (wanted_none rfl) (by intro d hd w; cases hd; exact trivial) (fun w' hw' => ?_) ?_
  · go_simp
  simp only [Act.put, List.setIfInBounds_toArray, List.set_cons_zero, List.set_cons_succ]
  refine g_runs (v1) grow_end Up.refl rfl (wanted_none rfl) (by intro d hd w; cases hd; exact trivial) (fun w' hw' => ?_) ?_
  · obtain ⟨y0, y1, y2⟩ := HF.out w' hw'
    go_simp
  simp only [Act.put, List.setIfInBounds_toArray, List.set_cons_zero, List.set_cons_succ]
  refine g_calls 53 #[v1] (.string t1) grow_end rfl (wanted_none rfl) (by intro d hd w; cases hd; exact trivial) (fun w' hw' => ?_) (fun w' hw' hk => ?_) ?_
  · go_simp
  · refine (HI1.out w' (HTW.out w' hw')).mono ?_
    rintro e w3 ⟨rfl, hb3⟩
    exact ⟨rfl, hb3⟩
  simp only [Act.put, List.setIfInBounds_toArray, List.set_cons_zero, List.set_cons_succ]
  refine g_runs (.pointer (some ⟨w.heap.size, 2, none⟩)) grow_end Up.refl rfl (wanted_none rfl) (by intro d hd w; cases hd; exact trivial) (fun w' hw' => ?_) ?_
  · go_simp
  simp only [Act.put, List.setIfInBounds_toArray, List.set_cons_zero, List.set_cons_succ]
  refine g_runs (v2) grow_end Up.refl rfl (wanted_none rfl) (by intro d hd w; cases hd; exact trivial) (fun w' hw' => ?_) ?_
  · obtain ⟨y0, y1, y2⟩ := HF.out w' hw'
    go_simp
  simp only [Act.put, List.setIfInBounds_toArray, List.set_cons_zero, List.set_cons_succ]
  refine g_calls 53 #[v2] (.string t2) grow_end rfl (wanted_none rfl) (by intro d hd w; cases hd; exact trivial) (fun w' hw' => ?_) (fun w' hw' hk => ?_) ?_
  · go_simp
  · refine (HI2.out w' (HTW.out w' hw')).mono ?_
    rintro e w3 ⟨rfl, hb3⟩
    exact ⟨rfl, hb3⟩
  simp only [Act.put, List.setIfInBounds_toArray, List.set_cons_zero, List.set_cons_succ]
  refine g_makes (threeF s t1 t2) rfl (threeF_stays _ _ _) (wanted_none rfl) (fun w' hw' hk => ?_) (fun u52 => ?_)
  · refine ⟨.slice (some ⟨w'.heap.size, 0, none⟩) 3 3, w'.alloc (.cells #[.string s, .string t1, .string t2] 9), ?_, below_alloc (Below.refl _ _) _, w'.heap.size, rfl, by simp, row3 rfl⟩
    go_simp
  simp only [Act.put, List.setIfInBounds_toArray, List.set_cons_zero, List.set_cons_succ]
  refine g_calls 91 #[.string ⟨#[111, 114]⟩, u52] (.string tx) grow_end rfl (wanted_none rfl) (by intro d hd w; cases hd; exact trivial) (fun w' hw' => ?_) (fun w' hw' hk => ?_) ?_
  · go_simp
  · obtain ⟨b, rfl, hb, hc⟩ : threeF s t1 t2 u52 w' := hk 52 (looks_at (by simp [Op.operands, Call.operands]))
    refine (join_any _ b 3 [s, t1, t2] w' hc hb (by simp) (by simp) (by decide) HS.out).mono ?_
    rintro e w3 ⟨rfl, hb3⟩
    exact ⟨by rw [HX.out], hb3⟩
  simp only [Act.put, List.setIfInBounds_toArray, List.set_cons_zero, List.set_cons_succ]
  refine g_runs (.string tx) grow_end Up.refl rfl (wanted_none rfl) (by intro d hd w; cases hd; exact trivial) (fun w' hw' => ?_) ?_
  · go_simp
  simp only [Act.put, List.setIfInBounds_toArray, List.set_cons_zero, List.set_cons_succ]
  refine g_nil ?_
  intro w9 hw9 hk9
  go_wp2_with fail
  go_ret
  exact ⟨by rw [HE.out]; rfl, HB.out.trans (hw9.mono HB.out.size)⟩
set_option maxHeartbeats 1000000 in
set_option maxRecDepth 100000 in
theorem termText_scale (n : O) (c : C) (q0 : One' n.val) (ih0 : Writes n) (q1 : One' c.val) (ih1 : WritesC c) (hs : (Lib.join ([textO n, textC c].map (·.data.toList)) [44]).length ≤ 70368744177664) : WritesC (.scale n c) := by
  intro w ht
  have a0 := fun v xT w => notZero 107 v xT w (by decide)
  have a1 := fun v xT w => notOne 107 v xT w (by decide)
  have a2 := fun v xT w => notGive 107 v xT w (by decide)
  have a3 := fun v xT w => notAnd 107 v xT w (by decide)
  have a4 := fun v xT w => notOr 107 v xT w (by decide)
  have a5 := fun v xT w => isScale v xT w
  have HT := hidI ht
  have HE : Hid (textC (.scale n c) = joinT ⟨#[115, 99, 97, 108, 101]⟩ [textO n, textC c]) := rfl
  obtain ⟨tx, HX⟩ : ∃ tx, Hid (joinT ⟨#[115, 99, 97, 108, 101]⟩ [textO n, textC c] = tx) := ⟨_, rfl⟩
  rw [HX.out] at HE
  have HS := hidI hs
  have HI0 : Hid (∀ w, TabW w → Calls Tryz.prog 92 #[n.val] w fun e w' => e = .returned (.string (textO n)) ∧ Below w.heap.size w w') := ih0
  have hs0 := q0.store
  have cv0 := q0.cells
  have mv0 := q0.cells
  unfold Value.cells at mv0
  have HI1 : Hid (∀ w, TabW w → Calls Tryz.prog 53 #[c.val] w fun e w' => e = .returned (.string (textC c)) ∧ Below w.heap.size w w') := ih1
  have hs1 := q1.store
  have cv1 := q1.cells
  have mv1 := q1.cells
  unfold Value.cells at mv1
  clear hs ht ih0 q0 ih1 q1
  unfold C.val
  go_enter Tryz.func53, Tryz.ntmps53
  go_wp2_with fail
  obtain ⟨W, hW⟩ : ∃ W, W = w.alloc (.cells #[n.val, c.val] 107) := ⟨_, rfl⟩
  have HB : Hid (Below w.heap.size w W) := by rw [hW]; exact below_alloc (Below.refl _ _) _
  have HBK : Hid (W.heap[w.heap.size]? = some (.cells #[n.val, c.val] 107 (0, 0))) := by rw [hW]; exact heap_alloc_new _ _
  rw [← hW]
  clear hW
  have HF : Hid (∀ w', Below W.heap.size W w' → w'.cell? ⟨w.heap.size, 0, none⟩ = some (n.val) ∧ w'.cell? ⟨w.heap.size, 1, none⟩ = some (c.val)) := fun w' hw' => by
    have hbk := (hw'.block _ (Array.getElem?_eq_some_iff.1 HBK.out).1).trans HBK.out
    exact ⟨(cell_of_row _ _ _ _ _ _ hbk).trans rfl, (cell_of_row _ _ _ _ _ _ hbk).trans rfl⟩
  have HTW : Hid (∀ w', Below W.heap.size W w' → TabW w') := fun w' hw' => tabW_below HT.out (HB.out.trans (hw'.mono HB.out.size))
  clear HBK
  generalize n.val = v0 at *
  generalize textO n = t0 at *
  generalize c.val = v1 at *
  generalize textC c = t1 at *
  clear hs0 cv0 mv0 hs1 cv1 mv1 a0 a1 a2 a3 a4 a5
  refine wp_region_grow (fun w' => Below W.heap.size W w') Up (modes [one (.pointer (some ⟨w.heap.size, 0, none⟩)), one (v0), one (.string t0), one (.pointer (some ⟨w.heap.size, 1, none⟩)), one (v1), one (.string t1), loose (twoF t0 t1), one (.string tx), one (.string tx)]) (by kernel_rfl) (by kernel_rfl) (up_class _) (below_drew (Below.refl _ _)) ?_
  generalize hops : (#[_, _, _, _, _, _, _, _, _] : Array Oper) = ops
  clear hops
  refine g_runs (.pointer (some ⟨w.heap.size, 0, none⟩)) grow_end Up.refl rfl (wanted_none rfl) (by intro d hd w; cases hd; exact trivial) (fun w' hw' => ?_) ?_
  · go_simp
  simp only [Act.put, List.setIfInBounds_toArray, List.set_cons_zero, List.set_cons_succ]
  refine g_runs (v0) grow_end Up.refl rfl (wanted_none rfl) (by intro d hd w; cases hd; exact trivial) (fun w' hw' => ?_) ?_
  · obtain ⟨y0, y1⟩ := HF.out w' hw'
    go_simp
  simp only [Act.put, List.setIfInBounds_toArray, List.set_cons_zero, List.set_cons_succ]
  refine g_calls 92 #[v0] (.string t0) grow_end rfl (wanted_none rfl) (by intro d hd w; cases hd; exact trivial) (fun w' hw' => ?_) (fun w' hw' hk => ?_) ?_
  · go_simp
  · refine (HI0.out w' (HTW.out w' hw')).mono ?_
    rintro e w3 ⟨rfl, hb3⟩
    exact ⟨rfl, hb3⟩
  simp only [Act.put, List.setIfInBounds_toArray, List.set_cons_zero, List.set_cons_succ]
  refine g_runs (.pointer (some ⟨w.heap.size, 1, none⟩)) grow_end Up.refl rfl (wanted_none rfl) (by intro d hd w; cases hd; exact trivial) (fun w' hw' => ?_) ?_
  · go_simp
  simp only [Act.put, List.setIfInBounds_toArray, List.set_cons_zero, List.set_cons_succ]
  refine g_runs (v1) grow_end Up.refl rfl (wanted_none rfl) (by intro d hd w; cases hd; exact trivial) (fun w' hw' => ?_) ?_
  · obtain ⟨y0, y1⟩ := HF.out w' hw'
    go_simp
  simp only [Act.put, List.setIfInBounds_toArray, List.set_cons_zero, List.set_cons_succ]
  refine g_calls 53 #[v1] (.string t1) grow_end rfl (wanted_none rfl) (by intro d hd w; cases hd; exact trivial) (fun w' hw' => ?_) (fun w' hw' hk => ?_) ?_
  · go_simp
  · refine (HI1.out w' (HTW.out w' hw')).mono ?_
    rintro e w3 ⟨rfl, hb3⟩
    exact ⟨rfl, hb3⟩
  simp only [Act.put, List.setIfInBounds_toArray, List.set_cons_zero, List.set_cons_succ]
  refine g_makes (twoF t0 t1) rfl (twoF_stays _ _) (wanted_none rfl) (fun w' hw' hk => ?_) (fun u63 => ?_)
  · refine ⟨.slice (some ⟨w'.heap.size, 0, none⟩) 2 2, w'.alloc (.cells #[.string t0, .string t1] 9), ?_, below_alloc (Below.refl _ _) _, w'.heap.size, rfl, by simp, row2 rfl⟩
    go_simp
  simp only [Act.put, List.setIfInBounds_toArray, List.set_cons_zero, List.set_cons_succ]
  refine g_calls 91 #[.string ⟨#[115, 99, 97, 108, 101]⟩, u63] (.string tx) grow_end rfl (wanted_none rfl) (by intro d hd w; cases hd; exact trivial) (fun w' hw' => ?_) (fun w' hw' hk => ?_) ?_
  · go_simp
  · obtain ⟨b, rfl, hb, hc⟩ : twoF t0 t1 u63 w' := hk 63 (looks_at (by simp [Op.operands, Call.operands]))
    refine (join_any _ b 2 [t0, t1] w' hc hb (by simp) (by simp) (by decide) HS.out).mono ?_
    rintro e w3 ⟨rfl, hb3⟩
    exact ⟨by rw [HX.out], hb3⟩
  simp only [Act.put, List.setIfInBounds_toArray, List.set_cons_zero, List.set_cons_succ]
  refine g_runs (.string tx) grow_end Up.refl rfl (wanted_none rfl) (by intro d hd w; cases hd; exact trivial) (fun w' hw' => ?_) ?_
  · go_simp
  simp only [Act.put, List.setIfInBounds_toArray, List.set_cons_zero, List.set_cons_succ]
  refine g_nil ?_
  intro w9 hw9 hk9
  go_wp2_with fail
  go_ret
  exact ⟨by rw [HE.out]; rfl, HB.out.trans (hw9.mono HB.out.size)⟩
set_option maxHeartbeats 1000000 in
set_option maxRecDepth 100000 in
theorem termText_when (d : Int) (hd0 : -9223372036854775808 ≤ d) (hd1 : d ≤ 9223372036854775807) (c : C) (q1 : One' c.val) (ih1 : WritesC c) (hs : (Lib.join ([numT d, textC c].map (·.data.toList)) [44]).length ≤ 70368744177664) : WritesC (.when d c) := by
  intro w ht
  have a0 := fun v xT w => notZero 109 v xT w (by decide)
  have a1 := fun v xT w => notOne 109 v xT w (by decide)
  have a2 := fun v xT w => notGive 109 v xT w (by decide)
  have a3 := fun v xT w => notAnd 109 v xT w (by decide)
  have a4 := fun v xT w => notOr 109 v xT w (by decide)
  have a5 := fun v xT w => notScale 109 v xT w (by decide)
  have a6 := fun v xT w => isWhen v xT w
  have HT := hidI ht
  have HE : Hid (textC (.when d c) = joinT ⟨#[119, 104, 101, 110]⟩ [numT d, textC c]) := rfl
  obtain ⟨tx, HX⟩ : ∃ tx, Hid (joinT ⟨#[119, 104, 101, 110]⟩ [numT d, textC c] = tx) := ⟨_, rfl⟩
  rw [HX.out] at HE
  have HS := hidI hs
  obtain ⟨t0, HN0⟩ : ∃ x, Hid (numT d = x) := ⟨_, rfl⟩
  rw [HN0.out] at HX HS
  have HI1 : Hid (∀ w, TabW w → Calls Tryz.prog 53 #[c.val] w fun e w' => e = .returned (.string (textC c)) ∧ Below w.heap.size w w') := ih1
  have hs1 := q1.store
  have cv1 := q1.cells
  have mv1 := q1.cells
  unfold Value.cells at mv1
  clear hs ht ih1 q1
  unfold C.val
  go_enter Tryz.func53, Tryz.ntmps53
  go_wp2_with fail
  obtain ⟨W, hW⟩ : ∃ W, W = w.alloc (.cells #[.int .i64 d, c.val] 109) := ⟨_, rfl⟩
  have HB : Hid (Below w.heap.size w W) := by rw [hW]; exact below_alloc (Below.refl _ _) _
  have HBK : Hid (W.heap[w.heap.size]? = some (.cells #[.int .i64 d, c.val] 109 (0, 0))) := by rw [hW]; exact heap_alloc_new _ _
  rw [← hW]
  clear hW
  have HF : Hid (∀ w', Below W.heap.size W w' → w'.cell? ⟨w.heap.size, 0, none⟩ = some (.int .i64 d) ∧ w'.cell? ⟨w.heap.size, 1, none⟩ = some (c.val)) := fun w' hw' => by
    have hbk := (hw'.block _ (Array.getElem?_eq_some_iff.1 HBK.out).1).trans HBK.out
    exact ⟨(cell_of_row _ _ _ _ _ _ hbk).trans rfl, (cell_of_row _ _ _ _ _ _ hbk).trans rfl⟩
  have HTW : Hid (∀ w', Below W.heap.size W w' → TabW w') := fun w' hw' => tabW_below HT.out (HB.out.trans (hw'.mono HB.out.size))
  clear HBK
  generalize c.val = v1 at *
  generalize textC c = t1 at *
  clear hs1 cv1 mv1 a0 a1 a2 a3 a4 a5 a6
  refine wp_region_grow (fun w' => Below W.heap.size W w') Up (modes [one (.pointer (some ⟨w.heap.size, 0, none⟩)), one (.int .i64 d), one (.string t0), one (.pointer (some ⟨w.heap.size, 1, none⟩)), one (v1), one (.string t1), loose (twoF t0 t1), one (.string tx), one (.string tx)]) (by kernel_rfl) (by kernel_rfl) (up_class _) (below_drew (Below.refl _ _)) ?_
  generalize hops : (#[_, _, _, _, _, _, _, _, _] : Array Oper) = ops
  clear hops
  refine g_runs (.pointer (some ⟨w.heap.size, 0, none⟩)) grow_end Up.refl rfl (wanted_none rfl) (by intro d hd w; cases hd; exact trivial) (fun w' hw' => ?_) ?_
  · go_simp
  simp only [Act.put, List.setIfInBounds_toArray, List.set_cons_zero, List.set_cons_succ]
  refine g_runs (.int .i64 d) grow_end Up.refl rfl (wanted_none rfl) (by intro d hd w; cases hd; exact trivial) (fun w' hw' => ?_) ?_
  · obtain ⟨y0, y1⟩ := HF.out w' hw'
    go_simp
  simp only [Act.put, List.setIfInBounds_toArray, List.set_cons_zero, List.set_cons_succ]
  refine g_calls 93 #[.int .i64 d] (.string t0) grow_end rfl (wanted_none rfl) (by intro d hd w; cases hd; exact trivial) (fun w' hw' => ?_) (fun w' hw' hk => ?_) ?_
  · go_simp
  · refine (itoa_any d hd0 hd1 w' (HTW.out w' hw')).mono ?_
    rintro e w3 ⟨rfl, hb3⟩
    exact ⟨by rw [HN0.out], hb3⟩
  simp only [Act.put, List.setIfInBounds_toArray, List.set_cons_zero, List.set_cons_succ]
  refine g_runs (.pointer (some ⟨w.heap.size, 1, none⟩)) grow_end Up.refl rfl (wanted_none rfl) (by intro d hd w; cases hd; exact trivial) (fun w' hw' => ?_) ?_
  · go_simp
  simp only [Act.put, List.setIfInBounds_toArray, List.set_cons_zero, List.set_cons_succ]
  refine g_runs (v1) grow_end Up.refl rfl (wanted_none rfl) (by intro d hd w; cases hd; exact trivial) (fun w' hw' => ?_) ?_
  · obtain ⟨y0, y1⟩ := HF.out w' hw'
    go_simp
  simp only [Act.put, List.setIfInBounds_toArray, List.set_cons_zero, List.set_cons_succ]
  refine g_calls 53 #[v1] (.string t1) grow_end rfl (wanted_none rfl) (by intro d hd w; cases hd; exact trivial) (fun w' hw' => ?_) (fun w' hw' hk => ?_) ?_
  · go_simp
  · refine (HI1.out w' (HTW.out w' hw')).mono ?_
    rintro e w3 ⟨rfl, hb3⟩
    exact ⟨rfl, hb3⟩
  simp only [Act.put, List.setIfInBounds_toArray, List.set_cons_zero, List.set_cons_succ]
  refine g_makes (twoF t0 t1) rfl (twoF_stays _ _) (wanted_none rfl) (fun w' hw' hk => ?_) (fun u74 => ?_)
  · refine ⟨.slice (some ⟨w'.heap.size, 0, none⟩) 2 2, w'.alloc (.cells #[.string t0, .string t1] 9), ?_, below_alloc (Below.refl _ _) _, w'.heap.size, rfl, by simp, row2 rfl⟩
    go_simp
  simp only [Act.put, List.setIfInBounds_toArray, List.set_cons_zero, List.set_cons_succ]
  refine g_calls 91 #[.string ⟨#[119, 104, 101, 110]⟩, u74] (.string tx) grow_end rfl (wanted_none rfl) (by intro d hd w; cases hd; exact trivial) (fun w' hw' => ?_) (fun w' hw' hk => ?_) ?_
  · go_simp
  · obtain ⟨b, rfl, hb, hc⟩ : twoF t0 t1 u74 w' := hk 74 (looks_at (by simp [Op.operands, Call.operands]))
    refine (join_any _ b 2 [t0, t1] w' hc hb (by simp) (by simp) (by decide) HS.out).mono ?_
    rintro e w3 ⟨rfl, hb3⟩
    exact ⟨by rw [HX.out], hb3⟩
  simp only [Act.put, List.setIfInBounds_toArray, List.set_cons_zero, List.set_cons_succ]
  refine g_runs (.string tx) grow_end Up.refl rfl (wanted_none rfl) (by intro d hd w; cases hd; exact trivial) (fun w' hw' => ?_) ?_
  · go_simp
  simp only [Act.put, List.setIfInBounds_toArray, List.set_cons_zero, List.set_cons_succ]
  refine g_nil ?_
  intro w9 hw9 hk9
  go_wp2_with fail
  go_ret
  exact ⟨by rw [HE.out]; rfl, HB.out.trans (hw9.mono HB.out.size)⟩
set_option maxHeartbeats 1000000 in
set_option maxRecDepth 100000 in
theorem termText_if (n : O) (l r : C) (q0 : One' n.val) (ih0 : Writes n) (q1 : One' l.val) (ih1 : WritesC l) (q2 : One' r.val) (ih2 : WritesC r) (hs : (Lib.join ([textO n, textC l, textC r].map (·.data.toList)) [44]).length ≤ 70368744177664) : WritesC (.iff n l r) := by
  intro w ht
  have a0 := fun v xT w => notZero 111 v xT w (by decide)
  have a1 := fun v xT w => notOne 111 v xT w (by decide)
  have a2 := fun v xT w => notGive 111 v xT w (by decide)
  have a3 := fun v xT w => notAnd 111 v xT w (by decide)
  have a4 := fun v xT w => notOr 111 v xT w (by decide)
  have a5 := fun v xT w => notScale 111 v xT w (by decide)
  have a6 := fun v xT w => notWhen 111 v xT w (by decide)
  have a7 := fun v xT w => oneIf v xT w
  have HT := hidI ht
  have HE : Hid (textC (.iff n l r) = joinT ⟨#[105, 102]⟩ [textO n, textC l, textC r]) := rfl
  obtain ⟨tx, HX⟩ : ∃ tx, Hid (joinT ⟨#[105, 102]⟩ [textO n, textC l, textC r] = tx) := ⟨_, rfl⟩
  rw [HX.out] at HE
  have HS := hidI hs
  have HI0 : Hid (∀ w, TabW w → Calls Tryz.prog 92 #[n.val] w fun e w' => e = .returned (.string (textO n)) ∧ Below w.heap.size w w') := ih0
  have hs0 := q0.store
  have cv0 := q0.cells
  have mv0 := q0.cells
  unfold Value.cells at mv0
  have HI1 : Hid (∀ w, TabW w → Calls Tryz.prog 53 #[l.val] w fun e w' => e = .returned (.string (textC l)) ∧ Below w.heap.size w w') := ih1
  have hs1 := q1.store
  have cv1 := q1.cells
  have mv1 := q1.cells
  unfold Value.cells at mv1
  have HI2 : Hid (∀ w, TabW w → Calls Tryz.prog 53 #[r.val] w fun e w' => e = .returned (.string (textC r)) ∧ Below w.heap.size w w') := ih2
  have hs2 := q2.store
  have cv2 := q2.cells
  have mv2 := q2.cells
  unfold Value.cells at mv2
  clear hs ht ih0 q0 ih1 q1 ih2 q2
  unfold C.val
  go_enter Tryz.func53, Tryz.ntmps53
  go_wp2_with fail
  obtain ⟨W, hW⟩ : ∃ W, W = w.alloc (.cells #[n.val, l.val, r.val] 111) := ⟨_, rfl⟩
  have HB : Hid (Below w.heap.size w W) := by rw [hW]; exact below_alloc (Below.refl _ _) _
  have HBK : Hid (W.heap[w.heap.size]? = some (.cells #[n.val, l.val, r.val] 111 (0, 0))) := by rw [hW]; exact heap_alloc_new _ _
  rw [← hW]
  clear hW
  have HF : Hid (∀ w', Below W.heap.size W w' → w'.cell? ⟨w.heap.size, 0, none⟩ = some (n.val) ∧ w'.cell? ⟨w.heap.size, 1, none⟩ = some (l.val) ∧ w'.cell? ⟨w.heap.size, 2, none⟩ = some (r.val)) := fun w' hw' => by
    have hbk := (hw'.block _ (Array.getElem?_eq_some_iff.1 HBK.out).1).trans HBK.out
    exact ⟨(cell_of_row _ _ _ _ _ _ hbk).trans rfl, (cell_of_row _ _ _ _ _ _ hbk).trans rfl, (cell_of_row _ _ _ _ _ _ hbk).trans rfl⟩
  have HTW : Hid (∀ w', Below W.heap.size W w' → TabW w') := fun w' hw' => tabW_below HT.out (HB.out.trans (hw'.mono HB.out.size))
  clear HBK
  generalize n.val = v0 at *
  generalize textO n = t0 at *
  generalize l.val = v1 at *
  generalize textC l = t1 at *
  generalize r.val = v2 at *
  generalize textC r = t2 at *
  clear hs0 cv0 mv0 hs1 cv1 mv1 hs2 cv2 mv2 a0 a1 a2 a3 a4 a5 a6 a7
  refine wp_region_grow (fun w' => Below W.heap.size W w') Up (modes [one (.pointer (some ⟨w.heap.size, 0, none⟩)), one (v0), one (.string t0), one (.pointer (some ⟨w.heap.size, 1, none⟩)), one (v1), one (.string t1), one (.pointer (some ⟨w.heap.size, 2, none⟩)), one (v2), one (.string t2), loose (threeF t0 t1 t2), one (.string tx), one (.string tx)]) (by kernel_rfl) (by kernel_rfl) (up_class _) (below_drew (Below.refl _ _)) ?_
  generalize hops : (#[_, _, _, _, _, _, _, _, _, _, _, _] : Array Oper) = ops
  clear hops
  refine g_runs (.pointer (some ⟨w.heap.size, 0, none⟩)) grow_end Up.refl rfl (wanted_none rfl) (by intro d hd w; cases hd; exact trivial) (fun w' hw' => ?_) ?_
  · go_simp
  simp only [Act.put, List.setIfInBounds_toArray, List.set_cons_zero, List.set_cons_succ]
  refine g_runs (v0) grow_end Up.refl rfl (wanted_none rfl) (by intro d hd w; cases hd; exact trivial) (fun w' hw' => ?_) ?_
  · obtain ⟨y0, y1, y2⟩ := HF.out w' hw'
    go_simp
  simp only [Act.put, List.setIfInBounds_toArray, List.set_cons_zero, List.set_cons_succ]
  refine g_calls 92 #[v0] (.string t0) grow_end rfl (wanted_none rfl) (by intro d hd w; cases hd; exact trivial) (fun w' hw' => ?_) (fun w' hw' hk => ?_) ?_
  · go_simp
  · refine (HI0.out w' (HTW.out w' hw')).mono ?_
    rintro e w3 ⟨rfl, hb3⟩
    exact ⟨rfl, hb3⟩
  simp only [Act.put, List.setIfInBounds_toArray, List.set_cons_zero, List.set_cons_succ]
  refine g_runs (.pointer (some ⟨w.heap.size, 1, none⟩)) grow_end Up.refl rfl (wanted_none rfl) (by intro d hd w; cases hd; exact trivial) (fun w' hw' => ?_) ?_
  · go_simp
  simp only [Act.put, List.setIfInBounds_toArray, List.set_cons_zero, List.set_cons_succ]
  refine g_runs (v1) grow_end Up.refl rfl (wanted_none rfl) (by intro d hd w; cases hd; exact trivial) (fun w' hw' => ?_) ?_
  · obtain ⟨y0, y1, y2⟩ := HF.out w' hw'
    go_simp
  simp only [Act.put, List.setIfInBounds_toArray, List.set_cons_zero, List.set_cons_succ]
  refine g_calls 53 #[v1] (.string t1) grow_end rfl (wanted_none rfl) (by intro d hd w; cases hd; exact trivial) (fun w' hw' => ?_) (fun w' hw' hk => ?_) ?_
  · go_simp
  · refine (HI1.out w' (HTW.out w' hw')).mono ?_
    rintro e w3 ⟨rfl, hb3⟩
    exact ⟨rfl, hb3⟩
  simp only [Act.put, List.setIfInBounds_toArray, List.set_cons_zero, List.set_cons_succ]
  refine g_runs (.pointer (some ⟨w.heap.size, 2, none⟩)) grow_end Up.refl rfl (wanted_none rfl) (by intro d hd w; cases hd; exact trivial) (fun w' hw' => ?_) ?_
  · go_simp
  simp only [Act.put, List.setIfInBounds_toArray, List.set_cons_zero, List.set_cons_succ]
  refine g_runs (v2) grow_end Up.refl rfl (wanted_none rfl) (by intro d hd w; cases hd; exact trivial) (fun w' hw' => ?_) ?_
  · obtain ⟨y0, y1, y2⟩ := HF.out w' hw'
    go_simp
  simp only [Act.put, List.setIfInBounds_toArray, List.set_cons_zero, List.set_cons_succ]
  refine g_calls 53 #[v2] (.string t2) grow_end rfl (wanted_none rfl) (by intro d hd w; cases hd; exact trivial) (fun w' hw' => ?_) (fun w' hw' hk => ?_) ?_
  · go_simp
  · refine (HI2.out w' (HTW.out w' hw')).mono ?_
    rintro e w3 ⟨rfl, hb3⟩
    exact ⟨rfl, hb3⟩
  simp only [Act.put, List.setIfInBounds_toArray, List.set_cons_zero, List.set_cons_succ]
  refine g_makes (threeF t0 t1 t2) rfl (threeF_stays _ _ _) (wanted_none rfl) (fun w' hw' hk => ?_) (fun u87 => ?_)
  · refine ⟨.slice (some ⟨w'.heap.size, 0, none⟩) 3 3, w'.alloc (.cells #[.string t0, .string t1, .string t2] 9), ?_, below_alloc (Below.refl _ _) _, w'.heap.size, rfl, by simp, row3 rfl⟩
    go_simp
  simp only [Act.put, List.setIfInBounds_toArray, List.set_cons_zero, List.set_cons_succ]
  refine g_calls 91 #[.string ⟨#[105, 102]⟩, u87] (.string tx) grow_end rfl (wanted_none rfl) (by intro d hd w; cases hd; exact trivial) (fun w' hw' => ?_) (fun w' hw' hk => ?_) ?_
  · go_simp
  · obtain ⟨b, rfl, hb, hc⟩ : threeF t0 t1 t2 u87 w' := hk 87 (looks_at (by simp [Op.operands, Call.operands]))
    refine (join_any _ b 3 [t0, t1, t2] w' hc hb (by simp) (by simp) (by decide) HS.out).mono ?_
    rintro e w3 ⟨rfl, hb3⟩
    exact ⟨by rw [HX.out], hb3⟩
  simp only [Act.put, List.setIfInBounds_toArray, List.set_cons_zero, List.set_cons_succ]
  refine g_runs (.string tx) grow_end Up.refl rfl (wanted_none rfl) (by intro d hd w; cases hd; exact trivial) (fun w' hw' => ?_) ?_
  · go_simp
  simp only [Act.put, List.setIfInBounds_toArray, List.set_cons_zero, List.set_cons_succ]
  refine g_nil ?_
  intro w9 hw9 hk9
  go_wp2_with fail
  go_ret
  exact ⟨by rw [HE.out]; rfl, HB.out.trans (hw9.mono HB.out.size)⟩

end Go.Proofs.YtkioolbjmcpjpaaGreatDoor
namespace Go.Proofs.YtkioolbjmcpjpaaGreatDoor
open Go.RowKit
set_option linter.unusedVariables false

theorem joinL1 (a : ByteArray) : (Lib.join ([a].map (·.data.toList)) [44]).length = a.size := by
  have e : ∀ x : ByteArray, x.data.toList.length = x.size := fun x => by simp
  show (a.data.toList ++ []).length = _
  simp only [List.length_append, List.length_nil, e, Nat.add_zero]
theorem joinL2 (a b : ByteArray) : (Lib.join ([a, b].map (·.data.toList)) [44]).length = a.size + b.size + 1 := by
  have e : ∀ x : ByteArray, x.data.toList.length = x.size := fun x => by simp
  show (a.data.toList ++ ([44] ++ (b.data.toList ++ []))).length = _
  simp only [List.length_append, List.length_cons, List.length_nil, e]; omega
theorem joinL3 (a b c : ByteArray) : (Lib.join ([a, b, c].map (·.data.toList)) [44]).length = a.size + b.size + c.size + 2 := by
  have e : ∀ x : ByteArray, x.data.toList.length = x.size := fun x => by simp
  show (a.data.toList ++ ([44] ++ (b.data.toList ++ ([44] ++ (c.data.toList ++ []))))).length = _
  simp only [List.length_append, List.length_cons, List.length_nil, e]; omega
theorem joinT_size (word : ByteArray) (xs : List ByteArray) : (joinT word xs).size = word.size + (Lib.join (xs.map (·.data.toList)) [44]).length + 2 := by
  have e1 : (ByteArray.mk #[40]).size = 1 := rfl
  have e2 : (ByteArray.mk #[41]).size = 1 := rfl
  have e3 : (ByteArray.mk (Lib.join (xs.map (·.data.toList)) [44]).toArray).size = (Lib.join (xs.map (·.data.toList)) [44]).length := by
    simp [ByteArray.size]
  unfold joinT
  rw [ByteArray.size_append, ByteArray.size_append, ByteArray.size_append, e1, e2, e3]; omega
/-- Nothing in it is none, each amount has 64 bits, each name has at most M bytes. -/
def O.neat (M : Nat) : O → Prop
  | .const n => -9223372036854775808 ≤ n ∧ n ≤ 9223372036854775807
  | .fix s => s.size ≤ M
  | .add l r => l.neat M ∧ r.neat M
  | .neg o => o.neat M
  | .mul l r => l.neat M ∧ r.neat M
  | .max l r => l.neat M ∧ r.neat M
  | .odd _ => False
def C.neat (M : Nat) : C → Prop
  | .zero => True
  | .one s => s.size ≤ M
  | .give c => c.neat M
  | .and l r => l.neat M ∧ r.neat M
  | .or s l r => s.size ≤ M ∧ l.neat M ∧ r.neat M
  | .scale o c => o.neat M ∧ c.neat M
  | .when d c => (-9223372036854775808 ≤ d ∧ d ≤ 9223372036854775807) ∧ c.neat M
  | .iff o l r => o.neat M ∧ l.neat M ∧ r.neat M
  | .odd _ => False
theorem textO_size (M : Nat) (o : O) (h : o.neat M) : (textO o).size ≤ (M + 30) * o.nodes := by
  induction o with
  | const n => have := numT_size n h.1 h.2; simp only [textO, O.nodes]; omega
  | fix s => have h' : s.size ≤ M := h; simp only [textO, O.nodes]; rw [joinT_size, joinL1]; have e : (ByteArray.mk #[102, 105, 120]).size = 3 := rfl; omega
  | add l r h1 h2 => have a := h1 h.1; have b := h2 h.2; simp only [textO, O.nodes]; rw [joinT_size, joinL2, Nat.mul_add, Nat.mul_add]; have e : (ByteArray.mk #[97, 100, 100]).size = 3 := rfl; omega
  | neg o h1 => have a := h1 h; simp only [textO, O.nodes]; rw [joinT_size, joinL1, Nat.mul_add]; have e : (ByteArray.mk #[110, 101, 103]).size = 3 := rfl; omega
  | mul l r h1 h2 => have a := h1 h.1; have b := h2 h.2; simp only [textO, O.nodes]; rw [joinT_size, joinL2, Nat.mul_add, Nat.mul_add]; have e : (ByteArray.mk #[109, 117, 108]).size = 3 := rfl; omega
  | max l r h1 h2 => have a := h1 h.1; have b := h2 h.2; simp only [textO, O.nodes]; rw [joinT_size, joinL2, Nat.mul_add, Nat.mul_add]; have e : (ByteArray.mk #[109, 97, 120]).size = 3 := rfl; omega
  | odd v => exact absurd h id
theorem textC_size (M : Nat) (c : C) (h : c.neat M) : (textC c).size ≤ (M + 30) * c.nodes := by
  induction c with
  | zero => simp only [textC, C.nodes]; have e : (ByteArray.mk #[122, 101, 114, 111]).size = 4 := rfl; omega
  | one s => have h' : s.size ≤ M := h; simp only [textC, C.nodes]; rw [joinT_size, joinL1]; have e : (ByteArray.mk #[111, 110, 101]).size = 3 := rfl; omega
  | give c h1 => have a := h1 h; simp only [textC, C.nodes]; rw [joinT_size, joinL1, Nat.mul_add]; have e : (ByteArray.mk #[103, 105, 118, 101]).size = 4 := rfl; omega
  | and l r h1 h2 => have a := h1 h.1; have b := h2 h.2; simp only [textC, C.nodes]; rw [joinT_size, joinL2, Nat.mul_add, Nat.mul_add]; have e : (ByteArray.mk #[97, 110, 100]).size = 3 := rfl; omega
  | or s l r h1 h2 => have h' : s.size ≤ M := h.1; have a := h1 h.2.1; have b := h2 h.2.2; simp only [textC, C.nodes]; rw [joinT_size, joinL3, Nat.mul_add, Nat.mul_add]; have e : (ByteArray.mk #[111, 114]).size = 2 := rfl; omega
  | scale o c h1 => have a := textO_size M o h.1; have b := h1 h.2; simp only [textC, C.nodes]; rw [joinT_size, joinL2, Nat.mul_add, Nat.mul_add]; have e : (ByteArray.mk #[115, 99, 97, 108, 101]).size = 5 := rfl; omega
  | when d c h1 => have a := numT_size d h.1.1 h.1.2; have b := h1 h.2; simp only [textC, C.nodes]; rw [joinT_size, joinL2, Nat.mul_add]; have e : (ByteArray.mk #[119, 104, 101, 110]).size = 4 := rfl; omega
  | iff o l r h1 h2 => have a := textO_size M o h.1; have b := h1 h.2.1; have c := h2 h.2.2; simp only [textC, C.nodes]; rw [joinT_size, joinL3, Nat.mul_add, Nat.mul_add, Nat.mul_add]; have e : (ByteArray.mk #[105, 102]).size = 2 := rfl; omega
  | odd v => exact absurd h id
theorem obsText_any (M : Nat) (o : O) (k : o.Ok) (h : o.neat M) (hb : (M + 30) * o.nodes ≤ 70368744177664) : Writes o := by
  induction o with
  | const n => exact obsText_const n h.1 h.2
  | fix s => exact obsText_fix s (by have q := textO_size M (.fix s) h; simp only [textO] at q; rw [joinT_size] at q; omega)
  | add l r h1 h2 => exact obsText_add l r (l.one' k.1) (r.one' k.2) (h1 k.1 h.1 (Nat.le_trans (Nat.mul_le_mul_left _ (by simp only [O.nodes]; omega)) hb)) (h2 k.2 h.2 (Nat.le_trans (Nat.mul_le_mul_left _ (by simp only [O.nodes]; omega)) hb)) (by have q := textO_size M (.add l r) h; simp only [textO] at q; rw [joinT_size] at q; omega)
  | mul l r h1 h2 => exact obsText_mul l r (l.one' k.1) (r.one' k.2) (h1 k.1 h.1 (Nat.le_trans (Nat.mul_le_mul_left _ (by simp only [O.nodes]; omega)) hb)) (h2 k.2 h.2 (Nat.le_trans (Nat.mul_le_mul_left _ (by simp only [O.nodes]; omega)) hb)) (by have q := textO_size M (.mul l r) h; simp only [textO] at q; rw [joinT_size] at q; omega)
  | max l r h1 h2 => exact obsText_max l r (l.one' k.1) (r.one' k.2) (h1 k.1 h.1 (Nat.le_trans (Nat.mul_le_mul_left _ (by simp only [O.nodes]; omega)) hb)) (h2 k.2 h.2 (Nat.le_trans (Nat.mul_le_mul_left _ (by simp only [O.nodes]; omega)) hb)) (by have q := textO_size M (.max l r) h; simp only [textO] at q; rw [joinT_size] at q; omega)
  | neg o h1 => exact obsText_neg o (o.one' k) (h1 k h (Nat.le_trans (Nat.mul_le_mul_left _ (by simp only [O.nodes]; omega)) hb)) (by have q := textO_size M (.neg o) h; simp only [textO] at q; rw [joinT_size] at q; omega)
  | odd v => exact absurd h id
theorem termText_any (M : Nat) (c : C) (k : c.Ok) (h : c.neat M) (hb : (M + 30) * c.nodes ≤ 70368744177664) : WritesC c := by
  induction c with
  | zero => exact termText_zero
  | one s => exact termText_one s (by have q := textC_size M (.one s) h; simp only [textC] at q; rw [joinT_size] at q; omega)
  | give c h1 => exact termText_give c (c.one' k) (h1 k h (Nat.le_trans (Nat.mul_le_mul_left _ (by simp only [C.nodes]; omega)) hb)) (by have q := textC_size M (.give c) h; simp only [textC] at q; rw [joinT_size] at q; omega)
  | and l r h1 h2 => exact termText_and l r (l.one' k.1) (h1 k.1 h.1 (Nat.le_trans (Nat.mul_le_mul_left _ (by simp only [C.nodes]; omega)) hb)) (r.one' k.2) (h2 k.2 h.2 (Nat.le_trans (Nat.mul_le_mul_left _ (by simp only [C.nodes]; omega)) hb)) (by have q := textC_size M (.and l r) h; simp only [textC] at q; rw [joinT_size] at q; omega)
  | or s l r h1 h2 => exact termText_or s l r (l.one' k.2.1) (h1 k.2.1 h.2.1 (Nat.le_trans (Nat.mul_le_mul_left _ (by simp only [C.nodes]; omega)) hb)) (r.one' k.2.2) (h2 k.2.2 h.2.2 (Nat.le_trans (Nat.mul_le_mul_left _ (by simp only [C.nodes]; omega)) hb)) (by have q := textC_size M (.or s l r) h; simp only [textC] at q; rw [joinT_size] at q; omega)
  | scale o c h1 => exact termText_scale o c (o.one' k.1) (obsText_any M o k.1 h.1 (Nat.le_trans (Nat.mul_le_mul_left _ (by simp only [C.nodes]; omega)) hb)) (c.one' k.2) (h1 k.2 h.2 (Nat.le_trans (Nat.mul_le_mul_left _ (by simp only [C.nodes]; omega)) hb)) (by have q := textC_size M (.scale o c) h; simp only [textC] at q; rw [joinT_size] at q; omega)
  | when d c h1 => exact termText_when d h.1.1 h.1.2 c (c.one' k.2) (h1 k.2 h.2 (Nat.le_trans (Nat.mul_le_mul_left _ (by simp only [C.nodes]; omega)) hb)) (by have q := textC_size M (.when d c) h; simp only [textC] at q; rw [joinT_size] at q; omega)
  | iff o l r h1 h2 => exact termText_if o l r (o.one' k.1) (obsText_any M o k.1 h.1 (Nat.le_trans (Nat.mul_le_mul_left _ (by simp only [C.nodes]; omega)) hb)) (l.one' k.2.1) (h1 k.2.1 h.2.1 (Nat.le_trans (Nat.mul_le_mul_left _ (by simp only [C.nodes]; omega)) hb)) (r.one' k.2.2) (h2 k.2.2 h.2.2 (Nat.le_trans (Nat.mul_le_mul_left _ (by simp only [C.nodes]; omega)) hb)) (by have q := textC_size M (.iff o l r) h; simp only [textC] at q; rw [joinT_size] at q; omega)
  | odd v => exact absurd h id
end Go.Proofs.YtkioolbjmcpjpaaGreatDoor
namespace Go.Proofs.YtkioolbjmcpjpaaGreatDoor
open Go.RowKit
set_option linter.unusedVariables false

theorem below_drewN {B : Nat} {w w' : World} (h : Below B w w') (n : Nat) : Below B w (w'.drewN n) := ⟨h.os, h.tape, h.output, h.size, h.block⟩
theorem own_str {w : World} {B : Nat} {v : Value} {l : List ByteArray} (h : w.ownsRow B 9 1 v l.length (strCells l)) : ∃ ao cap, v = .slice ao l.length cap ∧ (∀ k (hk : k < l.length), ∃ g, ao = some ⟨g, 0, none⟩ ∧ g < w.heap.size ∧ w.cell? ⟨g, k, none⟩ = some (.string l[k])) ∧ l.length ≤ 9223372036854775807 := by
  rcases h.2 with ⟨rfl, h0⟩ | ⟨g, cap, cur, rfl, hb, hg, hnc, hcm, _⟩
  · exact ⟨none, 0, by rw [h0], fun k hk => by omega, by omega⟩
  · refine ⟨some ⟨g, 0, none⟩, cap, rfl, fun k hk => ⟨g, rfl, (Array.getElem?_eq_some_iff.1 hg).1, ?_⟩, by unfold maxLen at hcm; omega⟩
    rw [h.cellAt k (by omega)]
    simp [strCells, hk]

set_option maxHeartbeats 1000000 in
set_option maxRecDepth 100000 in
theorem kname_any (h : ByteArray) (n : Int) (w : World) (hh : h.size ≤ 100) (h1 : -9223372036854775808 ≤ n) (h2 : n ≤ 9223372036854775807) :
    Calls Tryz.prog 66 #[.string h, .int .i64 n, .int .i64 5] w fun e w' => ∃ s, e = .returned (.string s) ∧ s.size ≤ 200 ∧ Below w.heap.size w w' := by
  obtain ⟨q, hq⟩ : ∃ q : Nat, n % 5 = q := ⟨(n % 5).toNat, by omega⟩
  have hq5 : q < 5 := by omega
  have hcv : (convert 55 9 (.slice (some ⟨w.heap.size, 0, none⟩) 1 1)).run Tryz.prog (w.alloc (.cells #[.int .u8 (97 + (q : Int))] 5)) = .ok (.string (strOfNums [97 + (q : Int)])) (w.alloc (.cells #[.int .u8 (97 + (q : Int))] 5)) := by
    refine run_convert_bytes_arg _ 55 5 Tryz.underlying55 Tryz.underlying5 w.heap.size 0 1 1 [97 + (q : Int)] rfl (fun i hi => ?_) 9 Tryz.underlying9
    have : i = 0 := by omega
    subst this
    exact (cell_of_row _ _ _ _ _ _ (heap_alloc_new _ _)).trans rfl
  have hwr : IntKind.u8.wrap (97 + (q : Int)) = 97 + (q : Int) := by simp [IntKind.wrap, IntKind.bits, IntKind.signed]; omega
  have hs1 : (strOfNums [97 + (q : Int)]).size = 1 := rfl
  generalize strOfNums [97 + (q : Int)] = X at *
  go_enter Tryz.func66, Tryz.ntmps66
  go_wp2_with fail
  refine calls_same (within_any _ 5 _ (by omega) (by omega) h1 h2) ?_
  rw [hq]
  clear h1 h2 hq
  go_wp2_with fail
  go_ret
  refine ⟨h ++ X, rfl, by rw [ByteArray.size_append]; omega, below_alloc (Below.refl _ _) _⟩

end Go.Proofs.YtkioolbjmcpjpaaGreatDoor
namespace Go.Proofs.YtkioolbjmcpjpaaGreatDoor
open Go.RowKit Go.Maps
set_option linter.unusedVariables false

def labStep (st : List ByteArray) (c : C) : List ByteArray := if c.kind = 5 then st ++ [c.text] else st
/-- The labels of a contract's Ors, in the order of a walk. -/
def C.labels : C → List ByteArray
  | .give c => c.labels
  | .and l r => l.labels ++ r.labels
  | .or s l r => s :: (l.labels ++ r.labels)
  | .scale _ c => c.labels
  | .when _ c => c.labels
  | .iff _ l r => l.labels ++ r.labels
  | _ => []
theorem labels_fold (c : C) : ∀ st, c.pre.foldl labStep st = st ++ c.labels := by
  induction c <;> intro st <;> simp_all [C.pre, labStep, C.kind, C.text, C.labels]
theorem labels_ok (c : C) (h : c.Ok) : ∀ s ∈ c.labels, s.size ≤ 2147483648 := by
  induction c with
  | give c ih => exact ih h
  | and l r h1 h2 => intro s hs; simp only [C.labels, List.mem_append] at hs; rcases hs with hs | hs; exact h1 h.1 s hs; exact h2 h.2 s hs
  | or t l r h1 h2 =>
    intro s hs
    simp only [C.labels, List.mem_cons, List.mem_append] at hs
    rcases hs with rfl | hs | hs
    · exact h.1
    · exact h1 h.2.1 s hs
    · exact h2 h.2.2 s hs
  | scale o c ih => exact ih h.2
  | when d c ih => exact ih h.2
  | iff o l r h1 h2 => intro s hs; simp only [C.labels, List.mem_append] at hs; rcases hs with hs | hs; exact h1 h.2.1 s hs; exact h2 h.2.2 s hs
  | _ => intro s hs; simp [C.labels] at hs
theorem labels_weight (c : C) : c.labels.length ≤ c.weight := by
  induction c <;> simp [C.labels, C.weight] <;> omega

/-- What is kept while labels are gathered. -/
def LabInv (V : Nat) (own : Nat → Prop) (st : List ByteArray) (w : World) : Prop :=
  ∃ v, own = (fun k => k = V ∨ v.ownBlock = some k) ∧ w.heap[V]? = some (.cells #[v] 23 (0, 0)) ∧ w.ownsRow (V + 1) 9 1 v st.length (strCells st)
theorem cell_one_in {w : World} {b : Nat} (hb : b = w.heap.size) (x : Value) (t : TypeId) : ∀ j u, [x][j]? = some u → (w.alloc (.cells #[x] t)).cell? ((⟨b, 0, none⟩ : Addr).add j) = some u := by
  subst hb
  exact cell_one_at w x t
theorem own_shape {w : World} {B e size n : Nat} {v : Value} {xs : List Value} (h : w.ownsRow B e size v n xs) : ∃ ao cap, v = .slice ao n cap := by
  rcases h.2 with ⟨rfl, h0⟩ | ⟨g, cap, cur, rfl, _⟩
  · exact ⟨none, 0, by rw [h0]⟩
  · exact ⟨_, _, rfl⟩
theorem own_slice {w : World} {B : Nat} {v : Value} {l : List ByteArray} (h : w.ownsRow B 9 1 v l.length (strCells l)) : ∃ ao cap, v = .slice ao l.length cap := by
  obtain ⟨ao, cap, e, _⟩ := own_str h
  exact ⟨ao, cap, e⟩

set_option maxHeartbeats 1000000 in
set_option maxRecDepth 100000 in
theorem labels1_any (V : Nat) : Shows 129 #[.pointer (some ⟨V, 0, none⟩)] (LabInv V) labStep List.length := by
  refine ⟨enters_of Tryz.func129 (by kernel_rfl) rfl, ?_, ?_, ?_, ?_⟩
  · rintro own st w w' ⟨v, h1, h2, h3⟩ hb
    exact ⟨v, h1, (hb.block V (Array.getElem?_eq_some_iff.1 h2).1).trans h2, h3.kept (grown_of_below hb none) (by cases hv : v.ownBlock <;> simp)⟩
  · rintro own st w ⟨v, h1, h2, h3⟩ b hb
    subst h1
    rcases hb with rfl | hb
    · exact (Array.getElem?_eq_some_iff.1 h2).1
    · exact (h3.lt b hb).2
  · intro st c
    unfold labStep
    split <;> simp [C.own]
  · rintro own st w c a ⟨v, rfl, h2, h3⟩ hok hn hna hsz
    obtain ⟨i0, gi, gz0, gz1, gz2⟩ := info_parts infoStr
    have HLT := hidIn (Array.getElem?_eq_some_iff.1 h2).1
    have HV := hidIn h2
    show Calls Tryz.prog 129 #[headT c, .slice a c.nums.length c.nums.length, .pointer (some ⟨V, 0, none⟩)] w _
    clear hn hna
    unfold headT
    by_cases hk : c.kind = 5
    · have HST : Hid (labStep st c = st ++ [c.text]) := by unfold Hid labStep; rw [if_pos hk]
      have hsl : st.length ≤ 1000000 := by omega
      obtain ⟨ao, cap, rfl⟩ := own_slice h3
      have c0 : ∀ o, (w.alloc o).cell? ⟨V, 0, none⟩ = some (.slice ao st.length cap) := fun o => (cell_of_row _ _ _ _ _ _ (heap_keeps h2 o)).trans rfl
      rw [hk]
      obtain ⟨W, hW⟩ : ∃ W, W = (w.alloc (.cells #[.int .i64 5, .string c.text, .int .i64 c.day] 209)) := ⟨_, rfl⟩
      have hVW : W.heap.size = w.heap.size + 1 := by rw [hW]; simp
      have hrow : W.ownsRow (V + 1) 9 1 (.slice ao st.length cap) st.length (strCells st) := by rw [hW]; exact h3.alloc _
      have HBW : Hid (Below w.heap.size w W) := by rw [hW]; exact below_alloc (Below.refl _ _) _
      have HVW : Hid (W.heap[V]? = some (.cells #[.slice ao st.length cap] 23 (0, 0))) := by rw [hW]; exact heap_keeps h2 _
      have HFIN : Hid (∀ v2 w2, w2.ownsRow (V + 1) 9 1 v2 (st.length + 1) (strCells st ++ [.string c.text]) → (W.alloc (.cells #[.string c.text] 9)).grownBy w2 (Value.slice ao st.length cap).ownBlock → (v2.ownBlock = (Value.slice ao st.length cap).ownBlock ∨ v2.ownBlock = some (W.alloc (.cells #[.string c.text] 9)).heap.size) → w2.heap[V]? = some (.cells #[.slice ao st.length cap] 23 (0, 0)) ∧ ∃ own', LabInv V own' (labStep st c) (w2.setCell ⟨V, 0, none⟩ v2) ∧ Dyn (fun k => k = V ∨ (Value.slice ao st.length cap).ownBlock = some k) w own' (w2.setCell ⟨V, 0, none⟩ v2)) := by
        intro v2 w2 hown2 hgrow2 hloc
        have hVne : some V ≠ (Value.slice ao st.length cap).ownBlock := fun e => by have := (hrow.lt V e.symm).1; omega
        have hs2 := hgrow2.size
        rw [World.size_alloc] at hs2
        have hVlt : V < (W.alloc (.cells #[.string c.text] 9)).heap.size := by rw [World.size_alloc]; have := HLT.out; omega
        have hV2 : w2.heap[V]? = some (.cells #[.slice ao st.length cap] 23 (0, 0)) := (hgrow2.block V hVlt hVne).trans (heap_keeps HVW.out _)
        refine ⟨hV2, fun k => k = V ∨ v2.ownBlock = some k, ⟨v2, rfl, heap_setCell_same w2 V 0 _ _ _ hV2, ?_⟩, ?_⟩
        · rw [HST.out]
          have := ownsRow_setCell_below hown2 (a := ⟨V, 0, none⟩) (by show V < V + 1; omega) v2
          simpa [strCells] using this
        · refine ⟨hgrow2.os.trans HBW.out.os, hgrow2.tape.trans HBW.out.tape, hgrow2.output.trans HBW.out.output, by rw [World.size_setCell]; omega, fun k hk hno => ?_, fun k hk => ?_⟩
          · have hkV : k ≠ V := fun e => hno (.inl e)
            have hkb : some k ≠ (Value.slice ao st.length cap).ownBlock := fun e => hno (.inr e.symm)
            rw [heap_setCell_other w2 ⟨V, 0, none⟩ k _ hkV, hgrow2.block k (by rw [World.size_alloc]; omega) hkb, Below.heap_alloc _ _ _ (by omega)]
            exact HBW.out.block k hk
          · rcases hk with hk | hk
            · exact .inl (.inl hk)
            · rcases hloc with h | h
              · rw [h] at hk; exact .inl (.inr hk)
              · rw [h] at hk
                injection hk with hk
                rw [World.size_alloc] at hk
                exact .inr (by omega)
      have hVs : V + 1 ≤ w.heap.size := HLT.out
      have HVs := hidIn hVs
      subst hW
      have HROW := hidIn hrow
      clear hVs h2 h3 hk hrow hVW HVW HBW HV
      go_enter Tryz.func129, Tryz.ntmps129
      go_wp2_with (first
        | (at_builtin; refine wpList_append_own_at _ rfl _ _ 23 rfl (V + 1) 9 i0 (.string ByteArray.empty) 1 16 Tryz.underlying23 gi gz0 gz1 gz2 rfl (by decide) _ _ _ rfl (HROW.out.alloc _) ⟨w.heap.size + 1, 0, none⟩ 1 1 [.string c.text] rfl rfl (cell_one_in (by simp) _ _) (by intro u hu; simp at hu; subst hu; rfl) (by unfold maxLen; omega) (by omega) (by have := HVs.out; simp; omega) ?_; intro v2 w2 hown2 hgrow2 _ hloc; have hF := hidIn (HFIN.out v2 w2 hown2 hgrow2 hloc); obtain ⟨ao2, cap2, rfl⟩ := own_shape hown2; have k0 := cell_of_row _ _ 0 _ _ _ hF.out.1; have k1 := frozen_of_row _ _ 0 _ _ hF.out.1; clear hown2 hgrow2 hloc HFIN HROW c0)
        | go_in)
      go_end0
      exact ⟨rfl, hF.out.2⟩
    · have HST : Hid (labStep st c = st) := by unfold Hid labStep; rw [if_neg hk]
      have hk' : (c.kind == 5) = false := by simpa using hk
      have HIN : Hid (LabInv V (fun k => k = V ∨ v.ownBlock = some k) st w) := ⟨v, rfl, h2, h3⟩
      clear h2 h3
      go_enter Tryz.func129, Tryz.ntmps129
      go_wp2_with fail
      go_end0
      have hb : Below w.heap.size w (w.alloc (.cells #[.int .i64 c.kind, .string c.text, .int .i64 c.day] 209)) := below_alloc (Below.refl _ _) _
      obtain ⟨v, h1, h2, h3⟩ := HIN.out
      refine ⟨rfl, _, ?_, Dyn.of_below hb⟩
      rw [HST.out]
      exact ⟨v, h1, heap_keeps h2 _, h3.alloc _⟩

end Go.Proofs.YtkioolbjmcpjpaaGreatDoor
namespace Go.Proofs.YtkioolbjmcpjpaaGreatDoor
open Go.RowKit Go.Maps
set_option linter.unusedVariables false

theorem ownsRow_base {w : World} {B B' e size n : Nat} {v : Value} {xs : List Value} (h : w.ownsRow B e size v n xs) (hB : B' ≤ B) : w.ownsRow B' e size v n xs := by
  refine ⟨h.1, ?_⟩
  rcases h.2 with h | ⟨g, cap, cur, h1, h2, h3⟩
  · exact .inl h
  · exact .inr ⟨g, cap, cur, h1, by omega, h3⟩

set_option maxHeartbeats 1000000 in
set_option maxRecDepth 100000 in
theorem labelsT_any (c : C) (hok : c.Ok) (hsz : c.weight ≤ 1000000) (w : World) : Calls Tryz.prog 90 #[c.val] w fun e w' => ∃ v, e = .returned v ∧ w'.ownsRow w.heap.size 9 1 v c.labels.length (strCells c.labels) ∧ Below w.heap.size w w' := by
  have hmf : ∀ (fn : Fn) (first cap : Array Value) (w : World), (Instr.makeFunc fn first cap).run Tryz.prog w = .ok (.func fn first cap) w := fun _ _ _ _ => rfl
  go_enter Tryz.func90, Tryz.ntmps90
  go_wp2_with fail
  refine (walk_any (labels1_any w.heap.size) c hok (fun k => k = w.heap.size ∨ (Value.slice none 0 0).ownBlock = some k) [] _ ⟨.slice none 0 0, rfl, heap_alloc_new _ _, World.ownsRow_nil _ _ _ _⟩ (by simpa using hsz)).mono ?_
  rintro e w1 ⟨rfl, own1, ⟨v, rfl, hv, hrow⟩, hd⟩
  rw [labels_fold, List.nil_append] at hrow
  have hc : w1.cell? ⟨w.heap.size, 0, none⟩ = some v := (cell_of_row _ _ _ _ _ _ hv).trans rfl
  have HROW := hidIn hrow
  obtain ⟨ao, cap, rfl⟩ := own_shape hrow
  clear hrow hv
  go_wp2_with fail
  go_ret
  have hb : Below w.heap.size w (w.alloc (.cells #[.slice none 0 0] 23)) := below_alloc (Below.refl _ _) _
  refine ⟨_, rfl, ownsRow_base HROW.out (by omega), hb.trans (hd.below (by simp) (fun k hk => ?_))⟩
  rcases hk with rfl | hk
  · exact Nat.le_refl _
  · cases hk

/-- What is known of a list of texts in memory. -/
def HasTxt (w : World) (a : Option Addr) (l : List ByteArray) : Prop := ∀ (i : Nat) (s : ByteArray), l[i]? = some s → ∃ g, a = some ⟨g, 0, none⟩ ∧ w.cell? ⟨g, i, none⟩ = some (.string s)
theorem HasTxt.below {w w' : World} {a : Option Addr} {l : List ByteArray} (h : HasTxt w a l) (hb : Below w.heap.size w w') : HasTxt w' a l := by
  intro i o hi
  obtain ⟨b, e, hc⟩ := h i o hi
  exact ⟨b, e, (hb.cell (World.block_lt_of_cell? w _ hc)).trans hc⟩
theorem own_txt {w : World} {B : Nat} {v : Value} {l : List ByteArray} (h : w.ownsRow B 9 1 v l.length (strCells l)) : ∃ ao cap, v = .slice ao l.length cap ∧ HasTxt w ao l ∧ l.length ≤ 9223372036854775807 ∧ (∀ g, ao = some ⟨g, 0, none⟩ → v.ownBlock = some g) := by
  have h' := own_str h
  obtain ⟨ao, cap, rfl, hc, hl⟩ := h'
  refine ⟨ao, cap, rfl, fun i s hi => ?_, hl, fun g e => by subst e; rfl⟩
  obtain ⟨hlt, rfl⟩ := List.getElem?_eq_some_iff.1 hi
  obtain ⟨g, e, _, hcc⟩ := hc i hlt
  exact ⟨g, e, hcc⟩
theorem HasTxt.grew {w w' : World} {a : Option Addr} {l : List ByteArray} {M : Nat} {row : Option Nat} (h : HasTxt w a l) (hg : Grew M row w w') (hM : ∀ b, a = some ⟨b, 0, none⟩ → b ≠ M ∧ row ≠ some b) : HasTxt w' a l := by
  intro i o hi
  obtain ⟨b, e, hc⟩ := h i o hi
  obtain ⟨h1, h2⟩ := hM b e
  refine ⟨b, e, ?_⟩
  have hb := hg.block b (World.block_lt_of_cell? w _ hc) h1 h2
  simp only [World.cell?, hb] at hc ⊢
  exact hc
theorem addAll_snoc (acc l : List ByteArray) (s : ByteArray) : addAll acc (l ++ [s]) = addN (addAll acc l) s := by simp [addAll]

set_option maxHeartbeats 2000000 in
set_option maxRecDepth 100000 in
theorem addNew_any (more : List ByteArray) (hok : ∀ s ∈ more, s.size ≤ 2147483648) (M : Nat) (v : Value) (acc : List ByteArray) (w : World) (h : NIn w M v acc) (hl : acc.length + more.length ≤ 1000000) (ao : Option Addr) (cap : Nat) (hm : HasTxt w ao more) (hne : ∀ g, ao = some ⟨g, 0, none⟩ → g ≠ M ∧ v.ownBlock ≠ some g) :
    Calls Tryz.prog 128 #[v, .map (some M), .slice ao more.length cap] w (NPost w M v (addAll acc more)) := by
  obtain ⟨i0, gi, gz0, gz1, gz2⟩ := info_parts infoStr
  have HIN : Hid (NIn w M v acc) := h
  have HM := hidIn hm
  have HNE := hidIn hne
  have HOK := hidIn hok
  have hml : more.length ≤ 1000000 := by omega
  have HL := hidIn hl
  clear h hm hne hok hl
  go_enter Tryz.func128, Tryz.ntmps128
  go_wp2_with fail
  go_loopw [13, 0] (fun s13 s0 wr => ∃ i : Nat, i ≤ more.length ∧ s13 = .int .i64 i ∧ NIn wr M s0 (addAll acc (more.take i)) ∧ Grew M v.ownBlock w wr ∧ (s0.ownBlock = v.ownBlock ∨ ∀ k, s0.ownBlock = some k → w.heap.size ≤ k)) (fun s13 _ _ => more.length - (intOf s13).toNat)
  case atStart => exact ⟨0, by omega, rfl, HIN.out, Grew.refl _ _ _, .inl rfl⟩
  case round =>
    obtain ⟨i, hi, rfl, hinr, hgr, hlocr⟩ := hrel
    have HGR : Hid (Grew M v.ownBlock w wr) := hgr
    have HLOC := hidIn hlocr
    have HINR := hidIn hinr
    clear hgr hlocr
    by_cases hlt : i < more.length
    · have hlt' : (i : Int) < (more.length : Int) := by omega
      obtain ⟨s, hsi⟩ : ∃ s, more[i]? = some s := ⟨_, List.getElem?_eq_getElem hlt⟩
      have hs := HOK.out s (List.mem_of_getElem? hsi)
      have hkey : keyOf Tryz.prog 9 (.string s) = some (.string s.data.toList) := Go.WideMaps.keyOf_string_mk Tryz.underlying9 (by unfold maxLen; omega)
      obtain ⟨g, rfl, hc⟩ := (HM.out.grew HGR.out HNE.out) i s hsi
      have ht := take_more _ _ _ hsi
      have HT : Hid (addAll acc (more.take (i + 1)) = addN (addAll acc (more.take i)) s) := by unfold Hid; rw [ht, addAll_snoc]
      have hal : (addAll acc (more.take i)).length ≤ 1000000 := by
        have h1 := addAll_length (more.take i) acc
        have h3 : (more.take i).length ≤ more.length := by rw [List.length_take]; omega
        have := HL.out
        omega
      clear hsi ht
      generalize addAll acc (more.take i) = ac at *
      obtain ⟨hrow, hmap, hsz⟩ := hinr
      by_cases hm : inN ac s = true
      · have hhas : Maps.has (setN ac) (.string s.data.toList) = true := by rw [has_setN]; simpa using hm
        have HA : Hid (addN ac s = ac) := by unfold Hid addN; rw [if_pos hm]
        clear hm
        go_wp2_with (at_lookup; refine wpList_lookup_own_unit _ rfl _ _ 226 rfl 9 39 lawS Tryz.underlying226 (zeroUnit _) M ac.length _ rfl hmap _ _ rfl hkey ?_)
        go_roundw
        case rel =>
          refine ⟨i + 1, by omega, by go_num, ?_, HGR.out.trans (Grew.of_below (below_alloc (Below.refl _ _) _)) (.inl rfl), HLOC.out⟩
          rw [HT.out, HA.out]
          exact HINR.out.below (below_alloc (Below.refl _ _) _)
        case measure => simp [intOf]; omega
      · have hhas : Maps.has (setN ac) (.string s.data.toList) = false := by rw [has_setN]; simpa using hm
        have HA : Hid (addN ac s = ac ++ [s]) := by unfold Hid addN; rw [if_neg hm]
        have HNEB : Hid (u0.ownBlock = none ∨ u0.ownBlock ≠ some M) := .inr (fun e => by have := hrow.lt M e; omega)
        clear hm
        go_wp2_with (first
          | (at_lookup; refine wpList_lookup_own_unit _ rfl _ _ 226 rfl 9 39 lawS Tryz.underlying226 (zeroUnit _) M ac.length _ rfl hmap _ _ rfl hkey ?_)
          | (at_mapUpdate; refine wpList_mapUpdate_own _ rfl _ _ _ 226 rfl 9 39 lawS Tryz.underlying226 (unitElem (H := Unit)) M ac.length _ rfl (hmap.alloc _) (by unfold maxLen; omega) _ _ _ rfl rfl hkey _ [] unitElem_mk ?_; intro w1 hmap1 hgrow1)
          | (at_builtin; refine wpList_append_own_at _ rfl _ _ 23 rfl (M + 1) 9 i0 (.string ByteArray.empty) 1 16 Tryz.underlying23 gi gz0 gz1 gz2 rfl (by decide) _ _ _ rfl (((hrow.alloc _).kept hgrow1 HNEB.out).alloc _) ⟨w1.heap.size, 0, none⟩ 1 1 [.string s] rfl rfl (cell_one_at w1 _ _) (by intro u hu; simp at hu; subst hu; rfl) (by unfold maxLen; omega) (by omega) (by have := hgrow1.size; simp at this ⊢; omega) ?_; intro v2 w2 hown2 hgrow2 _ hloc)
          | go_in)
        have s1 := hgrow1.size
        have s2 := hgrow2.size
        simp at s1 s2
        have HR : Hid (NIn w2 M v2 (ac ++ [s]) ∧ Grew M v.ownBlock w w2 ∧ (v2.ownBlock = v.ownBlock ∨ ∀ k, v2.ownBlock = some k → w.heap.size ≤ k)) := by
          have g0 : Grew M u0.ownBlock wr w2 := by
            have a1 : Grew M u0.ownBlock wr (wr.alloc (.cells #[] 39)) := Grew.of_below (below_alloc (Below.refl _ _) _)
            have a2 : Grew M u0.ownBlock (wr.alloc (.cells #[] 39)) w1 := Grew.of_map hgrow1
            have a3 : Grew M u0.ownBlock w1 (w1.alloc (.cells #[.string s] 9)) := Grew.of_below (below_alloc (Below.refl _ _) _)
            exact ((a1.trans a2 (.inl rfl)).trans a3 (.inl rfl)).trans (Grew.of_grown hgrow2) (.inl rfl)
          refine ⟨⟨?_, ?_, by omega⟩, HGR.out.trans g0 HLOC.out, ?_⟩
          · simpa [strCells] using hown2
          · rw [setN_snoc]
            have := (hmap1.alloc (.cells #[.string s] 9)).kept hgrow2 (fun e => by have := hrow.lt M e.symm; omega)
            simpa using this
          · rcases hloc with h | h
            · rw [h]; exact HLOC.out
            · refine .inr (fun k hk => ?_)
              rw [h] at hk
              injection hk with hk
              simp at hk
              have := HGR.out.size
              omega
        clear hown2 hgrow2 hloc hmap1 hgrow1 hmap hrow
        go_wp2_with fail
        go_roundw
        case rel => exact ⟨i + 1, by omega, by go_num, by rw [HT.out, HA.out]; exact HR.out.1, HR.out.2.1, HR.out.2.2⟩
        case measure => simp [intOf]; omega
    · have hle : i = more.length := by omega
      subst hle
      have HE : Hid (NIn wr M u0 (addAll acc more)) := by have h := HINR.out; rw [List.take_length] at h; exact h
      clear HINR hinr
      go_wp2_with fail
      go_ret
      exact ⟨_, rfl, HE.out, HGR.out, HLOC.out⟩

/-- Whether one is there twice. -/
def twice (l : List ByteArray) : Bool := decide ((addAll [] l).length < l.length)

set_option maxHeartbeats 1000000 in
set_option maxRecDepth 100000 in
theorem anyTwice_any (l : List ByteArray) (hok : ∀ s ∈ l, s.size ≤ 2147483648) (hl : l.length ≤ 1000000) (ao : Option Addr) (cap : Nat) (w : World) (hm : HasTxt w ao l) (hao : ∀ g, ao = some ⟨g, 0, none⟩ → g < w.heap.size) :
    Calls Tryz.prog 89 #[.slice ao l.length cap] w fun e w' => e = .returned (.bool (twice l)) ∧ Below w.heap.size w w' := by
  have hmm := @run_makeMap Tryz.prog
  have hal := addAll_length l []
  simp only [List.length_nil, Nat.zero_add] at hal
  have HM := hidIn hm
  have HAO := hidIn hao
  have HOK := hidIn hok
  clear hm hao hok
  have HC := hidIn (addNew_any l HOK.out w.heap.size (.slice none 0 0) [] (w.alloc (.map #[] 0)) ⟨World.ownsRow_nil _ _ _ _, World.ownsMap_made _ _ _ _, by simp⟩ (by simpa using hl) ao cap (HM.out.below (below_alloc (Below.refl _ _) _)) (fun g e => ⟨by have := HAO.out g e; omega, by simp [Value.ownBlock]⟩))
  go_enter Tryz.func89, Tryz.ntmps89
  go_wp2_with fail
  refine HC.out.mono ?_
  rintro e w2 ⟨v2, rfl, hin2, hg2, hloc2⟩
  have hb2 : Below w.heap.size w w2 := by
    have h1 : Below w.heap.size w (w.alloc (.map #[] 0)) := below_alloc (Below.refl _ _) _
    exact h1.trans (hg2.below (by simp) (Nat.le_refl _) (fun k hk => by cases hk))
  obtain ⟨ao2, cap2, rfl⟩ := own_shape hin2.1
  have HB2 := hidIn hb2
  by_cases hlt : (addAll [] l).length < l.length
  · have HT : Hid (twice l = true) := decide_eq_true hlt
    have hlt' : ((addAll [] l).length : Int) < (l.length : Int) := by omega
    clear hin2 hg2 hloc2 HC hb2
    generalize addAll [] l = X at *
    go_wp2_with fail
    go_ret
    exact ⟨by rw [HT.out]; rfl, HB2.out⟩
  · have HT : Hid (twice l = false) := decide_eq_false hlt
    have hlt' : ¬ ((addAll [] l).length : Int) < (l.length : Int) := by omega
    clear hin2 hg2 hloc2 HC hb2
    generalize addAll [] l = X at *
    go_wp2_with fail
    go_ret
    exact ⟨by rw [HT.out]; rfl, HB2.out⟩

/-- What Check answers. -/
def chkC (c : C) : Int := if formC c = true then (if 60 < c.nodes ∨ 12 < c.depth then 5 else if twice c.labels = true then 4 else 0) else 2
theorem weight_nodes (c : C) : c.nodes ≤ c.weight := by
  induction c <;> simp [C.nodes, C.weight] <;> omega

set_option maxHeartbeats 1000000 in
set_option maxRecDepth 100000 in
theorem checkT_any (c : C) (hok : c.Ok) (hsz : c.weight ≤ 1000000) (w : World) : Calls Tryz.prog 51 #[c.val] w fun e w' => e = .returned (.int .i64 (chkC c)) ∧ Below w.heap.size w w' := by
  have hwn := weight_nodes c
  have HOK := hidIn hok
  have HSZ := hidIn hsz
  have HLO := hidIn (labels_ok c hok)
  have hlw := labels_weight c
  go_enter Tryz.func51, Tryz.ntmps51
  go_wp2_with fail
  refine (formedT_any c hok hsz w).mono ?_
  rintro e w1 ⟨rfl, hb1⟩
  have hd := cdepth_nodes c
  cases hf : formC c
  · go_wp2_with fail
    go_ret
    exact ⟨by unfold chkC; rw [if_neg (by rw [hf]; simp)]; rfl, hb1⟩
  · go_wp2_with fail
    refine (sizeT_any c hok (by omega) w1).mono ?_
    rintro e w2 ⟨rfl, hb2⟩
    have HC : Hid (chkC c = if 60 < c.nodes ∨ 12 < c.depth then 5 else if twice c.labels = true then 4 else 0) := by unfold Hid chkC; rw [if_pos hf]
    have HB2 := hidIn (hb1.trans (hb2.mono hb1.size))
    clear hb1 hb2
    by_cases h1 : 60 < c.nodes
    · have h1' : (60 : Int) < (c.nodes : Int) := by omega
      go_wp2_with fail
      go_ret
      exact ⟨by rw [HC.out, if_pos (.inl h1)]; rfl, HB2.out⟩
    · have h1' : ¬ (60 : Int) < (c.nodes : Int) := by omega
      have h1d : decide ((60 : Int) < (c.nodes : Int)) = false := by simpa using h1'
      by_cases h2 : 12 < c.depth
      · have h2' : (12 : Int) < (c.depth : Int) := by omega
        go_wp2_with fail
        go_ret
        exact ⟨by rw [HC.out, if_pos (.inr h2)]; rfl, HB2.out⟩
      · have h2' : ¬ (12 : Int) < (c.depth : Int) := by omega
        have HC2 : Hid (chkC c = if twice c.labels = true then 4 else 0) := by unfold Hid; rw [HC.out, if_neg (by omega)]
        go_wp2_with fail
        refine (labelsT_any c HOK.out HSZ.out w2).mono ?_
        rintro e w3 ⟨v3, rfl, hrow3, hb3⟩
        have hlt3 := hrow3.lt
        obtain ⟨ao, cap, rfl, htx, _, hob⟩ := own_txt hrow3
        have HTX := hidIn htx
        have HAO : Hid (∀ g, ao = some ⟨g, 0, none⟩ → g < w3.heap.size) := fun g e => (hlt3 g (hob g e)).2
        have HB3 := hidIn (HB2.out.trans (hb3.mono HB2.out.size))
        clear hrow3 hlt3 htx hob hb3
        go_wp2_with fail
        refine (anyTwice_any c.labels HLO.out (by omega) ao cap w3 HTX.out HAO.out).mono ?_
        rintro e w4 ⟨rfl, hb4⟩
        have HB4 := hidIn (HB3.out.trans (hb4.mono HB3.out.size))
        clear hb4
        cases ht : twice c.labels
        · go_wp2_with fail
          go_ret
          exact ⟨by rw [HC2.out, ht]; rfl, HB4.out⟩
        · go_wp2_with fail
          go_ret
          exact ⟨by rw [HC2.out, ht]; rfl, HB4.out⟩

theorem chkC_nil : chkC (.odd .nilIface) = 2 := rfl
end Go.Proofs.YtkioolbjmcpjpaaGreatDoor
namespace Go.Proofs.YtkioolbjmcpjpaaGreatDoor
open Go.RowKit
set_option linter.unusedVariables false

theorem withinT_any (s : ByteArray) (hs : s.size ≤ 140737488351232) (w : World) :
    Calls Tryz.prog 52 #[.string s] w fun e w' => e = .returned (.tuple #[.string (if 1000 < s.size then ⟨#[]⟩ else s), .int .i64 (if 1000 < s.size then 5 else 0)]) ∧ w' = w := by
  by_cases h : 1000 < s.size
  · have h' : (1000 : Int) < (s.size : Int) := by omega
    rw [if_pos h, if_pos h]
    go_enter Tryz.func52, Tryz.ntmps52
    go_wp2
    go_ret2
    exact ⟨rfl, rfl⟩
  · have h' : ¬ (1000 : Int) < (s.size : Int) := by omega
    rw [if_neg h, if_neg h]
    go_enter Tryz.func52, Tryz.ntmps52
    go_wp2
    go_ret2
    exact ⟨rfl, rfl⟩
theorem formB_neat (o : O) (k : o.Ok) (h : formB o = true) : o.neat 2147483648 := by
  induction o with
  | const n => exact k
  | fix s => exact k
  | add l r h1 h2 => simp only [formB, Bool.and_eq_true] at h; exact ⟨h1 k.1 h.1, h2 k.2 h.2⟩
  | mul l r h1 h2 => simp only [formB, Bool.and_eq_true] at h; exact ⟨h1 k.1 h.1, h2 k.2 h.2⟩
  | max l r h1 h2 => simp only [formB, Bool.and_eq_true] at h; exact ⟨h1 k.1 h.1, h2 k.2 h.2⟩
  | neg o h1 => exact h1 k h
  | odd v => cases h
theorem formC_neat (c : C) (k : c.Ok) (h : formC c = true) : c.neat 2147483648 := by
  induction c with
  | zero => trivial
  | one s => exact k
  | give c h1 => exact h1 k h
  | and l r h1 h2 => simp only [formC, Bool.and_eq_true] at h; exact ⟨h1 k.1 h.1, h2 k.2 h.2⟩
  | or s l r h1 h2 => simp only [formC, Bool.and_eq_true] at h; exact ⟨k.1, h1 k.2.1 h.1.2, h2 k.2.2 h.2⟩
  | scale o c h1 => simp only [formC, Bool.and_eq_true] at h; exact ⟨formB_neat o k.1 h.1, h1 k.2 h.2⟩
  | when d c h1 => simp only [formC, Bool.and_eq_true] at h; exact ⟨k.1, h1 k.2 h.2⟩
  | iff o l r h1 h2 => simp only [formC, Bool.and_eq_true] at h; exact ⟨formB_neat o k.1 h.1.1, h1 k.2.1 h.1.2, h2 k.2.2 h.2⟩
  | odd v => cases h
/-- What write.Obs answers: the text, and the error. -/
def wText (o : O) : ByteArray := if chk o = 0 then (if 1000 < (textO o).size then ⟨#[]⟩ else textO o) else ⟨#[]⟩
def wErr (o : O) : Int := if chk o = 0 then (if 1000 < (textO o).size then 5 else 0) else chk o
def wTextC (c : C) : ByteArray := if chkC c = 0 then (if 1000 < (textC c).size then ⟨#[]⟩ else textC c) else ⟨#[]⟩
def wErrC (c : C) : Int := if chkC c = 0 then (if 1000 < (textC c).size then 5 else 0) else chkC c
theorem chk_zero {o : O} (h : chk o = 0) : formB o = true ∧ o.nodes ≤ 60 ∧ o.depth ≤ 12 := by
  unfold chk at h
  split at h
  · rename_i hf
    split at h
    · cases h
    · exact ⟨hf, by omega, by omega⟩
  · cases h
theorem chkC_zero {c : C} (h : chkC c = 0) : formC c = true ∧ c.nodes ≤ 60 ∧ c.depth ≤ 12 ∧ twice c.labels = false := by
  unfold chkC at h
  split at h
  · rename_i hf
    split at h
    · cases h
    · split at h
      · cases h
      · rename_i ht
        exact ⟨hf, by omega, by omega, by simpa using ht⟩
  · cases h
set_option maxHeartbeats 1000000 in
set_option maxRecDepth 100000 in
theorem writeC_any (c : C) (hok : c.Ok) (hsz : c.weight ≤ 1000000) (w : World) (ht : TabW w) : Calls Tryz.prog 20 #[c.val] w fun e w' => e = .returned (.tuple #[.string (wTextC c), .int .i64 (wErrC c)]) ∧ Below w.heap.size w w' := by
  have HW : Hid (chkC c = 0 → WritesC c ∧ (textC c).size ≤ 70368744177664) := fun h => by
    have hz := chkC_zero h
    have hn := formC_neat c hok hz.1
    exact ⟨termText_any _ c hok hn (by omega), Nat.le_trans (textC_size _ c hn) (by omega)⟩
  have HT := hidIn ht
  have HR : Hid (wTextC c = if chkC c = 0 then (if 1000 < (textC c).size then ⟨#[]⟩ else textC c) else ⟨#[]⟩) := rfl
  have HE : Hid (wErrC c = if chkC c = 0 then (if 1000 < (textC c).size then 5 else 0) else chkC c) := rfl
  have HK := hidIn (checkT_any c hok hsz)
  generalize wTextC c = rt at *
  generalize wErrC c = re at *
  clear hok hsz ht
  go_enter Tryz.func20, Tryz.ntmps20
  go_wp2_with fail
  refine (HK.out w).mono ?_
  rintro e w1 ⟨rfl, hb1⟩
  have HB1 := hidIn hb1
  clear hb1
  by_cases h0 : chkC c = 0
  · obtain ⟨hw, hs⟩ := HW.out h0
    have HW1 := hidIn hw
    clear hw
    rw [h0]
    go_wp2_with fail
    refine (HW1.out w1 (tabW_below HT.out HB1.out)).mono ?_
    rintro e w2 ⟨rfl, hb2⟩
    have HB2 := hidIn (HB1.out.trans (hb2.mono HB1.out.size))
    clear hb2
    go_wp2_with fail
    refine calls_same (withinT_any (textC c) (by omega) _) ?_
    have H1 := HR.out
    have H2 := HE.out
    rw [if_pos h0] at H1 H2
    rw [← H1, ← H2]
    clear H1 H2
    go_wp2_with fail
    go_ret2
    exact ⟨rfl, HB2.out⟩
  · obtain ⟨n, hn⟩ : ∃ n, chkC c = n := ⟨_, rfl⟩
    have H1 := HR.out
    have H2 := HE.out
    rw [if_neg h0] at H1 H2
    rw [hn] at h0 H2
    rw [hn]
    go_wp2_with fail
    go_ret2
    exact ⟨by rw [H1, H2]; rfl, HB1.out⟩

end Go.Proofs.YtkioolbjmcpjpaaGreatDoor
namespace Go.Proofs.YtkioolbjmcpjpaaGreatDoor.Ev
open Go.RowKit
set_option linter.unusedVariables false

/-- What event.Check answers. -/
def chkE (e : Ev) : Int := if formE e = true then (if e.k = 2 then wErrC e.t else 0) else 1

set_option maxHeartbeats 2000000 in
set_option maxRecDepth 100000 in
theorem check_any (e : Ev) (hok : e.Ok) (w : World) (htab : TabW w) : Calls Tryz.prog 13 #[e.val] w fun r w' => r = .returned (.int .i64 (chkE e)) ∧ Below w.heap.size w w' := by
  have HF := hidIn (fun w => formed_any e hok w)
  have HC := hidIn (fun w ht => writeC_any e.t hok.t hok.w w ht)
  have HT := hidIn htab
  have HR : Hid (chkE e = if formE e = true then (if e.k = 2 then wErrC e.t else 0) else 1) := rfl
  have one := e.t.one' hok.t
  clear hok htab
  generalize chkE e = res at *
  generalize formE e = fe at *
  obtain ⟨k, i, n, l, u, d, v, t⟩ := e
  unfold Ev.val Ev.cs at *
  simp only at *
  generalize t.val = tv at *
  go_enter Tryz.func13, Tryz.ntmps13
  go_wp2_with fail
  have HBV : Hid (Below w.heap.size w (w.alloc (.cells #[.int .i64 k, .string i, .string n, .string l, .string u, .int .i64 d, .int .i64 v, tv] 30))) := below_alloc (Below.refl _ _) _
  have HX := hidIn (heap_alloc_new w (.cells #[.int .i64 k, .string i, .string n, .string l, .string u, .int .i64 d, .int .i64 v, tv] 30))
  generalize w.alloc (.cells #[.int .i64 k, .string i, .string n, .string l, .string u, .int .i64 d, .int .i64 v, tv] 30) = V at *
  refine (HF.out V).mono ?_
  rintro e w1 ⟨rfl, hb⟩
  have HB1 := hidIn (HBV.out.trans (hb.mono HBV.out.size))
  have hx := (hb.block _ (Array.getElem?_eq_some_iff.1 HX.out).1).trans HX.out
  have c0 : w1.cell? ⟨w.heap.size, 0, none⟩ = some (.int .i64 k) := cell_of_row _ _ 0 _ _ _ hx
  have c7 : w1.cell? ⟨w.heap.size, 7, none⟩ = some tv := cell_of_row _ _ 7 _ _ _ hx
  clear hb hx
  cases fe
  · rw [if_neg (by simp)] at HR
    go_wp2_with fail
    go_ret
    exact ⟨by rw [HR.out]; rfl, HB1.out⟩
  · rw [if_pos rfl] at HR
    by_cases hk : k = 2
    · subst hk
      rw [if_pos rfl] at HR
      go_wp2_with fail
      refine (HC.out w1 (tabW_below HT.out HB1.out)).mono ?_
      rintro e w2 ⟨rfl, hb2⟩
      have HB2 := hidIn (HB1.out.trans (hb2.mono HB1.out.size))
      clear hb2
      generalize wErrC t = we at *
      generalize wTextC t = wt at *
      go_wp2_with fail
      go_ret
      exact ⟨by rw [HR.out]; rfl, HB2.out⟩
    · rw [if_neg hk] at HR
      have e2 : (k != 2) = true := by simpa using hk
      clear hk
      go_wp2_with fail
      go_ret
      exact ⟨by rw [HR.out]; rfl, HB1.out⟩

end Go.Proofs.YtkioolbjmcpjpaaGreatDoor.Ev
namespace Go.Proofs.YtkioolbjmcpjpaaGreatDoor.Ev
open Go.RowKit
set_option linter.unusedVariables false

theorem nil_runs (t : C) (h : t.Ok) : ∃ b, nilB t = b ∧ ((b = true ∧ t.val = .nilIface) ∨ (b = false ∧ ∃ x y, t.val = .iface x y)) := by
  cases t with
  | odd v =>
    rcases h with rfl | ⟨x, y, rfl, _⟩
    · exact ⟨true, rfl, .inl ⟨rfl, rfl⟩⟩
    · exact ⟨false, rfl, .inr ⟨rfl, _, _, rfl⟩⟩
  | _ => exact ⟨false, rfl, .inr ⟨rfl, _, _, rfl⟩⟩
/-- What event.sameTerm answers. -/
def sameTm (a b : C) : Bool := nilB a && nilB b || sameC a b

set_option maxHeartbeats 2000000 in
set_option maxRecDepth 100000 in
theorem sameTerm_any (a b : C) (ha : a.Ok) (hb : b.Ok) (w : World) : Calls Tryz.prog 41 #[a.val, b.val] w fun r w' => r = .returned (.bool (sameTm a b)) ∧ Below w.heap.size w w' := by
  have HS := hidIn (fun w => sameT_any a ha b hb w)
  have HR : Hid (sameTm a b = (nilB a && nilB b || sameC a b)) := rfl
  obtain ⟨na, hna, hva⟩ := nil_runs a ha
  obtain ⟨nb, hnb, hvb⟩ := nil_runs b hb
  rw [hna, hnb] at HR
  clear hna hnb ha hb
  generalize sameTm a b = res at *
  generalize sameC a b = sc at *
  rcases hva with ⟨rfl, hva⟩ | ⟨rfl, xa, ya, hva⟩ <;> rcases hvb with ⟨rfl, hvb⟩ | ⟨rfl, xb, yb, hvb⟩
  all_goals
    rw [hva, hvb] at HS
    rw [hva, hvb]
    clear hva hvb
    go_enter Tryz.func41, Tryz.ntmps41
    go_wp2_with fail
    try (refine (HS.out _).mono ?_; rintro e w1 ⟨rfl, hb⟩; have HB := hidIn hb; clear hb; go_wp2_with fail)
    go_ret
    first
      | exact ⟨by rw [HR.out]; rfl, HB.out⟩
      | exact ⟨by rw [HR.out]; rfl, Below.refl _ _⟩

theorem eq_nils (d : Nat) (W : World) : Sem.run Tryz.prog (Op.equalIn (d + 1) 28 .nilIface .nilIface) W = .ok true W := by
  simp only [Op.equalIn, Sem.run_bind, run_underlying Tryz.underlying28, Result.andThen_ok]
  rfl
/-- Whether two events are alike. -/
def sameE (a b : Ev) : Bool := (a.k == b.k) && (a.i.toList == b.i.toList) && (a.n.toList == b.n.toList) && (a.l.toList == b.l.toList) && (a.u.toList == b.u.toList) && (a.d == b.d) && (a.v == b.v) && sameTm a.t b.t

set_option maxHeartbeats 2000000 in
set_option maxRecDepth 100000 in
theorem same_any (a b : Ev) (ha : a.Ok) (hb : b.Ok) (w : World) : Calls Tryz.prog 10 #[a.val, b.val] w fun r w' => r = .returned (.bool (sameE a b)) ∧ Below w.heap.size w w' := by
  have HS := hidIn (fun w => sameTerm_any a.t b.t ha.t hb.t w)
  have HR : Hid (sameE a b = ((a.k == b.k) && (a.i.toList == b.i.toList) && (a.n.toList == b.n.toList) && (a.l.toList == b.l.toList) && (a.u.toList == b.u.toList) && (a.d == b.d) && (a.v == b.v) && sameTm a.t b.t)) := rfl
  have onea := a.t.one' ha.t
  have oneb := b.t.one' hb.t
  clear ha hb
  generalize sameE a b = res at *
  generalize sameTm a.t b.t = st at *
  obtain ⟨k, i, n, l, u, d, v, t⟩ := a
  obtain ⟨k', i', n', l', u', d', v', t'⟩ := b
  unfold Ev.val Ev.cs
  simp only at *
  generalize t.val = ta at *
  generalize t'.val = tb at *
  clear t t'
  go_enter Tryz.func10, Tryz.ntmps10
  go_wp2_with fail
  have hx0 : ((w.alloc (.cells #[.int .i64 k, .string i, .string n, .string l, .string u, .int .i64 d, .int .i64 v, ta] 30)).alloc (.cells #[.int .i64 k', .string i', .string n', .string l', .string u', .int .i64 d', .int .i64 v', tb] 30)).heap[w.heap.size]? = some (.cells #[.int .i64 k, .string i, .string n, .string l, .string u, .int .i64 d, .int .i64 v, ta] 30) := heap_keeps (heap_alloc_new _ _) _
  have hx1 : ((w.alloc (.cells #[.int .i64 k, .string i, .string n, .string l, .string u, .int .i64 d, .int .i64 v, ta] 30)).alloc (.cells #[.int .i64 k', .string i', .string n', .string l', .string u', .int .i64 d', .int .i64 v', tb] 30)).heap[w.heap.size + 1]? = some (.cells #[.int .i64 k', .string i', .string n', .string l', .string u', .int .i64 d', .int .i64 v', tb] 30) := by
    have h := heap_alloc_new (w.alloc (.cells #[.int .i64 k, .string i, .string n, .string l, .string u, .int .i64 d, .int .i64 v, ta] 30)) (.cells #[.int .i64 k', .string i', .string n', .string l', .string u', .int .i64 d', .int .i64 v', tb] 30)
    rwa [show (w.alloc (.cells #[.int .i64 k, .string i, .string n, .string l, .string u, .int .i64 d, .int .i64 v, ta] 30)).heap.size = w.heap.size + 1 by simp] at h
  have HBV : Hid (Below w.heap.size w ((w.alloc (.cells #[.int .i64 k, .string i, .string n, .string l, .string u, .int .i64 d, .int .i64 v, ta] 30)).alloc (.cells #[.int .i64 k', .string i', .string n', .string l', .string u', .int .i64 d', .int .i64 v', tb] 30))) := below_alloc (below_alloc (Below.refl _ _) _) _
  have HX0 := hidIn hx0
  have HX1 := hidIn hx1
  clear hx0 hx1
  generalize (w.alloc (.cells #[.int .i64 k, .string i, .string n, .string l, .string u, .int .i64 d, .int .i64 v, ta] 30)).alloc (.cells #[.int .i64 k', .string i', .string n', .string l', .string u', .int .i64 d', .int .i64 v', tb] 30) = V at *
  have HF : Hid (∀ w', Below V.heap.size V w' → w'.cell? ⟨w.heap.size, 7, none⟩ = some ta ∧ w'.cell? ⟨w.heap.size + 1, 7, none⟩ = some tb) := fun w' hw' => by
    have h0 := (hw'.block _ (Array.getElem?_eq_some_iff.1 HX0.out).1).trans HX0.out
    have h1 := (hw'.block _ (Array.getElem?_eq_some_iff.1 HX1.out).1).trans HX1.out
    exact ⟨cell_of_row _ _ 7 _ _ _ h0, cell_of_row _ _ 7 _ _ _ h1⟩
  refine wp_region_class (fun w' => Below V.heap.size V w') (by kernel_rfl) (by kernel_rfl) (below_drew (Below.refl _ _)) ?_
  generalize hops : (#[_, _, _, _, _, _] : Array Oper) = ops
  clear hops
  refine quiet_runs (.pointer (some ⟨w.heap.size, 7, none⟩)) (wanted_none rfl) (fun w' hw' => ?_) ?_
  · go_simp
  simp only [Act.put, List.setIfInBounds_toArray, List.set_cons_zero, List.set_cons_succ]
  refine quiet_runs (ta) (wanted_none rfl) (fun w' hw' => ?_) ?_
  · have q0 := (HF.out w' hw').1
    go_simp
  simp only [Act.put, List.setIfInBounds_toArray, List.set_cons_zero, List.set_cons_succ]
  refine quiet_runs (.pointer (some ⟨w.heap.size + 1, 7, none⟩)) (wanted_none rfl) (fun w' hw' => ?_) ?_
  · go_simp
  simp only [Act.put, List.setIfInBounds_toArray, List.set_cons_zero, List.set_cons_succ]
  refine quiet_runs (tb) (wanted_none rfl) (fun w' hw' => ?_) ?_
  · have q0 := (HF.out w' hw').2
    go_simp
  simp only [Act.put, List.setIfInBounds_toArray, List.set_cons_zero, List.set_cons_succ]
  refine quiet_runs (ta) (wanted_none rfl) (fun w' hw' => ?_) ?_
  · go_simp
  simp only [Act.put, List.setIfInBounds_toArray, List.set_cons_zero, List.set_cons_succ]
  refine quiet_runs (tb) (wanted_none rfl) (fun w' hw' => ?_) ?_
  · go_simp
  simp only [Act.put, List.setIfInBounds_toArray, List.set_cons_zero, List.set_cons_succ]
  refine wpQuiet_nil ?_
  intro w9 hw9
  have hx0 := (hw9.block _ (Array.getElem?_eq_some_iff.1 HX0.out).1).trans HX0.out
  have hx1 := (hw9.block _ (Array.getElem?_eq_some_iff.1 HX1.out).1).trans HX1.out
  have f0 : w9.frozen? ⟨w.heap.size, 7, none⟩ = false := frozen_of_row _ _ _ _ _ hx0
  have f1 : w9.frozen? ⟨w.heap.size + 1, 7, none⟩ = false := frozen_of_row _ _ _ _ _ hx1
  have e0 : w9.cell? ⟨w.heap.size, 7, none⟩ = some ta := cell_of_row _ _ 7 _ _ _ hx0
  have e1 : w9.cell? ⟨w.heap.size + 1, 7, none⟩ = some tb := cell_of_row _ _ 7 _ _ _ hx1
  have HW := hidIn hw9
  clear hw9
  go_upto_region 3 with fail
  have hy0 : ((w9.setCell ⟨w.heap.size, 7, none⟩ .nilIface).setCell ⟨w.heap.size + 1, 7, none⟩ .nilIface).heap[w.heap.size]? = some (.cells #[.int .i64 k, .string i, .string n, .string l, .string u, .int .i64 d, .int .i64 v, .nilIface] 30) := (heap_setCell_other _ ⟨w.heap.size + 1, 7, none⟩ w.heap.size _ (by show w.heap.size ≠ w.heap.size + 1; omega)).trans (heap_setCell_same _ w.heap.size 7 _ _ _ hx0)
  have hy1 : ((w9.setCell ⟨w.heap.size, 7, none⟩ .nilIface).setCell ⟨w.heap.size + 1, 7, none⟩ .nilIface).heap[w.heap.size + 1]? = some (.cells #[.int .i64 k', .string i', .string n', .string l', .string u', .int .i64 d', .int .i64 v', .nilIface] 30) := heap_setCell_same _ (w.heap.size + 1) 7 _ _ _ ((heap_setCell_other _ ⟨w.heap.size, 7, none⟩ (w.heap.size + 1) _ (by show w.heap.size + 1 ≠ w.heap.size; omega)).trans hx1)
  have HB := hidIn (((HBV.out.trans (HW.out.mono HBV.out.size)).setCell (show w.heap.size ≤ (⟨w.heap.size, 7, none⟩ : Addr).block from Nat.le_refl _) .nilIface).setCell (show w.heap.size ≤ (⟨w.heap.size + 1, 7, none⟩ : Addr).block from Nat.le_succ _) .nilIface)
  clear f0 f1 e0 e1 hx0 hx1
  generalize (w9.setCell ⟨w.heap.size, 7, none⟩ .nilIface).setCell ⟨w.heap.size + 1, 7, none⟩ .nilIface = U at *
  have x0 := cell_of_row _ _ 0 _ _ _ hy0
  have y0 := cell_of_row _ _ 0 _ _ _ hy1
  have x1 := cell_of_row _ _ 1 _ _ _ hy0
  have y1 := cell_of_row _ _ 1 _ _ _ hy1
  have x2 := cell_of_row _ _ 2 _ _ _ hy0
  have y2 := cell_of_row _ _ 2 _ _ _ hy1
  have x3 := cell_of_row _ _ 3 _ _ _ hy0
  have y3 := cell_of_row _ _ 3 _ _ _ hy1
  have x4 := cell_of_row _ _ 4 _ _ _ hy0
  have y4 := cell_of_row _ _ 4 _ _ _ hy1
  have x5 := cell_of_row _ _ 5 _ _ _ hy0
  have y5 := cell_of_row _ _ 5 _ _ _ hy1
  have x6 := cell_of_row _ _ 6 _ _ _ hy0
  have y6 := cell_of_row _ _ 6 _ _ _ hy1
  have x7 := cell_of_row _ _ 7 _ _ _ hy0
  have y7 := cell_of_row _ _ 7 _ _ _ hy1
  clear hy0 hy1
  have hnn : ∀ W, Sem.run Tryz.prog (Op.equalIn 9999 28 .nilIface .nilIface) W = .ok true W := eq_nils 9998
  go_wp2_with fail
  all_goals
    try (refine (HS.out _).mono ?_; rintro e w1 ⟨rfl, hb⟩; have HB2 := hidIn (HB.out.trans (hb.mono HB.out.size)); clear hb; go_wp2_with fail)
    go_ret
    first
      | exact ⟨by rw [HR.out]; simp [*], HB2.out⟩
      | exact ⟨by rw [HR.out]; simp [*], HB.out⟩

end Go.Proofs.YtkioolbjmcpjpaaGreatDoor.Ev
namespace Go.Proofs.YtkioolbjmcpjpaaGreatDoor.Ev
open Go.RowKit
set_option linter.unusedVariables false

def none' : C := .odd .nilIface
theorem none_ok : none'.Ok := .inl rfl
def pass0 : Ev := ⟨1, ⟨#[]⟩, ⟨#[]⟩, ⟨#[]⟩, ⟨#[]⟩, 0, 0, none'⟩
def ev0 : Ev := ⟨0, ⟨#[]⟩, ⟨#[]⟩, ⟨#[]⟩, ⟨#[]⟩, 0, 0, none'⟩
theorem small_size : (⟨#[]⟩ : ByteArray).size ≤ maxLen := by decide
theorem pass0_ok : pass0.Ok := by
  constructor <;> first | exact none_ok | exact small_size | (show (1 : Nat) ≤ 1000000; omega) | (unfold pass0; simp only; omega)
theorem ev0_ok : ev0.Ok := by
  constructor <;> first | exact none_ok | exact small_size | (show (1 : Nat) ≤ 1000000; omega) | (unfold ev0; simp only; omega)
theorem pass0_chk : chkE pass0 = 0 := by decide +kernel
theorem ev0_chk : chkE ev0 = 1 := by decide +kernel

set_option maxHeartbeats 1000000 in
theorem wakes11_any (w : World) (htab : TabW w) : Calls Tryz.prog 11 #[] w fun e w' => e = .returned (.bool true) ∧ Below w.heap.size w w' := by
  have H1 : Hid (∀ W, TabW W → Calls Tryz.prog 13 #[.agg #[.int .i64 1, .string ⟨#[]⟩, .string ⟨#[]⟩, .string ⟨#[]⟩, .string ⟨#[]⟩, .int .i64 0, .int .i64 0, .nilIface]] W fun r w' => r = .returned (.int .i64 0) ∧ Below W.heap.size W w') := fun W hW => by
    have := check_any pass0 pass0_ok W hW
    rw [pass0_chk] at this
    exact this
  have H2 : Hid (∀ W, TabW W → Calls Tryz.prog 13 #[.agg #[.int .i64 0, .string ⟨#[]⟩, .string ⟨#[]⟩, .string ⟨#[]⟩, .string ⟨#[]⟩, .int .i64 0, .int .i64 0, .nilIface]] W fun r w' => r = .returned (.int .i64 1) ∧ Below W.heap.size W w') := fun W hW => by
    have := check_any ev0 ev0_ok W hW
    rw [ev0_chk] at this
    exact this
  have HT := hidIn htab
  clear htab
  go_enter Tryz.func11, Tryz.ntmps11
  go_wp2_with fail
  refine (H1.out w HT.out).mono ?_
  rintro e w1 ⟨rfl, hb1⟩
  have HB1 := hidIn hb1
  clear hb1
  go_wp2_with fail
  refine (H2.out w1 (tabW_below HT.out HB1.out)).mono ?_
  rintro e w2 ⟨rfl, hb2⟩
  have HB2 := hidIn (HB1.out.trans (hb2.mono HB1.out.size))
  clear hb2
  go_wp2_with fail
  go_ret
  exact ⟨rfl, HB2.out⟩

/-- A trade. -/
def trade (id : ByteArray) (c : C) : Ev := ⟨2, id, ⟨#[]⟩, ⟨#[]⟩, ⟨#[]⟩, 0, 0, c⟩
theorem trade_ok (id : ByteArray) (c : C) (hi : id.size ≤ maxLen) (hc : c.Ok) (hw : c.weight ≤ 1000000) : (trade id c).Ok := by
  constructor <;> first | exact hc | exact hi | exact hw | exact small_size | (unfold trade; simp only; omega)
theorem trade_form (id : ByteArray) (c : C) : formE (trade id c) = nameGo 0 (runesOf id) := by
  have h1 : (!((flds 2).toList == [63])) = true := by decide +kernel
  have h2 : hasB (flds 2) 73 = true := by decide +kernel
  have h3 : hasB (flds 2) 78 = false := by decide +kernel
  have h4 : hasB (flds 2) 76 = false := by decide +kernel
  have h5 : hasB (flds 2) 67 = false := by decide +kernel
  have h6 : hasB (flds 2) 68 = false := by decide +kernel
  have h7 : hasB (flds 2) 86 = false := by decide +kernel
  have h8 : hasB (flds 2) 84 = true := by decide +kernel
  have h9 : (⟨#[]⟩ : ByteArray).toList.isEmpty = true := by decide +kernel
  unfold formE trade
  simp only [h1, h2, h3, h4, h5, h6, h7, h8, fitS, fitI, h9]
  simp
theorem trade_chk (id : ByteArray) (c : C) : chkE (trade id c) = if nameGo 0 (runesOf id) = true then wErrC c else 1 := by
  unfold chkE
  rw [trade_form]
  simp [trade]

end Go.Proofs.YtkioolbjmcpjpaaGreatDoor.Ev
namespace Go.Proofs.YtkioolbjmcpjpaaGreatDoor
open Go.RowKit
set_option linter.unusedVariables false

theorem list_of_quiet {P : Program} {ops : Array Oper} {C : World → Prop} : ∀ (l : List Oper) (a : Act) (w : World) {Q : Exit → Act → World → Prop}, C w → wpQuiet P ops C (fun a' => ∀ w', C w' → Q .normal a' w') l a → wpList P ops Q l a w
  | [], a, w, Q, hC, h => h w hC
  | o :: rest, a, w, Q, hC, h => by
    unfold wpQuiet at h
    unfold wpList
    split
    · rename_i hw
      rw [if_pos hw] at h
      exact .inl (Oper.wp_of_quiet hC (fun a' w' hC' hk => list_of_quiet rest a' w' hC' hk) h)
    · rename_i hw
      rw [if_neg hw] at h
      exact list_of_quiet rest _ w hC h
theorem wp_region_calm {P : Program} (C : World → Prop) {id : Nat} {Q : Exit → Act → World → Prop} {a : Act} {w : World} {l : List Oper} (hC : C w)
    (h : wpQuiet P l.toArray C (fun a' => ∀ w', C w' → Q .normal a' w') l a) : (Code.region id l.toArray false).wp P Q a w :=
  wp_region_lit (list_of_quiet l a w hC h)

end Go.Proofs.YtkioolbjmcpjpaaGreatDoor
namespace Go.Proofs.YtkioolbjmcpjpaaGreatDoor.Ev
open Go.RowKit
set_option linter.unusedVariables false

set_option maxHeartbeats 1000000 in
theorem refFields_any (k : Int) (w : World) : Calls Tryz.prog 16 #[.int .i64 k] w fun e w' => e = .returned (.string (flds k)) ∧ w' = w := by
  by_cases h1 : k = 1
  · subst h1
    go_enter Tryz.func16, Tryz.ntmps16
    go_wp2_with fail
    go_ret
    exact ⟨rfl, rfl⟩
  by_cases h2 : k = 2
  · subst h2
    go_enter Tryz.func16, Tryz.ntmps16
    go_wp2_with fail
    go_ret
    exact ⟨rfl, rfl⟩
  by_cases h3 : k = 3
  · subst h3
    go_enter Tryz.func16, Tryz.ntmps16
    go_wp2_with fail
    go_ret
    exact ⟨rfl, rfl⟩
  by_cases h4 : k = 4
  · subst h4
    go_enter Tryz.func16, Tryz.ntmps16
    go_wp2_with fail
    go_ret
    exact ⟨rfl, rfl⟩
  by_cases h5 : k = 5
  · subst h5
    go_enter Tryz.func16, Tryz.ntmps16
    go_wp2_with fail
    go_ret
    exact ⟨rfl, rfl⟩
  by_cases h6 : k = 6
  · subst h6
    go_enter Tryz.func16, Tryz.ntmps16
    go_wp2_with fail
    go_ret
    exact ⟨rfl, rfl⟩
  have HF : Hid (flds k = ⟨#[63]⟩) := by simp [Hid, flds, h1, h2, h3, h4, h5, h6]
  have e1 : (k == 1) = false := by simpa using h1
  have e2 : (k == 2) = false := by simpa using h2
  have e3 : (k == 3) = false := by simpa using h3
  have e4 : (k == 4) = false := by simpa using h4
  have e5 : (k == 5) = false := by simpa using h5
  have e6 : (k == 6) = false := by simpa using h6
  clear h1 h2 h3 h4 h5 h6
  go_enter Tryz.func16, Tryz.ntmps16
  go_wp2_with fail
  go_ret
  exact ⟨by rw [HF.out]; rfl, rfl⟩

theorem hasB_iff (l : List UInt8) (c : UInt8) : 0 ≤ Lib.indexByte l c ↔ l.any (fun b => b.toNat == c.toNat) = true := by
  induction l with
  | nil => simp [Lib.indexByte]
  | cons b l ih =>
    have hg := Lib.indexByte_ge l c
    have hbc : (b.toNat == c.toNat) = (b == c) := by rw [Bool.eq_iff_iff]; simp [UInt8.toNat_inj]
    rw [List.any_cons, hbc]
    unfold Lib.indexByte
    by_cases h : (b == c) = true
    · rw [if_pos h, h]; simp
    · rw [if_neg h]
      have h' : (b == c) = false := by simpa using h
      rw [h', Bool.false_or, ← ih]
      by_cases h1 : Lib.indexByte l c = -1
      · rw [h1]; simp
      · rw [if_neg (by simpa using h1)]
        omega
theorem hasB_any (l : List UInt8) (c : UInt8) : decide (0 ≤ Lib.indexByte l c) = l.any (fun b => b.toNat == c.toNat) := by
  rw [Bool.eq_iff_iff, decide_eq_true_iff]
  exact hasB_iff l c
theorem any_step (f : ByteArray) (P : UInt8 → Bool) (pos : Nat) (h : pos < f.size) : (f.toList.take (pos + 1)).any P = ((f.toList.take pos).any P || P (f[pos]'h)) := by
  have hl : f.toList[pos]? = some (f[pos]'h) := by
    rw [ByteArray.toList_eq]
    exact List.getElem?_eq_getElem (by simpa using h)
  rw [List.take_add_one, hl]
  simp
theorem any_at (f : ByteArray) (P : UInt8 → Bool) (pos : Nat) (h : pos < f.size) (hp : P (f[pos]'h) = true) : f.toList.any P = true := by
  rw [List.any_eq_true]
  refine ⟨f[pos]'h, ?_, hp⟩
  rw [ByteArray.toList_eq]
  exact Array.getElem_mem_toList _
theorem nat_beq' (a b : Nat) : ((a : Int) == (b : Int)) = (a == b) := by
  rw [Bool.eq_iff_iff]; simp; omega

set_option maxHeartbeats 1000000 in
theorem refHas_any (f : ByteArray) (c : UInt8) (w : World) (hs : f.size ≤ 1000) :
    Calls Tryz.prog 44 #[.string f, .int .u8 (c.toNat : Int)] w fun e w' => e = .returned (.bool (hasB f c)) ∧ w' = w := by
  have HR : Hid (hasB f c = f.toList.any (fun b => b.toNat == c.toNat)) := by
    unfold Hid hasB
    rw [hasB_any, ByteArray.toList_eq]
  obtain ⟨n, hn⟩ : ∃ n, c.toNat = n := ⟨_, rfl⟩
  rw [hn] at HR
  rw [hn]
  clear hn
  generalize hasB f c = res at *
  go_enter Tryz.func44, Tryz.ntmps44
  go_wp2_with fail
  go_loopw [5] (fun s5 wr => ∃ i : Nat, i ≤ f.size ∧ s5 = .int .i64 i ∧ wr = w ∧ (f.toList.take i).any (fun b => b.toNat == n) = false) (fun s5 _ => f.size - (intOf s5).toNat)
  case atStart => exact ⟨0, by omega, rfl, rfl, by simp⟩
  case round =>
    obtain ⟨i, hi, rfl, rfl, hany⟩ := hrel
    by_cases hlt : i < f.size
    · have hlt' : (i : Int) < (f.size : Int) := by omega
      have hst := any_step f (fun b => b.toNat == n) i hlt
      rw [hany, Bool.false_or] at hst
      have HST := hidIn hst
      have HAT := hidIn (any_at f (fun b => b.toNat == n) i hlt)
      clear hst hany
      cases hc : ((f[i]'hlt).toNat == n)
      · have hc' : (((f[i]'hlt).toNat : Int) == (n : Int)) = false := by rw [nat_beq']; exact hc
        go_wp2_with fail
        go_roundw
        case rel => exact ⟨i + 1, by omega, by go_num, by trivial, by rw [HST.out]; exact hc⟩
        case measure => simp [intOf] <;> omega
      · have hc' : (((f[i]'hlt).toNat : Int) == (n : Int)) = true := by rw [nat_beq']; exact hc
        go_wp2_with fail
        go_ret
        exact ⟨by rw [HR.out, HAT.out hc]; rfl, rfl⟩
    · have hlt' : ¬ (i : Int) < (f.size : Int) := by omega
      have hall : f.toList.any (fun b => b.toNat == n) = false := by
        rw [List.take_of_length_le (by rw [ByteArray.toList_eq]; simp; show f.data.size ≤ i; have : f.data.size = f.size := rfl; omega)] at hany
        exact hany
      have HALL := hidIn hall
      clear hall hany
      go_wp2_with fail
      go_ret
      exact ⟨by rw [HR.out, HALL.out]; rfl, rfl⟩

set_option maxHeartbeats 1000000 in
theorem refText11_any (s : ByteArray) (named : Bool) (w : World) (hs : s.size ≤ 2147483648) :
    Calls Tryz.prog 43 #[.string s, .bool named] w fun e w' => e = .returned (.bool (fitS s named)) ∧ Below w.heap.size w w' := by
  have HN := hidIn (fun w => refName_any s w hs)
  clear hs
  cases named
  · go_enter Tryz.func43, Tryz.ntmps43
    go_wp2_with fail
    go_ret
    exact ⟨rfl, Below.refl _ _⟩
  · go_enter Tryz.func43, Tryz.ntmps43
    generalize hnm : nameGo 0 (runesOf s) = nm at *
    have HNM := hidIn hnm
    clear hnm
    go_wp2_with fail
    refine (HN.out _).mono ?_
    rintro e w1 ⟨rfl, hb⟩
    have HB := hidIn hb
    clear hb
    cases nm
    · go_wp2_with fail
      go_ret
      exact ⟨by unfold fitS; rw [HNM.out]; rfl, HB.out⟩
    · go_wp2_with fail
      go_ret
      exact ⟨by unfold fitS; rw [HNM.out]; rfl, HB.out⟩

end Go.Proofs.YtkioolbjmcpjpaaGreatDoor.Ev
namespace Go.Proofs.YtkioolbjmcpjpaaGreatDoor
open Go.RowKit
set_option linter.unusedVariables false

theorem digN_dec (f : Nat) : ∀ n, n < 10 ^ (f + 1) → digN f n = Lib.decDigits n := by
  induction f with
  | zero =>
    intro n hn
    have h : n < 10 := by simpa using hn
    rw [Lib.decDigits, dif_pos h]
    simp only [digN]
    rw [Nat.mod_eq_of_lt h]
  | succ f ih =>
    intro n hn
    rw [Lib.decDigits]
    by_cases h : n < 10
    · rw [dif_pos h]; simp only [digN, h, if_true]
    · rw [dif_neg h]
      simp only [digN, h, if_false]
      rw [ih (n / 10) (by rw [Nat.pow_succ] at hn; omega)]
theorem dec_len (n : Nat) (h : n ≤ 9223372036854775808) : (Lib.decDigits n).length ≤ 20 := by
  rw [Lib.decDigits_length]; exact Lib.nDigits_le20 n (by omega)

set_option maxHeartbeats 2000000 in
set_option maxRecDepth 100000 in
theorem digitsNeg_any (f : Nat) : ∀ (m : Nat) (w : World), 1 ≤ m → m < 10 ^ (f + 1) → m ≤ 9223372036854775808 →
    Calls Tryz.prog 68 #[.int .i64 (-(m : Int))] w fun e w' => e = .returned (.string ⟨(45 :: Lib.decDigits m).toArray⟩) ∧ Below w.heap.size w w' := by
  induction f with
  | zero =>
    intro m w h1 hm hb
    have hm' : m < 10 := by simpa using hm
    have em : Int.tmod (-(m : Int)) 10 = -(m : Int) := by rw [Int.neg_tmod, Int.tmod_eq_emod_of_nonneg (by omega)]; omega
    have HD : Hid (Lib.decDigits m = [UInt8.ofNat (48 + m)]) := by show _ = _; rw [Lib.decDigits, dif_pos hm']
    have HC := hidIn (fun w => digits_small m w (by omega))
    have hneg : (-(m : Int)) < 0 := by omega
    have hgt : (-10 : Int) < -(m : Int) := by omega
    clear hm
    go_enter Tryz.func68, Tryz.ntmps68
    go_wp2_with fail
    refine (HC.out _).mono ?_
    rintro e w1 ⟨rfl, hb1⟩
    have hsz : (⟨#[UInt8.ofNat (48 + m)]⟩ : ByteArray).size = 1 := rfl
    generalize UInt8.ofNat (48 + m) = c at *
    go_wp2_with fail
    go_ret
    exact ⟨by rw [HD.out]; rfl, hb1⟩
  | succ f ih =>
    intro m w h1 hm hb
    by_cases h10 : m < 10
    · have hm' : m < 10 := h10
      have em : Int.tmod (-(m : Int)) 10 = -(m : Int) := by rw [Int.neg_tmod, Int.tmod_eq_emod_of_nonneg (by omega)]; omega
      have HD : Hid (Lib.decDigits m = [UInt8.ofNat (48 + m)]) := by show _ = _; rw [Lib.decDigits, dif_pos hm']
      have HC := hidIn (fun w => digits_small m w (by omega))
      have hneg : (-(m : Int)) < 0 := by omega
      have hgt : (-10 : Int) < -(m : Int) := by omega
      clear hm ih
      go_enter Tryz.func68, Tryz.ntmps68
      go_wp2_with fail
      refine (HC.out _).mono ?_
      rintro e w1 ⟨rfl, hb1⟩
      generalize UInt8.ofNat (48 + m) = c at *
      go_wp2_with fail
      go_ret
      exact ⟨by rw [HD.out]; rfl, hb1⟩
    · have em : Int.tmod (-(m : Int)) 10 = -((m % 10 : Nat) : Int) := by rw [Int.neg_tmod, Int.tmod_eq_emod_of_nonneg (by omega)]; omega
      have ed : Int.tdiv (-(m : Int)) 10 = -((m / 10 : Nat) : Int) := by rw [Int.neg_tdiv, Int.tdiv_eq_ediv_of_nonneg (by omega)]; omega
      have HD : Hid (Lib.decDigits m = Lib.decDigits (m / 10) ++ [UInt8.ofNat (48 + m % 10)]) := by show _ = _; rw [Lib.decDigits, dif_neg h10]
      have HC := hidIn (fun w => digits_small (m % 10) w (by omega))
      have HI := hidIn (fun w => ih (m / 10) w (by omega) (by rw [Nat.pow_succ] at hm; omega) (by omega))
      have hlen := dec_len (m / 10) (by omega)
      have hneg : (-(m : Int)) < 0 := by omega
      have hgt : ¬ (-10 : Int) < -(m : Int) := by omega
      have hq : m / 10 ≤ 922337203685477580 := by omega
      have hr : m % 10 < 10 := by omega
      generalize hqe : m / 10 = q at *
      generalize hre : m % 10 = r at *
      clear hm ih
      go_enter Tryz.func68, Tryz.ntmps68
      go_wp2_with fail
      refine (HC.out _).mono ?_
      rintro e w1 ⟨rfl, hb1⟩
      generalize UInt8.ofNat (48 + r) = c at *
      generalize Lib.decDigits q = D at *
      have hD : (⟨(45 :: D).toArray⟩ : ByteArray).size ≤ 21 := by show (45 :: D).toArray.size ≤ 21; simp; omega
      have HB1 := hidIn hb1
      clear hb1
      go_wp2_with fail
      refine (HI.out _).mono ?_
      rintro e w2 ⟨rfl, hb2⟩
      have HB2 := hidIn hb2
      clear hb2
      have hc1 : (⟨#[c]⟩ : ByteArray).size = 1 := rfl
      go_wp2_with fail
      go_ret
      exact ⟨by rw [HD.out, ← List.cons_append, ← ByteArray.mk_append_mk]; rfl, HB1.out.trans (HB2.out.mono HB1.out.size)⟩
theorem digAny (n : Int) (h0 : -9223372036854775808 ≤ n) (h1 : n ≤ 9223372036854775807) (w : World) :
    Calls Tryz.prog 68 #[.int .i64 n] w fun e w' => e = .returned (.string (numT n)) ∧ Below w.heap.size w w' := by
  by_cases h : n < 0
  · obtain ⟨m, hm⟩ : ∃ m : Nat, n = -(m : Int) := ⟨n.natAbs, by omega⟩
    subst hm
    have hp : (10 : Nat) ^ (20 + 1) = 1000000000000000000000 := by decide
    refine (digitsNeg_any 20 m w (by omega) (by omega) (by omega)).mono ?_
    rintro e w' ⟨rfl, hb⟩
    exact ⟨by unfold numT Lib.itoa; rw [if_pos h, Int.natAbs_neg, Int.natAbs_natCast], hb⟩
  · obtain ⟨m, hm⟩ : ∃ m : Nat, n = (m : Int) := ⟨n.toNat, by omega⟩
    subst hm
    have hp : (10 : Nat) ^ (20 + 1) = 1000000000000000000000 := by decide
    refine (digits_any 20 m w (by omega) (by omega) (by omega)).mono ?_
    rintro e w' ⟨rfl, hb⟩
    exact ⟨by unfold numT Lib.itoa; rw [if_neg h, Int.toNat_natCast, digN_dec 20 m (by omega)], hb⟩

end Go.Proofs.YtkioolbjmcpjpaaGreatDoor
namespace Go.Proofs.YtkioolbjmcpjpaaGreatDoor
open Go.RowKit Go.Maps
set_option linter.unusedVariables false

def namStep (st : List ByteArray) (c : C) : List ByteArray := addAll st (allL c.nums)
/-- The names of a contract's Fixes, in the order of a walk. -/
def C.all : C → List ByteArray
  | .give c => c.all
  | .and l r => l.all ++ r.all
  | .or _ l r => l.all ++ r.all
  | .scale o c => o.all ++ c.all
  | .when _ c => c.all
  | .iff o l r => o.all ++ (l.all ++ r.all)
  | _ => []
theorem names_fold (c : C) : ∀ st, c.pre.foldl namStep st = addAll st c.all := by
  induction c <;> intro st <;> simp_all [C.pre, namStep, C.nums, C.all, allL, addAll]
def C.names (c : C) : List ByteArray := addAll [] c.all
theorem addAll_id (acc : List ByteArray) : ∀ l : List ByteArray, (∀ s ∈ l, s ∈ acc) → addAll acc l = acc := by
  intro l
  induction l with
  | nil => intro _; rfl
  | cons s l ih =>
    intro h
    have h1 : addN acc s = acc := by unfold addN; rw [if_pos ((inN_iff acc s).2 (h s (by simp)))]
    show addAll (addN acc s) l = acc
    rw [h1]
    exact ih (fun t ht => h t (by simp [ht]))
theorem mem_addN (acc : List ByteArray) (s t : ByteArray) : t ∈ addN acc s ↔ t ∈ acc ∨ t = s := by
  unfold addN
  split
  · rename_i h
    have := (inN_iff acc s).1 h
    constructor
    · exact .inl
    · rintro (h | rfl); exact h; exact this
  · simp
theorem addN_twice (acc : List ByteArray) (s : ByteArray) (h : s ∈ acc) : addN acc s = acc := by unfold addN; rw [if_pos ((inN_iff acc s).2 h)]
theorem mem_addAll : ∀ (l acc : List ByteArray) (t : ByteArray), t ∈ addAll acc l ↔ t ∈ acc ∨ t ∈ l := by
  intro l
  induction l with
  | nil => intro acc t; simp [addAll]
  | cons s l ih =>
    intro acc t
    show t ∈ addAll (addN acc s) l ↔ _
    rw [ih, mem_addN]
    simp only [List.mem_cons]
    constructor
    · rintro ((h | h) | h); exact .inl h; exact .inr (.inl h); exact .inr (.inr h)
    · rintro (h | h | h); exact .inl (.inl h); exact .inl (.inr h); exact .inr h
/-- Adding what is each once is adding all. -/
theorem addAll_once : ∀ (l acc pre : List ByteArray), (∀ s ∈ pre, s ∈ acc) → addAll acc (addAll pre l) = addAll acc l := by
  intro l
  induction l with
  | nil => intro acc pre h; exact addAll_id acc pre h
  | cons s l ih =>
    intro acc pre h
    show addAll acc (addAll (addN pre s) l) = addAll (addN acc s) l
    by_cases hs : s ∈ pre
    · rw [addN_twice pre s hs, ih acc pre h, addN_twice acc s (h s hs)]
    · have e : addN pre s = pre ++ [s] := by
        unfold addN
        rw [if_neg (fun e => hs ((inN_iff pre s).1 e))]
      have hc : ∀ (l pre : List ByteArray), ∃ m, addAll pre l = pre ++ m := by
        intro l
        induction l with
        | nil => intro pre; exact ⟨[], by simp [addAll]⟩
        | cons x l ihl =>
          intro pre
          obtain ⟨m, hm⟩ := ihl (addN pre x)
          show ∃ m, addAll (addN pre x) l = pre ++ m
          rw [hm]
          unfold addN
          split
          · exact ⟨m, rfl⟩
          · exact ⟨[x] ++ m, by simp⟩
      obtain ⟨m, hm⟩ := hc l (addN pre s)
      rw [hm, e, addAll_append, addAll_append, addAll_id acc pre h]
      have h2 : addAll acc [s] = addN acc s := rfl
      rw [h2]
      have h3 := ih (addN acc s) (addN pre s) (fun t ht => by
        rw [mem_addN] at ht ⊢
        rcases ht with ht | ht
        · exact .inl (h t ht)
        · exact .inr ht)
      rw [hm, e, addAll_append, addAll_append] at h3
      rw [addAll_id (addN acc s) pre (fun t ht => (mem_addN acc s t).2 (.inl (h t ht)))] at h3
      have h4 : addAll (addN acc s) [s] = addN acc s := addN_twice _ _ ((mem_addN acc s s).2 (.inr rfl))
      rw [h4] at h3
      exact h3

/-- What is kept while names are gathered. -/
def NamInv (V : Nat) (own : Nat → Prop) (st : List ByteArray) (w : World) : Prop :=
  ∃ v, own = (fun k => k = V ∨ k = V + 1 ∨ v.ownBlock = some k) ∧ w.heap[V]? = some (.cells #[v] 23 (0, 0)) ∧ w.heap[V + 2]? = some (.cells #[.map (some (V + 1))] 226 (0, 0)) ∧ NIn w (V + 1) v st ∧ v.ownBlock ≠ some (V + 2)

theorem names_ok (o : O) (h : o.Ok) : ∀ s ∈ o.all, s.size ≤ 2147483648 := by
  induction o with
  | fix s => intro t ht; simp [O.all] at ht; subst ht; exact h
  | neg o ih => exact ih h
  | add l r h1 h2 => intro s hs; simp only [O.all, List.mem_append] at hs; rcases hs with hs | hs; exact h1 h.1 s hs; exact h2 h.2 s hs
  | mul l r h1 h2 => intro s hs; simp only [O.all, List.mem_append] at hs; rcases hs with hs | hs; exact h1 h.1 s hs; exact h2 h.2 s hs
  | max l r h1 h2 => intro s hs; simp only [O.all, List.mem_append] at hs; rcases hs with hs | hs; exact h1 h.1 s hs; exact h2 h.2 s hs
  | _ => intro s hs; simp [O.all] at hs
theorem onames_ok (o : O) (h : o.Ok) : ∀ s ∈ o.names, s.size ≤ 2147483648 := by
  intro s hs
  unfold O.names at hs
  rw [mem_addAll] at hs
  rcases hs with hs | hs
  · simp at hs
  · exact names_ok o h s hs

theorem nam_fin {V : Nat} {v v2 : Value} {acc : List ByteArray} {w W wA wB : World} (hBW : Below w.heap.size w W) (hXA : Below W.heap.size W wA) (hG : Grew (V + 1) v.ownBlock wA wB) (hin : NIn wB (V + 1) v2 acc) (hloc : v2.ownBlock = v.ownBlock ∨ ∀ k, v2.ownBlock = some k → wA.heap.size ≤ k) (hVB : wB.heap[V]? = some (.cells #[v] 23 (0, 0))) (h3 : w.heap[V + 2]? = some (.cells #[.map (some (V + 1))] 226 (0, 0))) (h5 : v.ownBlock ≠ some (V + 2)) :
    ∃ own', NamInv V own' acc (wB.setCell ⟨V, 0, none⟩ v2) ∧ Dyn (fun k => k = V ∨ k = V + 1 ∨ v.ownBlock = some k) w own' (wB.setCell ⟨V, 0, none⟩ v2) := by
  have hlt := (Array.getElem?_eq_some_iff.1 h3).1
  have s1 := hBW.size
  have s2 := hXA.size
  have s3 := hG.size
  refine ⟨fun k => k = V ∨ k = V + 1 ∨ v2.ownBlock = some k, ⟨v2, rfl, heap_setCell_same wB V 0 _ _ _ hVB, ?_, ⟨ownsRow_setCell_below hin.1 (a := ⟨V, 0, none⟩) (by show V < V + 1 + 1; omega) v2, hin.2.1.setCell (by show V + 1 ≠ V; omega) _, by rw [World.size_setCell]; exact hin.2.2⟩, ?_⟩, hG.os.trans (hXA.os.trans hBW.os), hG.tape.trans (hXA.tape.trans hBW.tape), hG.output.trans (hXA.output.trans hBW.output), by rw [World.size_setCell]; omega, fun k hk hno => ?_, fun k hk => ?_⟩
  · rw [heap_setCell_other wB ⟨V, 0, none⟩ (V + 2) _ (by show V + 2 ≠ V; omega)]
    exact (hG.block (V + 2) (by omega) (by omega) h5).trans ((hXA.block (V + 2) (by omega)).trans ((hBW.block (V + 2) hlt).trans h3))
  · rcases hloc with h | h
    · rw [h]; exact h5
    · intro e; have := h _ e; omega
  · have k1 : k ≠ V := fun e => hno (.inl e)
    have k2 : k ≠ V + 1 := fun e => hno (.inr (.inl e))
    have k3 : v.ownBlock ≠ some k := fun e => hno (.inr (.inr e))
    rw [heap_setCell_other wB ⟨V, 0, none⟩ k _ k1]
    exact (hG.block k (by omega) k2 k3).trans ((hXA.block k (by omega)).trans (hBW.block k hk))
  · rcases hk with hk | hk | hk
    · exact .inl (.inl hk)
    · exact .inl (.inr (.inl hk))
    · rcases hloc with h | h
      · rw [h] at hk; exact .inl (.inr (.inr hk))
      · have := h k hk; exact .inr (by omega)

end Go.Proofs.YtkioolbjmcpjpaaGreatDoor
namespace Go.Proofs.YtkioolbjmcpjpaaGreatDoor
open Go.RowKit
set_option linter.unusedVariables false

theorem ownsRow_below {w w' : World} {B e size n : Nat} {v : Value} {xs : List Value} (h : w.ownsRow B e size v n xs) (hb : Below w.heap.size w w') : w'.ownsRow B e size v n xs :=
  h.kept (grown_of_below hb none) (by cases hv : v.ownBlock <;> simp)
theorem grownBy_refl (w : World) (r : Option Nat) : w.grownBy w r := grown_of_below (Below.refl _ _) r
theorem wpList_append_rows {ops : Array Oper} {rest : List Oper} {o : Oper} {a : Act} {Q : Exit → Act → World → Prop} (w : World) (hgd : o.guard = none) (s x : Operand)
    (ho : o.op = .call { callee := .builtin .append, args := #[s, x], argTypes := #[23, 23] })
    (base : Nat) (v : Value) (l : List ByteArray) (hs : a.eval s = v) (hown : w.ownsRow base 9 1 v l.length (strCells l))
    (B : Nat) (xv : Value) (m : List ByteArray) (hx : a.eval x = xv) (hox : w.ownsRow B 9 1 xv m.length (strCells m)) (hlen : l.length + m.length ≤ 1000000) (hbase : base ≤ w.heap.size)
    (h : ∀ v' w', w'.ownsRow base 9 1 v' (l ++ m).length (strCells (l ++ m)) → w.grownBy w' v.ownBlock → (v'.ownBlock = v.ownBlock ∨ v'.ownBlock = some w.heap.size) → wpList Tryz.prog ops Q rest (a.put o.dst v') w') : wpList Tryz.prog ops Q (o :: rest) a w := by
  obtain ⟨i0, gi, gz0, gz1, gz2⟩ := info_parts infoStr
  have hox2 := hox
  rcases hox2.2 with ⟨rfl, h0⟩ | ⟨g, cap, cur, rfl, hb, hg, hnc, hcm, _⟩
  · have hm : m = [] := List.length_eq_zero_iff.1 h0
    subst hm
    refine wpList_append_own_none hgd s x 23 ho base 9 i0 1 Tryz.underlying23 gi v l.length (strCells l) hs hown hx ?_
    exact h v w (by simpa using hown) (grownBy_refl w _) (.inl rfl)
  · refine wpList_append_own_at w hgd s x 23 ho base 9 i0 (.string ByteArray.empty) 1 16 Tryz.underlying23 gi gz0 gz1 gz2 rfl (by decide) v l.length (strCells l) hs hown ⟨g, 0, none⟩ m.length cap (strCells m) hx (by simp [strCells]) ?_ ?_ (by unfold maxLen; omega) (by omega) hbase ?_
    · intro j u hj
      rw [Addr.add_lit, Nat.zero_add]
      have hjl : j < m.length := by
        have := (List.getElem?_eq_some_iff.1 hj).1
        simpa [strCells] using this
      rw [hox.cellAt j (by omega)]
      exact hj
    · intro u hu
      obtain ⟨t, _, rfl⟩ := List.mem_map.1 hu
      rfl
    · intro v' w' h1 h2 _ h3
      refine h v' w' ?_ h2 h3
      simpa [strCells] using h1
/-- The labels of contracts, one behind the other. -/
def labL : List C → List ByteArray
  | [] => []
  | k :: l => k.labels ++ labL l
theorem labL_snoc (l : List C) (k : C) : labL (l ++ [k]) = labL l ++ k.labels := by
  induction l with
  | nil => simp [labL]
  | cons a l ih => simp [labL, ih]
theorem labels_kids (c : C) : c.labels = (if c.kind = 5 then [c.text] else []) ++ labL c.kids := by
  cases c <;> simp [C.labels, C.kind, C.text, C.kids, labL]
theorem labL_weight (l : List C) : (labL l).length ≤ weightL l := by
  induction l with
  | nil => simp [labL]
  | cons a l ih => have := labels_weight a; simp [labL, weightL]; omega
/-- What an assertion to one of api's types with two or three fields tells of a contract. -/
theorem or_part (c : C) (h : c.Ok) : ∃ (s : ByteArray) (l r : Value) (b : Bool), (∀ xT w, (Instr.typeAssert c.val xT 103 true).run Tryz.prog w = .ok (.tuple #[.agg #[.string s, l, r], .bool b]) w) ∧ One' l ∧ One' r ∧ ((b = true ∧ c.kind = 5 ∧ s = c.text) ∨ (b = false ∧ c.kind ≠ 5)) := by
  have hn : One' Value.nilIface := ⟨rfl, rfl⟩
  cases c with
  | or s l r => exact ⟨s, l.val, r.val, true, fun xT w => isOr _ xT w, l.one' h.2.1, r.one' h.2.2, .inl ⟨rfl, rfl, rfl⟩⟩
  | odd v =>
    rcases h with rfl | ⟨t, x, rfl, _, _, _, _, h5, _⟩
    · exact ⟨_, _, _, false, fun xT w => nilOr xT w, hn, hn, .inr ⟨rfl, by simp [C.kind]⟩⟩
    · exact ⟨_, _, _, false, fun xT w => notOr t x xT w h5, hn, hn, .inr ⟨rfl, by simp [C.kind]⟩⟩
  | _ => exact ⟨_, _, _, false, fun xT w => notOr _ _ xT w (by decide), hn, hn, .inr ⟨rfl, by simp [C.kind]⟩⟩
theorem scale_part (c : C) (h : c.Ok) : ∃ (l r : Value) (b : Bool), (∀ xT w, (Instr.typeAssert c.val xT 107 true).run Tryz.prog w = .ok (.tuple #[.agg #[l, r], .bool b]) w) ∧ One' l ∧ One' r ∧ ((b = true ∧ c.kind = 6) ∨ (b = false ∧ c.kind ≠ 6)) := by
  have hn : One' Value.nilIface := ⟨rfl, rfl⟩
  cases c with
  | scale o c => exact ⟨o.val, c.val, true, fun xT w => isScale _ xT w, o.one' h.1, c.one' h.2, .inl ⟨rfl, rfl⟩⟩
  | odd v =>
    rcases h with rfl | ⟨t, x, rfl, _, _, _, _, _, h6, _⟩
    · exact ⟨_, _, false, fun xT w => nilScale xT w, hn, hn, .inr ⟨rfl, by simp [C.kind]⟩⟩
    · exact ⟨_, _, false, fun xT w => notScale t x xT w h6, hn, hn, .inr ⟨rfl, by simp [C.kind]⟩⟩
  | _ => exact ⟨_, _, false, fun xT w => notScale _ _ xT w (by decide), hn, hn, .inr ⟨rfl, by simp [C.kind]⟩⟩
theorem if_part (c : C) (h : c.Ok) : ∃ (o l r : Value) (b : Bool), (∀ xT w, (Instr.typeAssert c.val xT 111 true).run Tryz.prog w = .ok (.tuple #[.agg #[o, l, r], .bool b]) w) ∧ One' o ∧ One' l ∧ One' r ∧ ((b = true ∧ c.kind = 8) ∨ (b = false ∧ c.kind ≠ 8)) := by
  have hn : One' Value.nilIface := ⟨rfl, rfl⟩
  cases c with
  | iff o l r => exact ⟨o.val, l.val, r.val, true, fun xT w => isIf _ xT w, o.one' h.1, l.one' h.2.1, r.one' h.2.2, .inl ⟨rfl, rfl⟩⟩
  | odd v =>
    rcases h with rfl | ⟨t, x, rfl, _, _, _, _, _, _, _, h8⟩
    · exact ⟨_, _, _, false, fun xT w => nilIf xT w, hn, hn, hn, .inr ⟨rfl, by simp [C.kind]⟩⟩
    · exact ⟨_, _, _, false, fun xT w => notIf t x xT w h8, hn, hn, hn, .inr ⟨rfl, by simp [C.kind]⟩⟩
  | _ => exact ⟨_, _, _, false, fun xT w => notIf _ _ xT w (by decide), hn, hn, hn, .inr ⟨rfl, by simp [C.kind]⟩⟩
theorem plain_parts (c : C) (h6 : c.kind ≠ 6) (h8 : c.kind ≠ 8) : c.nums = [] := by
  cases c <;> simp [C.nums, C.kind] at h6 h8 ⊢

end Go.Proofs.YtkioolbjmcpjpaaGreatDoor
namespace Go.Proofs.YtkioolbjmcpjpaaGreatDoor
open Go.RowKit
set_option linter.unusedVariables false

mutual
/-- The labels of a tree's Ors, in order. -/
def T.labs : T → List ByteArray
  | .mk kind s _ k => (if kind = 5 then [s] else []) ++ labsL k
def labsL : List T → List ByteArray
  | [] => []
  | t :: l => t.labs ++ labsL l
end
mutual
/-- How many trees there are in a tree. -/
def T.cnt : T → Nat
  | .mk _ _ _ k => cntL k + 1
def cntL : List T → Nat
  | [] => 0
  | t :: l => t.cnt + cntL l
end
theorem labsL_snoc (l : List T) (k : T) : labsL (l ++ [k]) = labsL l ++ k.labs := by
  induction l with
  | nil => simp [labsL]
  | cons a l ih => simp [labsL, ih]
theorem cntL_snoc (l : List T) (k : T) : cntL (l ++ [k]) = cntL l + k.cnt := by
  induction l with
  | nil => simp [cntL]
  | cons a l ih => simp [cntL, ih]; omega
theorem cntL_take (l : List T) (i : Nat) : cntL (l.take i) ≤ cntL l := by
  induction l generalizing i with
  | nil => simp [cntL]
  | cons a l ih => cases i with
    | zero => simp [cntL]
    | succ i => simp [cntL]; exact ih i
theorem cntL_mem (l : List T) (t : T) (h : t ∈ l) : t.cnt ≤ cntL l := by
  induction l with
  | nil => simp at h
  | cons a l ih =>
    simp only [List.mem_cons] at h
    simp only [cntL]
    rcases h with rfl | h
    · omega
    · have := ih h; omega
theorem labs_cnt : ∀ t : T, t.labs.length ≤ t.cnt := by
  intro t
  induction t using T.ind with
  | _ kind s n k ih =>
    have h : (labsL k).length ≤ cntL k := by
      induction k with
      | nil => simp [labsL]
      | cons a l ihl =>
        have h1 := ih a (by simp)
        have h2 := ihl (fun t ht => ih t (by simp [ht]))
        simp only [labsL, cntL, List.length_append]
        omega
    unfold T.labs T.cnt
    rw [List.length_append]
    split <;> simp <;> omega
theorem labsL_cnt (l : List T) : (labsL l).length ≤ cntL l := by
  induction l with
  | nil => simp [labsL]
  | cons a l ih => have := labs_cnt a; simp only [labsL, cntL, List.length_append]; omega

set_option maxHeartbeats 4000000 in
set_option maxRecDepth 100000 in
theorem refLabels_any (t : T) : t.cnt ≤ 999990 → ∀ (w : World) (v : Value), TIn w 0 t v → Calls Tryz.prog 86 #[v] w fun e w' => ∃ v', e = .returned v' ∧ w'.ownsRow w.heap.size 9 1 v' t.labs.length (strCells t.labs) ∧ Below w.heap.size w w' := by
  induction t using T.ind with
  | _ kind s n k ih =>
  intro hcnt w v hv
  have hkl := len_cap hv
  obtain ⟨a, cap, rfl, hc1, hc2, hK⟩ := hv
  simp only [T.kind, T.s, T.n, T.k] at hc1 hK hkl ⊢
  obtain ⟨i0, gi, gz0, gz1, gz2⟩ := info_parts infoStr
  have hct : (T.mk kind s n k).cnt = cntL k + 1 := by rw [T.cnt]
  rw [hct] at hcnt
  have HIH : Hid (∀ t ∈ k, ∀ (w : World) (v : Value), TIn w 0 t v → Calls Tryz.prog 86 #[v] w fun e w' => ∃ v', e = .returned v' ∧ w'.ownsRow w.heap.size 9 1 v' t.labs.length (strCells t.labs) ∧ Below w.heap.size w w') := fun t ht => ih t ht (by have := cntL_mem k t ht; omega)
  have HLT0 : Hid ((T.mk kind s n k).labs = (if kind = 5 then [s] else []) ++ labsL k) := by unfold Hid; rw [T.labs]
  have HK := hidIn hK
  have HCN := hidIn hcnt
  clear ih hK hct
  go_enter Tryz.func86, Tryz.ntmps86
  go_upto_if 7 with fail
  obtain ⟨W, hW⟩ : ∃ W, W = w.alloc (.cells #[.int .i64 kind, .string s, .int .i64 n, .slice a k.length cap] 33) := ⟨_, rfl⟩
  have HB : Hid (Below w.heap.size w W) := by rw [hW]; exact below_alloc (Below.refl _ _) _
  have HBK : Hid (W.heap[w.heap.size]? = some (.cells #[.int .i64 kind, .string s, .int .i64 n, .slice a k.length cap] 33 (0, 0))) := by rw [hW]; exact heap_alloc_new _ _
  rw [← hW]
  clear hW
  go_cut [3] (fun s3 wx => wx.ownsRow W.heap.size 9 1 s3 (if kind = 5 then [s] else []).length (strCells (if kind = 5 then [s] else [])) ∧ Below W.heap.size W wx)
  case first =>
    by_cases h5 : kind = 5
    · have h5' : (kind == 5) = true := by simp [h5]
      have hcl := (cell_of_row _ _ 1 _ _ _ HBK.out)
      rw [show (#[.int .i64 kind, .string s, .int .i64 n, .slice a k.length cap] : Array Value)[1]? = some (.string s) from rfl] at hcl
      have HIF : Hid ((if kind = 5 then [s] else []) = [s]) := by unfold Hid; rw [if_pos h5]
      clear h5
      go_wp2_with (first
        | (at_builtin; refine wpList_append_own _ rfl _ _ 23 rfl W.heap.size 9 i0 (.string ByteArray.empty) 1 16 Tryz.underlying23 gi gz0 gz1 gz2 rfl (by decide) _ _ _ rfl (World.ownsRow_nil _ _ _ _) ⟨W.heap.size, 0, none⟩ 1 1 [.string s] rfl rfl (cell_one_in rfl _ _) (by intro u hu; simp at hu; subst hu; rfl) (by unfold maxLen; omega) (by omega) (by simp) ?_; intro v2 w2 hown2 hgrow2 _)
        | go_in)
      go_meet
      case rel =>
        have h1 : Below W.heap.size W (W.alloc (.cells #[.string s] 9)) := below_alloc (Below.refl _ _) _
        exact ⟨by rw [HIF.out]; simpa [strCells] using hown2, h1.grown hgrow2 (by simp) (fun j hj => by cases hj)⟩
    · have h5' : (kind == 5) = false := by simp [h5]
      have HIF : Hid ((if kind = 5 then [s] else []) = ([] : List ByteArray)) := by unfold Hid; rw [if_neg h5]
      clear h5
      go_wp2_with fail
      go_meet
      case rel => exact ⟨by rw [HIF.out]; exact World.ownsRow_nil _ _ _ _, Below.refl _ _⟩
  case rest =>
    obtain ⟨hrow, hbx⟩ := hcut
    generalize hl0 : (if kind = 5 then [s] else []) = l0 at *
    have hl1 : l0.length ≤ 1 := by rw [← hl0]; split <;> simp
    clear hl0
    have HROW0 := hidIn hrow
    have HBX := hidIn hbx
    have HG : Hid (∀ X, Below W.heap.size W X → X.cell? ⟨w.heap.size, 3, none⟩ = some (.slice a k.length cap)) := fun X hX => (cell_of_row _ _ _ _ _ _ ((hX.block _ (Array.getElem?_eq_some_iff.1 HBK.out).1).trans HBK.out)).trans rfl
    have HKW : Hid (KAt W 0 k a 0) := HK.out.below HB.out
    have g3 := HG.out wc hbx
    clear hrow hbx HBK HK
    go_wp2_with fail
    clear g3
    go_loopw [16, 3] (fun s16 s3 wr => ∃ i : Nat, i ≤ k.length ∧ s16 = .int .i64 i ∧ wr.ownsRow W.heap.size 9 1 s3 (l0 ++ labsL (k.take i)).length (strCells (l0 ++ labsL (k.take i))) ∧ Below W.heap.size W wr) (fun s16 _ _ => k.length - (intOf s16).toNat)
    case atStart => exact ⟨0, by omega, rfl, by simpa [labsL] using HROW0.out, HBX.out⟩
    case round =>
      clear HROW0 HBX
      obtain ⟨i, hi, rfl, hrow, hbr⟩ := hrel
      have HROW := hidIn hrow
      have HBR := hidIn hbr
      by_cases hlt : i < k.length
      · have hlt' : (i : Int) < (k.length : Int) := by omega
        obtain ⟨t, hti⟩ : ∃ t, k[i]? = some t := ⟨_, List.getElem?_eq_getElem hlt⟩
        obtain ⟨b, o, ka, ca, rfl, c0, c1, c2, c3, ht⟩ := (HKW.out.below hbr).cells hti
        have g3 := HG.out wr hbr
        have HM : Hid (t ∈ k) := List.mem_of_getElem? hti
        have HTI := hidIn ht
        have htk := take_more _ _ _ hti
        have HT3 : Hid (l0 ++ labsL (k.take (i + 1)) = (l0 ++ labsL (k.take i)) ++ t.labs) := by unfold Hid; rw [htk, labsL_snoc, List.append_assoc]
        have HLEN : Hid ((l0 ++ labsL (k.take i)).length + t.labs.length ≤ 1000000) := by
          have h1 := labs_cnt t
          have h2 := labsL_cnt (k.take i)
          have h3 := cntL_take k (i + 1)
          rw [htk, cntL_snoc] at h3
          have := HCN.out
          rw [List.length_append]
          show _ ≤ _
          omega
        clear hti htk ht hrow hbr
        generalize l0 ++ labsL (k.take i) = L at *
        go_wp2_with fail
        refine (HIH.out t HM.out wr _ HTI.out).mono ?_
        rintro e w4 ⟨v4, rfl, hrow4, hb4⟩
        have HB4 := hidIn (HBR.out.trans (hb4.mono HBR.out.size))
        have HROW4 := hidIn (ownsRow_below HROW.out hb4)
        have HNEW := hidIn hrow4
        clear hb4 hrow4 c0 c1 c2 c3 g3 HTI
        go_wp2_with (first
          | (at_builtin; refine wpList_append_rows _ rfl _ _ rfl W.heap.size _ L rfl HROW4.out wr.heap.size _ t.labs rfl HNEW.out HLEN.out HB4.out.size ?_; intro v5 w5 hown5 hgrow5 hloc5)
          | go_in)
        have HB5 : Hid (Below W.heap.size W w5) := HB4.out.grown hgrow5 HB4.out.size (fun j hj => (HROW4.out.lt j hj).1)
        have HOWN5 := hidIn hown5
        clear hown5 hgrow5 hloc5
        go_wp2_with fail
        go_roundw
        case rel => exact ⟨i + 1, by omega, by go_num, by rw [HT3.out]; exact HOWN5.out, HB5.out⟩
        case measure => simp [intOf]; omega
      · have hle : i = k.length := by omega
        subst hle
        have HE : Hid (wr.ownsRow W.heap.size 9 1 u3 (l0 ++ labsL k).length (strCells (l0 ++ labsL k))) := by have h := HROW.out; rw [List.take_length] at h; exact h
        clear hrow HROW hbr
        go_wp2_with fail
        go_ret
        refine ⟨_, rfl, ?_, HB.out.trans (HBR.out.mono HB.out.size)⟩
        rw [HLT0.out]
        exact ownsRow_base HE.out HB.out.size

end Go.Proofs.YtkioolbjmcpjpaaGreatDoor
namespace Go.Proofs.YtkioolbjmcpjpaaGreatDoor.Ev
open Go.RowKit
set_option linter.unusedVariables false

theorem store_row_run {o : Oper} {a : Act} {W : World} (ty : TypeId) (x y : Operand) (ho : o.op = .store ty x y) (g : Nat) (cells : Array Value) (hx : a.eval x = .pointer (some ⟨g, 0, none⟩)) (hy : a.eval y = .agg cells) (t : TypeId) (old : Array Value)
    (hg : W.heap[g]? = some (.cells old t (0, 0))) (hi : (Tryz.prog.info? ty).map (·.size) = some cells.size) (hold : old.size = cells.size) (h1 : cells.all (·.oneCell') = true) : (execOp a.eval o).run Tryz.prog W = .ok .skip (W.setRow g cells) := by
  unfold execOp
  simp only [ho, hx, hy, Instr.storeAt, Instr.sureAddr, Sem.run_bind, Sem.run_pure, Result.andThen_ok, run_storeVar_row W g t ty old cells hg hi hold h1]
theorem row_below {B g : Nat} {w W : World} (h : Below B w W) (hg : B ≤ g) (cs : Array Value) : Below B w (W.setRow g cs) :=
  ⟨h.os, h.tape, h.output, by rw [size_setRow]; exact h.size, fun k hk => (setRow_other W g k cs (by omega)).trans (h.block k hk)⟩

end Go.Proofs.YtkioolbjmcpjpaaGreatDoor.Ev
