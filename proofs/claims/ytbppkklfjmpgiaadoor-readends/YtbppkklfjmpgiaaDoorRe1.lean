/- A word, and its parts between brackets: what package write puts together. -/
import Derived.Test.YtbppkklfjmpgiaaDoorObs
import Derived.Test.YtbppkklfjmpgiaaDoorShelf
import Derived.Lib.ItoaLen
import Derived.Test.YtbppkklfjmpgiaaDoorObsT
import Derived.Test.YtbppkklfjmpgiaaDoorTermV
import Derived.Shelf.Unicode.PredsPay
import Derived.Test.YtbppkklfjmpgiaaDoorSize
import Derived.Test.YtbppkklfjmpgiaaDoorTermSize
import Derived.Test.YtbppkklfjmpgiaaDoorNames
import Derived.Test.YtbppkklfjmpgiaaDoorTermForm
import Derived.Test.YtbppkklfjmpgiaaDoorTermWalk
import Derived.Test.YtbppkklfjmpgiaaDoorRun2
import Derived.Test.YtbppkklfjmpgiaaDoorMakerObs
namespace Go.Proofs.YtbppkklfjmpgiaaDoor
open Go.RowKit
set_option linter.unusedVariables false

theorem hidIn' {p : Prop} (h : p) : Hid p := h
/-- A word, and its parts. -/
def joinT (word : ByteArray) (xs : List ByteArray) : ByteArray := word ++ ⟨#[40]⟩ ++ ⟨(Lib.join (xs.map (·.data.toList)) [44]).toArray⟩ ++ ⟨#[41]⟩

set_option maxHeartbeats 1000000 in
set_option maxRecDepth 100000 in
theorem join_any (word : ByteArray) (bk c : Nat) (xs : List ByteArray) (w : World) (hcells : ∀ (j : Nat) x, xs[j]? = some x → w.cell? ⟨bk, j, none⟩ = some (.string x)) (hbk : bk < w.heap.size) (hcap : xs.length ≤ c) (hN : xs.length ≤ 10) (hw : word.size ≤ 10) (hlen : (Lib.join (xs.map (·.data.toList)) [44]).length ≤ 70368744177664) :
    Calls Tryd.prog 22 #[.string word, .slice (some ⟨bk, 0, none⟩) xs.length c] w fun e w' => e = .returned (.string (joinT word xs)) ∧ Below w.heap.size w w' := by
  have HJ : Hid (joinT word xs = word ++ ⟨#[40]⟩ ++ ⟨(Lib.join (xs.map (·.data.toList)) [44]).toArray⟩ ++ ⟨#[41]⟩) := rfl
  have HC : Hid (Calls Tryd.prog 49 #[.slice (some ⟨bk, 0, none⟩) xs.length c, .string ⟨#[44]⟩] w fun e w' => e = .returned (.string ⟨(Lib.join (xs.map (·.data.toList)) [44]).toArray⟩) ∧ Below w.heap.size w w') :=
    Tryd.strings_Join bk 0 c xs ⟨#[44]⟩ w (fun j x hj => by rw [Nat.zero_add]; exact hcells j x hj) hbk (by omega) hcap (by show (Lib.join _ [44]).length ≤ _; omega)
  have hl2 : (Lib.join (xs.map (·.data.toList)) [44]).toArray.size ≤ 70368744177664 := by simpa using hlen
  clear hcells
  generalize Lib.join (xs.map (·.data.toList)) [44] = L at *
  go_enter Tryd.func22, Tryd.ntmps22
  go_wp2_with fail
  refine HC.out.mono ?_
  rintro e w1 ⟨rfl, hb1⟩
  have HB1 := hidIn' hb1
  clear hb1
  have hs : (word ++ (⟨#[40]⟩ : ByteArray)).size = word.size + 1 := by rw [ByteArray.size_append]; rfl
  have hs2 : (⟨L.toArray⟩ : ByteArray).size ≤ 70368744177664 := hl2
  go_wp2_with fail
  go_ret
  exact ⟨by rw [HJ.out]; rfl, HB1.out⟩

end Go.Proofs.YtbppkklfjmpgiaaDoor
namespace Go.Proofs.YtbppkklfjmpgiaaDoor
open Go.RowKit
set_option linter.unusedVariables false

theorem below_growing (w : World) (k : Nat) (os : Array Obj) : Below w.heap.size w (Go.Sort.grow (w.drewN k) os) :=
  ⟨rfl, rfl, rfl, by show w.heap.size ≤ (w.heap ++ os).size; simp, fun i hi => by show (w.heap ++ os)[i]? = _; rw [Array.getElem?_append_left hi]⟩
/-- The text of a number that is none of the others. -/
def numT (n : Int) : ByteArray := ⟨(Lib.itoa n).toArray⟩
/-- The tables that strconv reads are as they were laid. -/
def TabW (w : World) : Prop := Lib.TabIs Tryd.prog w "internal/strconv.uint64pow10" .u64 Lib.pow10Tab
theorem itoa_any (n : Int) (h0 : -9223372036854775808 ≤ n) (h1 : n ≤ 9223372036854775807) (w : World) (h : TabW w) : Calls Tryd.prog 24 #[.int .i64 n] w fun e w' => e = .returned (.string (numT n)) ∧ Below w.heap.size w w' :=
  (Tryd.strconv_Itoa n h0 h1 w h).mono fun e w' ⟨he, k, os, hw⟩ => ⟨he, by rw [hw]; exact below_growing w k os⟩
theorem numT_size (n : Int) (h0 : -9223372036854775808 ≤ n) (h1 : n ≤ 9223372036854775807) : (numT n).size ≤ 21 := by
  have := Lib.itoa_length_le n h0 h1
  show (Lib.itoa n).toArray.size ≤ 21
  simpa using this
def textO : O → ByteArray
  | .const n => numT n
  | .fix s => joinT ⟨#[102, 105, 120]⟩ [s]
  | .add l r => joinT ⟨#[97, 100, 100]⟩ [textO l, textO r]
  | .neg o => joinT ⟨#[110, 101, 103]⟩ [textO o]
  | .mul l r => joinT ⟨#[109, 117, 108]⟩ [textO l, textO r]
  | .max l r => joinT ⟨#[109, 97, 120]⟩ [textO l, textO r]
  | .odd _ => ⟨#[]⟩
/-- An assertion with one value. -/
theorem assert_one {P : Program} {t : TypeId} {u : TypeDesc} (hu : P.underlying t = some u) (hn : ∀ m, u ≠ .interface m) (v : Value) (xT : TypeId) (w : World) :
    (Instr.typeAssert (.iface t v) xT t false).run P w = .ok v w := by
  cases u <;> first | (exfalso; exact hn _ rfl) | simp [Instr.typeAssert, run_underlying hu]

end Go.Proofs.YtbppkklfjmpgiaaDoor
namespace Go.Proofs.YtbppkklfjmpgiaaDoor
open Go.RowKit
set_option linter.unusedVariables false

/-- What is known of an operation's value: which it may be, and what is known of it from then on. -/
structure Mode where
  ok : Value → Prop
  some' : ∃ u, ok u
  fact : Value → World → Prop
/-- What is known of the slots. -/
abbrev Kn := Nat → World → Prop
def kput (k : Kn) : Option Tmp → (World → Prop) → Kn
  | none, _ => k
  | some d, f => fun s => if s = d then f else k s
theorem kput_ne (k : Kn) (dst : Option Tmp) (f : World → Prop) (s : Nat) (h : dst ≠ some s) : kput k dst f s = k s := by
  cases dst with
  | none => rfl
  | some d => simp only [kput]; rw [if_neg (fun e => h (by rw [e]))]
theorem kput_comm (k : Kn) (d e : Option Tmp) (f g : World → Prop) (h : ∀ x, d = some x → e ≠ some x) : kput (kput k d f) e g = kput (kput k e g) d f := by
  cases d with
  | none => rfl
  | some d =>
    cases e with
    | none => rfl
    | some e =>
      have hne : e ≠ d := fun x => h d rfl (by rw [x])
      funext s
      simp only [kput]
      by_cases h1 : s = e
      · subst h1; rw [if_pos rfl, if_neg hne, if_pos rfl]
      · by_cases h2 : s = d
        · subst h2; rw [if_neg h1, if_pos rfl, if_pos rfl]
        · rw [if_neg h1, if_neg h2, if_neg h2, if_neg h1]

section
variable {P : Program} {ops : Array Oper} {md : Region.Mode} {C : World → Prop} {Le : World → World → Prop} {M : Nat → Mode}

def growUpon (P : Program) (Le : World → World → Prop) (m : Mode) (w : World) : Result Next → Prop
  | .ok (.value u) w' => Le w w' ∧ m.ok u ∧ m.fact u w'
  | .ok .skip w' => Le w w' ∧ m.ok undef ∧ m.fact undef w'
  | .ok (.enter f args) w' => w' = w ∧ Calls P f args w (fun e w'' => ∃ v, e = .returned v ∧ Le w w'' ∧ m.ok v ∧ m.fact v w'')
  | _ => False
def growAt (P : Program) (o : Oper) (a : Act) (Le : World → World → Prop) (m : Mode) (w : World) : Prop := growUpon P Le m w ((execOp a.eval o).run P w)
/-- What is asked of an operation that comes up. -/
def grow (P : Program) (ops : Array Oper) (C : World → Prop) (Le : World → World → Prop) (m : Mode) (o : Oper) (a : Act) (k : Kn) (K : Act → Kn → Prop) : Prop :=
  (∀ u w w', Le w w' → m.fact u w → m.fact u w') ∧ (∀ w, C w → (∀ s ∈ o.looksAt ops, k s w) → growAt P o a Le m w) ∧ ∀ u, m.ok u → K (a.put o.dst u) (kput k o.dst (m.fact u))
def wpGrow (P : Program) (ops : Array Oper) (C : World → Prop) (Le : World → World → Prop) (M : Nat → Mode) (Q : Act → Kn → Prop) : Nat → List Oper → Act → Kn → Prop
  | _, [], a, k => Q a k
  | i, o :: rest, a, k => if Region.wanted o (yielded ops a.tmps) then grow P ops C Le (M i) o a k (wpGrow P ops C Le M Q (i + 1) rest) else wpGrow P ops C Le M Q (i + 1) rest (a.put o.dst undef) (kput k o.dst (fun _ => True))
def gOp (P : Program) (ops : Array Oper) (C : World → Prop) (Le : World → World → Prop) (M : Nat → Mode) (i : Nat) (K : Act → Kn → Prop) (a : Act) (k : Kn) : Prop :=
  match ops[i]? with
  | none => K a k
  | some o => if Region.wanted o (yielded ops a.tmps) then grow P ops C Le (M i) o a k K else K (a.put o.dst undef) (kput k o.dst (fun _ => True))
theorem grow_mono {m : Mode} {o : Oper} {a : Act} {k : Kn} {K K' : Act → Kn → Prop} (h : ∀ a k, K a k → K' a k) (hh : grow P ops C Le m o a k K) : grow P ops C Le m o a k K' :=
  ⟨hh.1, hh.2.1, fun u hu => h _ _ (hh.2.2 u hu)⟩
theorem gOp_mono {i : Nat} {a : Act} {k : Kn} {K K' : Act → Kn → Prop} (h : ∀ a k, K a k → K' a k) (hh : gOp P ops C Le M i K a k) : gOp P ops C Le M i K' a k := by
  unfold gOp at *
  split
  · exact h _ _ (by simpa [*] using hh)
  · rename_i o ho
    simp only [ho] at hh
    split
    · rename_i hw; simp only [hw, if_true] at hh; exact grow_mono h hh
    · rename_i hw; simp only [hw] at hh; exact h _ _ hh
def wpAnyG (P : Program) (md : Region.Mode) (ops : Array Oper) (C : World → Prop) (Le : World → World → Prop) (M : Nat → Mode) (Q : Act → Kn → Prop) : Nat → Array Bool → Act → Kn → Prop
  | 0, listed, a, k => Region.ready md ops listed = [] ∧ Q a k
  | fuel + 1, listed, a, k => (Region.ready md ops listed = [] → Q a k) ∧ ∀ i ∈ Region.ready md ops listed, gOp P ops C Le M i (wpAnyG P md ops C Le M Q fuel (listed.setIfInBounds i true)) a k
/-- What is known stays known. -/
def Stays (Le : World → World → Prop) (k : Kn) : Prop := ∀ s w w', Le w w' → k s w → k s w'
theorem Stays.put {k : Kn} (h : Stays Le k) (dst : Option Tmp) {f : World → Prop} (hf : ∀ w w', Le w w' → f w → f w') : Stays Le (kput k dst f) := by
  cases dst with
  | none => exact h
  | some d =>
    intro s w w' hle hk
    simp only [kput] at hk ⊢
    split
    · rename_i e; rw [if_pos e] at hk; exact hf w w' hle hk
    · rename_i e; rw [if_neg e] at hk; exact h s w w' hle hk
theorem all_put {k : Kn} {w : World} (h : ∀ s, k s w) (dst : Option Tmp) {f : World → Prop} (hf : f w) : ∀ s, kput k dst f s w := by
  cases dst with
  | none => exact h
  | some d =>
    intro s
    simp only [kput]
    split
    · exact hf
    · exact h s
theorem wp_of_grow {o : Oper} {m : Mode} {a : Act} {k : Kn} {K : Act → Kn → Prop} {K' : Act → World → Prop} {Q' : Exit → Act → World → Prop} {w : World} (hCL : ∀ w w', C w → Le w w' → C w') (hs : Stays Le k) (hw : C w) (hk : ∀ s, k s w)
    (h : ∀ a k w', Stays Le k → C w' → (∀ s, k s w') → K a k → K' a w') (hh : grow P ops C Le m o a k K) : o.wp P a w K' Q' := by
  obtain ⟨h0, h1, h2⟩ := hh
  have h3 := h1 w hw (fun s _ => hk s)
  unfold growAt at h3
  unfold Oper.wp
  generalize (execOp a.eval o).run P w = r at *
  cases r with
  | ok n w' =>
    cases n <;> simp only [growUpon] at h3 <;> simp only [Oper.upon]
    case value u =>
      obtain ⟨e1, e2, e3⟩ := h3
      exact h _ _ _ (hs.put o.dst (h0 u)) (hCL w w' hw e1) (all_put (fun s => hs s w w' e1 (hk s)) o.dst e3) (h2 u e2)
    case skip =>
      obtain ⟨e1, e2, e3⟩ := h3
      exact h _ _ _ (hs.put o.dst (h0 undef)) (hCL w w' hw e1) (all_put (fun s => hs s w w' e1 (hk s)) o.dst e3) (h2 undef e2)
    case enter f args =>
      obtain ⟨e1, hc⟩ := h3
      rw [e1]
      refine hc.mono fun e w'' ⟨v, he, e1, e2, e3⟩ => ?_
      subst he
      exact h _ _ _ (hs.put o.dst (h0 v)) (hCL w w'' hw e1) (all_put (fun s => hs s w w'' e1 (hk s)) o.dst e3) (h2 v e2)
  | halt x w' => simp only [growUpon] at h3
theorem wpOp_of_gOp {i : Nat} {a : Act} {k : Kn} {K : Act → Kn → Prop} {K' : Act → World → Prop} {Q' : Exit → Act → World → Prop} {w : World} (hCL : ∀ w w', C w → Le w w' → C w') (hs : Stays Le k) (hw : C w) (hk : ∀ s, k s w)
    (h : ∀ a k w', Stays Le k → C w' → (∀ s, k s w') → K a k → K' a w') (hh : gOp P ops C Le M i K a k) : wpOp P ops Q' i K' a w := by
  unfold gOp at hh
  unfold wpOp
  split
  · rename_i ho; simp only [ho] at hh; exact h _ _ _ hs hw hk hh
  · rename_i o ho
    simp only [ho] at hh
    split
    · rename_i hwt; simp only [hwt, if_true] at hh; exact .inl (wp_of_grow hCL hs hw hk h hh)
    · rename_i hwt; simp only [hwt] at hh; exact h _ _ _ (hs.put o.dst (fun _ _ _ h => h)) hw (all_put hk o.dst trivial) hh
theorem wpAny_of_grow {Q : Act → Kn → Prop} {Q' : Exit → Act → World → Prop} (hCL : ∀ w w', C w → Le w w' → C w') (hQ : ∀ a k w, C w → (∀ s, k s w) → Q a k → Q' .normal a w) : ∀ (fuel : Nat) (listed : Array Bool) (a : Act) (k : Kn) (w : World), Stays Le k → C w → (∀ s, k s w) →
    wpAnyG P md ops C Le M Q fuel listed a k → wpAny P md ops Q' fuel listed a w
  | 0, _, _, _, _, hs, hw, hk, h => ⟨h.1, hQ _ _ _ hw hk h.2⟩
  | fuel + 1, _, _, _, _, hs, hw, hk, h => ⟨fun h0 => hQ _ _ _ hw hk (h.1 h0), fun i hi => wpOp_of_gOp hCL hs hw hk (fun a' k' w' hs' hw' hk' => wpAny_of_grow hCL hQ fuel _ a' k' w' hs' hw' hk') (h.2 i hi)⟩
/-- What an operation yields: the values that it may, and what is known of them. -/
def YieldsG (P : Program) (ops : Array Oper) (C : World → Prop) (Le : World → World → Prop) (m : Mode) (o : Oper) (ok : Value → Prop) (f : Value → World → Prop) (a : Act) (k : Kn) : Prop :=
  (Region.wanted o (yielded ops a.tmps) = true ∧ ok = m.ok ∧ f = m.fact ∧ (∀ u w w', Le w w' → m.fact u w → m.fact u w') ∧ ∀ w, C w → (∀ s ∈ o.looksAt ops, k s w) → growAt P o a Le m w) ∨
  (Region.wanted o (yielded ops a.tmps) = false ∧ ok = (fun u => u = undef) ∧ f = fun _ _ => True)
theorem YieldsG.gOp {i : Nat} {o : Oper} {ok : Value → Prop} {f : Value → World → Prop} {a : Act} {k : Kn} (hi : ops[i]? = some o) (hy : YieldsG P ops C Le (M i) o ok f a k) {K : Act → Kn → Prop} (h : ∀ u, ok u → K (a.put o.dst u) (kput k o.dst (f u))) : gOp P ops C Le M i K a k := by
  unfold Go.Proofs.YtbppkklfjmpgiaaDoor.gOp
  simp only [hi]
  rcases hy with ⟨hw, rfl, rfl, h0, hv⟩ | ⟨hw, rfl, rfl⟩
  · simp only [hw, if_true]; exact ⟨h0, hv, h⟩
  · simp only [hw, Bool.false_eq_true, if_false]; exact h undef rfl
theorem looks_put {o : Oper} {k : Kn} {dst : Option Tmp} {f : World → Prop} {w : World} (h : ∀ d, dst = some d → d ∉ o.looksAt ops) : (∀ s ∈ o.looksAt ops, kput k dst f s w) ↔ ∀ s ∈ o.looksAt ops, k s w := by
  constructor
  · intro hk s hs
    have := hk s hs
    rwa [kput_ne k dst f s (fun e => h s e hs)] at this
  · intro hk s hs
    rw [kput_ne k dst f s (fun e => h s e hs)]
    exact hk s hs
theorem YieldsG.of_same {m : Mode} {o : Oper} {ok : Value → Prop} {f : Value → World → Prop} {a a' : Act} {k k' : Kn} (hy : YieldsG P ops C Le m o ok f a k) (he : execOp a'.eval o = execOp a.eval o)
    (hw : Region.wanted o (yielded ops a'.tmps) = Region.wanted o (yielded ops a.tmps)) (hk : ∀ w, (∀ s ∈ o.looksAt ops, k' s w) → ∀ s ∈ o.looksAt ops, k s w) : YieldsG P ops C Le m o ok f a' k' := by
  rcases hy with ⟨h1, h2, h3, h4, h5⟩ | ⟨h1, h2, h3⟩
  · refine .inl ⟨by rw [hw]; exact h1, h2, h3, h4, fun w hC hl => ?_⟩
    have := h5 w hC (hk w hl)
    unfold growAt at *
    rwa [he]
  · exact .inr ⟨by rw [hw]; exact h1, h2, h3⟩
theorem yields_some {m : Mode} {o : Oper} {ok : Value → Prop} {f : Value → World → Prop} {a : Act} {k : Kn} (hy : YieldsG P ops C Le m o ok f a k) : ∃ u, ok u := by
  rcases hy with ⟨_, rfl, _⟩ | ⟨_, rfl, _⟩
  · exact m.some'
  · exact ⟨_, rfl⟩
theorem gOp_put {j : Nat} {m : Mode} {oi oj : Oper} {ok : Value → Prop} {f : Value → World → Prop} (hj : ops[j]? = some oj) (hap : oi.apart ops oj = true)
    (hsi : ∀ cs b, oi.op ≠ .select cs b) (hsj : ∀ cs b, oj.op ≠ .select cs b) {K : Act → Kn → Prop} {a : Act} {k : Kn}
    (hy : YieldsG P ops C Le m oi ok f a k) (h : ∀ u, ok u → gOp P ops C Le M j K (a.put oi.dst u) (kput k oi.dst (f u))) :
    gOp P ops C Le M j (fun a' k' => YieldsG P ops C Le m oi ok f a' k' ∧ ∀ u, ok u → K (a'.put oi.dst u) (kput k' oi.dst (f u))) a k := by
  obtain ⟨h1, h2, h3⟩ := Oper.apart_spec hap
  have keep : ∀ u g, YieldsG P ops C Le m oi ok f (a.put oj.dst u) (kput k oj.dst g) := fun u g =>
    hy.of_same (execOp_put oi hsi a oj.dst u h3) (wanted_put oi a oj.dst u h3) (fun w hl => (looks_put h3).1 hl)
  obtain ⟨u0, hu0⟩ := yields_some hy
  unfold gOp at *
  simp only [hj] at *
  by_cases hw : Region.wanted oj (yielded ops a.tmps) = true
  · simp only [hw, if_true]
    have hw' : ∀ u, Region.wanted oj (yielded ops (a.put oi.dst u).tmps) = true := fun u => by rw [wanted_put oj a oi.dst u h1]; exact hw
    simp only [hw', if_true] at h
    refine ⟨(h u0 hu0).1, fun w hC hl => ?_, fun u' hu' => ⟨keep u' _, fun u hu => ?_⟩⟩
    · have := (h u0 hu0).2.1 w hC ((looks_put h1).2 hl)
      unfold growAt at *
      rwa [execOp_put oj hsj a oi.dst u0 h1] at this
    · have := (h u hu).2.2 u' hu'
      rw [← Act.put_comm a u u' h2, ← kput_comm k oi.dst oj.dst _ _ h2]
      exact this
  · have hwf : Region.wanted oj (yielded ops a.tmps) = false := by simpa using hw
    simp only [hwf, Bool.false_eq_true, if_false]
    have hw' : ∀ u, Region.wanted oj (yielded ops (a.put oi.dst u).tmps) = false := fun u => by rw [wanted_put oj a oi.dst u h1]; exact hwf
    simp only [hw', Bool.false_eq_true, if_false] at h
    refine ⟨keep _ _, fun u hu => ?_⟩
    have := h u hu
    rw [← Act.put_comm a u undef h2, ← kput_comm k oi.dst oj.dst _ _ h2]
    exact this
theorem wpAnyG_first {Q : Act → Kn → Prop} {i : Nat} {oi : Oper} {ok : Value → Prop} {f : Value → World → Prop} (hi : ops[i]? = some oi) (hsel : ∀ (j : Nat) (o : Oper) cs b, ops[j]? = some o → o.op ≠ .select cs b) :
    ∀ (fuel : Nat) (listed : Array Bool) (a : Act) (k : Kn),
      (∀ j oj, ops[j]? = some oj → j ≠ i → listed.getD j true = false → (∀ e ∈ oj.after, Region.binds md e = true → e.on ≠ i) → oi.apart ops oj = true) →
      i ∈ Region.ready md ops listed → YieldsG P ops C Le (M i) oi ok f a k →
      (∀ u, ok u → wpAnyG P md ops C Le M Q fuel (listed.setIfInBounds i true) (a.put oi.dst u) (kput k oi.dst (f u))) → wpAnyG P md ops C Le M Q (fuel + 1) listed a k := by
  intro fuel
  induction fuel with
  | zero =>
    intro listed a k _ hr hy H
    refine ⟨fun h => (by rw [h] at hr; cases hr), fun j hj => ?_⟩
    by_cases hji : j = i
    · subst hji; exact hy.gOp hi H
    · obtain ⟨u0, hu0⟩ := yields_some hy
      have := ready_mono hj hji
      rw [(H u0 hu0).1] at this
      cases this
  | succ fuel ih =>
    intro listed a k hfree hr hy H
    refine ⟨fun h => (by rw [h] at hr; cases hr), fun j hj => ?_⟩
    by_cases hji : j = i
    · subst hji; exact hy.gOp hi H
    · have h1 : ∀ u, ok u → _ := fun u hu => (H u hu).2 j (ready_mono hj hji)
      obtain ⟨hjun, oj, hoj, hall⟩ := mem_ready.1 hj
      have hnot : ∀ e ∈ oj.after, Region.binds md e = true → e.on ≠ i := fun e he hb heq => by
        have h1 := hall e he hb
        have h0 := (mem_ready.1 hr).1
        rw [heq] at h1
        rcases Nat.lt_or_ge i listed.size with h' | h'
        · simp [h'] at h0 h1; rw [h0] at h1; cases h1
        · simp [Array.getElem?_eq_none h'] at h1
      have h2 := gOp_put hoj (hfree j oj hoj hji hjun hnot) (fun cs b => hsel i oi cs b hi) (fun cs b => hsel j oj cs b hoj) hy h1
      have hfree' : ∀ k ok, ops[k]? = some ok → k ≠ i → (listed.setIfInBounds j true).getD k true = false →
          (∀ e ∈ ok.after, Region.binds md e = true → e.on ≠ i) → oi.apart ops ok = true := fun k ok hk hki hun hno => by
        refine hfree k ok hk hki ?_ hno
        by_cases hjk : j = k
        · subst hjk; exact hjun
        · rw [getD_set_ne true hjk] at hun; exact hun
      refine gOp_mono (fun a' k' h3 => ih (listed.setIfInBounds j true) a' k' hfree' (ready_mono hr (Ne.symm hji)) h3.1 (fun u hu => ?_)) h2
      rw [Array.setIfInBounds_comm _ _ hji]
      exact h3.2 u hu
theorem yieldsG_of_gOp {i : Nat} {o : Oper} {a : Act} {k : Kn} {K : Act → Kn → Prop} (hi : ops[i]? = some o) (h : gOp P ops C Le M i K a k) : ∃ ok f, YieldsG P ops C Le (M i) o ok f a k ∧ ∀ u, ok u → K (a.put o.dst u) (kput k o.dst (f u)) := by
  unfold gOp at h
  simp only [hi] at h
  by_cases hw : Region.wanted o (yielded ops a.tmps) = true
  · simp only [hw, if_true] at h
    exact ⟨_, _, .inl ⟨hw, rfl, rfl, h.1, h.2.1⟩, h.2.2⟩
  · simp only [hw] at h
    exact ⟨_, _, .inr ⟨by simpa using hw, rfl, rfl⟩, fun u hu => by subst hu; exact h⟩
theorem wpAnyG_lex {Q : Act → Kn → Prop} (hs : Region.noSelect ops = true) : ∀ (l : List Oper) (i : Nat) (listed : Array Bool) (a : Act) (k : Kn), (∀ j, l[j]? = ops[i + j]?) →
    Region.lexFrom md ops l.length i listed = true → wpGrow P ops C Le M Q i l a k → wpAnyG P md ops C Le M Q l.length listed a k
  | [], _, _, _, _, _, hB, h => ⟨by simpa [Region.lexFrom] using hB, h⟩
  | o :: l, i, listed, a, k, hl, hB, h => by
    have h0 : ops[i]? = some o := by simpa using (hl 0).symm
    simp only [List.length_cons, Region.lexFrom, Bool.and_eq_true] at hB
    obtain ⟨⟨hr, hf⟩, hB'⟩ := hB
    have hst : gOp P ops C Le M i (wpGrow P ops C Le M Q (i + 1) l) a k := by unfold gOp; simp only [h0]; exact h
    obtain ⟨ok, f, hy, hK⟩ := yieldsG_of_gOp h0 hst
    exact wpAnyG_first h0 (Region.noSelect_spec hs) l.length listed a k (Region.free_spec h0 hf) (by simpa using hr) hy
      (fun u hu => wpAnyG_lex hs l (i + 1) _ _ _ (fun j => by have := hl (j + 1); simpa [Nat.add_assoc, Nat.add_comm 1 j] using this) hB' (hK u hu))
/-- One walk of the text's order serves every order. -/
theorem wp_region_grow {id : Nat} {Q : Exit → Act → World → Prop} {a : Act} {w : World} {l : List Oper} (C : World → Prop) (Le : World → World → Prop) (M : Nat → Mode) (hm : P.follows .mixedOrders = true) (hB : Region.lexB .any l.toArray = true) (hCL : ∀ w w', C w → Le w w' → C w') (hC : C w.drew)
    (h : wpGrow P l.toArray C Le M (fun a' k' => ∀ w', C w' → (∀ s, k' s w') → Q .normal a' w') 0 l a (fun _ _ => True)) : (Code.region id l.toArray true).wp P Q a w := by
  simp only [Region.lexB, Bool.and_eq_true] at hB
  refine wp_region_any hm (wpAny_of_grow (M := M) (Q := fun a' k' => ∀ w', C w' → (∀ s, k' s w') → Q .normal a' w') hCL (fun _ _ w' hw' hk h => h w' hw' hk) _ _ _ (fun _ _ => True) _ (fun _ _ _ _ h => h) hC (fun _ => trivial) ?_)
  have := wpAnyG_lex (C := C) (Le := Le) (M := M) (md := .any) hB.1 l 0 (Array.replicate l.toArray.size false) a (fun _ _ => True) (by simp) (by simpa using hB.2) h
  simpa using this
end
/-- One value. -/
def one (v : Value) : Mode := ⟨fun u => u = v, ⟨v, rfl⟩, fun _ _ => True⟩
/-- Any value of which something is known. -/
def loose (f : Value → World → Prop) : Mode := ⟨fun _ => True, ⟨undef, trivial⟩, f⟩
def modes (l : List Mode) (i : Nat) : Mode := l.getD i (one undef)
theorem wanted_none {o : Oper} {y : Nat → Option Bool} (hg : o.guard = none) : Region.wanted o y = true := by unfold Region.wanted; rw [hg]
theorem wanted_met {ops : Array Oper} {a : Act} {o : Oper} (j d : Nat) (want : Bool) (hg : o.guard = some (j, want)) (hd : (ops[j]?).bind (·.dst) = some d) (hv : a.tmps[d]? = some (.bool want)) : Region.wanted o (yielded ops a.tmps) = true := by
  unfold Region.wanted yielded
  rw [hg]
  simp only [hd, Option.bind_some, hv]
  simp
section
variable {P : Program} {ops : Array Oper} {C : World → Prop} {Le : World → World → Prop} {M : Nat → Mode} {Q : Act → Kn → Prop}
theorem grow_less {i : Nat} {rest : List Oper} (hQ : ∀ a k k', (∀ s w, k' s w → k s w) → Q a k → Q a k') : ∀ {i : Nat} {rest : List Oper} {a : Act} {k k' : Kn}, (∀ s w, k' s w → k s w) → wpGrow P ops C Le M Q i rest a k → wpGrow P ops C Le M Q i rest a k' := by
  intro i rest
  induction rest generalizing i with
  | nil => intro a k k' h hh; exact hQ a k k' h hh
  | cons o rest ih =>
    intro a k k' h hh
    unfold wpGrow at hh ⊢
    have hp : ∀ (f : World → Prop) s w, kput k' o.dst f s w → kput k o.dst f s w := by
      intro f s w
      cases o.dst with
      | none => exact h s w
      | some d =>
        simp only [kput]
        split
        · exact id
        · exact h s w
    split
    · rename_i hw
      rw [if_pos hw] at hh
      exact ⟨hh.1, fun w hC hl => hh.2.1 w hC (fun s hs => h s w (hl s hs)), fun u hu => ih (hp _) (hh.2.2 u hu)⟩
    · rename_i hw
      rw [if_neg hw] at hh
      exact ih (hp _) hh
theorem put_less {k : Kn} {dst : Option Tmp} (hd : ∀ d, dst = some d → ∀ w, k d w) : ∀ s w, kput k dst (fun _ => True) s w → k s w := by
  intro s w
  cases dst with
  | none => exact id
  | some d =>
    simp only [kput]
    split
    · rename_i e; subst e; exact fun _ => hd _ rfl w
    · exact id
/-- An operation that yields one value, and leaves the world. -/
theorem g_runs {i : Nat} {o : Oper} {rest : List Oper} {a : Act} {k : Kn} (v : Value) (hQ : ∀ a k k', (∀ s w, k' s w → k s w) → Q a k → Q a k') (hR : ∀ w, Le w w) (hM : M i = one v) (hw : Region.wanted o (yielded ops a.tmps) = true) (hkd : ∀ d, o.dst = some d → ∀ w, k d w)
    (h : ∀ w, C w → (execOp a.eval o).run P w = .ok (.value v) w) (hk : wpGrow P ops C Le M Q (i + 1) rest (a.put o.dst v) k) : wpGrow P ops C Le M Q i (o :: rest) a k := by
  unfold wpGrow
  rw [if_pos hw, hM]
  refine ⟨fun _ _ _ _ h => h, fun w hC _ => ?_, fun u hu => ?_⟩
  · unfold growAt
    rw [h w hC]
    exact ⟨hR w, rfl, trivial⟩
  · cases hu
    exact grow_less (i := i) (rest := rest) hQ (put_less hkd) hk
/-- A call that answers one value. -/
theorem g_calls {i : Nat} {o : Oper} {rest : List Oper} {a : Act} {k : Kn} (f : FuncId) (args : Array Value) (v : Value) (hQ : ∀ a k k', (∀ s w, k' s w → k s w) → Q a k → Q a k') (hM : M i = one v) (hw : Region.wanted o (yielded ops a.tmps) = true) (hkd : ∀ d, o.dst = some d → ∀ w, k d w)
    (h : ∀ w, C w → (execOp a.eval o).run P w = .ok (.enter f args) w) (hc : ∀ w, C w → (∀ s ∈ o.looksAt ops, k s w) → Calls P f args w (fun e w' => e = .returned v ∧ Le w w')) (hk : wpGrow P ops C Le M Q (i + 1) rest (a.put o.dst v) k) : wpGrow P ops C Le M Q i (o :: rest) a k := by
  unfold wpGrow
  rw [if_pos hw, hM]
  refine ⟨fun _ _ _ _ h => h, fun w hC hl => ?_, fun u hu => ?_⟩
  · unfold growAt
    rw [h w hC]
    exact ⟨rfl, (hc w hC hl).mono fun e w' ⟨h1, h2⟩ => ⟨v, h1, h2, rfl, trivial⟩⟩
  · cases hu
    exact grow_less (i := i) (rest := rest) hQ (put_less hkd) hk
/-- A call of whose answer something is known. -/
theorem g_loose {i : Nat} {o : Oper} {rest : List Oper} {a : Act} {k : Kn} (f : FuncId) (args : Array Value) (φ : Value → World → Prop) (hM : M i = loose φ) (hφ : ∀ u w w', Le w w' → φ u w → φ u w') (hw : Region.wanted o (yielded ops a.tmps) = true)
    (h : ∀ w, C w → (execOp a.eval o).run P w = .ok (.enter f args) w) (hc : ∀ w, C w → (∀ s ∈ o.looksAt ops, k s w) → Calls P f args w (fun e w' => ∃ v, e = .returned v ∧ Le w w' ∧ φ v w')) (hk : ∀ u, wpGrow P ops C Le M Q (i + 1) rest (a.put o.dst u) (kput k o.dst (φ u))) : wpGrow P ops C Le M Q i (o :: rest) a k := by
  unfold wpGrow
  rw [if_pos hw, hM]
  refine ⟨hφ, fun w hC hl => ?_, fun u _ => hk u⟩
  unfold growAt
  rw [h w hC]
  exact ⟨rfl, (hc w hC hl).mono fun e w' ⟨v, h1, h2, h3⟩ => ⟨v, h1, h2, trivial, h3⟩⟩
/-- An operation that yields one value, by what is known of what it reads. -/
theorem g_knows {i : Nat} {o : Oper} {rest : List Oper} {a : Act} {k : Kn} (v : Value) (hQ : ∀ a k k', (∀ s w, k' s w → k s w) → Q a k → Q a k') (hR : ∀ w, Le w w) (hM : M i = one v) (hw : Region.wanted o (yielded ops a.tmps) = true) (hkd : ∀ d, o.dst = some d → ∀ w, k d w)
    (h : ∀ w, C w → (∀ s ∈ o.looksAt ops, k s w) → (execOp a.eval o).run P w = .ok (.value v) w) (hk : wpGrow P ops C Le M Q (i + 1) rest (a.put o.dst v) k) : wpGrow P ops C Le M Q i (o :: rest) a k := by
  unfold wpGrow
  rw [if_pos hw, hM]
  refine ⟨fun _ _ _ _ h => h, fun w hC hl => ?_, fun u hu => ?_⟩
  · unfold growAt
    rw [h w hC hl]
    exact ⟨hR w, rfl, trivial⟩
  · cases hu
    exact grow_less (i := i) (rest := rest) hQ (put_less hkd) hk
/-- An operation that may make memory, and of whose value something is known. -/
theorem g_makes {i : Nat} {o : Oper} {rest : List Oper} {a : Act} {k : Kn} (φ : Value → World → Prop) (hM : M i = loose φ) (hφ : ∀ u w w', Le w w' → φ u w → φ u w') (hw : Region.wanted o (yielded ops a.tmps) = true)
    (h : ∀ w, C w → (∀ s ∈ o.looksAt ops, k s w) → ∃ u w', (execOp a.eval o).run P w = .ok (.value u) w' ∧ Le w w' ∧ φ u w') (hk : ∀ u, wpGrow P ops C Le M Q (i + 1) rest (a.put o.dst u) (kput k o.dst (φ u))) : wpGrow P ops C Le M Q i (o :: rest) a k := by
  unfold wpGrow
  rw [if_pos hw, hM]
  refine ⟨hφ, fun w hC hl => ?_, fun u _ => hk u⟩
  obtain ⟨u, w', h1, h2, h3⟩ := h w hC hl
  unfold growAt
  rw [h1]
  exact ⟨h2, trivial, h3⟩
theorem g_nil {i : Nat} {a : Act} {k : Kn} (h : Q a k) : wpGrow P ops C Le M Q i [] a k := h
theorem looks_at {o : Oper} {s : Nat} (h : Operand.tmp s ∈ o.op.operands.toList) : s ∈ o.looksAt ops :=
  List.mem_append_left _ (List.mem_filterMap.2 ⟨.tmp s, h, rfl⟩)
end
/-- Nothing that was there has turned. -/
def Up (w w' : World) : Prop := Below w.heap.size w w'
theorem Up.refl (w : World) : Up w w := Below.refl _ _
theorem up_class (W : World) : ∀ w w', Below W.heap.size W w → Up w w' → Below W.heap.size W w' := fun w w' h h' => h.trans (h'.mono h.size)
theorem grow_end {C : World → Prop} {R : Act → World → Prop} : ∀ (a : Act) (k k' : Kn), (∀ s w, k' s w → k s w) → (∀ w', C w' → (∀ s, k s w') → R a w') → ∀ w', C w' → (∀ s, k' s w') → R a w' :=
  fun a k k' h hq w' hC hk => hq w' hC (fun s => h s w' (hk s))

end Go.Proofs.YtbppkklfjmpgiaaDoor
namespace Go.Proofs.YtbppkklfjmpgiaaDoor
open Go.RowKit
set_option linter.unusedVariables false

theorem oneMax (v : Value) (xT : TypeId) (w : World) : (Instr.typeAssert (.iface 85 v) xT 85 false).run Tryd.prog w = .ok v w := assert_one Tryd.underlying85 (by intro m h; cases h) v xT w
theorem hidI {p : Prop} (h : p) : Hid p := h
/-- What is known of the calls on the parts. -/
def Writes (o : O) : Prop := ∀ w : World, TabW w → Calls Tryd.prog 23 #[o.val] w fun e w' => e = .returned (.string (textO o)) ∧ Below w.heap.size w w'
theorem tabW_below {w w' : World} (h : TabW w) (hb : Below w.heap.size w w') : TabW w' := by
  cases hg : Tryd.prog.globalNamed "internal/strconv.uint64pow10" with
  | none =>
    exfalso
    unfold TabW Lib.TabIs World.var? at h
    rw [hg] at h
    simp at h
  | some g => exact TabIs_below hg h hb
theorem row1 {w : World} {b t : Nat} {s : ByteArray} (hb : b = w.heap.size) : ∀ (j : Nat) (x : ByteArray), [s][j]? = some x → (w.alloc (.cells #[.string s] t)).cell? ⟨b, j, none⟩ = some (.string x) := by
  intro j x hj
  subst hb
  rw [cell_of_row _ _ _ _ _ _ (heap_alloc_new _ _)]
  match j, hj with
  | 0, hj => simp at hj; subst hj; rfl
theorem row2 {w : World} {b t : Nat} {s u : ByteArray} (hb : b = w.heap.size) : ∀ (j : Nat) (x : ByteArray), [s, u][j]? = some x → (w.alloc (.cells #[.string s, .string u] t)).cell? ⟨b, j, none⟩ = some (.string x) := by
  intro j x hj
  subst hb
  rw [cell_of_row _ _ _ _ _ _ (heap_alloc_new _ _)]
  match j, hj with
  | 0, hj => simp at hj; subst hj; rfl
  | 1, hj => simp at hj; subst hj; rfl
/-- Two texts in a row. -/
def twoF (s u : ByteArray) (v : Value) (w : World) : Prop := ∃ b, v = .slice (some ⟨b, 0, none⟩) 2 2 ∧ b < w.heap.size ∧ ∀ (j : Nat) (x : ByteArray), [s, u][j]? = some x → w.cell? ⟨b, j, none⟩ = some (.string x)
theorem twoF_stays (s u : ByteArray) : ∀ v w w', Up w w' → twoF s u v w → twoF s u v w' := fun v w w' h ⟨b, e, hb, hc⟩ => ⟨b, e, Nat.lt_of_lt_of_le hb (Below.size h), fun j x hj => (Below.cell h (p := ⟨b, j, none⟩) hb).trans (hc j x hj)⟩
set_option maxHeartbeats 1000000 in
set_option maxRecDepth 100000 in
theorem obsText_const (n : Int) (h0 : -9223372036854775808 ≤ n) (h1 : n ≤ 9223372036854775807) : Writes (.const n) := by
  intro w ht
  have a0 := fun v xT w => isConst v xT w
  have HT := hidI ht
  clear ht
  unfold O.val
  go_enter Tryd.func23, Tryd.ntmps23
  go_wp2_with fail
  refine (itoa_any n h0 h1 _ (tabW_below HT.out (below_alloc (Below.refl _ _) _))).mono ?_
  rintro e w1 ⟨rfl, hb1⟩
  have HB := hidI ((below_alloc (Below.refl _ _) (.cells #[.int .i64 n] 77)).trans (hb1.mono (by simp)))
  clear hb1
  go_wp2_with fail
  go_ret
  exact ⟨rfl, HB.out⟩
set_option maxHeartbeats 1000000 in
set_option maxRecDepth 100000 in
theorem obsText_fix (s : ByteArray) (hs : (Lib.join ([s].map (·.data.toList)) [44]).length ≤ 70368744177664) : Writes (.fix s) := by
  intro w ht
  have a0 := fun v xT w => notConst 79 v xT w (by decide)
  have a1 := fun v xT w => isFix v xT w
  have HS := hidI hs
  clear hs ht
  unfold O.val
  go_enter Tryd.func23, Tryd.ntmps23
  go_wp2_with fail
  refine (join_any _ (w.heap.size + 1) 1 [s] _ (row1 (by simp)) (by simp) (by simp) (by simp) (by decide) HS.out).mono ?_
  rintro e w1 ⟨rfl, hb1⟩
  have HB := hidI ((below_alloc (below_alloc (Below.refl w.heap.size w) (.cells #[.string s] 79)) (.cells #[.string s] 9)).trans (hb1.mono (by simp; omega)))
  clear hb1
  go_wp2_with fail
  go_ret
  exact ⟨rfl, HB.out⟩
set_option maxHeartbeats 1000000 in
set_option maxRecDepth 100000 in
theorem obsText_neg (o : O) (q : One' o.val) (ih : Writes o) (hs : (Lib.join ([textO o].map (·.data.toList)) [44]).length ≤ 70368744177664) : Writes (.neg o) := by
  intro w ht
  have a0 := fun v xT w => notConst 83 v xT w (by decide)
  have a1 := fun v xT w => notFix 83 v xT w (by decide)
  have a2 := fun v xT w => notAdd 83 v xT w (by decide)
  have a3 := fun v xT w => isNeg v xT w
  have HS := hidI hs
  have HT := hidI ht
  have HI := hidI ih
  have hs0 := q.store
  have cv0 := q.cells
  have mv0 := q.cells
  unfold Value.cells at mv0
  clear hs ht ih q
  unfold O.val
  go_enter Tryd.func23, Tryd.ntmps23
  go_wp2_with fail
  refine (HI.out _ (tabW_below HT.out (below_alloc (Below.refl _ _) _))).mono ?_
  rintro e w1 ⟨rfl, hb1⟩
  have HB := hidI ((below_alloc (Below.refl w.heap.size w) (.cells #[o.val] 83)).trans (hb1.mono (by simp)))
  clear hb1
  go_wp2_with fail
  refine (join_any _ w1.heap.size 1 [textO o] _ (row1 rfl) (by simp) (by simp) (by simp) (by decide) HS.out).mono ?_
  rintro e w2 ⟨rfl, hb2⟩
  have HB2 := hidI ((below_alloc HB.out (.cells #[.string (textO o)] 9)).trans (hb2.mono (by have := HB.out.size; simp; omega)))
  clear hb2
  go_wp2_with fail
  go_ret
  exact ⟨rfl, HB2.out⟩
set_option maxHeartbeats 1000000 in
set_option maxRecDepth 100000 in
theorem obsText_add (l r : O) (ql : One' l.val) (qr : One' r.val) (ihl : Writes l) (ihr : Writes r) (hs : (Lib.join ([textO l, textO r].map (·.data.toList)) [44]).length ≤ 70368744177664) : Writes (.add l r) := by
  intro w ht
  have a0 := fun v xT w => notConst 81 v xT w (by decide)
  have a1 := fun v xT w => notFix 81 v xT w (by decide)
  have a2 := fun v xT w => isAdd v xT w
  have HT := hidI ht
  have hs0 := ql.store
  have cv0 := ql.cells
  have mv0 := ql.cells
  unfold Value.cells at mv0
  have hs1 := qr.store
  have cv1 := qr.cells
  have mv1 := qr.cells
  unfold Value.cells at mv1
  have HL : Hid (∀ w, TabW w → Calls Tryd.prog 23 #[l.val] w fun e w' => e = .returned (.string (textO l)) ∧ Below w.heap.size w w') := ihl
  have HR : Hid (∀ w, TabW w → Calls Tryd.prog 23 #[r.val] w fun e w' => e = .returned (.string (textO r)) ∧ Below w.heap.size w w') := ihr
  have HE : Hid (textO (.add l r) = joinT ⟨#[97, 100, 100]⟩ [textO l, textO r]) := rfl
  obtain ⟨tx, HX⟩ : ∃ tx, Hid (joinT ⟨#[97, 100, 100]⟩ [textO l, textO r] = tx) := ⟨_, rfl⟩
  rw [HX.out] at HE
  have HS := hidI hs
  clear hs ht ihl ihr ql qr
  unfold O.val
  go_enter Tryd.func23, Tryd.ntmps23
  go_wp2_with fail
  obtain ⟨W, hW⟩ : ∃ W, W = w.alloc (.cells #[l.val, r.val] 81) := ⟨_, rfl⟩
  have HB : Hid (Below w.heap.size w W) := by rw [hW]; exact below_alloc (Below.refl _ _) _
  have HBK : Hid (W.heap[w.heap.size]? = some (.cells #[l.val, r.val] 81 (0, 0))) := by rw [hW]; exact heap_alloc_new _ _
  rw [← hW]
  clear hW
  have HF : Hid (∀ w', Below W.heap.size W w' → w'.cell? ⟨w.heap.size, 0, none⟩ = some l.val ∧ w'.cell? ⟨w.heap.size, 1, none⟩ = some r.val) := fun w' hw' => by
    have hbk := (hw'.block _ (Array.getElem?_eq_some_iff.1 HBK.out).1).trans HBK.out
    exact ⟨(cell_of_row _ _ _ _ _ _ hbk).trans rfl, (cell_of_row _ _ _ _ _ _ hbk).trans rfl⟩
  have HTW : Hid (∀ w', Below W.heap.size W w' → TabW w') := fun w' hw' => tabW_below HT.out (HB.out.trans (hw'.mono HB.out.size))
  clear HBK
  generalize l.val = vl at *
  generalize r.val = vr at *
  generalize textO l = tl at *
  generalize textO r = tr at *
  clear hs0 cv0 mv0 hs1 cv1 mv1 a0 a1 a2
  refine wp_region_grow (fun w' => Below W.heap.size W w') Up (modes [one (.pointer (some ⟨w.heap.size, 0, none⟩)), one (vl), one (.string tl), one (.pointer (some ⟨w.heap.size, 1, none⟩)), one (vr), one (.string tr), loose (twoF tl tr), one (.string tx), one (.string tx)]) (by kernel_rfl) (by kernel_rfl) (up_class _) (below_drew (Below.refl _ _)) ?_
  generalize hops : (#[_, _, _, _, _, _, _, _, _] : Array Oper) = ops
  clear hops
  refine g_runs (.pointer (some ⟨w.heap.size, 0, none⟩)) grow_end Up.refl rfl (wanted_none rfl) (by intro d hd w; cases hd; exact trivial) (fun w' hw' => ?_) ?_
  · go_simp
  simp only [Act.put, List.setIfInBounds_toArray, List.set_cons_zero, List.set_cons_succ]
  refine g_runs (vl) grow_end Up.refl rfl (wanted_none rfl) (by intro d hd w; cases hd; exact trivial) (fun w' hw' => ?_) ?_
  · obtain ⟨y0, y1⟩ := HF.out w' hw'
    go_simp
  simp only [Act.put, List.setIfInBounds_toArray, List.set_cons_zero, List.set_cons_succ]
  refine g_calls 23 #[vl] (.string tl) grow_end rfl (wanted_none rfl) (by intro d hd w; cases hd; exact trivial) (fun w' hw' => ?_) (fun w' hw' hk => ?_) ?_
  · go_simp
  · refine (HL.out w' (HTW.out w' hw')).mono ?_
    rintro e w3 ⟨rfl, hb3⟩
    exact ⟨rfl, hb3⟩
  simp only [Act.put, List.setIfInBounds_toArray, List.set_cons_zero, List.set_cons_succ]
  refine g_runs (.pointer (some ⟨w.heap.size, 1, none⟩)) grow_end Up.refl rfl (wanted_none rfl) (by intro d hd w; cases hd; exact trivial) (fun w' hw' => ?_) ?_
  · go_simp
  simp only [Act.put, List.setIfInBounds_toArray, List.set_cons_zero, List.set_cons_succ]
  refine g_runs (vr) grow_end Up.refl rfl (wanted_none rfl) (by intro d hd w; cases hd; exact trivial) (fun w' hw' => ?_) ?_
  · obtain ⟨y0, y1⟩ := HF.out w' hw'
    go_simp
  simp only [Act.put, List.setIfInBounds_toArray, List.set_cons_zero, List.set_cons_succ]
  refine g_calls 23 #[vr] (.string tr) grow_end rfl (wanted_none rfl) (by intro d hd w; cases hd; exact trivial) (fun w' hw' => ?_) (fun w' hw' hk => ?_) ?_
  · go_simp
  · refine (HR.out w' (HTW.out w' hw')).mono ?_
    rintro e w3 ⟨rfl, hb3⟩
    exact ⟨rfl, hb3⟩
  simp only [Act.put, List.setIfInBounds_toArray, List.set_cons_zero, List.set_cons_succ]
  refine g_makes (twoF tl tr) rfl (twoF_stays _ _) (wanted_none rfl) (fun w' hw' hk => ?_) (fun u32 => ?_)
  · refine ⟨.slice (some ⟨w'.heap.size, 0, none⟩) 2 2, w'.alloc (.cells #[.string tl, .string tr] 9), ?_, below_alloc (Below.refl _ _) _, w'.heap.size, rfl, by simp, row2 rfl⟩
    go_simp
  simp only [Act.put, List.setIfInBounds_toArray, List.set_cons_zero, List.set_cons_succ]
  refine g_calls 22 #[.string ⟨#[97, 100, 100]⟩, u32] (.string tx) grow_end rfl (wanted_none rfl) (by intro d hd w; cases hd; exact trivial) (fun w' hw' => ?_) (fun w' hw' hk => ?_) ?_
  · go_simp
  · obtain ⟨b, rfl, hb, hc⟩ : twoF tl tr u32 w' := hk 32 (looks_at (by simp [Op.operands, Call.operands]))
    refine (join_any _ b 2 [tl, tr] w' hc hb (by simp) (by simp) (by decide) HS.out).mono ?_
    rintro e w3 ⟨rfl, hb3⟩
    exact ⟨by rw [HX.out], hb3⟩
  simp only [Act.put, List.setIfInBounds_toArray, List.set_cons_zero, List.set_cons_succ]
  refine g_runs (.string tx) grow_end Up.refl rfl (wanted_none rfl) (by intro d hd w; cases hd; exact trivial) (fun w' hw' => ?_) ?_
  · go_simp
  simp only [Act.put, List.setIfInBounds_toArray, List.set_cons_zero, List.set_cons_succ]
  refine g_nil ?_
  intro w9 hw9 hk9
  go_wp2_with fail
  go_ret
  exact ⟨by rw [HE.out]; rfl, HB.out.trans (hw9.mono HB.out.size)⟩
set_option maxHeartbeats 1000000 in
set_option maxRecDepth 100000 in
theorem obsText_mul (l r : O) (ql : One' l.val) (qr : One' r.val) (ihl : Writes l) (ihr : Writes r) (hs : (Lib.join ([textO l, textO r].map (·.data.toList)) [44]).length ≤ 70368744177664) : Writes (.mul l r) := by
  intro w ht
  have a0 := fun v xT w => notConst 84 v xT w (by decide)
  have a1 := fun v xT w => notFix 84 v xT w (by decide)
  have a2 := fun v xT w => notAdd 84 v xT w (by decide)
  have a3 := fun v xT w => notNeg 84 v xT w (by decide)
  have a4 := fun v xT w => isMul v xT w
  have HT := hidI ht
  have hs0 := ql.store
  have cv0 := ql.cells
  have mv0 := ql.cells
  unfold Value.cells at mv0
  have hs1 := qr.store
  have cv1 := qr.cells
  have mv1 := qr.cells
  unfold Value.cells at mv1
  have HL : Hid (∀ w, TabW w → Calls Tryd.prog 23 #[l.val] w fun e w' => e = .returned (.string (textO l)) ∧ Below w.heap.size w w') := ihl
  have HR : Hid (∀ w, TabW w → Calls Tryd.prog 23 #[r.val] w fun e w' => e = .returned (.string (textO r)) ∧ Below w.heap.size w w') := ihr
  have HE : Hid (textO (.mul l r) = joinT ⟨#[109, 117, 108]⟩ [textO l, textO r]) := rfl
  obtain ⟨tx, HX⟩ : ∃ tx, Hid (joinT ⟨#[109, 117, 108]⟩ [textO l, textO r] = tx) := ⟨_, rfl⟩
  rw [HX.out] at HE
  have HS := hidI hs
  clear hs ht ihl ihr ql qr
  unfold O.val
  go_enter Tryd.func23, Tryd.ntmps23
  go_wp2_with fail
  obtain ⟨W, hW⟩ : ∃ W, W = w.alloc (.cells #[l.val, r.val] 84) := ⟨_, rfl⟩
  have HB : Hid (Below w.heap.size w W) := by rw [hW]; exact below_alloc (Below.refl _ _) _
  have HBK : Hid (W.heap[w.heap.size]? = some (.cells #[l.val, r.val] 84 (0, 0))) := by rw [hW]; exact heap_alloc_new _ _
  rw [← hW]
  clear hW
  have HF : Hid (∀ w', Below W.heap.size W w' → w'.cell? ⟨w.heap.size, 0, none⟩ = some l.val ∧ w'.cell? ⟨w.heap.size, 1, none⟩ = some r.val) := fun w' hw' => by
    have hbk := (hw'.block _ (Array.getElem?_eq_some_iff.1 HBK.out).1).trans HBK.out
    exact ⟨(cell_of_row _ _ _ _ _ _ hbk).trans rfl, (cell_of_row _ _ _ _ _ _ hbk).trans rfl⟩
  have HTW : Hid (∀ w', Below W.heap.size W w' → TabW w') := fun w' hw' => tabW_below HT.out (HB.out.trans (hw'.mono HB.out.size))
  clear HBK
  generalize l.val = vl at *
  generalize r.val = vr at *
  generalize textO l = tl at *
  generalize textO r = tr at *
  clear hs0 cv0 mv0 hs1 cv1 mv1 a0 a1 a2 a3 a4
  refine wp_region_grow (fun w' => Below W.heap.size W w') Up (modes [one (.pointer (some ⟨w.heap.size, 0, none⟩)), one (vl), one (.string tl), one (.pointer (some ⟨w.heap.size, 1, none⟩)), one (vr), one (.string tr), loose (twoF tl tr), one (.string tx), one (.string tx)]) (by kernel_rfl) (by kernel_rfl) (up_class _) (below_drew (Below.refl _ _)) ?_
  generalize hops : (#[_, _, _, _, _, _, _, _, _] : Array Oper) = ops
  clear hops
  refine g_runs (.pointer (some ⟨w.heap.size, 0, none⟩)) grow_end Up.refl rfl (wanted_none rfl) (by intro d hd w; cases hd; exact trivial) (fun w' hw' => ?_) ?_
  · go_simp
  simp only [Act.put, List.setIfInBounds_toArray, List.set_cons_zero, List.set_cons_succ]
  refine g_runs (vl) grow_end Up.refl rfl (wanted_none rfl) (by intro d hd w; cases hd; exact trivial) (fun w' hw' => ?_) ?_
  · obtain ⟨y0, y1⟩ := HF.out w' hw'
    go_simp
  simp only [Act.put, List.setIfInBounds_toArray, List.set_cons_zero, List.set_cons_succ]
  refine g_calls 23 #[vl] (.string tl) grow_end rfl (wanted_none rfl) (by intro d hd w; cases hd; exact trivial) (fun w' hw' => ?_) (fun w' hw' hk => ?_) ?_
  · go_simp
  · refine (HL.out w' (HTW.out w' hw')).mono ?_
    rintro e w3 ⟨rfl, hb3⟩
    exact ⟨rfl, hb3⟩
  simp only [Act.put, List.setIfInBounds_toArray, List.set_cons_zero, List.set_cons_succ]
  refine g_runs (.pointer (some ⟨w.heap.size, 1, none⟩)) grow_end Up.refl rfl (wanted_none rfl) (by intro d hd w; cases hd; exact trivial) (fun w' hw' => ?_) ?_
  · go_simp
  simp only [Act.put, List.setIfInBounds_toArray, List.set_cons_zero, List.set_cons_succ]
  refine g_runs (vr) grow_end Up.refl rfl (wanted_none rfl) (by intro d hd w; cases hd; exact trivial) (fun w' hw' => ?_) ?_
  · obtain ⟨y0, y1⟩ := HF.out w' hw'
    go_simp
  simp only [Act.put, List.setIfInBounds_toArray, List.set_cons_zero, List.set_cons_succ]
  refine g_calls 23 #[vr] (.string tr) grow_end rfl (wanted_none rfl) (by intro d hd w; cases hd; exact trivial) (fun w' hw' => ?_) (fun w' hw' hk => ?_) ?_
  · go_simp
  · refine (HR.out w' (HTW.out w' hw')).mono ?_
    rintro e w3 ⟨rfl, hb3⟩
    exact ⟨rfl, hb3⟩
  simp only [Act.put, List.setIfInBounds_toArray, List.set_cons_zero, List.set_cons_succ]
  refine g_makes (twoF tl tr) rfl (twoF_stays _ _) (wanted_none rfl) (fun w' hw' hk => ?_) (fun u51 => ?_)
  · refine ⟨.slice (some ⟨w'.heap.size, 0, none⟩) 2 2, w'.alloc (.cells #[.string tl, .string tr] 9), ?_, below_alloc (Below.refl _ _) _, w'.heap.size, rfl, by simp, row2 rfl⟩
    go_simp
  simp only [Act.put, List.setIfInBounds_toArray, List.set_cons_zero, List.set_cons_succ]
  refine g_calls 22 #[.string ⟨#[109, 117, 108]⟩, u51] (.string tx) grow_end rfl (wanted_none rfl) (by intro d hd w; cases hd; exact trivial) (fun w' hw' => ?_) (fun w' hw' hk => ?_) ?_
  · go_simp
  · obtain ⟨b, rfl, hb, hc⟩ : twoF tl tr u51 w' := hk 51 (looks_at (by simp [Op.operands, Call.operands]))
    refine (join_any _ b 2 [tl, tr] w' hc hb (by simp) (by simp) (by decide) HS.out).mono ?_
    rintro e w3 ⟨rfl, hb3⟩
    exact ⟨by rw [HX.out], hb3⟩
  simp only [Act.put, List.setIfInBounds_toArray, List.set_cons_zero, List.set_cons_succ]
  refine g_runs (.string tx) grow_end Up.refl rfl (wanted_none rfl) (by intro d hd w; cases hd; exact trivial) (fun w' hw' => ?_) ?_
  · go_simp
  simp only [Act.put, List.setIfInBounds_toArray, List.set_cons_zero, List.set_cons_succ]
  refine g_nil ?_
  intro w9 hw9 hk9
  go_wp2_with fail
  go_ret
  exact ⟨by rw [HE.out]; rfl, HB.out.trans (hw9.mono HB.out.size)⟩
set_option maxHeartbeats 1000000 in
set_option maxRecDepth 100000 in
theorem obsText_max (l r : O) (ql : One' l.val) (qr : One' r.val) (ihl : Writes l) (ihr : Writes r) (hs : (Lib.join ([textO l, textO r].map (·.data.toList)) [44]).length ≤ 70368744177664) : Writes (.max l r) := by
  intro w ht
  have a0 := fun v xT w => notConst 85 v xT w (by decide)
  have a1 := fun v xT w => notFix 85 v xT w (by decide)
  have a2 := fun v xT w => notAdd 85 v xT w (by decide)
  have a3 := fun v xT w => notNeg 85 v xT w (by decide)
  have a4 := fun v xT w => notMul 85 v xT w (by decide)
  have a5 := fun v xT w => oneMax v xT w
  have HT := hidI ht
  have hs0 := ql.store
  have cv0 := ql.cells
  have mv0 := ql.cells
  unfold Value.cells at mv0
  have hs1 := qr.store
  have cv1 := qr.cells
  have mv1 := qr.cells
  unfold Value.cells at mv1
  have HL : Hid (∀ w, TabW w → Calls Tryd.prog 23 #[l.val] w fun e w' => e = .returned (.string (textO l)) ∧ Below w.heap.size w w') := ihl
  have HR : Hid (∀ w, TabW w → Calls Tryd.prog 23 #[r.val] w fun e w' => e = .returned (.string (textO r)) ∧ Below w.heap.size w w') := ihr
  have HE : Hid (textO (.max l r) = joinT ⟨#[109, 97, 120]⟩ [textO l, textO r]) := rfl
  obtain ⟨tx, HX⟩ : ∃ tx, Hid (joinT ⟨#[109, 97, 120]⟩ [textO l, textO r] = tx) := ⟨_, rfl⟩
  rw [HX.out] at HE
  have HS := hidI hs
  clear hs ht ihl ihr ql qr
  unfold O.val
  go_enter Tryd.func23, Tryd.ntmps23
  go_wp2_with fail
  obtain ⟨W, hW⟩ : ∃ W, W = w.alloc (.cells #[l.val, r.val] 85) := ⟨_, rfl⟩
  have HB : Hid (Below w.heap.size w W) := by rw [hW]; exact below_alloc (Below.refl _ _) _
  have HBK : Hid (W.heap[w.heap.size]? = some (.cells #[l.val, r.val] 85 (0, 0))) := by rw [hW]; exact heap_alloc_new _ _
  rw [← hW]
  clear hW
  have HF : Hid (∀ w', Below W.heap.size W w' → w'.cell? ⟨w.heap.size, 0, none⟩ = some l.val ∧ w'.cell? ⟨w.heap.size, 1, none⟩ = some r.val) := fun w' hw' => by
    have hbk := (hw'.block _ (Array.getElem?_eq_some_iff.1 HBK.out).1).trans HBK.out
    exact ⟨(cell_of_row _ _ _ _ _ _ hbk).trans rfl, (cell_of_row _ _ _ _ _ _ hbk).trans rfl⟩
  have HTW : Hid (∀ w', Below W.heap.size W w' → TabW w') := fun w' hw' => tabW_below HT.out (HB.out.trans (hw'.mono HB.out.size))
  clear HBK
  generalize l.val = vl at *
  generalize r.val = vr at *
  generalize textO l = tl at *
  generalize textO r = tr at *
  clear hs0 cv0 mv0 hs1 cv1 mv1 a0 a1 a2 a3 a4 a5
  refine wp_region_grow (fun w' => Below W.heap.size W w') Up (modes [one (.pointer (some ⟨w.heap.size, 0, none⟩)), one (vl), one (.string tl), one (.pointer (some ⟨w.heap.size, 1, none⟩)), one (vr), one (.string tr), loose (twoF tl tr), one (.string tx), one (.string tx)]) (by kernel_rfl) (by kernel_rfl) (up_class _) (below_drew (Below.refl _ _)) ?_
  generalize hops : (#[_, _, _, _, _, _, _, _, _] : Array Oper) = ops
  clear hops
  refine g_runs (.pointer (some ⟨w.heap.size, 0, none⟩)) grow_end Up.refl rfl (wanted_none rfl) (by intro d hd w; cases hd; exact trivial) (fun w' hw' => ?_) ?_
  · go_simp
  simp only [Act.put, List.setIfInBounds_toArray, List.set_cons_zero, List.set_cons_succ]
  refine g_runs (vl) grow_end Up.refl rfl (wanted_none rfl) (by intro d hd w; cases hd; exact trivial) (fun w' hw' => ?_) ?_
  · obtain ⟨y0, y1⟩ := HF.out w' hw'
    go_simp
  simp only [Act.put, List.setIfInBounds_toArray, List.set_cons_zero, List.set_cons_succ]
  refine g_calls 23 #[vl] (.string tl) grow_end rfl (wanted_none rfl) (by intro d hd w; cases hd; exact trivial) (fun w' hw' => ?_) (fun w' hw' hk => ?_) ?_
  · go_simp
  · refine (HL.out w' (HTW.out w' hw')).mono ?_
    rintro e w3 ⟨rfl, hb3⟩
    exact ⟨rfl, hb3⟩
  simp only [Act.put, List.setIfInBounds_toArray, List.set_cons_zero, List.set_cons_succ]
  refine g_runs (.pointer (some ⟨w.heap.size, 1, none⟩)) grow_end Up.refl rfl (wanted_none rfl) (by intro d hd w; cases hd; exact trivial) (fun w' hw' => ?_) ?_
  · go_simp
  simp only [Act.put, List.setIfInBounds_toArray, List.set_cons_zero, List.set_cons_succ]
  refine g_runs (vr) grow_end Up.refl rfl (wanted_none rfl) (by intro d hd w; cases hd; exact trivial) (fun w' hw' => ?_) ?_
  · obtain ⟨y0, y1⟩ := HF.out w' hw'
    go_simp
  simp only [Act.put, List.setIfInBounds_toArray, List.set_cons_zero, List.set_cons_succ]
  refine g_calls 23 #[vr] (.string tr) grow_end rfl (wanted_none rfl) (by intro d hd w; cases hd; exact trivial) (fun w' hw' => ?_) (fun w' hw' hk => ?_) ?_
  · go_simp
  · refine (HR.out w' (HTW.out w' hw')).mono ?_
    rintro e w3 ⟨rfl, hb3⟩
    exact ⟨rfl, hb3⟩
  simp only [Act.put, List.setIfInBounds_toArray, List.set_cons_zero, List.set_cons_succ]
  refine g_makes (twoF tl tr) rfl (twoF_stays _ _) (wanted_none rfl) (fun w' hw' hk => ?_) (fun u61 => ?_)
  · refine ⟨.slice (some ⟨w'.heap.size, 0, none⟩) 2 2, w'.alloc (.cells #[.string tl, .string tr] 9), ?_, below_alloc (Below.refl _ _) _, w'.heap.size, rfl, by simp, row2 rfl⟩
    go_simp
  simp only [Act.put, List.setIfInBounds_toArray, List.set_cons_zero, List.set_cons_succ]
  refine g_calls 22 #[.string ⟨#[109, 97, 120]⟩, u61] (.string tx) grow_end rfl (wanted_none rfl) (by intro d hd w; cases hd; exact trivial) (fun w' hw' => ?_) (fun w' hw' hk => ?_) ?_
  · go_simp
  · obtain ⟨b, rfl, hb, hc⟩ : twoF tl tr u61 w' := hk 61 (looks_at (by simp [Op.operands, Call.operands]))
    refine (join_any _ b 2 [tl, tr] w' hc hb (by simp) (by simp) (by decide) HS.out).mono ?_
    rintro e w3 ⟨rfl, hb3⟩
    exact ⟨by rw [HX.out], hb3⟩
  simp only [Act.put, List.setIfInBounds_toArray, List.set_cons_zero, List.set_cons_succ]
  refine g_runs (.string tx) grow_end Up.refl rfl (wanted_none rfl) (by intro d hd w; cases hd; exact trivial) (fun w' hw' => ?_) ?_
  · go_simp
  simp only [Act.put, List.setIfInBounds_toArray, List.set_cons_zero, List.set_cons_succ]
  refine g_nil ?_
  intro w9 hw9 hk9
  go_wp2_with fail
  go_ret
  exact ⟨by rw [HE.out]; rfl, HB.out.trans (hw9.mono HB.out.size)⟩

end Go.Proofs.YtbppkklfjmpgiaaDoor
namespace Go.Proofs.YtbppkklfjmpgiaaDoor
open Go.RowKit
set_option linter.unusedVariables false

theorem oneIf (v : Value) (xT : TypeId) (w : World) : (Instr.typeAssert (.iface 59 v) xT 59 false).run Tryd.prog w = .ok v w := assert_one Tryd.underlying59 (by intro m h; cases h) v xT w
def textC : C → ByteArray
  | .zero => ⟨#[122, 101, 114, 111]⟩
  | .one s => joinT ⟨#[111, 110, 101]⟩ [s]
  | .give c => joinT ⟨#[103, 105, 118, 101]⟩ [textC c]
  | .and l r => joinT ⟨#[97, 110, 100]⟩ [textC l, textC r]
  | .or s l r => joinT ⟨#[111, 114]⟩ [s, textC l, textC r]
  | .scale o c => joinT ⟨#[115, 99, 97, 108, 101]⟩ [textO o, textC c]
  | .when d c => joinT ⟨#[119, 104, 101, 110]⟩ [numT d, textC c]
  | .iff o l r => joinT ⟨#[105, 102]⟩ [textO o, textC l, textC r]
  | .odd _ => ⟨#[]⟩
def WritesC (c : C) : Prop := ∀ w : World, TabW w → Calls Tryd.prog 11 #[c.val] w fun e w' => e = .returned (.string (textC c)) ∧ Below w.heap.size w w'
theorem row3 {w : World} {b t : Nat} {s u z : ByteArray} (hb : b = w.heap.size) : ∀ (j : Nat) (x : ByteArray), [s, u, z][j]? = some x → (w.alloc (.cells #[.string s, .string u, .string z] t)).cell? ⟨b, j, none⟩ = some (.string x) := by
  intro j x hj
  subst hb
  rw [cell_of_row _ _ _ _ _ _ (heap_alloc_new _ _)]
  match j, hj with
  | 0, hj => simp at hj; subst hj; rfl
  | 1, hj => simp at hj; subst hj; rfl
  | 2, hj => simp at hj; subst hj; rfl
/-- Three texts in a row. -/
def threeF (s u z : ByteArray) (v : Value) (w : World) : Prop := ∃ b, v = .slice (some ⟨b, 0, none⟩) 3 3 ∧ b < w.heap.size ∧ ∀ (j : Nat) (x : ByteArray), [s, u, z][j]? = some x → w.cell? ⟨b, j, none⟩ = some (.string x)
theorem threeF_stays (s u z : ByteArray) : ∀ v w w', Up w w' → threeF s u z v w → threeF s u z v w' := fun v w w' h ⟨b, e, hb, hc⟩ => ⟨b, e, Nat.lt_of_lt_of_le hb (Below.size h), fun j x hj => (Below.cell h (p := ⟨b, j, none⟩) hb).trans (hc j x hj)⟩
set_option maxHeartbeats 1000000 in
set_option maxRecDepth 100000 in
theorem termText_zero : WritesC .zero := by
  intro w ht
  have a0 := fun v xT w => isZero v xT w
  clear ht
  unfold C.val
  go_enter Tryd.func11, Tryd.ntmps11
  go_wp2_with fail
  go_ret
  exact ⟨rfl, by repeat first | exact Below.refl _ _ | refine below_alloc ?_ _⟩
set_option maxHeartbeats 1000000 in
set_option maxRecDepth 100000 in
theorem termText_one (s : ByteArray) (hs : (Lib.join ([s].map (·.data.toList)) [44]).length ≤ 70368744177664) : WritesC (.one s) := by
  intro w ht
  have a0 := fun v xT w => notZero 45 v xT w (by decide)
  have a1 := fun v xT w => isOne v xT w
  have HS := hidI hs
  clear hs ht
  unfold C.val
  go_enter Tryd.func11, Tryd.ntmps11
  go_wp2_with fail
  refine (join_any _ (w.heap.size + 1) 1 [s] _ (row1 (by simp)) (by simp) (by simp) (by simp) (by decide) HS.out).mono ?_
  rintro e w1 ⟨rfl, hb1⟩
  have HB := hidI ((below_alloc (below_alloc (Below.refl w.heap.size w) (.cells #[.string s] 45)) (.cells #[.string s] 9)).trans (hb1.mono (by simp; omega)))
  clear hb1
  go_wp2_with fail
  go_ret
  exact ⟨rfl, HB.out⟩
set_option maxHeartbeats 1000000 in
set_option maxRecDepth 100000 in
theorem termText_give (o : C) (q : One' o.val) (ih : WritesC o) (hs : (Lib.join ([textC o].map (·.data.toList)) [44]).length ≤ 70368744177664) : WritesC (.give o) := by
  intro w ht
  have a0 := fun v xT w => notZero 47 v xT w (by decide)
  have a1 := fun v xT w => notOne 47 v xT w (by decide)
  have a2 := fun v xT w => isGive v xT w
  have HS := hidI hs
  have HT := hidI ht
  have HI := hidI ih
  have hs0 := q.store
  have cv0 := q.cells
  have mv0 := q.cells
  unfold Value.cells at mv0
  clear hs ht ih q
  unfold C.val
  go_enter Tryd.func11, Tryd.ntmps11
  go_wp2_with fail
  refine (HI.out _ (tabW_below HT.out (below_alloc (Below.refl _ _) _))).mono ?_
  rintro e w1 ⟨rfl, hb1⟩
  have HB := hidI ((below_alloc (Below.refl w.heap.size w) (.cells #[o.val] 47)).trans (hb1.mono (by simp)))
  clear hb1
  go_wp2_with fail
  refine (join_any _ w1.heap.size 1 [textC o] _ (row1 rfl) (by simp) (by simp) (by simp) (by decide) HS.out).mono ?_
  rintro e w2 ⟨rfl, hb2⟩
  have HB2 := hidI ((below_alloc HB.out (.cells #[.string (textC o)] 9)).trans (hb2.mono (by have := HB.out.size; simp; omega)))
  clear hb2
  go_wp2_with fail
  go_ret
  exact ⟨rfl, HB2.out⟩
set_option maxHeartbeats 1000000 in
set_option maxRecDepth 100000 in
theorem termText_and (l r : C) (q0 : One' l.val) (ih0 : WritesC l) (q1 : One' r.val) (ih1 : WritesC r) (hs : (Lib.join ([textC l, textC r].map (·.data.toList)) [44]).length ≤ 70368744177664) : WritesC (.and l r) := by
  intro w ht
  have a0 := fun v xT w => notZero 49 v xT w (by decide)
  have a1 := fun v xT w => notOne 49 v xT w (by decide)
  have a2 := fun v xT w => notGive 49 v xT w (by decide)
  have a3 := fun v xT w => isAnd v xT w
  have HT := hidI ht
  have HE : Hid (textC (.and l r) = joinT ⟨#[97, 110, 100]⟩ [textC l, textC r]) := rfl
  obtain ⟨tx, HX⟩ : ∃ tx, Hid (joinT ⟨#[97, 110, 100]⟩ [textC l, textC r] = tx) := ⟨_, rfl⟩
  rw [HX.out] at HE
  have HS := hidI hs
  have HI0 : Hid (∀ w, TabW w → Calls Tryd.prog 11 #[l.val] w fun e w' => e = .returned (.string (textC l)) ∧ Below w.heap.size w w') := ih0
  have hs0 := q0.store
  have cv0 := q0.cells
  have mv0 := q0.cells
  unfold Value.cells at mv0
  have HI1 : Hid (∀ w, TabW w → Calls Tryd.prog 11 #[r.val] w fun e w' => e = .returned (.string (textC r)) ∧ Below w.heap.size w w') := ih1
  have hs1 := q1.store
  have cv1 := q1.cells
  have mv1 := q1.cells
  unfold Value.cells at mv1
  clear hs ht ih0 q0 ih1 q1
  unfold C.val
  go_enter Tryd.func11, Tryd.ntmps11
  go_wp2_with fail
  obtain ⟨W, hW⟩ : ∃ W, W = w.alloc (.cells #[l.val, r.val] 49) := ⟨_, rfl⟩
  have HB : Hid (Below w.heap.size w W) := by rw [hW]; exact below_alloc (Below.refl _ _) _
  have HBK : Hid (W.heap[w.heap.size]? = some (.cells #[l.val, r.val] 49 (0, 0))) := by rw [hW]; exact heap_alloc_new _ _
  rw [← hW]
  clear hW
  have HF : Hid (∀ w', Below W.heap.size W w' → w'.cell? ⟨w.heap.size, 0, none⟩ = some (l.val) ∧ w'.cell? ⟨w.heap.size, 1, none⟩ = some (r.val)) := fun w' hw' => by
    have hbk := (hw'.block _ (Array.getElem?_eq_some_iff.1 HBK.out).1).trans HBK.out
    exact ⟨(cell_of_row _ _ _ _ _ _ hbk).trans rfl, (cell_of_row _ _ _ _ _ _ hbk).trans rfl⟩
  have HTW : Hid (∀ w', Below W.heap.size W w' → TabW w') := fun w' hw' => tabW_below HT.out (HB.out.trans (hw'.mono HB.out.size))
  clear HBK
  generalize l.val = v0 at *
  generalize textC l = t0 at *
  generalize r.val = v1 at *
  generalize textC r = t1 at *
  clear hs0 cv0 mv0 hs1 cv1 mv1 a0 a1 a2 a3
  refine wp_region_grow (fun w' => Below W.heap.size W w') Up (modes [one (.pointer (some ⟨w.heap.size, 0, none⟩)), one (v0), one (.string t0), one (.pointer (some ⟨w.heap.size, 1, none⟩)), one (v1), one (.string t1), loose (twoF t0 t1), one (.string tx), one (.string tx)]) (by kernel_rfl) (by kernel_rfl) (up_class _) (below_drew (Below.refl _ _)) ?_
  generalize hops : (#[_, _, _, _, _, _, _, _, _] : Array Oper) = ops
  clear hops
  refine g_runs (.pointer (some ⟨w.heap.size, 0, none⟩)) grow_end Up.refl rfl (wanted_none rfl) (by intro d hd w; cases hd; exact trivial) (fun w' hw' => ?_) ?_
  · go_simp
  simp only [Act.put, List.setIfInBounds_toArray, List.set_cons_zero, List.set_cons_succ]
  refine g_runs (v0) grow_end Up.refl rfl (wanted_none rfl) (by intro d hd w; cases hd; exact trivial) (fun w' hw' => ?_) ?_
  · obtain ⟨y0, y1⟩ := HF.out w' hw'
    go_simp
  simp only [Act.put, List.setIfInBounds_toArray, List.set_cons_zero, List.set_cons_succ]
  refine g_calls 11 #[v0] (.string t0) grow_end rfl (wanted_none rfl) (by intro d hd w; cases hd; exact trivial) (fun w' hw' => ?_) (fun w' hw' hk => ?_) ?_
  · go_simp
  · refine (HI0.out w' (HTW.out w' hw')).mono ?_
    rintro e w3 ⟨rfl, hb3⟩
    exact ⟨rfl, hb3⟩
  simp only [Act.put, List.setIfInBounds_toArray, List.set_cons_zero, List.set_cons_succ]
  refine g_runs (.pointer (some ⟨w.heap.size, 1, none⟩)) grow_end Up.refl rfl (wanted_none rfl) (by intro d hd w; cases hd; exact trivial) (fun w' hw' => ?_) ?_
  · go_simp
  simp only [Act.put, List.setIfInBounds_toArray, List.set_cons_zero, List.set_cons_succ]
  refine g_runs (v1) grow_end Up.refl rfl (wanted_none rfl) (by intro d hd w; cases hd; exact trivial) (fun w' hw' => ?_) ?_
  · obtain ⟨y0, y1⟩ := HF.out w' hw'
    go_simp
  simp only [Act.put, List.setIfInBounds_toArray, List.set_cons_zero, List.set_cons_succ]
  refine g_calls 11 #[v1] (.string t1) grow_end rfl (wanted_none rfl) (by intro d hd w; cases hd; exact trivial) (fun w' hw' => ?_) (fun w' hw' hk => ?_) ?_
  · go_simp
  · refine (HI1.out w' (HTW.out w' hw')).mono ?_
    rintro e w3 ⟨rfl, hb3⟩
    exact ⟨rfl, hb3⟩
  simp only [Act.put, List.setIfInBounds_toArray, List.set_cons_zero, List.set_cons_succ]
  refine g_makes (twoF t0 t1) rfl (twoF_stays _ _) (wanted_none rfl) (fun w' hw' hk => ?_) (fun u39 => ?_)
  · refine ⟨.slice (some ⟨w'.heap.size, 0, none⟩) 2 2, w'.alloc (.cells #[.string t0, .string t1] 9), ?_, below_alloc (Below.refl _ _) _, w'.heap.size, rfl, by simp, row2 rfl⟩
    go_simp
  simp only [Act.put, List.setIfInBounds_toArray, List.set_cons_zero, List.set_cons_succ]
  refine g_calls 22 #[.string ⟨#[97, 110, 100]⟩, u39] (.string tx) grow_end rfl (wanted_none rfl) (by intro d hd w; cases hd; exact trivial) (fun w' hw' => ?_) (fun w' hw' hk => ?_) ?_
  · go_simp
  · obtain ⟨b, rfl, hb, hc⟩ : twoF t0 t1 u39 w' := hk 39 (looks_at (by simp [Op.operands, Call.operands]))
    refine (join_any _ b 2 [t0, t1] w' hc hb (by simp) (by simp) (by decide) HS.out).mono ?_
    rintro e w3 ⟨rfl, hb3⟩
    exact ⟨by rw [HX.out], hb3⟩
  simp only [Act.put, List.setIfInBounds_toArray, List.set_cons_zero, List.set_cons_succ]
  refine g_runs (.string tx) grow_end Up.refl rfl (wanted_none rfl) (by intro d hd w; cases hd; exact trivial) (fun w' hw' => ?_) ?_
  · go_simp
  simp only [Act.put, List.setIfInBounds_toArray, List.set_cons_zero, List.set_cons_succ]
  refine g_nil ?_
  intro w9 hw9 hk9
  go_wp2_with fail
  go_ret
  exact ⟨by rw [HE.out]; rfl, HB.out.trans (hw9.mono HB.out.size)⟩
set_option maxHeartbeats 1000000 in
set_option maxRecDepth 100000 in
theorem termText_or (s : ByteArray) (l r : C) (q1 : One' l.val) (ih1 : WritesC l) (q2 : One' r.val) (ih2 : WritesC r) (hs : (Lib.join ([s, textC l, textC r].map (·.data.toList)) [44]).length ≤ 70368744177664) : WritesC (.or s l r) := by
  intro w ht
  have a0 := fun v xT w => notZero 51 v xT w (by decide)
  have a1 := fun v xT w => notOne 51 v xT w (by decide)
  have a2 := fun v xT w => notGive 51 v xT w (by decide)
  have a3 := fun v xT w => notAnd 51 v xT w (by decide)
  have a4 := fun v xT w => isOr v xT w
  have HT := hidI ht
  have HE : Hid (textC (.or s l r) = joinT ⟨#[111, 114]⟩ [s, textC l, textC r]) := rfl
  obtain ⟨tx, HX⟩ : ∃ tx, Hid (joinT ⟨#[111, 114]⟩ [s, textC l, textC r] = tx) := ⟨_, rfl⟩
  rw [HX.out] at HE
  have HS := hidI hs
  have HI1 : Hid (∀ w, TabW w → Calls Tryd.prog 11 #[l.val] w fun e w' => e = .returned (.string (textC l)) ∧ Below w.heap.size w w') := ih1
  have hs1 := q1.store
  have cv1 := q1.cells
  have mv1 := q1.cells
  unfold Value.cells at mv1
  have HI2 : Hid (∀ w, TabW w → Calls Tryd.prog 11 #[r.val] w fun e w' => e = .returned (.string (textC r)) ∧ Below w.heap.size w w') := ih2
  have hs2 := q2.store
  have cv2 := q2.cells
  have mv2 := q2.cells
  unfold Value.cells at mv2
  clear hs ht ih1 q1 ih2 q2
  unfold C.val
  go_enter Tryd.func11, Tryd.ntmps11
  go_wp2_with fail
  obtain ⟨W, hW⟩ : ∃ W, W = w.alloc (.cells #[.string s, l.val, r.val] 51) := ⟨_, rfl⟩
  have HB : Hid (Below w.heap.size w W) := by rw [hW]; exact below_alloc (Below.refl _ _) _
  have HBK : Hid (W.heap[w.heap.size]? = some (.cells #[.string s, l.val, r.val] 51 (0, 0))) := by rw [hW]; exact heap_alloc_new _ _
  rw [← hW]
  clear hW
  have HF : Hid (∀ w', Below W.heap.size W w' → w'.cell? ⟨w.heap.size, 0, none⟩ = some (.string s) ∧ w'.cell? ⟨w.heap.size, 1, none⟩ = some (l.val) ∧ w'.cell? ⟨w.heap.size, 2, none⟩ = some (r.val)) := fun w' hw' => by
    have hbk := (hw'.block _ (Array.getElem?_eq_some_iff.1 HBK.out).1).trans HBK.out
    exact ⟨(cell_of_row _ _ _ _ _ _ hbk).trans rfl, (cell_of_row _ _ _ _ _ _ hbk).trans rfl, (cell_of_row _ _ _ _ _ _ hbk).trans rfl⟩
  have HTW : Hid (∀ w', Below W.heap.size W w' → TabW w') := fun w' hw' => tabW_below HT.out (HB.out.trans (hw'.mono HB.out.size))
  clear HBK
  generalize l.val = v1 at *
  generalize textC l = t1 at *
  generalize r.val = v2 at *
  generalize textC r = t2 at *
  clear hs1 cv1 mv1 hs2 cv2 mv2 a0 a1 a2 a3 a4
  refine wp_region_grow (fun w' => Below W.heap.size W w') Up (modes [one (.pointer (some ⟨w.heap.size, 0, none⟩)), one (.string s), one (.pointer (some ⟨w.heap.size, 1, none⟩)), one (v1), one (.string t1), one (.pointer (some ⟨w.heap.size, 2, none⟩)), one (v2), one (.string t2), loose (threeF s t1 t2), one (.string tx), one (.string tx)]) (by kernel_rfl) (by kernel_rfl) (up_class _) (below_drew (Below.refl _ _)) ?_
  generalize hops : (#[_, _, _, _, _, _, _, _, _, _, _] : Array Oper) = ops
  clear hops
  refine g_runs (.pointer (some ⟨w.heap.size, 0, none⟩)) grow_end Up.refl rfl (wanted_none rfl) (by intro d hd w; cases hd; exact trivial) (fun w' hw' => ?_) ?_
  · go_simp
  simp only [Act.put, List.setIfInBounds_toArray, List.set_cons_zero, List.set_cons_succ]
  refine g_runs (.string s) grow_end Up.refl rfl (wanted_none rfl) (by intro d hd w; cases hd; exact trivial) (fun w' hw' => ?_) ?_
  · obtain ⟨y0, y1, y2⟩ := HF.out w' hw'
    go_simp
  simp only [Act.put, List.setIfInBounds_toArray, List.set_cons_zero, List.set_cons_succ]
  refine g_runs (.pointer (some ⟨w.heap.size, 1, none⟩)) grow_end Up.refl rfl (wanted_none rfl) (by intro d hd w; cases hd; exact trivial) (fun w' hw' => ?_) ?_
  · go_simp
  simp only [Act.put, List.setIfInBounds_toArray, List.set_cons_zero, List.set_cons_succ]
  refine g_runs (v1) grow_end Up.refl rfl (wanted_none rfl) (by intro d hd w; cases hd; exact trivial) (fun w' hw' => ?_) ?_
  · obtain ⟨y0, y1, y2⟩ := HF.out w' hw'
    go_simp
  simp only [Act.put, List.setIfInBounds_toArray, List.set_cons_zero, List.set_cons_succ]
  refine g_calls 11 #[v1] (.string t1) grow_end rfl (wanted_none rfl) (by intro d hd w; cases hd; exact trivial) (fun w' hw' => ?_) (fun w' hw' hk => ?_) ?_
  · go_simp
  · refine (HI1.out w' (HTW.out w' hw')).mono ?_
    rintro e w3 ⟨rfl, hb3⟩
    exact ⟨rfl, hb3⟩
  simp only [Act.put, List.setIfInBounds_toArray, List.set_cons_zero, List.set_cons_succ]
  refine g_runs (.pointer (some ⟨w.heap.size, 2, none⟩)) grow_end Up.refl rfl (wanted_none rfl) (by intro d hd w; cases hd; exact trivial) (fun w' hw' => ?_) ?_
  · go_simp
  simp only [Act.put, List.setIfInBounds_toArray, List.set_cons_zero, List.set_cons_succ]
  refine g_runs (v2) grow_end Up.refl rfl (wanted_none rfl) (by intro d hd w; cases hd; exact trivial) (fun w' hw' => ?_) ?_
  · obtain ⟨y0, y1, y2⟩ := HF.out w' hw'
    go_simp
  simp only [Act.put, List.setIfInBounds_toArray, List.set_cons_zero, List.set_cons_succ]
  refine g_calls 11 #[v2] (.string t2) grow_end rfl (wanted_none rfl) (by intro d hd w; cases hd; exact trivial) (fun w' hw' => ?_) (fun w' hw' hk => ?_) ?_
  · go_simp
  · refine (HI2.out w' (HTW.out w' hw')).mono ?_
    rintro e w3 ⟨rfl, hb3⟩
    exact ⟨rfl, hb3⟩
  simp only [Act.put, List.setIfInBounds_toArray, List.set_cons_zero, List.set_cons_succ]
  refine g_makes (threeF s t1 t2) rfl (threeF_stays _ _ _) (wanted_none rfl) (fun w' hw' hk => ?_) (fun u52 => ?_)
  · refine ⟨.slice (some ⟨w'.heap.size, 0, none⟩) 3 3, w'.alloc (.cells #[.string s, .string t1, .string t2] 9), ?_, below_alloc (Below.refl _ _) _, w'.heap.size, rfl, by simp, row3 rfl⟩
    go_simp
  simp only [Act.put, List.setIfInBounds_toArray, List.set_cons_zero, List.set_cons_succ]
  refine g_calls 22 #[.string ⟨#[111, 114]⟩, u52] (.string tx) grow_end rfl (wanted_none rfl) (by intro d hd w; cases hd; exact trivial) (fun w' hw' => ?_) (fun w' hw' hk => ?_) ?_
  · go_simp
  · obtain ⟨b, rfl, hb, hc⟩ : threeF s t1 t2 u52 w' := hk 52 (looks_at (by simp [Op.operands, Call.operands]))
    refine (join_any _ b 3 [s, t1, t2] w' hc hb (by simp) (by simp) (by decide) HS.out).mono ?_
    rintro e w3 ⟨rfl, hb3⟩
    exact ⟨by rw [HX.out], hb3⟩
  simp only [Act.put, List.setIfInBounds_toArray, List.set_cons_zero, List.set_cons_succ]
  refine g_runs (.string tx) grow_end Up.refl rfl (wanted_none rfl) (by intro d hd w; cases hd; exact trivial) (fun w' hw' => ?_) ?_
  · go_simp
  simp only [Act.put, List.setIfInBounds_toArray, List.set_cons_zero, List.set_cons_succ]
  refine g_nil ?_
  intro w9 hw9 hk9
  go_wp2_with fail
  go_ret
  exact ⟨by rw [HE.out]; rfl, HB.out.trans (hw9.mono HB.out.size)⟩
set_option maxHeartbeats 1000000 in
set_option maxRecDepth 100000 in
theorem termText_scale (n : O) (c : C) (q0 : One' n.val) (ih0 : Writes n) (q1 : One' c.val) (ih1 : WritesC c) (hs : (Lib.join ([textO n, textC c].map (·.data.toList)) [44]).length ≤ 70368744177664) : WritesC (.scale n c) := by
  intro w ht
  have a0 := fun v xT w => notZero 55 v xT w (by decide)
  have a1 := fun v xT w => notOne 55 v xT w (by decide)
  have a2 := fun v xT w => notGive 55 v xT w (by decide)
  have a3 := fun v xT w => notAnd 55 v xT w (by decide)
  have a4 := fun v xT w => notOr 55 v xT w (by decide)
  have a5 := fun v xT w => isScale v xT w
  have HT := hidI ht
  have HE : Hid (textC (.scale n c) = joinT ⟨#[115, 99, 97, 108, 101]⟩ [textO n, textC c]) := rfl
  obtain ⟨tx, HX⟩ : ∃ tx, Hid (joinT ⟨#[115, 99, 97, 108, 101]⟩ [textO n, textC c] = tx) := ⟨_, rfl⟩
  rw [HX.out] at HE
  have HS := hidI hs
  have HI0 : Hid (∀ w, TabW w → Calls Tryd.prog 23 #[n.val] w fun e w' => e = .returned (.string (textO n)) ∧ Below w.heap.size w w') := ih0
  have hs0 := q0.store
  have cv0 := q0.cells
  have mv0 := q0.cells
  unfold Value.cells at mv0
  have HI1 : Hid (∀ w, TabW w → Calls Tryd.prog 11 #[c.val] w fun e w' => e = .returned (.string (textC c)) ∧ Below w.heap.size w w') := ih1
  have hs1 := q1.store
  have cv1 := q1.cells
  have mv1 := q1.cells
  unfold Value.cells at mv1
  clear hs ht ih0 q0 ih1 q1
  unfold C.val
  go_enter Tryd.func11, Tryd.ntmps11
  go_wp2_with fail
  obtain ⟨W, hW⟩ : ∃ W, W = w.alloc (.cells #[n.val, c.val] 55) := ⟨_, rfl⟩
  have HB : Hid (Below w.heap.size w W) := by rw [hW]; exact below_alloc (Below.refl _ _) _
  have HBK : Hid (W.heap[w.heap.size]? = some (.cells #[n.val, c.val] 55 (0, 0))) := by rw [hW]; exact heap_alloc_new _ _
  rw [← hW]
  clear hW
  have HF : Hid (∀ w', Below W.heap.size W w' → w'.cell? ⟨w.heap.size, 0, none⟩ = some (n.val) ∧ w'.cell? ⟨w.heap.size, 1, none⟩ = some (c.val)) := fun w' hw' => by
    have hbk := (hw'.block _ (Array.getElem?_eq_some_iff.1 HBK.out).1).trans HBK.out
    exact ⟨(cell_of_row _ _ _ _ _ _ hbk).trans rfl, (cell_of_row _ _ _ _ _ _ hbk).trans rfl⟩
  have HTW : Hid (∀ w', Below W.heap.size W w' → TabW w') := fun w' hw' => tabW_below HT.out (HB.out.trans (hw'.mono HB.out.size))
  clear HBK
  generalize n.val = v0 at *
  generalize textO n = t0 at *
  generalize c.val = v1 at *
  generalize textC c = t1 at *
  clear hs0 cv0 mv0 hs1 cv1 mv1 a0 a1 a2 a3 a4 a5
  refine wp_region_grow (fun w' => Below W.heap.size W w') Up (modes [one (.pointer (some ⟨w.heap.size, 0, none⟩)), one (v0), one (.string t0), one (.pointer (some ⟨w.heap.size, 1, none⟩)), one (v1), one (.string t1), loose (twoF t0 t1), one (.string tx), one (.string tx)]) (by kernel_rfl) (by kernel_rfl) (up_class _) (below_drew (Below.refl _ _)) ?_
  generalize hops : (#[_, _, _, _, _, _, _, _, _] : Array Oper) = ops
  clear hops
  refine g_runs (.pointer (some ⟨w.heap.size, 0, none⟩)) grow_end Up.refl rfl (wanted_none rfl) (by intro d hd w; cases hd; exact trivial) (fun w' hw' => ?_) ?_
  · go_simp
  simp only [Act.put, List.setIfInBounds_toArray, List.set_cons_zero, List.set_cons_succ]
  refine g_runs (v0) grow_end Up.refl rfl (wanted_none rfl) (by intro d hd w; cases hd; exact trivial) (fun w' hw' => ?_) ?_
  · obtain ⟨y0, y1⟩ := HF.out w' hw'
    go_simp
  simp only [Act.put, List.setIfInBounds_toArray, List.set_cons_zero, List.set_cons_succ]
  refine g_calls 23 #[v0] (.string t0) grow_end rfl (wanted_none rfl) (by intro d hd w; cases hd; exact trivial) (fun w' hw' => ?_) (fun w' hw' hk => ?_) ?_
  · go_simp
  · refine (HI0.out w' (HTW.out w' hw')).mono ?_
    rintro e w3 ⟨rfl, hb3⟩
    exact ⟨rfl, hb3⟩
  simp only [Act.put, List.setIfInBounds_toArray, List.set_cons_zero, List.set_cons_succ]
  refine g_runs (.pointer (some ⟨w.heap.size, 1, none⟩)) grow_end Up.refl rfl (wanted_none rfl) (by intro d hd w; cases hd; exact trivial) (fun w' hw' => ?_) ?_
  · go_simp
  simp only [Act.put, List.setIfInBounds_toArray, List.set_cons_zero, List.set_cons_succ]
  refine g_runs (v1) grow_end Up.refl rfl (wanted_none rfl) (by intro d hd w; cases hd; exact trivial) (fun w' hw' => ?_) ?_
  · obtain ⟨y0, y1⟩ := HF.out w' hw'
    go_simp
  simp only [Act.put, List.setIfInBounds_toArray, List.set_cons_zero, List.set_cons_succ]
  refine g_calls 11 #[v1] (.string t1) grow_end rfl (wanted_none rfl) (by intro d hd w; cases hd; exact trivial) (fun w' hw' => ?_) (fun w' hw' hk => ?_) ?_
  · go_simp
  · refine (HI1.out w' (HTW.out w' hw')).mono ?_
    rintro e w3 ⟨rfl, hb3⟩
    exact ⟨rfl, hb3⟩
  simp only [Act.put, List.setIfInBounds_toArray, List.set_cons_zero, List.set_cons_succ]
  refine g_makes (twoF t0 t1) rfl (twoF_stays _ _) (wanted_none rfl) (fun w' hw' hk => ?_) (fun u63 => ?_)
  · refine ⟨.slice (some ⟨w'.heap.size, 0, none⟩) 2 2, w'.alloc (.cells #[.string t0, .string t1] 9), ?_, below_alloc (Below.refl _ _) _, w'.heap.size, rfl, by simp, row2 rfl⟩
    go_simp
  simp only [Act.put, List.setIfInBounds_toArray, List.set_cons_zero, List.set_cons_succ]
  refine g_calls 22 #[.string ⟨#[115, 99, 97, 108, 101]⟩, u63] (.string tx) grow_end rfl (wanted_none rfl) (by intro d hd w; cases hd; exact trivial) (fun w' hw' => ?_) (fun w' hw' hk => ?_) ?_
  · go_simp
  · obtain ⟨b, rfl, hb, hc⟩ : twoF t0 t1 u63 w' := hk 63 (looks_at (by simp [Op.operands, Call.operands]))
    refine (join_any _ b 2 [t0, t1] w' hc hb (by simp) (by simp) (by decide) HS.out).mono ?_
    rintro e w3 ⟨rfl, hb3⟩
    exact ⟨by rw [HX.out], hb3⟩
  simp only [Act.put, List.setIfInBounds_toArray, List.set_cons_zero, List.set_cons_succ]
  refine g_runs (.string tx) grow_end Up.refl rfl (wanted_none rfl) (by intro d hd w; cases hd; exact trivial) (fun w' hw' => ?_) ?_
  · go_simp
  simp only [Act.put, List.setIfInBounds_toArray, List.set_cons_zero, List.set_cons_succ]
  refine g_nil ?_
  intro w9 hw9 hk9
  go_wp2_with fail
  go_ret
  exact ⟨by rw [HE.out]; rfl, HB.out.trans (hw9.mono HB.out.size)⟩
set_option maxHeartbeats 1000000 in
set_option maxRecDepth 100000 in
theorem termText_when (d : Int) (hd0 : -9223372036854775808 ≤ d) (hd1 : d ≤ 9223372036854775807) (c : C) (q1 : One' c.val) (ih1 : WritesC c) (hs : (Lib.join ([numT d, textC c].map (·.data.toList)) [44]).length ≤ 70368744177664) : WritesC (.when d c) := by
  intro w ht
  have a0 := fun v xT w => notZero 57 v xT w (by decide)
  have a1 := fun v xT w => notOne 57 v xT w (by decide)
  have a2 := fun v xT w => notGive 57 v xT w (by decide)
  have a3 := fun v xT w => notAnd 57 v xT w (by decide)
  have a4 := fun v xT w => notOr 57 v xT w (by decide)
  have a5 := fun v xT w => notScale 57 v xT w (by decide)
  have a6 := fun v xT w => isWhen v xT w
  have HT := hidI ht
  have HE : Hid (textC (.when d c) = joinT ⟨#[119, 104, 101, 110]⟩ [numT d, textC c]) := rfl
  obtain ⟨tx, HX⟩ : ∃ tx, Hid (joinT ⟨#[119, 104, 101, 110]⟩ [numT d, textC c] = tx) := ⟨_, rfl⟩
  rw [HX.out] at HE
  have HS := hidI hs
  obtain ⟨t0, HN0⟩ : ∃ x, Hid (numT d = x) := ⟨_, rfl⟩
  rw [HN0.out] at HX HS
  have HI1 : Hid (∀ w, TabW w → Calls Tryd.prog 11 #[c.val] w fun e w' => e = .returned (.string (textC c)) ∧ Below w.heap.size w w') := ih1
  have hs1 := q1.store
  have cv1 := q1.cells
  have mv1 := q1.cells
  unfold Value.cells at mv1
  clear hs ht ih1 q1
  unfold C.val
  go_enter Tryd.func11, Tryd.ntmps11
  go_wp2_with fail
  obtain ⟨W, hW⟩ : ∃ W, W = w.alloc (.cells #[.int .i64 d, c.val] 57) := ⟨_, rfl⟩
  have HB : Hid (Below w.heap.size w W) := by rw [hW]; exact below_alloc (Below.refl _ _) _
  have HBK : Hid (W.heap[w.heap.size]? = some (.cells #[.int .i64 d, c.val] 57 (0, 0))) := by rw [hW]; exact heap_alloc_new _ _
  rw [← hW]
  clear hW
  have HF : Hid (∀ w', Below W.heap.size W w' → w'.cell? ⟨w.heap.size, 0, none⟩ = some (.int .i64 d) ∧ w'.cell? ⟨w.heap.size, 1, none⟩ = some (c.val)) := fun w' hw' => by
    have hbk := (hw'.block _ (Array.getElem?_eq_some_iff.1 HBK.out).1).trans HBK.out
    exact ⟨(cell_of_row _ _ _ _ _ _ hbk).trans rfl, (cell_of_row _ _ _ _ _ _ hbk).trans rfl⟩
  have HTW : Hid (∀ w', Below W.heap.size W w' → TabW w') := fun w' hw' => tabW_below HT.out (HB.out.trans (hw'.mono HB.out.size))
  clear HBK
  generalize c.val = v1 at *
  generalize textC c = t1 at *
  clear hs1 cv1 mv1 a0 a1 a2 a3 a4 a5 a6
  refine wp_region_grow (fun w' => Below W.heap.size W w') Up (modes [one (.pointer (some ⟨w.heap.size, 0, none⟩)), one (.int .i64 d), one (.string t0), one (.pointer (some ⟨w.heap.size, 1, none⟩)), one (v1), one (.string t1), loose (twoF t0 t1), one (.string tx), one (.string tx)]) (by kernel_rfl) (by kernel_rfl) (up_class _) (below_drew (Below.refl _ _)) ?_
  generalize hops : (#[_, _, _, _, _, _, _, _, _] : Array Oper) = ops
  clear hops
  refine g_runs (.pointer (some ⟨w.heap.size, 0, none⟩)) grow_end Up.refl rfl (wanted_none rfl) (by intro d hd w; cases hd; exact trivial) (fun w' hw' => ?_) ?_
  · go_simp
  simp only [Act.put, List.setIfInBounds_toArray, List.set_cons_zero, List.set_cons_succ]
  refine g_runs (.int .i64 d) grow_end Up.refl rfl (wanted_none rfl) (by intro d hd w; cases hd; exact trivial) (fun w' hw' => ?_) ?_
  · obtain ⟨y0, y1⟩ := HF.out w' hw'
    go_simp
  simp only [Act.put, List.setIfInBounds_toArray, List.set_cons_zero, List.set_cons_succ]
  refine g_calls 24 #[.int .i64 d] (.string t0) grow_end rfl (wanted_none rfl) (by intro d hd w; cases hd; exact trivial) (fun w' hw' => ?_) (fun w' hw' hk => ?_) ?_
  · go_simp
  · refine (itoa_any d hd0 hd1 w' (HTW.out w' hw')).mono ?_
    rintro e w3 ⟨rfl, hb3⟩
    exact ⟨by rw [HN0.out], hb3⟩
  simp only [Act.put, List.setIfInBounds_toArray, List.set_cons_zero, List.set_cons_succ]
  refine g_runs (.pointer (some ⟨w.heap.size, 1, none⟩)) grow_end Up.refl rfl (wanted_none rfl) (by intro d hd w; cases hd; exact trivial) (fun w' hw' => ?_) ?_
  · go_simp
  simp only [Act.put, List.setIfInBounds_toArray, List.set_cons_zero, List.set_cons_succ]
  refine g_runs (v1) grow_end Up.refl rfl (wanted_none rfl) (by intro d hd w; cases hd; exact trivial) (fun w' hw' => ?_) ?_
  · obtain ⟨y0, y1⟩ := HF.out w' hw'
    go_simp
  simp only [Act.put, List.setIfInBounds_toArray, List.set_cons_zero, List.set_cons_succ]
  refine g_calls 11 #[v1] (.string t1) grow_end rfl (wanted_none rfl) (by intro d hd w; cases hd; exact trivial) (fun w' hw' => ?_) (fun w' hw' hk => ?_) ?_
  · go_simp
  · refine (HI1.out w' (HTW.out w' hw')).mono ?_
    rintro e w3 ⟨rfl, hb3⟩
    exact ⟨rfl, hb3⟩
  simp only [Act.put, List.setIfInBounds_toArray, List.set_cons_zero, List.set_cons_succ]
  refine g_makes (twoF t0 t1) rfl (twoF_stays _ _) (wanted_none rfl) (fun w' hw' hk => ?_) (fun u74 => ?_)
  · refine ⟨.slice (some ⟨w'.heap.size, 0, none⟩) 2 2, w'.alloc (.cells #[.string t0, .string t1] 9), ?_, below_alloc (Below.refl _ _) _, w'.heap.size, rfl, by simp, row2 rfl⟩
    go_simp
  simp only [Act.put, List.setIfInBounds_toArray, List.set_cons_zero, List.set_cons_succ]
  refine g_calls 22 #[.string ⟨#[119, 104, 101, 110]⟩, u74] (.string tx) grow_end rfl (wanted_none rfl) (by intro d hd w; cases hd; exact trivial) (fun w' hw' => ?_) (fun w' hw' hk => ?_) ?_
  · go_simp
  · obtain ⟨b, rfl, hb, hc⟩ : twoF t0 t1 u74 w' := hk 74 (looks_at (by simp [Op.operands, Call.operands]))
    refine (join_any _ b 2 [t0, t1] w' hc hb (by simp) (by simp) (by decide) HS.out).mono ?_
    rintro e w3 ⟨rfl, hb3⟩
    exact ⟨by rw [HX.out], hb3⟩
  simp only [Act.put, List.setIfInBounds_toArray, List.set_cons_zero, List.set_cons_succ]
  refine g_runs (.string tx) grow_end Up.refl rfl (wanted_none rfl) (by intro d hd w; cases hd; exact trivial) (fun w' hw' => ?_) ?_
  · go_simp
  simp only [Act.put, List.setIfInBounds_toArray, List.set_cons_zero, List.set_cons_succ]
  refine g_nil ?_
  intro w9 hw9 hk9
  go_wp2_with fail
  go_ret
  exact ⟨by rw [HE.out]; rfl, HB.out.trans (hw9.mono HB.out.size)⟩
set_option maxHeartbeats 1000000 in
set_option maxRecDepth 100000 in
theorem termText_if (n : O) (l r : C) (q0 : One' n.val) (ih0 : Writes n) (q1 : One' l.val) (ih1 : WritesC l) (q2 : One' r.val) (ih2 : WritesC r) (hs : (Lib.join ([textO n, textC l, textC r].map (·.data.toList)) [44]).length ≤ 70368744177664) : WritesC (.iff n l r) := by
  intro w ht
  have a0 := fun v xT w => notZero 59 v xT w (by decide)
  have a1 := fun v xT w => notOne 59 v xT w (by decide)
  have a2 := fun v xT w => notGive 59 v xT w (by decide)
  have a3 := fun v xT w => notAnd 59 v xT w (by decide)
  have a4 := fun v xT w => notOr 59 v xT w (by decide)
  have a5 := fun v xT w => notScale 59 v xT w (by decide)
  have a6 := fun v xT w => notWhen 59 v xT w (by decide)
  have a7 := fun v xT w => oneIf v xT w
  have HT := hidI ht
  have HE : Hid (textC (.iff n l r) = joinT ⟨#[105, 102]⟩ [textO n, textC l, textC r]) := rfl
  obtain ⟨tx, HX⟩ : ∃ tx, Hid (joinT ⟨#[105, 102]⟩ [textO n, textC l, textC r] = tx) := ⟨_, rfl⟩
  rw [HX.out] at HE
  have HS := hidI hs
  have HI0 : Hid (∀ w, TabW w → Calls Tryd.prog 23 #[n.val] w fun e w' => e = .returned (.string (textO n)) ∧ Below w.heap.size w w') := ih0
  have hs0 := q0.store
  have cv0 := q0.cells
  have mv0 := q0.cells
  unfold Value.cells at mv0
  have HI1 : Hid (∀ w, TabW w → Calls Tryd.prog 11 #[l.val] w fun e w' => e = .returned (.string (textC l)) ∧ Below w.heap.size w w') := ih1
  have hs1 := q1.store
  have cv1 := q1.cells
  have mv1 := q1.cells
  unfold Value.cells at mv1
  have HI2 : Hid (∀ w, TabW w → Calls Tryd.prog 11 #[r.val] w fun e w' => e = .returned (.string (textC r)) ∧ Below w.heap.size w w') := ih2
  have hs2 := q2.store
  have cv2 := q2.cells
  have mv2 := q2.cells
  unfold Value.cells at mv2
  clear hs ht ih0 q0 ih1 q1 ih2 q2
  unfold C.val
  go_enter Tryd.func11, Tryd.ntmps11
  go_wp2_with fail
  obtain ⟨W, hW⟩ : ∃ W, W = w.alloc (.cells #[n.val, l.val, r.val] 59) := ⟨_, rfl⟩
  have HB : Hid (Below w.heap.size w W) := by rw [hW]; exact below_alloc (Below.refl _ _) _
  have HBK : Hid (W.heap[w.heap.size]? = some (.cells #[n.val, l.val, r.val] 59 (0, 0))) := by rw [hW]; exact heap_alloc_new _ _
  rw [← hW]
  clear hW
  have HF : Hid (∀ w', Below W.heap.size W w' → w'.cell? ⟨w.heap.size, 0, none⟩ = some (n.val) ∧ w'.cell? ⟨w.heap.size, 1, none⟩ = some (l.val) ∧ w'.cell? ⟨w.heap.size, 2, none⟩ = some (r.val)) := fun w' hw' => by
    have hbk := (hw'.block _ (Array.getElem?_eq_some_iff.1 HBK.out).1).trans HBK.out
    exact ⟨(cell_of_row _ _ _ _ _ _ hbk).trans rfl, (cell_of_row _ _ _ _ _ _ hbk).trans rfl, (cell_of_row _ _ _ _ _ _ hbk).trans rfl⟩
  have HTW : Hid (∀ w', Below W.heap.size W w' → TabW w') := fun w' hw' => tabW_below HT.out (HB.out.trans (hw'.mono HB.out.size))
  clear HBK
  generalize n.val = v0 at *
  generalize textO n = t0 at *
  generalize l.val = v1 at *
  generalize textC l = t1 at *
  generalize r.val = v2 at *
  generalize textC r = t2 at *
  clear hs0 cv0 mv0 hs1 cv1 mv1 hs2 cv2 mv2 a0 a1 a2 a3 a4 a5 a6 a7
  refine wp_region_grow (fun w' => Below W.heap.size W w') Up (modes [one (.pointer (some ⟨w.heap.size, 0, none⟩)), one (v0), one (.string t0), one (.pointer (some ⟨w.heap.size, 1, none⟩)), one (v1), one (.string t1), one (.pointer (some ⟨w.heap.size, 2, none⟩)), one (v2), one (.string t2), loose (threeF t0 t1 t2), one (.string tx), one (.string tx)]) (by kernel_rfl) (by kernel_rfl) (up_class _) (below_drew (Below.refl _ _)) ?_
  generalize hops : (#[_, _, _, _, _, _, _, _, _, _, _, _] : Array Oper) = ops
  clear hops
  refine g_runs (.pointer (some ⟨w.heap.size, 0, none⟩)) grow_end Up.refl rfl (wanted_none rfl) (by intro d hd w; cases hd; exact trivial) (fun w' hw' => ?_) ?_
  · go_simp
  simp only [Act.put, List.setIfInBounds_toArray, List.set_cons_zero, List.set_cons_succ]
  refine g_runs (v0) grow_end Up.refl rfl (wanted_none rfl) (by intro d hd w; cases hd; exact trivial) (fun w' hw' => ?_) ?_
  · obtain ⟨y0, y1, y2⟩ := HF.out w' hw'
    go_simp
  simp only [Act.put, List.setIfInBounds_toArray, List.set_cons_zero, List.set_cons_succ]
  refine g_calls 23 #[v0] (.string t0) grow_end rfl (wanted_none rfl) (by intro d hd w; cases hd; exact trivial) (fun w' hw' => ?_) (fun w' hw' hk => ?_) ?_
  · go_simp
  · refine (HI0.out w' (HTW.out w' hw')).mono ?_
    rintro e w3 ⟨rfl, hb3⟩
    exact ⟨rfl, hb3⟩
  simp only [Act.put, List.setIfInBounds_toArray, List.set_cons_zero, List.set_cons_succ]
  refine g_runs (.pointer (some ⟨w.heap.size, 1, none⟩)) grow_end Up.refl rfl (wanted_none rfl) (by intro d hd w; cases hd; exact trivial) (fun w' hw' => ?_) ?_
  · go_simp
  simp only [Act.put, List.setIfInBounds_toArray, List.set_cons_zero, List.set_cons_succ]
  refine g_runs (v1) grow_end Up.refl rfl (wanted_none rfl) (by intro d hd w; cases hd; exact trivial) (fun w' hw' => ?_) ?_
  · obtain ⟨y0, y1, y2⟩ := HF.out w' hw'
    go_simp
  simp only [Act.put, List.setIfInBounds_toArray, List.set_cons_zero, List.set_cons_succ]
  refine g_calls 11 #[v1] (.string t1) grow_end rfl (wanted_none rfl) (by intro d hd w; cases hd; exact trivial) (fun w' hw' => ?_) (fun w' hw' hk => ?_) ?_
  · go_simp
  · refine (HI1.out w' (HTW.out w' hw')).mono ?_
    rintro e w3 ⟨rfl, hb3⟩
    exact ⟨rfl, hb3⟩
  simp only [Act.put, List.setIfInBounds_toArray, List.set_cons_zero, List.set_cons_succ]
  refine g_runs (.pointer (some ⟨w.heap.size, 2, none⟩)) grow_end Up.refl rfl (wanted_none rfl) (by intro d hd w; cases hd; exact trivial) (fun w' hw' => ?_) ?_
  · go_simp
  simp only [Act.put, List.setIfInBounds_toArray, List.set_cons_zero, List.set_cons_succ]
  refine g_runs (v2) grow_end Up.refl rfl (wanted_none rfl) (by intro d hd w; cases hd; exact trivial) (fun w' hw' => ?_) ?_
  · obtain ⟨y0, y1, y2⟩ := HF.out w' hw'
    go_simp
  simp only [Act.put, List.setIfInBounds_toArray, List.set_cons_zero, List.set_cons_succ]
  refine g_calls 11 #[v2] (.string t2) grow_end rfl (wanted_none rfl) (by intro d hd w; cases hd; exact trivial) (fun w' hw' => ?_) (fun w' hw' hk => ?_) ?_
  · go_simp
  · refine (HI2.out w' (HTW.out w' hw')).mono ?_
    rintro e w3 ⟨rfl, hb3⟩
    exact ⟨rfl, hb3⟩
  simp only [Act.put, List.setIfInBounds_toArray, List.set_cons_zero, List.set_cons_succ]
  refine g_makes (threeF t0 t1 t2) rfl (threeF_stays _ _ _) (wanted_none rfl) (fun w' hw' hk => ?_) (fun u87 => ?_)
  · refine ⟨.slice (some ⟨w'.heap.size, 0, none⟩) 3 3, w'.alloc (.cells #[.string t0, .string t1, .string t2] 9), ?_, below_alloc (Below.refl _ _) _, w'.heap.size, rfl, by simp, row3 rfl⟩
    go_simp
  simp only [Act.put, List.setIfInBounds_toArray, List.set_cons_zero, List.set_cons_succ]
  refine g_calls 22 #[.string ⟨#[105, 102]⟩, u87] (.string tx) grow_end rfl (wanted_none rfl) (by intro d hd w; cases hd; exact trivial) (fun w' hw' => ?_) (fun w' hw' hk => ?_) ?_
  · go_simp
  · obtain ⟨b, rfl, hb, hc⟩ : threeF t0 t1 t2 u87 w' := hk 87 (looks_at (by simp [Op.operands, Call.operands]))
    refine (join_any _ b 3 [t0, t1, t2] w' hc hb (by simp) (by simp) (by decide) HS.out).mono ?_
    rintro e w3 ⟨rfl, hb3⟩
    exact ⟨by rw [HX.out], hb3⟩
  simp only [Act.put, List.setIfInBounds_toArray, List.set_cons_zero, List.set_cons_succ]
  refine g_runs (.string tx) grow_end Up.refl rfl (wanted_none rfl) (by intro d hd w; cases hd; exact trivial) (fun w' hw' => ?_) ?_
  · go_simp
  simp only [Act.put, List.setIfInBounds_toArray, List.set_cons_zero, List.set_cons_succ]
  refine g_nil ?_
  intro w9 hw9 hk9
  go_wp2_with fail
  go_ret
  exact ⟨by rw [HE.out]; rfl, HB.out.trans (hw9.mono HB.out.size)⟩

end Go.Proofs.YtbppkklfjmpgiaaDoor
namespace Go.Proofs.YtbppkklfjmpgiaaDoor
open Go.RowKit
set_option linter.unusedVariables false

theorem joinL1 (a : ByteArray) : (Lib.join ([a].map (·.data.toList)) [44]).length = a.size := by
  have e : ∀ x : ByteArray, x.data.toList.length = x.size := fun x => by simp
  show (a.data.toList ++ []).length = _
  simp only [List.length_append, List.length_nil, e, Nat.add_zero]
theorem joinL2 (a b : ByteArray) : (Lib.join ([a, b].map (·.data.toList)) [44]).length = a.size + b.size + 1 := by
  have e : ∀ x : ByteArray, x.data.toList.length = x.size := fun x => by simp
  show (a.data.toList ++ ([44] ++ (b.data.toList ++ []))).length = _
  simp only [List.length_append, List.length_cons, List.length_nil, e]; omega
theorem joinL3 (a b c : ByteArray) : (Lib.join ([a, b, c].map (·.data.toList)) [44]).length = a.size + b.size + c.size + 2 := by
  have e : ∀ x : ByteArray, x.data.toList.length = x.size := fun x => by simp
  show (a.data.toList ++ ([44] ++ (b.data.toList ++ ([44] ++ (c.data.toList ++ []))))).length = _
  simp only [List.length_append, List.length_cons, List.length_nil, e]; omega
theorem joinT_size (word : ByteArray) (xs : List ByteArray) : (joinT word xs).size = word.size + (Lib.join (xs.map (·.data.toList)) [44]).length + 2 := by
  have e1 : (ByteArray.mk #[40]).size = 1 := rfl
  have e2 : (ByteArray.mk #[41]).size = 1 := rfl
  have e3 : (ByteArray.mk (Lib.join (xs.map (·.data.toList)) [44]).toArray).size = (Lib.join (xs.map (·.data.toList)) [44]).length := by
    simp [ByteArray.size]
  unfold joinT
  rw [ByteArray.size_append, ByteArray.size_append, ByteArray.size_append, e1, e2, e3]; omega
/-- Nothing in it is none, each amount has 64 bits, each name has at most M bytes. -/
def O.neat (M : Nat) : O → Prop
  | .const n => -9223372036854775808 ≤ n ∧ n ≤ 9223372036854775807
  | .fix s => s.size ≤ M
  | .add l r => l.neat M ∧ r.neat M
  | .neg o => o.neat M
  | .mul l r => l.neat M ∧ r.neat M
  | .max l r => l.neat M ∧ r.neat M
  | .odd _ => False
def C.neat (M : Nat) : C → Prop
  | .zero => True
  | .one s => s.size ≤ M
  | .give c => c.neat M
  | .and l r => l.neat M ∧ r.neat M
  | .or s l r => s.size ≤ M ∧ l.neat M ∧ r.neat M
  | .scale o c => o.neat M ∧ c.neat M
  | .when d c => (-9223372036854775808 ≤ d ∧ d ≤ 9223372036854775807) ∧ c.neat M
  | .iff o l r => o.neat M ∧ l.neat M ∧ r.neat M
  | .odd _ => False
theorem textO_size (M : Nat) (o : O) (h : o.neat M) : (textO o).size ≤ (M + 30) * o.nodes := by
  induction o with
  | const n => have := numT_size n h.1 h.2; simp only [textO, O.nodes]; omega
  | fix s => have h' : s.size ≤ M := h; simp only [textO, O.nodes]; rw [joinT_size, joinL1]; have e : (ByteArray.mk #[102, 105, 120]).size = 3 := rfl; omega
  | add l r h1 h2 => have a := h1 h.1; have b := h2 h.2; simp only [textO, O.nodes]; rw [joinT_size, joinL2, Nat.mul_add, Nat.mul_add]; have e : (ByteArray.mk #[97, 100, 100]).size = 3 := rfl; omega
  | neg o h1 => have a := h1 h; simp only [textO, O.nodes]; rw [joinT_size, joinL1, Nat.mul_add]; have e : (ByteArray.mk #[110, 101, 103]).size = 3 := rfl; omega
  | mul l r h1 h2 => have a := h1 h.1; have b := h2 h.2; simp only [textO, O.nodes]; rw [joinT_size, joinL2, Nat.mul_add, Nat.mul_add]; have e : (ByteArray.mk #[109, 117, 108]).size = 3 := rfl; omega
  | max l r h1 h2 => have a := h1 h.1; have b := h2 h.2; simp only [textO, O.nodes]; rw [joinT_size, joinL2, Nat.mul_add, Nat.mul_add]; have e : (ByteArray.mk #[109, 97, 120]).size = 3 := rfl; omega
  | odd v => exact absurd h id
theorem textC_size (M : Nat) (c : C) (h : c.neat M) : (textC c).size ≤ (M + 30) * c.nodes := by
  induction c with
  | zero => simp only [textC, C.nodes]; have e : (ByteArray.mk #[122, 101, 114, 111]).size = 4 := rfl; omega
  | one s => have h' : s.size ≤ M := h; simp only [textC, C.nodes]; rw [joinT_size, joinL1]; have e : (ByteArray.mk #[111, 110, 101]).size = 3 := rfl; omega
  | give c h1 => have a := h1 h; simp only [textC, C.nodes]; rw [joinT_size, joinL1, Nat.mul_add]; have e : (ByteArray.mk #[103, 105, 118, 101]).size = 4 := rfl; omega
  | and l r h1 h2 => have a := h1 h.1; have b := h2 h.2; simp only [textC, C.nodes]; rw [joinT_size, joinL2, Nat.mul_add, Nat.mul_add]; have e : (ByteArray.mk #[97, 110, 100]).size = 3 := rfl; omega
  | or s l r h1 h2 => have h' : s.size ≤ M := h.1; have a := h1 h.2.1; have b := h2 h.2.2; simp only [textC, C.nodes]; rw [joinT_size, joinL3, Nat.mul_add, Nat.mul_add]; have e : (ByteArray.mk #[111, 114]).size = 2 := rfl; omega
  | scale o c h1 => have a := textO_size M o h.1; have b := h1 h.2; simp only [textC, C.nodes]; rw [joinT_size, joinL2, Nat.mul_add, Nat.mul_add]; have e : (ByteArray.mk #[115, 99, 97, 108, 101]).size = 5 := rfl; omega
  | when d c h1 => have a := numT_size d h.1.1 h.1.2; have b := h1 h.2; simp only [textC, C.nodes]; rw [joinT_size, joinL2, Nat.mul_add]; have e : (ByteArray.mk #[119, 104, 101, 110]).size = 4 := rfl; omega
  | iff o l r h1 h2 => have a := textO_size M o h.1; have b := h1 h.2.1; have c := h2 h.2.2; simp only [textC, C.nodes]; rw [joinT_size, joinL3, Nat.mul_add, Nat.mul_add, Nat.mul_add]; have e : (ByteArray.mk #[105, 102]).size = 2 := rfl; omega
  | odd v => exact absurd h id
theorem obsText_any (M : Nat) (o : O) (k : o.Ok) (h : o.neat M) (hb : (M + 30) * o.nodes ≤ 70368744177664) : Writes o := by
  induction o with
  | const n => exact obsText_const n h.1 h.2
  | fix s => exact obsText_fix s (by have q := textO_size M (.fix s) h; simp only [textO] at q; rw [joinT_size] at q; omega)
  | add l r h1 h2 => exact obsText_add l r (l.one' k.1) (r.one' k.2) (h1 k.1 h.1 (Nat.le_trans (Nat.mul_le_mul_left _ (by simp only [O.nodes]; omega)) hb)) (h2 k.2 h.2 (Nat.le_trans (Nat.mul_le_mul_left _ (by simp only [O.nodes]; omega)) hb)) (by have q := textO_size M (.add l r) h; simp only [textO] at q; rw [joinT_size] at q; omega)
  | mul l r h1 h2 => exact obsText_mul l r (l.one' k.1) (r.one' k.2) (h1 k.1 h.1 (Nat.le_trans (Nat.mul_le_mul_left _ (by simp only [O.nodes]; omega)) hb)) (h2 k.2 h.2 (Nat.le_trans (Nat.mul_le_mul_left _ (by simp only [O.nodes]; omega)) hb)) (by have q := textO_size M (.mul l r) h; simp only [textO] at q; rw [joinT_size] at q; omega)
  | max l r h1 h2 => exact obsText_max l r (l.one' k.1) (r.one' k.2) (h1 k.1 h.1 (Nat.le_trans (Nat.mul_le_mul_left _ (by simp only [O.nodes]; omega)) hb)) (h2 k.2 h.2 (Nat.le_trans (Nat.mul_le_mul_left _ (by simp only [O.nodes]; omega)) hb)) (by have q := textO_size M (.max l r) h; simp only [textO] at q; rw [joinT_size] at q; omega)
  | neg o h1 => exact obsText_neg o (o.one' k) (h1 k h (Nat.le_trans (Nat.mul_le_mul_left _ (by simp only [O.nodes]; omega)) hb)) (by have q := textO_size M (.neg o) h; simp only [textO] at q; rw [joinT_size] at q; omega)
  | odd v => exact absurd h id
theorem termText_any (M : Nat) (c : C) (k : c.Ok) (h : c.neat M) (hb : (M + 30) * c.nodes ≤ 70368744177664) : WritesC c := by
  induction c with
  | zero => exact termText_zero
  | one s => exact termText_one s (by have q := textC_size M (.one s) h; simp only [textC] at q; rw [joinT_size] at q; omega)
  | give c h1 => exact termText_give c (c.one' k) (h1 k h (Nat.le_trans (Nat.mul_le_mul_left _ (by simp only [C.nodes]; omega)) hb)) (by have q := textC_size M (.give c) h; simp only [textC] at q; rw [joinT_size] at q; omega)
  | and l r h1 h2 => exact termText_and l r (l.one' k.1) (h1 k.1 h.1 (Nat.le_trans (Nat.mul_le_mul_left _ (by simp only [C.nodes]; omega)) hb)) (r.one' k.2) (h2 k.2 h.2 (Nat.le_trans (Nat.mul_le_mul_left _ (by simp only [C.nodes]; omega)) hb)) (by have q := textC_size M (.and l r) h; simp only [textC] at q; rw [joinT_size] at q; omega)
  | or s l r h1 h2 => exact termText_or s l r (l.one' k.2.1) (h1 k.2.1 h.2.1 (Nat.le_trans (Nat.mul_le_mul_left _ (by simp only [C.nodes]; omega)) hb)) (r.one' k.2.2) (h2 k.2.2 h.2.2 (Nat.le_trans (Nat.mul_le_mul_left _ (by simp only [C.nodes]; omega)) hb)) (by have q := textC_size M (.or s l r) h; simp only [textC] at q; rw [joinT_size] at q; omega)
  | scale o c h1 => exact termText_scale o c (o.one' k.1) (obsText_any M o k.1 h.1 (Nat.le_trans (Nat.mul_le_mul_left _ (by simp only [C.nodes]; omega)) hb)) (c.one' k.2) (h1 k.2 h.2 (Nat.le_trans (Nat.mul_le_mul_left _ (by simp only [C.nodes]; omega)) hb)) (by have q := textC_size M (.scale o c) h; simp only [textC] at q; rw [joinT_size] at q; omega)
  | when d c h1 => exact termText_when d h.1.1 h.1.2 c (c.one' k.2) (h1 k.2 h.2 (Nat.le_trans (Nat.mul_le_mul_left _ (by simp only [C.nodes]; omega)) hb)) (by have q := textC_size M (.when d c) h; simp only [textC] at q; rw [joinT_size] at q; omega)
  | iff o l r h1 h2 => exact termText_if o l r (o.one' k.1) (obsText_any M o k.1 h.1 (Nat.le_trans (Nat.mul_le_mul_left _ (by simp only [C.nodes]; omega)) hb)) (l.one' k.2.1) (h1 k.2.1 h.2.1 (Nat.le_trans (Nat.mul_le_mul_left _ (by simp only [C.nodes]; omega)) hb)) (r.one' k.2.2) (h2 k.2.2 h.2.2 (Nat.le_trans (Nat.mul_le_mul_left _ (by simp only [C.nodes]; omega)) hb)) (by have q := textC_size M (.iff o l r) h; simp only [textC] at q; rw [joinT_size] at q; omega)
  | odd v => exact absurd h id
end Go.Proofs.YtbppkklfjmpgiaaDoor
namespace Go.Proofs.YtbppkklfjmpgiaaDoor
open Go.RowKit
set_option linter.unusedVariables false

theorem below_drewN {B : Nat} {w w' : World} (h : Below B w w') (n : Nat) : Below B w (w'.drewN n) := ⟨h.os, h.tape, h.output, h.size, h.block⟩
theorem own_str {w : World} {B : Nat} {v : Value} {l : List ByteArray} (h : w.ownsRow B 9 1 v l.length (strCells l)) : ∃ ao cap, v = .slice ao l.length cap ∧ (∀ k (hk : k < l.length), ∃ g, ao = some ⟨g, 0, none⟩ ∧ g < w.heap.size ∧ w.cell? ⟨g, k, none⟩ = some (.string l[k])) ∧ l.length ≤ 9223372036854775807 := by
  rcases h.2 with ⟨rfl, h0⟩ | ⟨g, cap, cur, rfl, hb, hg, hnc, hcm, _⟩
  · exact ⟨none, 0, by rw [h0], fun k hk => by omega, by omega⟩
  · refine ⟨some ⟨g, 0, none⟩, cap, rfl, fun k hk => ⟨g, rfl, (Array.getElem?_eq_some_iff.1 hg).1, ?_⟩, by unfold maxLen at hcm; omega⟩
    rw [h.cellAt k (by omega)]
    simp [strCells, hk]

end Go.Proofs.YtbppkklfjmpgiaaDoor
namespace Go.Proofs.YtbppkklfjmpgiaaDoor
open Go.RowKit Go.Maps
set_option linter.unusedVariables false

def labStep (st : List ByteArray) (c : C) : List ByteArray := if c.kind = 5 then st ++ [c.text] else st
/-- The labels of a contract's Ors, in the order of a walk. -/
def C.labels : C → List ByteArray
  | .give c => c.labels
  | .and l r => l.labels ++ r.labels
  | .or s l r => s :: (l.labels ++ r.labels)
  | .scale _ c => c.labels
  | .when _ c => c.labels
  | .iff _ l r => l.labels ++ r.labels
  | _ => []
theorem labels_fold (c : C) : ∀ st, c.pre.foldl labStep st = st ++ c.labels := by
  induction c <;> intro st <;> simp_all [C.pre, labStep, C.kind, C.text, C.labels]
theorem labels_ok (c : C) (h : c.Ok) : ∀ s ∈ c.labels, s.size ≤ 2147483648 := by
  induction c with
  | give c ih => exact ih h
  | and l r h1 h2 => intro s hs; simp only [C.labels, List.mem_append] at hs; rcases hs with hs | hs; exact h1 h.1 s hs; exact h2 h.2 s hs
  | or t l r h1 h2 =>
    intro s hs
    simp only [C.labels, List.mem_cons, List.mem_append] at hs
    rcases hs with rfl | hs | hs
    · exact h.1
    · exact h1 h.2.1 s hs
    · exact h2 h.2.2 s hs
  | scale o c ih => exact ih h.2
  | when d c ih => exact ih h.2
  | iff o l r h1 h2 => intro s hs; simp only [C.labels, List.mem_append] at hs; rcases hs with hs | hs; exact h1 h.2.1 s hs; exact h2 h.2.2 s hs
  | _ => intro s hs; simp [C.labels] at hs
theorem labels_weight (c : C) : c.labels.length ≤ c.weight := by
  induction c <;> simp [C.labels, C.weight] <;> omega

/-- What is kept while labels are gathered. -/
def LabInv (V : Nat) (own : Nat → Prop) (st : List ByteArray) (w : World) : Prop :=
  ∃ v, own = (fun k => k = V ∨ v.ownBlock = some k) ∧ w.heap[V]? = some (.cells #[v] 23 (0, 0)) ∧ w.ownsRow (V + 1) 9 1 v st.length (strCells st)
theorem cell_one_in {w : World} {b : Nat} (hb : b = w.heap.size) (x : Value) (t : TypeId) : ∀ j u, [x][j]? = some u → (w.alloc (.cells #[x] t)).cell? ((⟨b, 0, none⟩ : Addr).add j) = some u := by
  subst hb
  exact cell_one_at w x t
theorem own_shape {w : World} {B e size n : Nat} {v : Value} {xs : List Value} (h : w.ownsRow B e size v n xs) : ∃ ao cap, v = .slice ao n cap := by
  rcases h.2 with ⟨rfl, h0⟩ | ⟨g, cap, cur, rfl, _⟩
  · exact ⟨none, 0, by rw [h0]⟩
  · exact ⟨_, _, rfl⟩
theorem own_slice {w : World} {B : Nat} {v : Value} {l : List ByteArray} (h : w.ownsRow B 9 1 v l.length (strCells l)) : ∃ ao cap, v = .slice ao l.length cap := by
  obtain ⟨ao, cap, e, _⟩ := own_str h
  exact ⟨ao, cap, e⟩

set_option maxHeartbeats 1000000 in
set_option maxRecDepth 100000 in
theorem labels1_any (V : Nat) : Shows 48 #[.pointer (some ⟨V, 0, none⟩)] (LabInv V) labStep List.length := by
  refine ⟨enters_of Tryd.func48 (by kernel_rfl) rfl, ?_, ?_, ?_, ?_⟩
  · rintro own st w w' ⟨v, h1, h2, h3⟩ hb
    exact ⟨v, h1, (hb.block V (Array.getElem?_eq_some_iff.1 h2).1).trans h2, h3.kept (grown_of_below hb none) (by cases hv : v.ownBlock <;> simp)⟩
  · rintro own st w ⟨v, h1, h2, h3⟩ b hb
    subst h1
    rcases hb with rfl | hb
    · exact (Array.getElem?_eq_some_iff.1 h2).1
    · exact (h3.lt b hb).2
  · intro st c
    unfold labStep
    split <;> simp [C.own]
  · rintro own st w c a ⟨v, rfl, h2, h3⟩ hok hn hna hsz
    obtain ⟨i0, gi, gz0, gz1, gz2⟩ := info_parts infoStr
    have HLT := hidIn (Array.getElem?_eq_some_iff.1 h2).1
    have HV := hidIn h2
    show Calls Tryd.prog 48 #[headT c, .slice a c.nums.length c.nums.length, .pointer (some ⟨V, 0, none⟩)] w _
    clear hn hna
    unfold headT
    by_cases hk : c.kind = 5
    · have HST : Hid (labStep st c = st ++ [c.text]) := by unfold Hid labStep; rw [if_pos hk]
      have hsl : st.length ≤ 1000000 := by omega
      obtain ⟨ao, cap, rfl⟩ := own_slice h3
      have c0 : ∀ o, (w.alloc o).cell? ⟨V, 0, none⟩ = some (.slice ao st.length cap) := fun o => (cell_of_row _ _ _ _ _ _ (heap_keeps h2 o)).trans rfl
      rw [hk]
      obtain ⟨W, hW⟩ : ∃ W, W = (w.alloc (.cells #[.int .i64 5, .string c.text, .int .i64 c.day] 109)) := ⟨_, rfl⟩
      have hVW : W.heap.size = w.heap.size + 1 := by rw [hW]; simp
      have hrow : W.ownsRow (V + 1) 9 1 (.slice ao st.length cap) st.length (strCells st) := by rw [hW]; exact h3.alloc _
      have HBW : Hid (Below w.heap.size w W) := by rw [hW]; exact below_alloc (Below.refl _ _) _
      have HVW : Hid (W.heap[V]? = some (.cells #[.slice ao st.length cap] 23 (0, 0))) := by rw [hW]; exact heap_keeps h2 _
      have HFIN : Hid (∀ v2 w2, w2.ownsRow (V + 1) 9 1 v2 (st.length + 1) (strCells st ++ [.string c.text]) → (W.alloc (.cells #[.string c.text] 9)).grownBy w2 (Value.slice ao st.length cap).ownBlock → (v2.ownBlock = (Value.slice ao st.length cap).ownBlock ∨ v2.ownBlock = some (W.alloc (.cells #[.string c.text] 9)).heap.size) → w2.heap[V]? = some (.cells #[.slice ao st.length cap] 23 (0, 0)) ∧ ∃ own', LabInv V own' (labStep st c) (w2.setCell ⟨V, 0, none⟩ v2) ∧ Dyn (fun k => k = V ∨ (Value.slice ao st.length cap).ownBlock = some k) w own' (w2.setCell ⟨V, 0, none⟩ v2)) := by
        intro v2 w2 hown2 hgrow2 hloc
        have hVne : some V ≠ (Value.slice ao st.length cap).ownBlock := fun e => by have := (hrow.lt V e.symm).1; omega
        have hs2 := hgrow2.size
        rw [World.size_alloc] at hs2
        have hVlt : V < (W.alloc (.cells #[.string c.text] 9)).heap.size := by rw [World.size_alloc]; have := HLT.out; omega
        have hV2 : w2.heap[V]? = some (.cells #[.slice ao st.length cap] 23 (0, 0)) := (hgrow2.block V hVlt hVne).trans (heap_keeps HVW.out _)
        refine ⟨hV2, fun k => k = V ∨ v2.ownBlock = some k, ⟨v2, rfl, heap_setCell_same w2 V 0 _ _ _ hV2, ?_⟩, ?_⟩
        · rw [HST.out]
          have := ownsRow_setCell_below hown2 (a := ⟨V, 0, none⟩) (by show V < V + 1; omega) v2
          simpa [strCells] using this
        · refine ⟨hgrow2.os.trans HBW.out.os, hgrow2.tape.trans HBW.out.tape, hgrow2.output.trans HBW.out.output, by rw [World.size_setCell]; omega, fun k hk hno => ?_, fun k hk => ?_⟩
          · have hkV : k ≠ V := fun e => hno (.inl e)
            have hkb : some k ≠ (Value.slice ao st.length cap).ownBlock := fun e => hno (.inr e.symm)
            rw [heap_setCell_other w2 ⟨V, 0, none⟩ k _ hkV, hgrow2.block k (by rw [World.size_alloc]; omega) hkb, Below.heap_alloc _ _ _ (by omega)]
            exact HBW.out.block k hk
          · rcases hk with hk | hk
            · exact .inl (.inl hk)
            · rcases hloc with h | h
              · rw [h] at hk; exact .inl (.inr hk)
              · rw [h] at hk
                injection hk with hk
                rw [World.size_alloc] at hk
                exact .inr (by omega)
      have hVs : V + 1 ≤ w.heap.size := HLT.out
      have HVs := hidIn hVs
      subst hW
      have HROW := hidIn hrow
      clear hVs h2 h3 hk hrow hVW HVW HBW HV
      go_enter Tryd.func48, Tryd.ntmps48
      go_wp2_with (first
        | (at_builtin; refine wpList_append_own_at _ rfl _ _ 23 rfl (V + 1) 9 i0 (.string ByteArray.empty) 1 16 Tryd.underlying23 gi gz0 gz1 gz2 rfl (by decide) _ _ _ rfl (HROW.out.alloc _) ⟨w.heap.size + 1, 0, none⟩ 1 1 [.string c.text] rfl rfl (cell_one_in (by simp) _ _) (by intro u hu; simp at hu; subst hu; rfl) (by unfold maxLen; omega) (by omega) (by have := HVs.out; simp; omega) ?_; intro v2 w2 hown2 hgrow2 _ hloc; have hF := hidIn (HFIN.out v2 w2 hown2 hgrow2 hloc); obtain ⟨ao2, cap2, rfl⟩ := own_shape hown2; have k0 := cell_of_row _ _ 0 _ _ _ hF.out.1; have k1 := frozen_of_row _ _ 0 _ _ hF.out.1; clear hown2 hgrow2 hloc HFIN HROW c0)
        | go_in)
      go_end0
      exact ⟨rfl, hF.out.2⟩
    · have HST : Hid (labStep st c = st) := by unfold Hid labStep; rw [if_neg hk]
      have hk' : (c.kind == 5) = false := by simpa using hk
      have HIN : Hid (LabInv V (fun k => k = V ∨ v.ownBlock = some k) st w) := ⟨v, rfl, h2, h3⟩
      clear h2 h3
      go_enter Tryd.func48, Tryd.ntmps48
      go_wp2_with fail
      go_end0
      have hb : Below w.heap.size w (w.alloc (.cells #[.int .i64 c.kind, .string c.text, .int .i64 c.day] 109)) := below_alloc (Below.refl _ _) _
      obtain ⟨v, h1, h2, h3⟩ := HIN.out
      refine ⟨rfl, _, ?_, Dyn.of_below hb⟩
      rw [HST.out]
      exact ⟨v, h1, heap_keeps h2 _, h3.alloc _⟩

end Go.Proofs.YtbppkklfjmpgiaaDoor
namespace Go.Proofs.YtbppkklfjmpgiaaDoor
open Go.RowKit Go.Maps
set_option linter.unusedVariables false

theorem ownsRow_base {w : World} {B B' e size n : Nat} {v : Value} {xs : List Value} (h : w.ownsRow B e size v n xs) (hB : B' ≤ B) : w.ownsRow B' e size v n xs := by
  refine ⟨h.1, ?_⟩
  rcases h.2 with h | ⟨g, cap, cur, h1, h2, h3⟩
  · exact .inl h
  · exact .inr ⟨g, cap, cur, h1, by omega, h3⟩

set_option maxHeartbeats 1000000 in
set_option maxRecDepth 100000 in
theorem labelsT_any (c : C) (hok : c.Ok) (hsz : c.weight ≤ 1000000) (w : World) : Calls Tryd.prog 21 #[c.val] w fun e w' => ∃ v, e = .returned v ∧ w'.ownsRow w.heap.size 9 1 v c.labels.length (strCells c.labels) ∧ Below w.heap.size w w' := by
  have hmf : ∀ (fn : Fn) (first cap : Array Value) (w : World), (Instr.makeFunc fn first cap).run Tryd.prog w = .ok (.func fn first cap) w := fun _ _ _ _ => rfl
  go_enter Tryd.func21, Tryd.ntmps21
  go_wp2_with fail
  refine (walk_any (labels1_any w.heap.size) c hok (fun k => k = w.heap.size ∨ (Value.slice none 0 0).ownBlock = some k) [] _ ⟨.slice none 0 0, rfl, heap_alloc_new _ _, World.ownsRow_nil _ _ _ _⟩ (by simpa using hsz)).mono ?_
  rintro e w1 ⟨rfl, own1, ⟨v, rfl, hv, hrow⟩, hd⟩
  rw [labels_fold, List.nil_append] at hrow
  have hc : w1.cell? ⟨w.heap.size, 0, none⟩ = some v := (cell_of_row _ _ _ _ _ _ hv).trans rfl
  have HROW := hidIn hrow
  obtain ⟨ao, cap, rfl⟩ := own_shape hrow
  clear hrow hv
  go_wp2_with fail
  go_ret
  have hb : Below w.heap.size w (w.alloc (.cells #[.slice none 0 0] 23)) := below_alloc (Below.refl _ _) _
  refine ⟨_, rfl, ownsRow_base HROW.out (by omega), hb.trans (hd.below (by simp) (fun k hk => ?_))⟩
  rcases hk with rfl | hk
  · exact Nat.le_refl _
  · cases hk

/-- What is known of a list of texts in memory. -/
def HasTxt (w : World) (a : Option Addr) (l : List ByteArray) : Prop := ∀ (i : Nat) (s : ByteArray), l[i]? = some s → ∃ g, a = some ⟨g, 0, none⟩ ∧ w.cell? ⟨g, i, none⟩ = some (.string s)
theorem HasTxt.below {w w' : World} {a : Option Addr} {l : List ByteArray} (h : HasTxt w a l) (hb : Below w.heap.size w w') : HasTxt w' a l := by
  intro i o hi
  obtain ⟨b, e, hc⟩ := h i o hi
  exact ⟨b, e, (hb.cell (World.block_lt_of_cell? w _ hc)).trans hc⟩
theorem own_txt {w : World} {B : Nat} {v : Value} {l : List ByteArray} (h : w.ownsRow B 9 1 v l.length (strCells l)) : ∃ ao cap, v = .slice ao l.length cap ∧ HasTxt w ao l ∧ l.length ≤ 9223372036854775807 ∧ (∀ g, ao = some ⟨g, 0, none⟩ → v.ownBlock = some g) := by
  have h' := own_str h
  obtain ⟨ao, cap, rfl, hc, hl⟩ := h'
  refine ⟨ao, cap, rfl, fun i s hi => ?_, hl, fun g e => by subst e; rfl⟩
  obtain ⟨hlt, rfl⟩ := List.getElem?_eq_some_iff.1 hi
  obtain ⟨g, e, _, hcc⟩ := hc i hlt
  exact ⟨g, e, hcc⟩
theorem HasTxt.grew {w w' : World} {a : Option Addr} {l : List ByteArray} {M : Nat} {row : Option Nat} (h : HasTxt w a l) (hg : Grew M row w w') (hM : ∀ b, a = some ⟨b, 0, none⟩ → b ≠ M ∧ row ≠ some b) : HasTxt w' a l := by
  intro i o hi
  obtain ⟨b, e, hc⟩ := h i o hi
  obtain ⟨h1, h2⟩ := hM b e
  refine ⟨b, e, ?_⟩
  have hb := hg.block b (World.block_lt_of_cell? w _ hc) h1 h2
  simp only [World.cell?, hb] at hc ⊢
  exact hc
theorem addAll_snoc (acc l : List ByteArray) (s : ByteArray) : addAll acc (l ++ [s]) = addN (addAll acc l) s := by simp [addAll]

set_option maxHeartbeats 2000000 in
set_option maxRecDepth 100000 in
theorem addNew_any (more : List ByteArray) (hok : ∀ s ∈ more, s.size ≤ 2147483648) (M : Nat) (v : Value) (acc : List ByteArray) (w : World) (h : NIn w M v acc) (hl : acc.length + more.length ≤ 1000000) (ao : Option Addr) (cap : Nat) (hm : HasTxt w ao more) (hne : ∀ g, ao = some ⟨g, 0, none⟩ → g ≠ M ∧ v.ownBlock ≠ some g) :
    Calls Tryd.prog 47 #[v, .map (some M), .slice ao more.length cap] w (NPost w M v (addAll acc more)) := by
  obtain ⟨i0, gi, gz0, gz1, gz2⟩ := info_parts infoStr
  have HIN : Hid (NIn w M v acc) := h
  have HM := hidIn hm
  have HNE := hidIn hne
  have HOK := hidIn hok
  have hml : more.length ≤ 1000000 := by omega
  have HL := hidIn hl
  clear h hm hne hok hl
  go_enter Tryd.func47, Tryd.ntmps47
  go_wp2_with fail
  go_loopw [13, 0] (fun s13 s0 wr => ∃ i : Nat, i ≤ more.length ∧ s13 = .int .i64 i ∧ NIn wr M s0 (addAll acc (more.take i)) ∧ Grew M v.ownBlock w wr ∧ (s0.ownBlock = v.ownBlock ∨ ∀ k, s0.ownBlock = some k → w.heap.size ≤ k)) (fun s13 _ _ => more.length - (intOf s13).toNat)
  case atStart => exact ⟨0, by omega, rfl, HIN.out, Grew.refl _ _ _, .inl rfl⟩
  case round =>
    obtain ⟨i, hi, rfl, hinr, hgr, hlocr⟩ := hrel
    have HGR : Hid (Grew M v.ownBlock w wr) := hgr
    have HLOC := hidIn hlocr
    have HINR := hidIn hinr
    clear hgr hlocr
    by_cases hlt : i < more.length
    · have hlt' : (i : Int) < (more.length : Int) := by omega
      obtain ⟨s, hsi⟩ : ∃ s, more[i]? = some s := ⟨_, List.getElem?_eq_getElem hlt⟩
      have hs := HOK.out s (List.mem_of_getElem? hsi)
      have hkey : keyOf Tryd.prog 9 (.string s) = some (.string s.data.toList) := Go.WideMaps.keyOf_string_mk Tryd.underlying9 (by unfold maxLen; omega)
      obtain ⟨g, rfl, hc⟩ := (HM.out.grew HGR.out HNE.out) i s hsi
      have ht := take_more _ _ _ hsi
      have HT : Hid (addAll acc (more.take (i + 1)) = addN (addAll acc (more.take i)) s) := by unfold Hid; rw [ht, addAll_snoc]
      have hal : (addAll acc (more.take i)).length ≤ 1000000 := by
        have h1 := addAll_length (more.take i) acc
        have h3 : (more.take i).length ≤ more.length := by rw [List.length_take]; omega
        have := HL.out
        omega
      clear hsi ht
      generalize addAll acc (more.take i) = ac at *
      obtain ⟨hrow, hmap, hsz⟩ := hinr
      by_cases hm : inN ac s = true
      · have hhas : Maps.has (setN ac) (.string s.data.toList) = true := by rw [has_setN]; simpa using hm
        have HA : Hid (addN ac s = ac) := by unfold Hid addN; rw [if_pos hm]
        clear hm
        go_wp2_with (at_lookup; refine wpList_lookup_own_unit _ rfl _ _ 118 rfl 9 42 lawS Tryd.underlying118 (zeroUnit _) M ac.length _ rfl hmap _ _ rfl hkey ?_)
        go_roundw
        case rel =>
          refine ⟨i + 1, by omega, by go_num, ?_, HGR.out.trans (Grew.of_below (below_alloc (Below.refl _ _) _)) (.inl rfl), HLOC.out⟩
          rw [HT.out, HA.out]
          exact HINR.out.below (below_alloc (Below.refl _ _) _)
        case measure => simp [intOf]; omega
      · have hhas : Maps.has (setN ac) (.string s.data.toList) = false := by rw [has_setN]; simpa using hm
        have HA : Hid (addN ac s = ac ++ [s]) := by unfold Hid addN; rw [if_neg hm]
        have HNEB : Hid (u0.ownBlock = none ∨ u0.ownBlock ≠ some M) := .inr (fun e => by have := hrow.lt M e; omega)
        clear hm
        go_wp2_with (first
          | (at_lookup; refine wpList_lookup_own_unit _ rfl _ _ 118 rfl 9 42 lawS Tryd.underlying118 (zeroUnit _) M ac.length _ rfl hmap _ _ rfl hkey ?_)
          | (at_mapUpdate; refine wpList_mapUpdate_own _ rfl _ _ _ 118 rfl 9 42 lawS Tryd.underlying118 (unitElem (H := Unit)) M ac.length _ rfl (hmap.alloc _) (by unfold maxLen; omega) _ _ _ rfl rfl hkey _ [] unitElem_mk ?_; intro w1 hmap1 hgrow1)
          | (at_builtin; refine wpList_append_own_at _ rfl _ _ 23 rfl (M + 1) 9 i0 (.string ByteArray.empty) 1 16 Tryd.underlying23 gi gz0 gz1 gz2 rfl (by decide) _ _ _ rfl (((hrow.alloc _).kept hgrow1 HNEB.out).alloc _) ⟨w1.heap.size, 0, none⟩ 1 1 [.string s] rfl rfl (cell_one_at w1 _ _) (by intro u hu; simp at hu; subst hu; rfl) (by unfold maxLen; omega) (by omega) (by have := hgrow1.size; simp at this ⊢; omega) ?_; intro v2 w2 hown2 hgrow2 _ hloc)
          | go_in)
        have s1 := hgrow1.size
        have s2 := hgrow2.size
        simp at s1 s2
        have HR : Hid (NIn w2 M v2 (ac ++ [s]) ∧ Grew M v.ownBlock w w2 ∧ (v2.ownBlock = v.ownBlock ∨ ∀ k, v2.ownBlock = some k → w.heap.size ≤ k)) := by
          have g0 : Grew M u0.ownBlock wr w2 := by
            have a1 : Grew M u0.ownBlock wr (wr.alloc (.cells #[] 42)) := Grew.of_below (below_alloc (Below.refl _ _) _)
            have a2 : Grew M u0.ownBlock (wr.alloc (.cells #[] 42)) w1 := Grew.of_map hgrow1
            have a3 : Grew M u0.ownBlock w1 (w1.alloc (.cells #[.string s] 9)) := Grew.of_below (below_alloc (Below.refl _ _) _)
            exact ((a1.trans a2 (.inl rfl)).trans a3 (.inl rfl)).trans (Grew.of_grown hgrow2) (.inl rfl)
          refine ⟨⟨?_, ?_, by omega⟩, HGR.out.trans g0 HLOC.out, ?_⟩
          · simpa [strCells] using hown2
          · rw [setN_snoc]
            have := (hmap1.alloc (.cells #[.string s] 9)).kept hgrow2 (fun e => by have := hrow.lt M e.symm; omega)
            simpa using this
          · rcases hloc with h | h
            · rw [h]; exact HLOC.out
            · refine .inr (fun k hk => ?_)
              rw [h] at hk
              injection hk with hk
              simp at hk
              have := HGR.out.size
              omega
        clear hown2 hgrow2 hloc hmap1 hgrow1 hmap hrow
        go_wp2_with fail
        go_roundw
        case rel => exact ⟨i + 1, by omega, by go_num, by rw [HT.out, HA.out]; exact HR.out.1, HR.out.2.1, HR.out.2.2⟩
        case measure => simp [intOf]; omega
    · have hle : i = more.length := by omega
      subst hle
      have HE : Hid (NIn wr M u0 (addAll acc more)) := by have h := HINR.out; rw [List.take_length] at h; exact h
      clear HINR hinr
      go_wp2_with fail
      go_ret
      exact ⟨_, rfl, HE.out, HGR.out, HLOC.out⟩

/-- Whether one is there twice. -/
def twice (l : List ByteArray) : Bool := decide ((addAll [] l).length < l.length)

set_option maxHeartbeats 1000000 in
set_option maxRecDepth 100000 in
theorem anyTwice_any (l : List ByteArray) (hok : ∀ s ∈ l, s.size ≤ 2147483648) (hl : l.length ≤ 1000000) (ao : Option Addr) (cap : Nat) (w : World) (hm : HasTxt w ao l) (hao : ∀ g, ao = some ⟨g, 0, none⟩ → g < w.heap.size) :
    Calls Tryd.prog 20 #[.slice ao l.length cap] w fun e w' => e = .returned (.bool (twice l)) ∧ Below w.heap.size w w' := by
  have hmm := @run_makeMap Tryd.prog
  have hal := addAll_length l []
  simp only [List.length_nil, Nat.zero_add] at hal
  have HM := hidIn hm
  have HAO := hidIn hao
  have HOK := hidIn hok
  clear hm hao hok
  have HC := hidIn (addNew_any l HOK.out w.heap.size (.slice none 0 0) [] (w.alloc (.map #[] 0)) ⟨World.ownsRow_nil _ _ _ _, World.ownsMap_made _ _ _ _, by simp⟩ (by simpa using hl) ao cap (HM.out.below (below_alloc (Below.refl _ _) _)) (fun g e => ⟨by have := HAO.out g e; omega, by simp [Value.ownBlock]⟩))
  go_enter Tryd.func20, Tryd.ntmps20
  go_wp2_with fail
  refine HC.out.mono ?_
  rintro e w2 ⟨v2, rfl, hin2, hg2, hloc2⟩
  have hb2 : Below w.heap.size w w2 := by
    have h1 : Below w.heap.size w (w.alloc (.map #[] 0)) := below_alloc (Below.refl _ _) _
    exact h1.trans (hg2.below (by simp) (Nat.le_refl _) (fun k hk => by cases hk))
  obtain ⟨ao2, cap2, rfl⟩ := own_shape hin2.1
  have HB2 := hidIn hb2
  by_cases hlt : (addAll [] l).length < l.length
  · have HT : Hid (twice l = true) := decide_eq_true hlt
    have hlt' : ((addAll [] l).length : Int) < (l.length : Int) := by omega
    clear hin2 hg2 hloc2 HC hb2
    generalize addAll [] l = X at *
    go_wp2_with fail
    go_ret
    exact ⟨by rw [HT.out]; rfl, HB2.out⟩
  · have HT : Hid (twice l = false) := decide_eq_false hlt
    have hlt' : ¬ ((addAll [] l).length : Int) < (l.length : Int) := by omega
    clear hin2 hg2 hloc2 HC hb2
    generalize addAll [] l = X at *
    go_wp2_with fail
    go_ret
    exact ⟨by rw [HT.out]; rfl, HB2.out⟩

/-- What Check answers. -/
def chkC (c : C) : Int := if formC c = true then (if 60 < c.nodes ∨ 12 < c.depth then 5 else if twice c.labels = true then 4 else 0) else 2
theorem weight_nodes (c : C) : c.nodes ≤ c.weight := by
  induction c <;> simp [C.nodes, C.weight] <;> omega

set_option maxHeartbeats 1000000 in
set_option maxRecDepth 100000 in
theorem checkT_any (c : C) (hok : c.Ok) (hsz : c.weight ≤ 1000000) (w : World) : Calls Tryd.prog 9 #[c.val] w fun e w' => e = .returned (.int .i64 (chkC c)) ∧ Below w.heap.size w w' := by
  have hwn := weight_nodes c
  have HOK := hidIn hok
  have HSZ := hidIn hsz
  have HLO := hidIn (labels_ok c hok)
  have hlw := labels_weight c
  go_enter Tryd.func9, Tryd.ntmps9
  go_wp2_with fail
  refine (formedT_any c hok hsz w).mono ?_
  rintro e w1 ⟨rfl, hb1⟩
  have hd := cdepth_nodes c
  cases hf : formC c
  · go_wp2_with fail
    go_ret
    exact ⟨by unfold chkC; rw [if_neg (by rw [hf]; simp)]; rfl, hb1⟩
  · go_wp2_with fail
    refine (sizeT_any c hok (by omega) w1).mono ?_
    rintro e w2 ⟨rfl, hb2⟩
    have HC : Hid (chkC c = if 60 < c.nodes ∨ 12 < c.depth then 5 else if twice c.labels = true then 4 else 0) := by unfold Hid chkC; rw [if_pos hf]
    have HB2 := hidIn (hb1.trans (hb2.mono hb1.size))
    clear hb1 hb2
    by_cases h1 : 60 < c.nodes
    · have h1' : (60 : Int) < (c.nodes : Int) := by omega
      go_wp2_with fail
      go_ret
      exact ⟨by rw [HC.out, if_pos (.inl h1)]; rfl, HB2.out⟩
    · have h1' : ¬ (60 : Int) < (c.nodes : Int) := by omega
      have h1d : decide ((60 : Int) < (c.nodes : Int)) = false := by simpa using h1'
      by_cases h2 : 12 < c.depth
      · have h2' : (12 : Int) < (c.depth : Int) := by omega
        go_wp2_with fail
        go_ret
        exact ⟨by rw [HC.out, if_pos (.inr h2)]; rfl, HB2.out⟩
      · have h2' : ¬ (12 : Int) < (c.depth : Int) := by omega
        have HC2 : Hid (chkC c = if twice c.labels = true then 4 else 0) := by unfold Hid; rw [HC.out, if_neg (by omega)]
        go_wp2_with fail
        refine (labelsT_any c HOK.out HSZ.out w2).mono ?_
        rintro e w3 ⟨v3, rfl, hrow3, hb3⟩
        have hlt3 := hrow3.lt
        obtain ⟨ao, cap, rfl, htx, _, hob⟩ := own_txt hrow3
        have HTX := hidIn htx
        have HAO : Hid (∀ g, ao = some ⟨g, 0, none⟩ → g < w3.heap.size) := fun g e => (hlt3 g (hob g e)).2
        have HB3 := hidIn (HB2.out.trans (hb3.mono HB2.out.size))
        clear hrow3 hlt3 htx hob hb3
        go_wp2_with fail
        refine (anyTwice_any c.labels HLO.out (by omega) ao cap w3 HTX.out HAO.out).mono ?_
        rintro e w4 ⟨rfl, hb4⟩
        have HB4 := hidIn (HB3.out.trans (hb4.mono HB3.out.size))
        clear hb4
        cases ht : twice c.labels
        · go_wp2_with fail
          go_ret
          exact ⟨by rw [HC2.out, ht]; rfl, HB4.out⟩
        · go_wp2_with fail
          go_ret
          exact ⟨by rw [HC2.out, ht]; rfl, HB4.out⟩

theorem chkC_nil : chkC (.odd .nilIface) = 2 := rfl
end Go.Proofs.YtbppkklfjmpgiaaDoor
namespace Go.Proofs.YtbppkklfjmpgiaaDoor
open Go.RowKit
set_option linter.unusedVariables false

theorem withinT_any (s : ByteArray) (hs : s.size ≤ 140737488351232) (w : World) :
    Calls Tryd.prog 10 #[.string s] w fun e w' => e = .returned (.tuple #[.string (if 1000 < s.size then ⟨#[]⟩ else s), .int .i64 (if 1000 < s.size then 5 else 0)]) ∧ w' = w := by
  by_cases h : 1000 < s.size
  · have h' : (1000 : Int) < (s.size : Int) := by omega
    rw [if_pos h, if_pos h]
    go_enter Tryd.func10, Tryd.ntmps10
    go_wp2
    go_ret2
    exact ⟨rfl, rfl⟩
  · have h' : ¬ (1000 : Int) < (s.size : Int) := by omega
    rw [if_neg h, if_neg h]
    go_enter Tryd.func10, Tryd.ntmps10
    go_wp2
    go_ret2
    exact ⟨rfl, rfl⟩
theorem formB_neat (o : O) (k : o.Ok) (h : formB o = true) : o.neat 2147483648 := by
  induction o with
  | const n => exact k
  | fix s => exact k
  | add l r h1 h2 => simp only [formB, Bool.and_eq_true] at h; exact ⟨h1 k.1 h.1, h2 k.2 h.2⟩
  | mul l r h1 h2 => simp only [formB, Bool.and_eq_true] at h; exact ⟨h1 k.1 h.1, h2 k.2 h.2⟩
  | max l r h1 h2 => simp only [formB, Bool.and_eq_true] at h; exact ⟨h1 k.1 h.1, h2 k.2 h.2⟩
  | neg o h1 => exact h1 k h
  | odd v => cases h
theorem formC_neat (c : C) (k : c.Ok) (h : formC c = true) : c.neat 2147483648 := by
  induction c with
  | zero => trivial
  | one s => exact k
  | give c h1 => exact h1 k h
  | and l r h1 h2 => simp only [formC, Bool.and_eq_true] at h; exact ⟨h1 k.1 h.1, h2 k.2 h.2⟩
  | or s l r h1 h2 => simp only [formC, Bool.and_eq_true] at h; exact ⟨k.1, h1 k.2.1 h.1.2, h2 k.2.2 h.2⟩
  | scale o c h1 => simp only [formC, Bool.and_eq_true] at h; exact ⟨formB_neat o k.1 h.1, h1 k.2 h.2⟩
  | when d c h1 => simp only [formC, Bool.and_eq_true] at h; exact ⟨k.1, h1 k.2 h.2⟩
  | iff o l r h1 h2 => simp only [formC, Bool.and_eq_true] at h; exact ⟨formB_neat o k.1 h.1.1, h1 k.2.1 h.1.2, h2 k.2.2 h.2⟩
  | odd v => cases h
/-- What write.Obs answers: the text, and the error. -/
def wText (o : O) : ByteArray := if chk o = 0 then (if 1000 < (textO o).size then ⟨#[]⟩ else textO o) else ⟨#[]⟩
def wErr (o : O) : Int := if chk o = 0 then (if 1000 < (textO o).size then 5 else 0) else chk o
def wTextC (c : C) : ByteArray := if chkC c = 0 then (if 1000 < (textC c).size then ⟨#[]⟩ else textC c) else ⟨#[]⟩
def wErrC (c : C) : Int := if chkC c = 0 then (if 1000 < (textC c).size then 5 else 0) else chkC c
theorem chk_zero {o : O} (h : chk o = 0) : formB o = true ∧ o.nodes ≤ 60 ∧ o.depth ≤ 12 := by
  unfold chk at h
  split at h
  · rename_i hf
    split at h
    · cases h
    · exact ⟨hf, by omega, by omega⟩
  · cases h
theorem chkC_zero {c : C} (h : chkC c = 0) : formC c = true ∧ c.nodes ≤ 60 ∧ c.depth ≤ 12 ∧ twice c.labels = false := by
  unfold chkC at h
  split at h
  · rename_i hf
    split at h
    · cases h
    · split at h
      · cases h
      · rename_i ht
        exact ⟨hf, by omega, by omega, by simpa using ht⟩
  · cases h
set_option maxHeartbeats 1000000 in
set_option maxRecDepth 100000 in
theorem writeC_any (c : C) (hok : c.Ok) (hsz : c.weight ≤ 1000000) (w : World) (ht : TabW w) : Calls Tryd.prog 4 #[c.val] w fun e w' => e = .returned (.tuple #[.string (wTextC c), .int .i64 (wErrC c)]) ∧ Below w.heap.size w w' := by
  have HW : Hid (chkC c = 0 → WritesC c ∧ (textC c).size ≤ 70368744177664) := fun h => by
    have hz := chkC_zero h
    have hn := formC_neat c hok hz.1
    exact ⟨termText_any _ c hok hn (by omega), Nat.le_trans (textC_size _ c hn) (by omega)⟩
  have HT := hidIn ht
  have HR : Hid (wTextC c = if chkC c = 0 then (if 1000 < (textC c).size then ⟨#[]⟩ else textC c) else ⟨#[]⟩) := rfl
  have HE : Hid (wErrC c = if chkC c = 0 then (if 1000 < (textC c).size then 5 else 0) else chkC c) := rfl
  have HK := hidIn (checkT_any c hok hsz)
  generalize wTextC c = rt at *
  generalize wErrC c = re at *
  clear hok hsz ht
  go_enter Tryd.func4, Tryd.ntmps4
  go_wp2_with fail
  refine (HK.out w).mono ?_
  rintro e w1 ⟨rfl, hb1⟩
  have HB1 := hidIn hb1
  clear hb1
  by_cases h0 : chkC c = 0
  · obtain ⟨hw, hs⟩ := HW.out h0
    have HW1 := hidIn hw
    clear hw
    rw [h0]
    go_wp2_with fail
    refine (HW1.out w1 (tabW_below HT.out HB1.out)).mono ?_
    rintro e w2 ⟨rfl, hb2⟩
    have HB2 := hidIn (HB1.out.trans (hb2.mono HB1.out.size))
    clear hb2
    go_wp2_with fail
    refine calls_same (withinT_any (textC c) (by omega) _) ?_
    have H1 := HR.out
    have H2 := HE.out
    rw [if_pos h0] at H1 H2
    rw [← H1, ← H2]
    clear H1 H2
    go_wp2_with fail
    go_ret2
    exact ⟨rfl, HB2.out⟩
  · obtain ⟨n, hn⟩ : ∃ n, chkC c = n := ⟨_, rfl⟩
    have H1 := HR.out
    have H2 := HE.out
    rw [if_neg h0] at H1 H2
    rw [hn] at h0 H2
    rw [hn]
    go_wp2_with fail
    go_ret2
    exact ⟨by rw [H1, H2]; rfl, HB1.out⟩

end Go.Proofs.YtbppkklfjmpgiaaDoor
namespace Go.Proofs.YtbppkklfjmpgiaaDoor
open Go.RowKit
set_option linter.unusedVariables false

def sameC : C → C → Bool
  | .zero, .zero => true
  | .one s, .one t => decide (s = t)
  | .give a, .give b => sameC a b
  | .and l r, .and x y => sameC l x && sameC r y
  | .or s l r, .or t x y => decide (s = t) && (sameC l x && sameC r y)
  | .scale o a, .scale p b => sameO o p && sameC a b
  | .when d a, .when e b => decide (d = e) && sameC a b
  | .iff o l r, .iff p x y => sameO o p && (sameC l x && sameC r y)
  | _, _ => false
def sameCL : List C → List C → Bool
  | a :: l, b :: m => sameC a b && sameCL l m
  | _, _ => true
theorem sameC_head (a b : C) (h : ¬ (a.kind = b.kind ∧ a.text = b.text ∧ a.day = b.day)) : sameC a b = false := by
  cases a <;> cases b <;> simp [sameC, C.kind, C.text, C.day] at h ⊢ <;> simp [h]
theorem sameC_none (a b : C) (h : a.kind = 0) : sameC a b = false := by
  cases a <;> simp [C.kind] at h
  cases b <;> rfl
theorem sameC_kids (a b : C) (h0 : a.kind ≠ 0) (h : a.kind = b.kind ∧ a.text = b.text ∧ a.day = b.day) : a.nums.length = b.nums.length ∧ a.kids.length = b.kids.length ∧ sameC a b = (sameL a.nums b.nums && sameCL a.kids b.kids) := by
  cases a <;> cases b <;> simp [sameC, sameL, sameCL, C.kids, C.nums, C.kind, C.text, C.day] at h h0 ⊢ <;> simp [h]
theorem sameCL_take (l m : List C) (i : Nat) (a b : C) (h1 : l[i]? = some a) (h2 : m[i]? = some b) : sameCL (l.take (i + 1)) (m.take (i + 1)) = (sameCL (l.take i) (m.take i) && sameC a b) := by
  induction l generalizing m i with
  | nil => simp at h1
  | cons x l ih =>
    cases m with
    | nil => simp at h2
    | cons y m =>
      cases i with
      | zero => simp at h1 h2; subst h1 h2; simp [sameCL]
      | succ i =>
        simp at h1 h2
        simp only [List.take_succ_cons, sameCL]
        rw [ih m i h1 h2, Bool.and_assoc]
theorem sameCL_no (l m : List C) (i : Nat) (a b : C) (h1 : l[i]? = some a) (h2 : m[i]? = some b) (h : sameC a b = false) : sameCL l m = false := by
  induction l generalizing m i with
  | nil => simp at h1
  | cons x l ih =>
    cases m with
    | nil => simp at h2
    | cons y m =>
      cases i with
      | zero => simp at h1 h2; subst h1 h2; simp [sameCL, h]
      | succ i =>
        simp at h1 h2
        simp [sameCL, ih m i h1 h2]
end Go.Proofs.YtbppkklfjmpgiaaDoor
namespace Go.Proofs.YtbppkklfjmpgiaaDoor
open Go.RowKit
set_option linter.unusedVariables false

/-- A byte by which a word ends. -/
def dl (b : UInt8) : Bool := b == 40 || b == 41 || b == 44
def noDl (l : List UInt8) : Prop := ∀ b ∈ l, dl b = false
def endsW (l : List UInt8) : Prop := l = [] ∨ ∃ b r, l = b :: r ∧ dl b = true
theorem word_split {u v X Y : List UInt8} (hu : noDl u) (hv : noDl v) (hX : endsW X) (hY : endsW Y) (h : u ++ X = v ++ Y) : u = v ∧ X = Y := by
  induction u generalizing v with
  | nil =>
    cases v with
    | nil => exact ⟨rfl, h⟩
    | cons b v =>
      exfalso
      have hb := hv b (by simp)
      rcases hX with rfl | ⟨c, r, rfl, hc⟩
      · simp at h
      · simp at h; rw [h.1] at hc; rw [hc] at hb; cases hb
  | cons a u ih =>
    cases v with
    | nil =>
      exfalso
      have hb := hu a (by simp)
      rcases hY with rfl | ⟨c, r, rfl, hc⟩
      · simp at h
      · simp at h; rw [← h.1] at hc; rw [hc] at hb; cases hb
    | cons b v =>
      simp at h
      obtain ⟨rfl, h⟩ := h
      obtain ⟨rfl, rfl⟩ := ih (fun x hx => hu x (by simp [hx])) (fun x hx => hv x (by simp [hx])) h
      exact ⟨rfl, rfl⟩
theorem ends_cons (b : UInt8) (r : List UInt8) (h : dl b = true) : endsW (b :: r) := .inr ⟨b, r, rfl, h⟩
theorem baExt {a b : ByteArray} (h : a.data.toList = b.data.toList) : a = b := by
  cases a with | mk a => cases b with | mk b => simp only [ByteArray.mk.injEq]; exact Array.toList_inj.1 h
theorem decode_cont (s : ByteArray) (i k : Nat) (h1 : 1 ≤ k) (h2 : k < (Utf8.decode s i).2) : 128 ≤ (s.get! (i + k)).toNat := by
  unfold Utf8.decode at h2
  simp only [] at h2
  split at h2
  · simp at h2; omega
  · split at h2
    · rename_i hc
      simp only [Bool.and_eq_true, decide_eq_true_eq, beq_iff_eq] at hc
      split at h2
      · simp at h2; obtain rfl : k = 1 := by omega
        omega
      · simp at h2; omega
    · split at h2
      · rename_i hc
        simp only [Bool.and_eq_true, decide_eq_true_eq, beq_iff_eq] at hc
        split at h2
        · simp at h2; rcases (show k = 1 ∨ k = 2 by omega) with rfl | rfl <;> omega
        · simp at h2; omega
      · split at h2
        · rename_i hc
          simp only [Bool.and_eq_true, decide_eq_true_eq, beq_iff_eq] at hc
          split at h2
          · simp at h2; rcases (show k = 1 ∨ k = 2 ∨ k = 3 by omega) with rfl | rfl | rfl <;> omega
          · simp at h2; omega
        · simp at h2; omega
theorem decode_ascii (s : ByteArray) (i : Nat) (h : (s.get! i).toNat < 128) : Utf8.decode s i = ((s.get! i).toNat, 1) := by
  unfold Utf8.decode
  simp only [Nat.add_zero]
  rw [if_pos h]
/-- A byte below 128 is a rune of the text. -/
theorem ascii_in (s : ByteArray) (j : Nat) (hj : j < s.size) (h : (s.get! j).toNat < 128) : ∀ d pos, j = pos + d → ((s.get! j).toNat : Int) ∈ rest s pos := by
  intro d
  induction d using Nat.strongRecOn with
  | _ d ih =>
    intro pos hd
    rw [rest_step s pos (by omega)]
    by_cases h0 : d = 0
    · subst h0
      obtain rfl : pos = j := by omega
      rw [decode_ascii s pos h]
      exact List.mem_cons_self
    · by_cases hw : d < (Utf8.decode s pos).2
      · have := decode_cont s pos d (by omega) hw
        rw [← hd] at this
        omega
      · have h1 := width_pos s pos (by omega)
        exact List.mem_cons_of_mem _ (ih (d - (Utf8.decode s pos).2) (by omega) _ (by omega))
theorem nameGo_let (c : Nat) (rs : List Int) (h : nameGo c rs = true) : ∀ r ∈ rs, letB r = true := by
  induction rs generalizing c with
  | nil => intro r hr; cases hr
  | cons a rs ih =>
    intro r hr
    have hno : (!letB a || ((c == 0) && digB a) || (c == 12)) = false := by
      cases hx : (!letB a || ((c == 0) && digB a) || (c == 12)) with
      | false => rfl
      | true => rw [nameGo_no c a rs hx] at h; cases h
    simp only [Bool.or_eq_false_iff] at hno
    rw [nameGo_yes c a rs (by simpa using hno.1.1) hno.1.2 hno.2] at h
    rcases List.mem_cons.1 hr with rfl | hr
    · simpa using hno.1.1
    · exact ih (c + 1) h r hr
theorem name_noDl (s : ByteArray) (h : nameGo 0 (runesOf s) = true) : noDl s.data.toList := by
  intro b hb
  cases hd : dl b with
  | false => rfl
  | true =>
    exfalso
    obtain ⟨j, hj, hjb⟩ := List.getElem_of_mem hb
    have hjs : j < s.size := by simpa using hj
    have hg : s.get! j = b := by
      rw [← hjb]
      simp [ByteArray.get!, getElem!_def]
      rw [Array.getElem?_eq_getElem (by simpa using hjs)]
    have hbv : b = 40 ∨ b = 41 ∨ b = 44 := by simpa [dl, or_assoc] using hd
    have hlt : (s.get! j).toNat < 128 := by rw [hg]; rcases hbv with rfl | rfl | rfl <;> decide
    have hm := ascii_in s j hjs hlt j 0 (by omega)
    have hl := nameGo_let 0 _ h _ hm
    rw [hg] at hl
    rcases hbv with rfl | rfl | rfl <;> exact absurd hl (by decide)
def digOrNeg (b : UInt8) : Bool := b == 45 || (decide (48 ≤ b.toNat) && decide (b.toNat ≤ 57))
theorem dec_bytes (n : Nat) : ∀ b ∈ Lib.decDigits n, digOrNeg b = true := by
  induction n using Nat.strongRecOn with
  | _ n ih =>
    have hone : ∀ k, k < 10 → digOrNeg (UInt8.ofNat (48 + k)) = true := by decide
    intro b hb
    rw [Lib.decDigits] at hb
    by_cases h : n < 10
    · rw [dif_pos h, List.mem_singleton] at hb
      subst hb
      exact hone n h
    · rw [dif_neg h] at hb
      rcases List.mem_append.1 hb with hb | hb
      · exact ih (n / 10) (by omega) b hb
      · rw [List.mem_singleton] at hb; subst hb; exact hone (n % 10) (by omega)
theorem dec_ne (n : Nat) : Lib.decDigits n ≠ [] := by
  rw [Lib.decDigits]; split <;> simp
def valN (l : List UInt8) : Nat := l.foldl (fun a c => a * 10 + (c.toNat - 48)) 0
theorem dec_val (n : Nat) : valN (Lib.decDigits n) = n := by
  induction n using Nat.strongRecOn with
  | _ n ih =>
    have hone : ∀ k, k < 10 → (UInt8.ofNat (48 + k)).toNat - 48 = k := by decide
    rw [Lib.decDigits]
    by_cases h : n < 10
    · rw [dif_pos h]; simp only [valN, List.foldl_cons, List.foldl_nil]; rw [hone n h]; omega
    · rw [dif_neg h]
      have h2 := ih (n / 10) (by omega)
      unfold valN at h2 ⊢
      rw [List.foldl_append, h2]
      simp only [List.foldl_cons, List.foldl_nil]
      rw [hone _ (by omega)]
      omega
theorem num_list (n : Int) : (numT n).data.toList = Lib.itoa n := by simp [numT]
theorem num_bytes (n : Int) : ∀ b ∈ (numT n).data.toList, digOrNeg b = true := by
  rw [num_list]
  unfold Lib.itoa
  split
  · intro b hb
    rcases List.mem_cons.1 hb with rfl | hb
    · decide
    · exact dec_bytes _ b hb
  · exact dec_bytes _
theorem num_ne (n : Int) : (numT n).data.toList ≠ [] := by
  rw [num_list]; unfold Lib.itoa; split
  · simp
  · exact dec_ne _
theorem num_noDl (n : Int) : noDl (numT n).data.toList := by
  intro b hb
  have h := num_bytes n b hb
  cases hd : dl b with
  | false => rfl
  | true =>
    have hbv : b = 40 ∨ b = 41 ∨ b = 44 := by simpa [dl, or_assoc] using hd
    rcases hbv with rfl | rfl | rfl <;> exact absurd h (by decide)
theorem num_inj {n m : Int} (h : (numT n).data.toList = (numT m).data.toList) : n = m := by
  rw [num_list, num_list] at h
  unfold Lib.itoa at h
  have h45 : ∀ k, ∀ t : List UInt8, 45 :: t ≠ Lib.decDigits k := by
    intro k t e
    rw [Lib.decDigits] at e
    have hone : ∀ k, k < 10 → (UInt8.ofNat (48 + k)) ≠ 45 := by decide
    have hhead : ∀ k, (Lib.decDigits k).head? ≠ some 45 := by
      intro k
      induction k using Nat.strongRecOn with
      | _ k ih =>
        rw [Lib.decDigits]
        by_cases h : k < 10
        · rw [dif_pos h]; simp only [List.head?_cons, ne_eq, Option.some.injEq]; exact hone k h
        · rw [dif_neg h, List.head?_append]
          have := ih (k / 10) (by omega)
          have hne := dec_ne (k / 10)
          cases hq : Lib.decDigits (k / 10) with
          | nil => exact absurd hq hne
          | cons a l => rw [hq] at this; simpa using this
    rw [← Lib.decDigits] at e
    have := hhead k
    rw [← e] at this
    simp at this
  split at h <;> split at h
  · simp at h; have := congrArg valN h; rw [dec_val, dec_val] at this; omega
  · exact absurd h (h45 _ _)
  · exact absurd h.symm (h45 _ _)
  · have := congrArg valN h; rw [dec_val, dec_val] at this; omega
theorem joinL_1 (w a : ByteArray) : (joinT w [a]).data.toList = w.data.toList ++ 40 :: (a.data.toList ++ [41]) := by
  unfold joinT; simp [Lib.join_one]
theorem joinL_2 (w a b : ByteArray) : (joinT w [a, b]).data.toList = w.data.toList ++ 40 :: (a.data.toList ++ 44 :: (b.data.toList ++ [41])) := by
  unfold joinT; simp [Lib.join_cons, Lib.joinTail]
theorem joinL_3 (w a b c : ByteArray) : (joinT w [a, b, c]).data.toList = w.data.toList ++ 40 :: (a.data.toList ++ 44 :: (b.data.toList ++ 44 :: (c.data.toList ++ [41]))) := by
  unfold joinT; simp [Lib.join_cons, Lib.joinTail]
/-- The word by which a text begins, and what follows. -/
def beginsW (l : List UInt8) (u r : List UInt8) : Prop := l = u ++ r ∧ noDl u ∧ endsW r
theorem begin_app {l u r X : List UInt8} (h : beginsW l u r) (hX : endsW X) : beginsW (l ++ X) u (r ++ X) := by
  obtain ⟨rfl, h1, h2⟩ := h
  refine ⟨by simp, h1, ?_⟩
  rcases h2 with rfl | ⟨b, r, rfl, hb⟩
  · simpa using hX
  · exact .inr ⟨b, r ++ X, rfl, hb⟩
theorem begin_eq {l u r v q : List UInt8} (h1 : beginsW l u r) (h2 : beginsW l v q) : u = v ∧ r = q :=
  word_split h1.2.1 h2.2.1 h1.2.2 h2.2.2 (h1.1.symm.trans h2.1)

theorem lit_noDl (l : List UInt8) (h : l.all (fun b => !dl b) = true) : noDl l := by
  intro b hb
  have := List.all_eq_true.1 h b hb
  simpa using this
theorem num_not (n : Int) (u : List UInt8) (h : u.all digOrNeg = false) : (numT n).data.toList ≠ u := by
  intro e
  have : u.all digOrNeg = true := by rw [← e]; exact List.all_eq_true.2 (num_bytes n)
  rw [this] at h
  cases h

theorem uniqO (a : O) : ∀ (b : O) (X Y : List UInt8), formB a = true → formB b = true → endsW X → endsW Y → (textO a).data.toList ++ X = (textO b).data.toList ++ Y → a = b ∧ X = Y := by
  have hdl41 : dl 41 = true := rfl
  have hdl44 : dl 44 = true := rfl
  induction a with
  | const n =>
    intro b X Y fa fb hX hY h
    cases b with
    | const n' =>
      simp only [textO] at h
      obtain ⟨e, rfl⟩ := word_split (num_noDl n) (num_noDl n') hX hY h
      exact ⟨by rw [num_inj e], rfl⟩
    | fix s' =>
      exfalso
      simp only [textO, joinL_1, List.append_assoc, List.cons_append] at h
      have e := (word_split (num_noDl _) (lit_noDl [102, 105, 120] rfl) hX (ends_cons 40 _ rfl) h).1
      exact num_not _ [102, 105, 120] rfl e
    | add l' r' =>
      exfalso
      simp only [textO, joinL_2, List.append_assoc, List.cons_append] at h
      have e := (word_split (num_noDl _) (lit_noDl [97, 100, 100] rfl) hX (ends_cons 40 _ rfl) h).1
      exact num_not _ [97, 100, 100] rfl e
    | neg o' =>
      exfalso
      simp only [textO, joinL_1, List.append_assoc, List.cons_append] at h
      have e := (word_split (num_noDl _) (lit_noDl [110, 101, 103] rfl) hX (ends_cons 40 _ rfl) h).1
      exact num_not _ [110, 101, 103] rfl e
    | mul l' r' =>
      exfalso
      simp only [textO, joinL_2, List.append_assoc, List.cons_append] at h
      have e := (word_split (num_noDl _) (lit_noDl [109, 117, 108] rfl) hX (ends_cons 40 _ rfl) h).1
      exact num_not _ [109, 117, 108] rfl e
    | max l' r' =>
      exfalso
      simp only [textO, joinL_2, List.append_assoc, List.cons_append] at h
      have e := (word_split (num_noDl _) (lit_noDl [109, 97, 120] rfl) hX (ends_cons 40 _ rfl) h).1
      exact num_not _ [109, 97, 120] rfl e
    | odd v => cases fb
  | fix s =>
    intro b X Y fa fb hX hY h
    cases b with
    | const n' =>
      exfalso
      simp only [textO, joinL_1, List.append_assoc, List.cons_append] at h
      have e := (word_split (lit_noDl [102, 105, 120] rfl) (num_noDl _) (ends_cons 40 _ rfl) hY h).1
      exact num_not _ [102, 105, 120] rfl e.symm
    | fix s' =>
      simp only [textO, joinL_1, List.append_assoc, List.cons_append, List.nil_append, List.cons.injEq, true_and] at h
      obtain ⟨e, h⟩ := word_split (name_noDl s fa) (name_noDl s' fb) (ends_cons _ _ hdl41) (ends_cons _ _ hdl41) h
      simp only [List.cons.injEq, true_and] at h
      exact ⟨by rw [baExt e], h⟩
    | add l' r' =>
      exfalso
      simp only [textO, joinL_1, joinL_2, List.append_assoc, List.cons_append] at h
      have e := (word_split (lit_noDl [102, 105, 120] rfl) (lit_noDl [97, 100, 100] rfl) (ends_cons 40 _ rfl) (ends_cons 40 _ rfl) h).1
      exact absurd e (by decide)
    | neg o' =>
      exfalso
      simp only [textO, joinL_1, List.append_assoc, List.cons_append] at h
      have e := (word_split (lit_noDl [102, 105, 120] rfl) (lit_noDl [110, 101, 103] rfl) (ends_cons 40 _ rfl) (ends_cons 40 _ rfl) h).1
      exact absurd e (by decide)
    | mul l' r' =>
      exfalso
      simp only [textO, joinL_1, joinL_2, List.append_assoc, List.cons_append] at h
      have e := (word_split (lit_noDl [102, 105, 120] rfl) (lit_noDl [109, 117, 108] rfl) (ends_cons 40 _ rfl) (ends_cons 40 _ rfl) h).1
      exact absurd e (by decide)
    | max l' r' =>
      exfalso
      simp only [textO, joinL_1, joinL_2, List.append_assoc, List.cons_append] at h
      have e := (word_split (lit_noDl [102, 105, 120] rfl) (lit_noDl [109, 97, 120] rfl) (ends_cons 40 _ rfl) (ends_cons 40 _ rfl) h).1
      exact absurd e (by decide)
    | odd v => cases fb
  | add l r h1 h2 =>
    intro b X Y fa fb hX hY h
    cases b with
    | const n' =>
      exfalso
      simp only [textO, joinL_2, List.append_assoc, List.cons_append] at h
      have e := (word_split (lit_noDl [97, 100, 100] rfl) (num_noDl _) (ends_cons 40 _ rfl) hY h).1
      exact num_not _ [97, 100, 100] rfl e.symm
    | fix s' =>
      exfalso
      simp only [textO, joinL_1, joinL_2, List.append_assoc, List.cons_append] at h
      have e := (word_split (lit_noDl [97, 100, 100] rfl) (lit_noDl [102, 105, 120] rfl) (ends_cons 40 _ rfl) (ends_cons 40 _ rfl) h).1
      exact absurd e (by decide)
    | add l' r' =>
      simp only [formB, Bool.and_eq_true] at fa fb
      simp only [textO, joinL_2, List.append_assoc, List.cons_append, List.nil_append, List.cons.injEq, true_and] at h
      obtain ⟨e, h⟩ := h1 l' _ _ fa.1 fb.1 (ends_cons _ _ hdl44) (ends_cons _ _ hdl44) h
      simp only [List.cons.injEq, true_and] at h
      obtain ⟨e2, h⟩ := h2 r' _ _ fa.2 fb.2 (ends_cons _ _ hdl41) (ends_cons _ _ hdl41) h
      simp only [List.cons.injEq, true_and] at h
      exact ⟨by rw [e, e2], h⟩
    | neg o' =>
      exfalso
      simp only [textO, joinL_1, joinL_2, List.append_assoc, List.cons_append] at h
      have e := (word_split (lit_noDl [97, 100, 100] rfl) (lit_noDl [110, 101, 103] rfl) (ends_cons 40 _ rfl) (ends_cons 40 _ rfl) h).1
      exact absurd e (by decide)
    | mul l' r' =>
      exfalso
      simp only [textO, joinL_2, List.append_assoc, List.cons_append] at h
      have e := (word_split (lit_noDl [97, 100, 100] rfl) (lit_noDl [109, 117, 108] rfl) (ends_cons 40 _ rfl) (ends_cons 40 _ rfl) h).1
      exact absurd e (by decide)
    | max l' r' =>
      exfalso
      simp only [textO, joinL_2, List.append_assoc, List.cons_append] at h
      have e := (word_split (lit_noDl [97, 100, 100] rfl) (lit_noDl [109, 97, 120] rfl) (ends_cons 40 _ rfl) (ends_cons 40 _ rfl) h).1
      exact absurd e (by decide)
    | odd v => cases fb
  | neg o h1 =>
    intro b X Y fa fb hX hY h
    cases b with
    | const n' =>
      exfalso
      simp only [textO, joinL_1, List.append_assoc, List.cons_append] at h
      have e := (word_split (lit_noDl [110, 101, 103] rfl) (num_noDl _) (ends_cons 40 _ rfl) hY h).1
      exact num_not _ [110, 101, 103] rfl e.symm
    | fix s' =>
      exfalso
      simp only [textO, joinL_1, List.append_assoc, List.cons_append] at h
      have e := (word_split (lit_noDl [110, 101, 103] rfl) (lit_noDl [102, 105, 120] rfl) (ends_cons 40 _ rfl) (ends_cons 40 _ rfl) h).1
      exact absurd e (by decide)
    | add l' r' =>
      exfalso
      simp only [textO, joinL_1, joinL_2, List.append_assoc, List.cons_append] at h
      have e := (word_split (lit_noDl [110, 101, 103] rfl) (lit_noDl [97, 100, 100] rfl) (ends_cons 40 _ rfl) (ends_cons 40 _ rfl) h).1
      exact absurd e (by decide)
    | neg o' =>
      simp only [textO, joinL_1, List.append_assoc, List.cons_append, List.nil_append, List.cons.injEq, true_and] at h
      obtain ⟨e, h⟩ := h1 o' _ _ fa fb (ends_cons _ _ hdl41) (ends_cons _ _ hdl41) h
      simp only [List.cons.injEq, true_and] at h
      exact ⟨by rw [e], h⟩
    | mul l' r' =>
      exfalso
      simp only [textO, joinL_1, joinL_2, List.append_assoc, List.cons_append] at h
      have e := (word_split (lit_noDl [110, 101, 103] rfl) (lit_noDl [109, 117, 108] rfl) (ends_cons 40 _ rfl) (ends_cons 40 _ rfl) h).1
      exact absurd e (by decide)
    | max l' r' =>
      exfalso
      simp only [textO, joinL_1, joinL_2, List.append_assoc, List.cons_append] at h
      have e := (word_split (lit_noDl [110, 101, 103] rfl) (lit_noDl [109, 97, 120] rfl) (ends_cons 40 _ rfl) (ends_cons 40 _ rfl) h).1
      exact absurd e (by decide)
    | odd v => cases fb
  | mul l r h1 h2 =>
    intro b X Y fa fb hX hY h
    cases b with
    | const n' =>
      exfalso
      simp only [textO, joinL_2, List.append_assoc, List.cons_append] at h
      have e := (word_split (lit_noDl [109, 117, 108] rfl) (num_noDl _) (ends_cons 40 _ rfl) hY h).1
      exact num_not _ [109, 117, 108] rfl e.symm
    | fix s' =>
      exfalso
      simp only [textO, joinL_1, joinL_2, List.append_assoc, List.cons_append] at h
      have e := (word_split (lit_noDl [109, 117, 108] rfl) (lit_noDl [102, 105, 120] rfl) (ends_cons 40 _ rfl) (ends_cons 40 _ rfl) h).1
      exact absurd e (by decide)
    | add l' r' =>
      exfalso
      simp only [textO, joinL_2, List.append_assoc, List.cons_append] at h
      have e := (word_split (lit_noDl [109, 117, 108] rfl) (lit_noDl [97, 100, 100] rfl) (ends_cons 40 _ rfl) (ends_cons 40 _ rfl) h).1
      exact absurd e (by decide)
    | neg o' =>
      exfalso
      simp only [textO, joinL_1, joinL_2, List.append_assoc, List.cons_append] at h
      have e := (word_split (lit_noDl [109, 117, 108] rfl) (lit_noDl [110, 101, 103] rfl) (ends_cons 40 _ rfl) (ends_cons 40 _ rfl) h).1
      exact absurd e (by decide)
    | mul l' r' =>
      simp only [formB, Bool.and_eq_true] at fa fb
      simp only [textO, joinL_2, List.append_assoc, List.cons_append, List.nil_append, List.cons.injEq, true_and] at h
      obtain ⟨e, h⟩ := h1 l' _ _ fa.1 fb.1 (ends_cons _ _ hdl44) (ends_cons _ _ hdl44) h
      simp only [List.cons.injEq, true_and] at h
      obtain ⟨e2, h⟩ := h2 r' _ _ fa.2 fb.2 (ends_cons _ _ hdl41) (ends_cons _ _ hdl41) h
      simp only [List.cons.injEq, true_and] at h
      exact ⟨by rw [e, e2], h⟩
    | max l' r' =>
      exfalso
      simp only [textO, joinL_2, List.append_assoc, List.cons_append] at h
      have e := (word_split (lit_noDl [109, 117, 108] rfl) (lit_noDl [109, 97, 120] rfl) (ends_cons 40 _ rfl) (ends_cons 40 _ rfl) h).1
      exact absurd e (by decide)
    | odd v => cases fb
  | max l r h1 h2 =>
    intro b X Y fa fb hX hY h
    cases b with
    | const n' =>
      exfalso
      simp only [textO, joinL_2, List.append_assoc, List.cons_append] at h
      have e := (word_split (lit_noDl [109, 97, 120] rfl) (num_noDl _) (ends_cons 40 _ rfl) hY h).1
      exact num_not _ [109, 97, 120] rfl e.symm
    | fix s' =>
      exfalso
      simp only [textO, joinL_1, joinL_2, List.append_assoc, List.cons_append] at h
      have e := (word_split (lit_noDl [109, 97, 120] rfl) (lit_noDl [102, 105, 120] rfl) (ends_cons 40 _ rfl) (ends_cons 40 _ rfl) h).1
      exact absurd e (by decide)
    | add l' r' =>
      exfalso
      simp only [textO, joinL_2, List.append_assoc, List.cons_append] at h
      have e := (word_split (lit_noDl [109, 97, 120] rfl) (lit_noDl [97, 100, 100] rfl) (ends_cons 40 _ rfl) (ends_cons 40 _ rfl) h).1
      exact absurd e (by decide)
    | neg o' =>
      exfalso
      simp only [textO, joinL_1, joinL_2, List.append_assoc, List.cons_append] at h
      have e := (word_split (lit_noDl [109, 97, 120] rfl) (lit_noDl [110, 101, 103] rfl) (ends_cons 40 _ rfl) (ends_cons 40 _ rfl) h).1
      exact absurd e (by decide)
    | mul l' r' =>
      exfalso
      simp only [textO, joinL_2, List.append_assoc, List.cons_append] at h
      have e := (word_split (lit_noDl [109, 97, 120] rfl) (lit_noDl [109, 117, 108] rfl) (ends_cons 40 _ rfl) (ends_cons 40 _ rfl) h).1
      exact absurd e (by decide)
    | max l' r' =>
      simp only [formB, Bool.and_eq_true] at fa fb
      simp only [textO, joinL_2, List.append_assoc, List.cons_append, List.nil_append, List.cons.injEq, true_and] at h
      obtain ⟨e, h⟩ := h1 l' _ _ fa.1 fb.1 (ends_cons _ _ hdl44) (ends_cons _ _ hdl44) h
      simp only [List.cons.injEq, true_and] at h
      obtain ⟨e2, h⟩ := h2 r' _ _ fa.2 fb.2 (ends_cons _ _ hdl41) (ends_cons _ _ hdl41) h
      simp only [List.cons.injEq, true_and] at h
      exact ⟨by rw [e, e2], h⟩
    | odd v => cases fb
  | odd v => intro b X Y fa; cases fa
theorem uniqC (a : C) : ∀ (b : C) (X Y : List UInt8), formC a = true → formC b = true → endsW X → endsW Y → (textC a).data.toList ++ X = (textC b).data.toList ++ Y → a = b ∧ X = Y := by
  have hdl41 : dl 41 = true := rfl
  have hdl44 : dl 44 = true := rfl
  induction a with
  | zero =>
    intro b X Y fa fb hX hY h
    cases b with
    | zero =>
      simp only [textC] at h
      exact ⟨rfl, List.append_cancel_left h⟩
    | one s' =>
      exfalso
      simp only [textC, joinL_1, List.append_assoc, List.cons_append] at h
      have e := (word_split (lit_noDl [122, 101, 114, 111] rfl) (lit_noDl [111, 110, 101] rfl) hX (ends_cons 40 _ rfl) h).1
      exact absurd e (by decide)
    | give c' =>
      exfalso
      simp only [textC, joinL_1, List.append_assoc, List.cons_append] at h
      have e := (word_split (lit_noDl [122, 101, 114, 111] rfl) (lit_noDl [103, 105, 118, 101] rfl) hX (ends_cons 40 _ rfl) h).1
      exact absurd e (by decide)
    | and l' r' =>
      exfalso
      simp only [textC, joinL_2, List.append_assoc, List.cons_append] at h
      have e := (word_split (lit_noDl [122, 101, 114, 111] rfl) (lit_noDl [97, 110, 100] rfl) hX (ends_cons 40 _ rfl) h).1
      exact absurd e (by decide)
    | or s' l' r' =>
      exfalso
      simp only [textC, joinL_3, List.append_assoc, List.cons_append] at h
      have e := (word_split (lit_noDl [122, 101, 114, 111] rfl) (lit_noDl [111, 114] rfl) hX (ends_cons 40 _ rfl) h).1
      exact absurd e (by decide)
    | scale o' c' =>
      exfalso
      simp only [textC, joinL_2, List.append_assoc, List.cons_append] at h
      have e := (word_split (lit_noDl [122, 101, 114, 111] rfl) (lit_noDl [115, 99, 97, 108, 101] rfl) hX (ends_cons 40 _ rfl) h).1
      exact absurd e (by decide)
    | when d' c' =>
      exfalso
      simp only [textC, joinL_2, List.append_assoc, List.cons_append] at h
      have e := (word_split (lit_noDl [122, 101, 114, 111] rfl) (lit_noDl [119, 104, 101, 110] rfl) hX (ends_cons 40 _ rfl) h).1
      exact absurd e (by decide)
    | iff o' l' r' =>
      exfalso
      simp only [textC, joinL_3, List.append_assoc, List.cons_append] at h
      have e := (word_split (lit_noDl [122, 101, 114, 111] rfl) (lit_noDl [105, 102] rfl) hX (ends_cons 40 _ rfl) h).1
      exact absurd e (by decide)
    | odd v => cases fb
  | one s =>
    intro b X Y fa fb hX hY h
    cases b with
    | zero =>
      exfalso
      simp only [textC, joinL_1, List.append_assoc, List.cons_append] at h
      have e := (word_split (lit_noDl [111, 110, 101] rfl) (lit_noDl [122, 101, 114, 111] rfl) (ends_cons 40 _ rfl) hY h).1
      exact absurd e (by decide)
    | one s' =>
      simp only [textC, joinL_1, List.append_assoc, List.cons_append, List.nil_append, List.cons.injEq, true_and] at h
      obtain ⟨e0, h⟩ := word_split (name_noDl s fa) (name_noDl s' fb) (ends_cons _ _ hdl41) (ends_cons _ _ hdl41) h
      simp only [List.cons.injEq, true_and] at h
      exact ⟨by rw [baExt e0], h⟩
    | give c' =>
      exfalso
      simp only [textC, joinL_1, List.append_assoc, List.cons_append] at h
      have e := (word_split (lit_noDl [111, 110, 101] rfl) (lit_noDl [103, 105, 118, 101] rfl) (ends_cons 40 _ rfl) (ends_cons 40 _ rfl) h).1
      exact absurd e (by decide)
    | and l' r' =>
      exfalso
      simp only [textC, joinL_1, joinL_2, List.append_assoc, List.cons_append] at h
      have e := (word_split (lit_noDl [111, 110, 101] rfl) (lit_noDl [97, 110, 100] rfl) (ends_cons 40 _ rfl) (ends_cons 40 _ rfl) h).1
      exact absurd e (by decide)
    | or s' l' r' =>
      exfalso
      simp only [textC, joinL_1, joinL_3, List.append_assoc, List.cons_append] at h
      have e := (word_split (lit_noDl [111, 110, 101] rfl) (lit_noDl [111, 114] rfl) (ends_cons 40 _ rfl) (ends_cons 40 _ rfl) h).1
      exact absurd e (by decide)
    | scale o' c' =>
      exfalso
      simp only [textC, joinL_1, joinL_2, List.append_assoc, List.cons_append] at h
      have e := (word_split (lit_noDl [111, 110, 101] rfl) (lit_noDl [115, 99, 97, 108, 101] rfl) (ends_cons 40 _ rfl) (ends_cons 40 _ rfl) h).1
      exact absurd e (by decide)
    | when d' c' =>
      exfalso
      simp only [textC, joinL_1, joinL_2, List.append_assoc, List.cons_append] at h
      have e := (word_split (lit_noDl [111, 110, 101] rfl) (lit_noDl [119, 104, 101, 110] rfl) (ends_cons 40 _ rfl) (ends_cons 40 _ rfl) h).1
      exact absurd e (by decide)
    | iff o' l' r' =>
      exfalso
      simp only [textC, joinL_1, joinL_3, List.append_assoc, List.cons_append] at h
      have e := (word_split (lit_noDl [111, 110, 101] rfl) (lit_noDl [105, 102] rfl) (ends_cons 40 _ rfl) (ends_cons 40 _ rfl) h).1
      exact absurd e (by decide)
    | odd v => cases fb
  | give c h1 =>
    intro b X Y fa fb hX hY h
    cases b with
    | zero =>
      exfalso
      simp only [textC, joinL_1, List.append_assoc, List.cons_append] at h
      have e := (word_split (lit_noDl [103, 105, 118, 101] rfl) (lit_noDl [122, 101, 114, 111] rfl) (ends_cons 40 _ rfl) hY h).1
      exact absurd e (by decide)
    | one s' =>
      exfalso
      simp only [textC, joinL_1, List.append_assoc, List.cons_append] at h
      have e := (word_split (lit_noDl [103, 105, 118, 101] rfl) (lit_noDl [111, 110, 101] rfl) (ends_cons 40 _ rfl) (ends_cons 40 _ rfl) h).1
      exact absurd e (by decide)
    | give c' =>
      simp only [textC, joinL_1, List.append_assoc, List.cons_append, List.nil_append, List.cons.injEq, true_and] at h
      obtain ⟨e0, h⟩ := h1 c' _ _ fa fb (ends_cons _ _ hdl41) (ends_cons _ _ hdl41) h
      simp only [List.cons.injEq, true_and] at h
      exact ⟨by rw [e0], h⟩
    | and l' r' =>
      exfalso
      simp only [textC, joinL_1, joinL_2, List.append_assoc, List.cons_append] at h
      have e := (word_split (lit_noDl [103, 105, 118, 101] rfl) (lit_noDl [97, 110, 100] rfl) (ends_cons 40 _ rfl) (ends_cons 40 _ rfl) h).1
      exact absurd e (by decide)
    | or s' l' r' =>
      exfalso
      simp only [textC, joinL_1, joinL_3, List.append_assoc, List.cons_append] at h
      have e := (word_split (lit_noDl [103, 105, 118, 101] rfl) (lit_noDl [111, 114] rfl) (ends_cons 40 _ rfl) (ends_cons 40 _ rfl) h).1
      exact absurd e (by decide)
    | scale o' c' =>
      exfalso
      simp only [textC, joinL_1, joinL_2, List.append_assoc, List.cons_append] at h
      have e := (word_split (lit_noDl [103, 105, 118, 101] rfl) (lit_noDl [115, 99, 97, 108, 101] rfl) (ends_cons 40 _ rfl) (ends_cons 40 _ rfl) h).1
      exact absurd e (by decide)
    | when d' c' =>
      exfalso
      simp only [textC, joinL_1, joinL_2, List.append_assoc, List.cons_append] at h
      have e := (word_split (lit_noDl [103, 105, 118, 101] rfl) (lit_noDl [119, 104, 101, 110] rfl) (ends_cons 40 _ rfl) (ends_cons 40 _ rfl) h).1
      exact absurd e (by decide)
    | iff o' l' r' =>
      exfalso
      simp only [textC, joinL_1, joinL_3, List.append_assoc, List.cons_append] at h
      have e := (word_split (lit_noDl [103, 105, 118, 101] rfl) (lit_noDl [105, 102] rfl) (ends_cons 40 _ rfl) (ends_cons 40 _ rfl) h).1
      exact absurd e (by decide)
    | odd v => cases fb
  | and l r h1 h2 =>
    intro b X Y fa fb hX hY h
    cases b with
    | zero =>
      exfalso
      simp only [textC, joinL_2, List.append_assoc, List.cons_append] at h
      have e := (word_split (lit_noDl [97, 110, 100] rfl) (lit_noDl [122, 101, 114, 111] rfl) (ends_cons 40 _ rfl) hY h).1
      exact absurd e (by decide)
    | one s' =>
      exfalso
      simp only [textC, joinL_1, joinL_2, List.append_assoc, List.cons_append] at h
      have e := (word_split (lit_noDl [97, 110, 100] rfl) (lit_noDl [111, 110, 101] rfl) (ends_cons 40 _ rfl) (ends_cons 40 _ rfl) h).1
      exact absurd e (by decide)
    | give c' =>
      exfalso
      simp only [textC, joinL_1, joinL_2, List.append_assoc, List.cons_append] at h
      have e := (word_split (lit_noDl [97, 110, 100] rfl) (lit_noDl [103, 105, 118, 101] rfl) (ends_cons 40 _ rfl) (ends_cons 40 _ rfl) h).1
      exact absurd e (by decide)
    | and l' r' =>
      simp only [formC, Bool.and_eq_true] at fa fb
      simp only [textC, joinL_2, List.append_assoc, List.cons_append, List.nil_append, List.cons.injEq, true_and] at h
      obtain ⟨e0, h⟩ := h1 l' _ _ fa.1 fb.1 (ends_cons _ _ hdl44) (ends_cons _ _ hdl44) h
      simp only [List.cons.injEq, true_and] at h
      obtain ⟨e1, h⟩ := h2 r' _ _ fa.2 fb.2 (ends_cons _ _ hdl41) (ends_cons _ _ hdl41) h
      simp only [List.cons.injEq, true_and] at h
      exact ⟨by rw [e0, e1], h⟩
    | or s' l' r' =>
      exfalso
      simp only [textC, joinL_2, joinL_3, List.append_assoc, List.cons_append] at h
      have e := (word_split (lit_noDl [97, 110, 100] rfl) (lit_noDl [111, 114] rfl) (ends_cons 40 _ rfl) (ends_cons 40 _ rfl) h).1
      exact absurd e (by decide)
    | scale o' c' =>
      exfalso
      simp only [textC, joinL_2, List.append_assoc, List.cons_append] at h
      have e := (word_split (lit_noDl [97, 110, 100] rfl) (lit_noDl [115, 99, 97, 108, 101] rfl) (ends_cons 40 _ rfl) (ends_cons 40 _ rfl) h).1
      exact absurd e (by decide)
    | when d' c' =>
      exfalso
      simp only [textC, joinL_2, List.append_assoc, List.cons_append] at h
      have e := (word_split (lit_noDl [97, 110, 100] rfl) (lit_noDl [119, 104, 101, 110] rfl) (ends_cons 40 _ rfl) (ends_cons 40 _ rfl) h).1
      exact absurd e (by decide)
    | iff o' l' r' =>
      exfalso
      simp only [textC, joinL_2, joinL_3, List.append_assoc, List.cons_append] at h
      have e := (word_split (lit_noDl [97, 110, 100] rfl) (lit_noDl [105, 102] rfl) (ends_cons 40 _ rfl) (ends_cons 40 _ rfl) h).1
      exact absurd e (by decide)
    | odd v => cases fb
  | or s l r h1 h2 =>
    intro b X Y fa fb hX hY h
    cases b with
    | zero =>
      exfalso
      simp only [textC, joinL_3, List.append_assoc, List.cons_append] at h
      have e := (word_split (lit_noDl [111, 114] rfl) (lit_noDl [122, 101, 114, 111] rfl) (ends_cons 40 _ rfl) hY h).1
      exact absurd e (by decide)
    | one s' =>
      exfalso
      simp only [textC, joinL_1, joinL_3, List.append_assoc, List.cons_append] at h
      have e := (word_split (lit_noDl [111, 114] rfl) (lit_noDl [111, 110, 101] rfl) (ends_cons 40 _ rfl) (ends_cons 40 _ rfl) h).1
      exact absurd e (by decide)
    | give c' =>
      exfalso
      simp only [textC, joinL_1, joinL_3, List.append_assoc, List.cons_append] at h
      have e := (word_split (lit_noDl [111, 114] rfl) (lit_noDl [103, 105, 118, 101] rfl) (ends_cons 40 _ rfl) (ends_cons 40 _ rfl) h).1
      exact absurd e (by decide)
    | and l' r' =>
      exfalso
      simp only [textC, joinL_2, joinL_3, List.append_assoc, List.cons_append] at h
      have e := (word_split (lit_noDl [111, 114] rfl) (lit_noDl [97, 110, 100] rfl) (ends_cons 40 _ rfl) (ends_cons 40 _ rfl) h).1
      exact absurd e (by decide)
    | or s' l' r' =>
      simp only [formC, Bool.and_eq_true] at fa fb
      simp only [textC, joinL_3, List.append_assoc, List.cons_append, List.nil_append, List.cons.injEq, true_and] at h
      obtain ⟨e0, h⟩ := word_split (name_noDl s fa.1.1) (name_noDl s' fb.1.1) (ends_cons _ _ hdl44) (ends_cons _ _ hdl44) h
      simp only [List.cons.injEq, true_and] at h
      obtain ⟨e1, h⟩ := h1 l' _ _ fa.1.2 fb.1.2 (ends_cons _ _ hdl44) (ends_cons _ _ hdl44) h
      simp only [List.cons.injEq, true_and] at h
      obtain ⟨e2, h⟩ := h2 r' _ _ fa.2 fb.2 (ends_cons _ _ hdl41) (ends_cons _ _ hdl41) h
      simp only [List.cons.injEq, true_and] at h
      exact ⟨by rw [baExt e0, e1, e2], h⟩
    | scale o' c' =>
      exfalso
      simp only [textC, joinL_2, joinL_3, List.append_assoc, List.cons_append] at h
      have e := (word_split (lit_noDl [111, 114] rfl) (lit_noDl [115, 99, 97, 108, 101] rfl) (ends_cons 40 _ rfl) (ends_cons 40 _ rfl) h).1
      exact absurd e (by decide)
    | when d' c' =>
      exfalso
      simp only [textC, joinL_2, joinL_3, List.append_assoc, List.cons_append] at h
      have e := (word_split (lit_noDl [111, 114] rfl) (lit_noDl [119, 104, 101, 110] rfl) (ends_cons 40 _ rfl) (ends_cons 40 _ rfl) h).1
      exact absurd e (by decide)
    | iff o' l' r' =>
      exfalso
      simp only [textC, joinL_3, List.append_assoc, List.cons_append] at h
      have e := (word_split (lit_noDl [111, 114] rfl) (lit_noDl [105, 102] rfl) (ends_cons 40 _ rfl) (ends_cons 40 _ rfl) h).1
      exact absurd e (by decide)
    | odd v => cases fb
  | scale o c h1 =>
    intro b X Y fa fb hX hY h
    cases b with
    | zero =>
      exfalso
      simp only [textC, joinL_2, List.append_assoc, List.cons_append] at h
      have e := (word_split (lit_noDl [115, 99, 97, 108, 101] rfl) (lit_noDl [122, 101, 114, 111] rfl) (ends_cons 40 _ rfl) hY h).1
      exact absurd e (by decide)
    | one s' =>
      exfalso
      simp only [textC, joinL_1, joinL_2, List.append_assoc, List.cons_append] at h
      have e := (word_split (lit_noDl [115, 99, 97, 108, 101] rfl) (lit_noDl [111, 110, 101] rfl) (ends_cons 40 _ rfl) (ends_cons 40 _ rfl) h).1
      exact absurd e (by decide)
    | give c' =>
      exfalso
      simp only [textC, joinL_1, joinL_2, List.append_assoc, List.cons_append] at h
      have e := (word_split (lit_noDl [115, 99, 97, 108, 101] rfl) (lit_noDl [103, 105, 118, 101] rfl) (ends_cons 40 _ rfl) (ends_cons 40 _ rfl) h).1
      exact absurd e (by decide)
    | and l' r' =>
      exfalso
      simp only [textC, joinL_2, List.append_assoc, List.cons_append] at h
      have e := (word_split (lit_noDl [115, 99, 97, 108, 101] rfl) (lit_noDl [97, 110, 100] rfl) (ends_cons 40 _ rfl) (ends_cons 40 _ rfl) h).1
      exact absurd e (by decide)
    | or s' l' r' =>
      exfalso
      simp only [textC, joinL_2, joinL_3, List.append_assoc, List.cons_append] at h
      have e := (word_split (lit_noDl [115, 99, 97, 108, 101] rfl) (lit_noDl [111, 114] rfl) (ends_cons 40 _ rfl) (ends_cons 40 _ rfl) h).1
      exact absurd e (by decide)
    | scale o' c' =>
      simp only [formC, Bool.and_eq_true] at fa fb
      simp only [textC, joinL_2, List.append_assoc, List.cons_append, List.nil_append, List.cons.injEq, true_and] at h
      obtain ⟨e0, h⟩ := uniqO o o' _ _ fa.1 fb.1 (ends_cons _ _ hdl44) (ends_cons _ _ hdl44) h
      simp only [List.cons.injEq, true_and] at h
      obtain ⟨e1, h⟩ := h1 c' _ _ fa.2 fb.2 (ends_cons _ _ hdl41) (ends_cons _ _ hdl41) h
      simp only [List.cons.injEq, true_and] at h
      exact ⟨by rw [e0, e1], h⟩
    | when d' c' =>
      exfalso
      simp only [textC, joinL_2, List.append_assoc, List.cons_append] at h
      have e := (word_split (lit_noDl [115, 99, 97, 108, 101] rfl) (lit_noDl [119, 104, 101, 110] rfl) (ends_cons 40 _ rfl) (ends_cons 40 _ rfl) h).1
      exact absurd e (by decide)
    | iff o' l' r' =>
      exfalso
      simp only [textC, joinL_2, joinL_3, List.append_assoc, List.cons_append] at h
      have e := (word_split (lit_noDl [115, 99, 97, 108, 101] rfl) (lit_noDl [105, 102] rfl) (ends_cons 40 _ rfl) (ends_cons 40 _ rfl) h).1
      exact absurd e (by decide)
    | odd v => cases fb
  | when d c h1 =>
    intro b X Y fa fb hX hY h
    cases b with
    | zero =>
      exfalso
      simp only [textC, joinL_2, List.append_assoc, List.cons_append] at h
      have e := (word_split (lit_noDl [119, 104, 101, 110] rfl) (lit_noDl [122, 101, 114, 111] rfl) (ends_cons 40 _ rfl) hY h).1
      exact absurd e (by decide)
    | one s' =>
      exfalso
      simp only [textC, joinL_1, joinL_2, List.append_assoc, List.cons_append] at h
      have e := (word_split (lit_noDl [119, 104, 101, 110] rfl) (lit_noDl [111, 110, 101] rfl) (ends_cons 40 _ rfl) (ends_cons 40 _ rfl) h).1
      exact absurd e (by decide)
    | give c' =>
      exfalso
      simp only [textC, joinL_1, joinL_2, List.append_assoc, List.cons_append] at h
      have e := (word_split (lit_noDl [119, 104, 101, 110] rfl) (lit_noDl [103, 105, 118, 101] rfl) (ends_cons 40 _ rfl) (ends_cons 40 _ rfl) h).1
      exact absurd e (by decide)
    | and l' r' =>
      exfalso
      simp only [textC, joinL_2, List.append_assoc, List.cons_append] at h
      have e := (word_split (lit_noDl [119, 104, 101, 110] rfl) (lit_noDl [97, 110, 100] rfl) (ends_cons 40 _ rfl) (ends_cons 40 _ rfl) h).1
      exact absurd e (by decide)
    | or s' l' r' =>
      exfalso
      simp only [textC, joinL_2, joinL_3, List.append_assoc, List.cons_append] at h
      have e := (word_split (lit_noDl [119, 104, 101, 110] rfl) (lit_noDl [111, 114] rfl) (ends_cons 40 _ rfl) (ends_cons 40 _ rfl) h).1
      exact absurd e (by decide)
    | scale o' c' =>
      exfalso
      simp only [textC, joinL_2, List.append_assoc, List.cons_append] at h
      have e := (word_split (lit_noDl [119, 104, 101, 110] rfl) (lit_noDl [115, 99, 97, 108, 101] rfl) (ends_cons 40 _ rfl) (ends_cons 40 _ rfl) h).1
      exact absurd e (by decide)
    | when d' c' =>
      simp only [formC, Bool.and_eq_true] at fa fb
      simp only [textC, joinL_2, List.append_assoc, List.cons_append, List.nil_append, List.cons.injEq, true_and] at h
      obtain ⟨e0, h⟩ := word_split (num_noDl d) (num_noDl d') (ends_cons _ _ hdl44) (ends_cons _ _ hdl44) h
      simp only [List.cons.injEq, true_and] at h
      obtain ⟨e1, h⟩ := h1 c' _ _ fa.2 fb.2 (ends_cons _ _ hdl41) (ends_cons _ _ hdl41) h
      simp only [List.cons.injEq, true_and] at h
      exact ⟨by rw [num_inj e0, e1], h⟩
    | iff o' l' r' =>
      exfalso
      simp only [textC, joinL_2, joinL_3, List.append_assoc, List.cons_append] at h
      have e := (word_split (lit_noDl [119, 104, 101, 110] rfl) (lit_noDl [105, 102] rfl) (ends_cons 40 _ rfl) (ends_cons 40 _ rfl) h).1
      exact absurd e (by decide)
    | odd v => cases fb
  | iff o l r h1 h2 =>
    intro b X Y fa fb hX hY h
    cases b with
    | zero =>
      exfalso
      simp only [textC, joinL_3, List.append_assoc, List.cons_append] at h
      have e := (word_split (lit_noDl [105, 102] rfl) (lit_noDl [122, 101, 114, 111] rfl) (ends_cons 40 _ rfl) hY h).1
      exact absurd e (by decide)
    | one s' =>
      exfalso
      simp only [textC, joinL_1, joinL_3, List.append_assoc, List.cons_append] at h
      have e := (word_split (lit_noDl [105, 102] rfl) (lit_noDl [111, 110, 101] rfl) (ends_cons 40 _ rfl) (ends_cons 40 _ rfl) h).1
      exact absurd e (by decide)
    | give c' =>
      exfalso
      simp only [textC, joinL_1, joinL_3, List.append_assoc, List.cons_append] at h
      have e := (word_split (lit_noDl [105, 102] rfl) (lit_noDl [103, 105, 118, 101] rfl) (ends_cons 40 _ rfl) (ends_cons 40 _ rfl) h).1
      exact absurd e (by decide)
    | and l' r' =>
      exfalso
      simp only [textC, joinL_2, joinL_3, List.append_assoc, List.cons_append] at h
      have e := (word_split (lit_noDl [105, 102] rfl) (lit_noDl [97, 110, 100] rfl) (ends_cons 40 _ rfl) (ends_cons 40 _ rfl) h).1
      exact absurd e (by decide)
    | or s' l' r' =>
      exfalso
      simp only [textC, joinL_3, List.append_assoc, List.cons_append] at h
      have e := (word_split (lit_noDl [105, 102] rfl) (lit_noDl [111, 114] rfl) (ends_cons 40 _ rfl) (ends_cons 40 _ rfl) h).1
      exact absurd e (by decide)
    | scale o' c' =>
      exfalso
      simp only [textC, joinL_2, joinL_3, List.append_assoc, List.cons_append] at h
      have e := (word_split (lit_noDl [105, 102] rfl) (lit_noDl [115, 99, 97, 108, 101] rfl) (ends_cons 40 _ rfl) (ends_cons 40 _ rfl) h).1
      exact absurd e (by decide)
    | when d' c' =>
      exfalso
      simp only [textC, joinL_2, joinL_3, List.append_assoc, List.cons_append] at h
      have e := (word_split (lit_noDl [105, 102] rfl) (lit_noDl [119, 104, 101, 110] rfl) (ends_cons 40 _ rfl) (ends_cons 40 _ rfl) h).1
      exact absurd e (by decide)
    | iff o' l' r' =>
      simp only [formC, Bool.and_eq_true] at fa fb
      simp only [textC, joinL_3, List.append_assoc, List.cons_append, List.nil_append, List.cons.injEq, true_and] at h
      obtain ⟨e0, h⟩ := uniqO o o' _ _ fa.1.1 fb.1.1 (ends_cons _ _ hdl44) (ends_cons _ _ hdl44) h
      simp only [List.cons.injEq, true_and] at h
      obtain ⟨e1, h⟩ := h1 l' _ _ fa.1.2 fb.1.2 (ends_cons _ _ hdl44) (ends_cons _ _ hdl44) h
      simp only [List.cons.injEq, true_and] at h
      obtain ⟨e2, h⟩ := h2 r' _ _ fa.2 fb.2 (ends_cons _ _ hdl41) (ends_cons _ _ hdl41) h
      simp only [List.cons.injEq, true_and] at h
      exact ⟨by rw [e0, e1, e2], h⟩
    | odd v => cases fb
  | odd v => intro b X Y fa; cases fa
theorem textO_inj {a b : O} (fa : formB a = true) (fb : formB b = true) (h : textO a = textO b) : a = b :=
  (uniqO a b [] [] fa fb (.inl rfl) (.inl rfl) (by rw [h])).1
theorem textC_inj {a b : C} (fa : formC a = true) (fb : formC b = true) (h : textC a = textC b) : a = b :=
  (uniqC a b [] [] fa fb (.inl rfl) (.inl rfl) (by rw [h])).1
theorem sameO_eq (a : O) : ∀ b, sameO a b = true → a = b := by
  induction a with
  | const n => intro b h; cases b <;> simp_all [sameO]
  | fix s => intro b h; cases b <;> simp_all [sameO]
  | add l r h1 h2 => intro b h; cases b <;> simp [sameO] at h; rename_i l' r'; rw [h1 l' h.1, h2 r' h.2]
  | mul l r h1 h2 => intro b h; cases b <;> simp [sameO] at h; rename_i l' r'; rw [h1 l' h.1, h2 r' h.2]
  | max l r h1 h2 => intro b h; cases b <;> simp [sameO] at h; rename_i l' r'; rw [h1 l' h.1, h2 r' h.2]
  | neg o h1 => intro b h; cases b <;> simp [sameO] at h; rename_i o'; rw [h1 o' h]
  | odd v => intro b h; cases b <;> simp [sameO] at h
theorem sameC_eq (a : C) : ∀ b, sameC a b = true → a = b := by
  induction a with
  | zero => intro b h; cases b <;> simp_all [sameC]
  | one s => intro b h; cases b <;> simp_all [sameC]
  | give c h1 => intro b h; cases b <;> simp [sameC] at h; rename_i c'; rw [h1 c' h]
  | and l r h1 h2 => intro b h; cases b <;> simp [sameC] at h; rename_i l' r'; rw [h1 l' h.1, h2 r' h.2]
  | or s l r h1 h2 => intro b h; cases b <;> simp [sameC] at h; rename_i s' l' r'; rw [h.1, h1 l' h.2.1, h2 r' h.2.2]
  | scale o c h1 => intro b h; cases b <;> simp [sameC] at h; rename_i o' c'; rw [sameO_eq o o' h.1, h1 c' h.2]
  | when d c h1 => intro b h; cases b <;> simp [sameC] at h; rename_i d' c'; rw [h.1, h1 c' h.2]
  | iff o l r h1 h2 => intro b h; cases b <;> simp [sameC] at h; rename_i o' l' r'; rw [sameO_eq o o' h.1, h1 l' h.2.1, h2 r' h.2.2]
  | odd v => intro b h; cases b <;> simp [sameC] at h

end Go.Proofs.YtbppkklfjmpgiaaDoor
namespace Go.Proofs.YtbppkklfjmpgiaaDoor.Rn
open Go.RowKit
set_option linter.unusedVariables false

theorem get_mk (l : List UInt8) (k : Nat) : (ByteArray.mk l.toArray).get! k = l.getD k 0 := by
  simp [ByteArray.get!, getElem!_def, List.getD]
  rfl
theorem mk_toList (s : ByteArray) : s = ByteArray.mk s.data.toList.toArray := by simp
theorem append_mk (l : List UInt8) (t : ByteArray) : ByteArray.mk l.toArray ++ t = ByteArray.mk (l ++ t.data.toList).toArray := by
  conv => lhs; rw [mk_toList t]
  rw [ByteArray.mk_append_mk]
theorem size_mk (l : List UInt8) : (ByteArray.mk l.toArray).size = l.length := by
  show l.toArray.size = l.length
  simp
theorem get_append (a t : ByteArray) (j : Nat) : (a ++ t).get! (a.size + j) = t.get! j := by
  have h1 : a ++ t = ByteArray.mk (a.data.toList ++ t.data.toList).toArray := by
    conv => lhs; rw [mk_toList a]
    rw [append_mk]
  have h2 : t = ByteArray.mk t.data.toList.toArray := mk_toList t
  rw [h1, get_mk]
  conv => rhs; rw [h2, get_mk]
  have hs : a.size = a.data.toList.length := by simp
  rw [hs]
  simp [List.getD, List.getElem?_append_right]
theorem decode_append (a t : ByteArray) (i : Nat) : Utf8.decode (a ++ t) (a.size + i) = Utf8.decode t i := by
  have hs : ∀ k, (a.size + i + k < (a ++ t).size) = (i + k < t.size) := by
    intro k; rw [ByteArray.size_append]; apply propext; omega
  simp only [Utf8.decode, Nat.add_assoc, get_append]
  simp only [← Nat.add_assoc, hs]
theorem rest_append (a t : ByteArray) (i : Nat) : rest (a ++ t) (a.size + i) = rest t i := by
  have key : ∀ f i, decs (a ++ t) f (a.size + i) = decs t f i := by
    intro f
    induction f with
    | zero => intro i; rfl
    | succ f ih =>
      intro i
      simp only [decs, decode_append]
      rw [Nat.add_assoc, ih]
      by_cases h : i < t.size
      · rw [if_pos h, if_pos (by rw [ByteArray.size_append]; omega)]
      · rw [if_neg h, if_neg (by rw [ByteArray.size_append]; omega)]
  unfold rest
  rw [key, ByteArray.size_append, show a.size + t.size - (a.size + i) = t.size - i by omega]
theorem decode_encode (r : Int) (t : ByteArray) (hv : Utf8.valid r = true) : Utf8.decode (Utf8.encode r ++ t) 0 = (r.toNat, (Utf8.encode r).size) := by
  have hb : (0 ≤ r ∧ r < 55296) ∨ (57344 ≤ r ∧ r ≤ 1114111) := by
    simpa [Utf8.valid] using hv
  have hc : ∀ n : Nat, n < 256 → (UInt8.ofNat n).toNat = n := by intro n h; simp; omega
  unfold Utf8.encode
  simp only [hv, if_true]
  by_cases h1 : r.toNat < 128
  · simp only [h1, if_true]
    rw [show (#[UInt8.ofNat r.toNat] : Array UInt8) = [UInt8.ofNat r.toNat].toArray from rfl, append_mk]
    simp only [Utf8.decode, get_mk]
    simp only [Nat.add_zero, List.cons_append, List.getD_cons_zero]
    rw [hc _ (by omega), if_pos h1]
    rfl
  simp only [h1, if_false]
  by_cases h2 : r.toNat < 2048
  · simp only [h2, if_true]
    rw [show (#[UInt8.ofNat (192 + r.toNat / 64), UInt8.ofNat (128 + r.toNat % 64)] : Array UInt8) = [UInt8.ofNat (192 + r.toNat / 64), UInt8.ofNat (128 + r.toNat % 64)].toArray from rfl, append_mk]
    simp only [Utf8.decode, get_mk]
    simp only [Nat.add_zero, List.cons_append, List.getD_cons_zero, Nat.zero_add, List.getD_cons_succ, List.nil_append]
    rw [hc _ (by omega), hc _ (by omega)]
    rw [if_neg (by omega)]
    rw [if_pos (by simp [size_mk]; omega)]
    rw [if_pos (by omega)]
    refine Prod.ext ?_ rfl
    show (192 + r.toNat / 64) % 32 * 64 + (128 + r.toNat % 64) % 64 = r.toNat
    omega
  simp only [h2, if_false]
  by_cases h3 : r.toNat < 65536
  · simp only [h3, if_true]
    rw [show (#[UInt8.ofNat (224 + r.toNat / 4096), UInt8.ofNat (128 + r.toNat / 64 % 64), UInt8.ofNat (128 + r.toNat % 64)] : Array UInt8) = [UInt8.ofNat (224 + r.toNat / 4096), UInt8.ofNat (128 + r.toNat / 64 % 64), UInt8.ofNat (128 + r.toNat % 64)].toArray from rfl, append_mk]
    simp only [Utf8.decode, get_mk]
    simp only [Nat.add_zero, List.cons_append, List.getD_cons_zero, Nat.zero_add, List.getD_cons_succ, List.nil_append]
    rw [hc _ (by omega), hc _ (by omega), hc _ (by omega)]
    have hval : (224 + r.toNat / 4096) % 16 * 4096 + (128 + r.toNat / 64 % 64) % 64 * 64 + (128 + r.toNat % 64) % 64 = r.toNat := by omega
    rw [hval]
    rw [if_neg (by omega)]
    rw [if_neg (by simp; omega)]
    rw [if_pos (by simp [size_mk]; omega)]
    rw [if_pos (by rw [Int.toNat_of_nonneg (by omega), hv]; simp; omega)]
    rfl
  · simp only [h3, if_false]
    rw [show (#[UInt8.ofNat (240 + r.toNat / 262144), UInt8.ofNat (128 + r.toNat / 4096 % 64), UInt8.ofNat (128 + r.toNat / 64 % 64), UInt8.ofNat (128 + r.toNat % 64)] : Array UInt8) = [UInt8.ofNat (240 + r.toNat / 262144), UInt8.ofNat (128 + r.toNat / 4096 % 64), UInt8.ofNat (128 + r.toNat / 64 % 64), UInt8.ofNat (128 + r.toNat % 64)].toArray from rfl, append_mk]
    simp only [Utf8.decode, get_mk]
    simp only [Nat.add_zero, List.cons_append, List.getD_cons_zero, Nat.zero_add, List.getD_cons_succ, List.nil_append]
    rw [hc _ (by omega), hc _ (by omega), hc _ (by omega), hc _ (by omega)]
    have hval : (240 + r.toNat / 262144) % 8 * 262144 + (128 + r.toNat / 4096 % 64) % 64 * 4096 + (128 + r.toNat / 64 % 64) % 64 * 64 + (128 + r.toNat % 64) % 64 = r.toNat := by omega
    rw [hval]
    rw [if_neg (by omega)]
    rw [if_neg (by simp; omega)]
    rw [if_neg (by simp; omega)]
    rw [if_pos (by simp [size_mk]; omega)]
    rw [if_pos (by rw [Int.toNat_of_nonneg (by omega), hv]; simp; omega)]
    rfl
theorem encode_size (r : Int) : 1 ≤ (Utf8.encode r).size ∧ (Utf8.encode r).size ≤ 4 := by
  unfold Utf8.encode
  generalize (if Utf8.valid r = true then r.toNat else Utf8.runeError) = c
  simp only []
  repeat' split
  all_goals exact ⟨Nat.le_of_ble_eq_true rfl, Nat.le_of_ble_eq_true rfl⟩
theorem runesOf_encode (r : Int) (t : ByteArray) (hv : Utf8.valid r = true) : runesOf (Utf8.encode r ++ t) = r :: runesOf t := by
  have hsz := encode_size r
  have h0 : (0 : Int) ≤ r := by
    have : (0 ≤ r ∧ r < 55296) ∨ (57344 ≤ r ∧ r ≤ 1114111) := by simpa [Utf8.valid] using hv
    omega
  unfold runesOf
  rw [rest_step _ 0 (by rw [ByteArray.size_append]; omega), decode_encode r t hv]
  simp only [Nat.zero_add]
  rw [show (Utf8.encode r).size = (Utf8.encode r).size + 0 from rfl, rest_append, Int.toNat_of_nonneg h0]
theorem runesBytes_cons (r : Int) (rs : List Int) : runesBytes (r :: rs) = Utf8.encode r ++ runesBytes rs := by
  have key : ∀ (l : List Int) (a : ByteArray), l.foldl (fun r n => r ++ Utf8.encode n) a = a ++ l.foldl (fun r n => r ++ Utf8.encode n) ByteArray.empty := by
    intro l
    induction l with
    | nil => intro a; simp
    | cons b l ih =>
      intro a
      simp only [List.foldl_cons]
      rw [ih, ih (ByteArray.empty ++ Utf8.encode b)]
      simp [ByteArray.append_assoc]
  unfold runesBytes
  rw [List.foldl_cons, key]
  simp
theorem runesBytes_append (a b : List Int) : runesBytes (a ++ b) = runesBytes a ++ runesBytes b := by
  induction a with
  | nil => simp [runesBytes]
  | cons r a ih => rw [List.cons_append, runesBytes_cons, runesBytes_cons, ih, ByteArray.append_assoc]
theorem runesBytes_one (r : Int) : runesBytes [r] = Utf8.encode r := by simp [runesBytes]
theorem runesOf_bytes (rs : List Int) (t : ByteArray) (hv : ∀ r ∈ rs, Utf8.valid r = true) : runesOf (runesBytes rs ++ t) = rs ++ runesOf t := by
  induction rs with
  | nil => simp [runesBytes]
  | cons r rs ih =>
    rw [runesBytes_cons, ByteArray.append_assoc, runesOf_encode r _ (hv r (by simp)), ih (fun x hx => hv x (by simp [hx]))]
    rfl
theorem runesOf_all (rs : List Int) (hv : ∀ r ∈ rs, Utf8.valid r = true) : runesOf (runesBytes rs) = rs := by
  have := runesOf_bytes rs ByteArray.empty hv
  simpa [runesOf, rest, decs] using this
def okPair (x : Nat × Nat) : Prop := Utf8.valid (x.1 : Int) = true
theorem okPair_ite {c : Prop} [Decidable c] {a b : Nat × Nat} (h1 : c → okPair a) (h2 : ¬ c → okPair b) : okPair (if c then a else b) := by
  by_cases h : c
  · rw [if_pos h]; exact h1 h
  · rw [if_neg h]; exact h2 h
theorem okPair_err (n : Nat) : okPair (Utf8.runeError, n) := by
  show Utf8.valid ((Utf8.runeError : Nat) : Int) = true
  decide
theorem okPair_small (n m : Nat) (h : n < 55296) : okPair (n, m) := by
  show Utf8.valid (n : Int) = true
  simp only [Utf8.valid, Bool.or_eq_true, Bool.and_eq_true, decide_eq_true_eq]
  left; omega
theorem okPair_valid (n m : Nat) (k : Nat) (h : (decide (n ≥ k) && Utf8.valid (n : Int)) = true) : okPair (n, m) := by
  rw [Bool.and_eq_true] at h; exact h.2
theorem decode_valid (s : ByteArray) (pos : Nat) : Utf8.valid ((Utf8.decode s pos).1 : Int) = true := by
  show okPair (Utf8.decode s pos)
  unfold Utf8.decode
  refine okPair_ite (fun h => okPair_small _ _ (by omega)) (fun _ => ?_)
  refine okPair_ite (fun _ => okPair_ite (fun _ => okPair_small _ _ ?_) (fun _ => okPair_err _)) (fun _ => ?_)
  · have h1 := Nat.mod_lt (s.get! (pos + 0)).toNat (show 32 > 0 by decide)
    have h2 := Nat.mod_lt (s.get! (pos + 1)).toNat (show 64 > 0 by decide)
    omega
  refine okPair_ite (fun _ => okPair_ite (fun h => okPair_valid _ _ _ h) (fun _ => okPair_err _)) (fun _ => ?_)
  exact okPair_ite (fun _ => okPair_ite (fun h => okPair_valid _ _ _ h) (fun _ => okPair_err _)) (fun _ => okPair_err _)
theorem rest_valid (s : ByteArray) (pos : Nat) : ∀ r ∈ rest s pos, Utf8.valid r = true := by
  have key : ∀ f p, ∀ r ∈ decs s f p, Utf8.valid r = true := by
    intro f
    induction f with
    | zero => intro p r hr; simp [decs] at hr
    | succ f ih =>
      intro p r hr
      unfold decs at hr
      split at hr
      · rcases List.mem_cons.1 hr with rfl | h
        · exact decode_valid s p
        · exact ih _ r h
      · simp at hr
  exact key _ _

end Go.Proofs.YtbppkklfjmpgiaaDoor.Rn
namespace Go.Proofs.YtbppkklfjmpgiaaDoor
open Go.RowKit
set_option linter.unusedVariables false

theorem get_list (s : ByteArray) (i : Nat) (h : i < s.size) : s.data.toList[i]? = some (s.get! i) := by
  have h' : i < s.data.toList.length := by simpa using h
  rw [List.getElem?_eq_getElem h']
  simp [ByteArray.get!, getElem!_def]
  rw [Array.getElem?_eq_getElem (by simpa using h)]
theorem dt_cons (s : ByteArray) (i : Nat) (h : i < s.size) : s.data.toList.drop i = s.get! i :: s.data.toList.drop (i + 1) := by
  have h' : i < s.data.toList.length := by simpa using h
  have hg := get_list s i h
  rw [List.getElem?_eq_getElem h'] at hg
  rw [List.drop_eq_getElem_cons h', Option.some.inj hg]
theorem of_toNat {n : Nat} {x : UInt8} (h : n = x.toNat) : UInt8.ofNat n = x := by rw [h]; simp
theorem enc_dec (s : ByteArray) (i : Nat) (h : i < s.size) (hv : (Utf8.decode s i).1 ≠ 65533) : (Utf8.encode ((Utf8.decode s i).1 : Int)).data.toList = (s.data.toList.drop i).take (Utf8.decode s i).2 := by
  have k0 := (s.get! i).toNat_lt
  have k1 := (s.get! (i + 1)).toNat_lt
  have k2 := (s.get! (i + 2)).toNat_lt
  have k3 := (s.get! (i + 3)).toNat_lt
  rw [dt_cons s i h]
  unfold Utf8.decode at hv ⊢
  simp only [Nat.add_zero] at hv ⊢
  split
  · rename_i h0
    have hval : Utf8.valid ((s.get! i).toNat : Int) = true := by simp [Utf8.valid]; omega
    simp only [Utf8.encode, hval, if_true, Int.toNat_natCast]
    rw [if_pos h0, of_toNat rfl]
    simp
  · rename_i h0
    rw [if_neg h0] at hv
    split
    · rename_i hc
      rw [if_pos hc] at hv
      simp only [Bool.and_eq_true, decide_eq_true_eq, beq_iff_eq] at hc
      split
      · rename_i h2
        have hc2 : (s.get! i).toNat % 32 * 64 + (s.get! (i + 1)).toNat % 64 < 2048 := by omega
        have hval : Utf8.valid (((s.get! i).toNat % 32 * 64 + (s.get! (i + 1)).toNat % 64 : Nat) : Int) = true := by simp [Utf8.valid]; omega
        simp only [Utf8.encode, hval, if_true, Int.toNat_natCast]
        rw [if_neg (by omega), if_pos hc2, of_toNat (x := s.get! i) (by omega), of_toNat (x := s.get! (i + 1)) (by omega), dt_cons s (i + 1) (by omega)]
        simp
      · rename_i h2
        rw [if_neg h2] at hv
        exact absurd rfl hv
    · rename_i hc1
      rw [if_neg hc1] at hv
      split
      · rename_i hc
        rw [if_pos hc] at hv
        simp only [Bool.and_eq_true, decide_eq_true_eq, beq_iff_eq] at hc
        split
        · rename_i h2
          simp only [Bool.and_eq_true, decide_eq_true_eq] at h2
          have hval := h2.2
          have hc3 : (s.get! i).toNat % 16 * 4096 + (s.get! (i + 1)).toNat % 64 * 64 + (s.get! (i + 2)).toNat % 64 < 65536 := by omega
          simp only [Utf8.encode, hval, if_true, Int.toNat_natCast]
          rw [if_neg (by omega), if_neg (by omega), if_pos hc3, of_toNat (x := s.get! i) (by omega), of_toNat (x := s.get! (i + 1)) (by omega), of_toNat (x := s.get! (i + 2)) (by omega), dt_cons s (i + 1) (by omega), dt_cons s (i + 2) (by omega)]
          simp
        · rename_i h2
          rw [if_neg h2] at hv
          exact absurd rfl hv
      · rename_i hc2
        rw [if_neg hc2] at hv
        split
        · rename_i hc
          rw [if_pos hc] at hv
          simp only [Bool.and_eq_true, decide_eq_true_eq, beq_iff_eq] at hc
          split
          · rename_i h2
            simp only [Bool.and_eq_true, decide_eq_true_eq] at h2
            have hval := h2.2
            simp only [Utf8.encode, hval, if_true, Int.toNat_natCast]
            rw [if_neg (by omega), if_neg (by omega), if_neg (by omega), of_toNat (x := s.get! i) (by omega), of_toNat (x := s.get! (i + 1)) (by omega), of_toNat (x := s.get! (i + 2)) (by omega), of_toNat (x := s.get! (i + 3)) (by omega), dt_cons s (i + 1) (by omega), dt_cons s (i + 2) (by omega), dt_cons s (i + 3) (by omega)]
            simp
          · rename_i h2
            rw [if_neg h2] at hv
            exact absurd rfl hv
        · rename_i hc3
          rw [if_neg hc3] at hv
          exact absurd rfl hv
/-- A text without a rune that is none is the bytes of its runes. -/
theorem round_at (s : ByteArray) : ∀ d pos, s.size = pos + d → (∀ r ∈ rest s pos, r ≠ 65533) → (runesBytes (rest s pos)).data.toList = s.data.toList.drop pos := by
  intro d
  induction d using Nat.strongRecOn with
  | _ d ih =>
    intro pos hd hv
    by_cases h : pos < s.size
    · rw [rest_step s pos h] at hv ⊢
      have h1 := enc_dec s pos h (by have := hv _ List.mem_cons_self; omega)
      have h2 := width_pos s pos h
      rw [Rn.runesBytes_cons]
      simp only [ByteArray.data_append, Array.toList_append]
      rw [h1]
      by_cases hw : pos + (Utf8.decode s pos).2 ≤ s.size
      · rw [ih (d - (Utf8.decode s pos).2) (by omega) (pos + (Utf8.decode s pos).2) (by omega) (fun r hr => hv r (List.mem_cons_of_mem _ hr))]
        rw [← List.drop_drop, List.take_append_drop]
      · rw [rest_end s _ (by omega)]
        have hle : (s.data.toList.drop pos).length ≤ (Utf8.decode s pos).2 := by simp; omega
        rw [List.take_of_length_le hle]
        simp [runesBytes]
    · rw [rest_end s pos h]
      have hle : s.data.toList.length ≤ pos := by simp; omega
      rw [List.drop_eq_nil_of_le hle]
      simp [runesBytes]
theorem let_ne (r : Int) (h : letB r = true) : r ≠ 65533 := by
  intro e
  subst e
  exact absurd h (by decide)

end Go.Proofs.YtbppkklfjmpgiaaDoor
namespace Go.Proofs.YtbppkklfjmpgiaaDoor
open Go.RowKit
set_option linter.unusedVariables false

/-- A reader: the signs that are left, the place behind the last, the first fault's place and kind. -/
structure RS where
  left : List Rn.Sg
  past : Int
  pl : Int
  e : Int
/-- No sign. -/
def noS (r : RS) : Rn.Sg := (⟨#[]⟩, r.past)
def takeS (r : RS) : Rn.Sg := if r.e = 0 then r.left.headD (noS r) else noS r
def takeR (r : RS) : RS := if r.e = 0 then { r with left := r.left.tail } else r
def refuseR (r : RS) (p e : Int) : RS := if r.e = 0 then { r with pl := p, e := e } else r
def fitR (r : RS) (s : Rn.Sg) (ok : Bool) : RS := if ok = true then r else refuseR r s.2 2
def markR (r : RS) (t : ByteArray) : RS := fitR (takeR r) (takeS r) (decide ((takeS r).1 = t))
def nameR (r : RS) : RS := fitR (takeR r) (takeS r) (nameGo 0 (runesOf (takeS r).1))
def dayV (r : RS) : Int := (Rn.numOf (takeS r).1.data.toList).1
def dayOkR (r : RS) : Bool := (Rn.numOf (takeS r).1.data.toList).2 && (decide (0 ≤ dayV r) && decide (dayV r ≤ 10000))
def dayR (r : RS) : RS := fitR (takeR r) (takeS r) (dayOkR r)
def firstR (r : RS) (d : Nat) : RS := if 12 < d then refuseR (takeR r) (takeS r).2 5 else takeR r

/-- The signs that are left, in memory. -/
def SgAt (w : World) (R : Nat) (a : Option Addr) (l : List Rn.Sg) : Prop :=
  ∀ (j : Nat) x, l[j]? = some x → ∃ b o, a = some ⟨b, o, none⟩ ∧ b < R ∧ b < w.heap.size ∧ w.cell? ⟨b, o + j * 2, none⟩ = some (.string x.1) ∧ w.cell? ⟨b, o + j * 2 + 1, none⟩ = some (.int .i64 x.2) ∧ x.1.size ≤ 2147483648
def rCells (r : RS) (a : Option Addr) (c : Nat) : Array Value := #[.slice a r.left.length c, .int .i64 r.past, .int .i64 r.pl, .int .i64 r.e]
structure RIn (w : World) (R : Nat) (r : RS) : Prop where
  has : ∃ a c, Blk w R 67 (rCells r a c) ∧ r.left.length ≤ c ∧ c ≤ 9223372036854775807 ∧ SgAt w R a r.left
theorem SgAt.grew {w w' : World} {R : Nat} {a : Option Addr} {l : List Rn.Sg} (h : SgAt w R a l) (hg : Grew R none w w') : SgAt w' R a l := by
  intro j x hj
  obtain ⟨b, o, rfl, hb, hlt, h1, h2, h3⟩ := h j x hj
  have hk := hg.block b hlt (by omega) (by simp)
  refine ⟨b, o, rfl, hb, Nat.lt_of_lt_of_le hlt hg.size, ?_, ?_, h3⟩
  · rw [← h1]; simp only [World.cell?, hk]
  · rw [← h2]; simp only [World.cell?, hk]
theorem RIn.below {w w' : World} {R : Nat} {r : RS} (h : RIn w R r) (hb : Below w.heap.size w w') : RIn w' R r := by
  obtain ⟨a, c, h1, h2, h3, h4⟩ := h.has
  exact ⟨a, c, h1.below hb h1.lt, h2, h3, h4.grew (Grew.of_below hb)⟩
theorem RIn.lt {w : World} {R : Nat} {r : RS} (h : RIn w R r) : R < w.heap.size := by
  obtain ⟨a, c, h1, _⟩ := h.has
  exact h1.lt
theorem RIn.set {w : World} {R b : Nat} {r : RS} (h : RIn w R r) (hb : R < b) (i : Nat) (x : Value) : RIn (w.setCell ⟨b, i, none⟩ x) R r := by
  obtain ⟨a, c, h1, h2, h3, h4⟩ := h.has
  refine ⟨a, c, h1.other (by omega) i x, h2, h3, ?_⟩
  intro j y hj
  obtain ⟨b', o, rfl, hb', hlt, q1, q2, q3⟩ := h4 j y hj
  have hk : (w.setCell ⟨b, i, none⟩ x).heap[b']? = w.heap[b']? := heap_setCell_other w ⟨b, i, none⟩ b' x (by show b' ≠ b; omega)
  refine ⟨b', o, rfl, hb', by rw [World.size_setCell]; exact hlt, ?_, ?_, q3⟩
  · rw [← q1]; simp only [World.cell?, hk]
  · rw [← q2]; simp only [World.cell?, hk]
theorem infoS : (Tryd.prog.info? 97).map (·.size) = some 2 := by kernel_rfl
def sgV (s : Rn.Sg) : Value := .agg #[.string s.1, .int .i64 s.2]

theorem blk_k {W : World} {b t : Nat} {cs : Array Value} (h : Blk W b t cs) (o : Obj) : Blk (W.alloc o) b t cs := (Below.heap_alloc _ _ _ h.lt).trans h
theorem SgAt.tail {w : World} {R b o : Nat} {s : Rn.Sg} {l : List Rn.Sg} (h : SgAt w R (some ⟨b, o, none⟩) (s :: l)) : SgAt w R (some ⟨b, o + 2, none⟩) l := by
  intro j x hj
  obtain ⟨b', o', e, h1, h2, h3, h4, h5⟩ := h (j + 1) x (by simpa using hj)
  cases e
  refine ⟨b, o + 2, rfl, h1, h2, ?_, ?_, h5⟩
  · rw [show o + 2 + j * 2 = o + (j + 1) * 2 by omega]; exact h3
  · rw [show o + 2 + j * 2 + 1 = o + (j + 1) * 2 + 1 by omega]; exact h4

set_option maxHeartbeats 2000000 in
set_option maxRecDepth 100000 in
theorem take_any (w : World) (R : Nat) (r : RS) (h : RIn w R r) :
    Calls Tryd.prog 39 #[.pointer (some ⟨R, 0, none⟩)] w fun e w' => e = .returned (sgV (takeS r)) ∧ RIn w' R (takeR r) ∧ Grew R none w w' := by
  have HH := hidIn h
  obtain ⟨a, c, hb, hc1, hc2, hs⟩ := h.has
  have HB := hidIn hb
  have HS := hidIn hs
  have hlt := hb.lt
  have g0 : w.cell? ⟨R, 0, none⟩ = some (.slice a r.left.length c) := hb.cell 0
  have g1 : w.cell? ⟨R, 1, none⟩ = some (.int .i64 r.past) := hb.cell 1
  have g3 : w.cell? ⟨R, 3, none⟩ = some (.int .i64 r.e) := hb.cell 3
  have gf : w.frozen? ⟨R, 0, none⟩ = false := hb.frozen 0
  clear hb hs h
  obtain ⟨l, past, pl, en⟩ := r
  simp only at g0 g1 g3 hc1
  go_enter Tryd.func39, Tryd.ntmps39
  by_cases he : en = 0
  · subst he
    cases l with
    | nil =>
      simp only [List.length_nil] at g0
      go_wp2_with fail
      have hbl : Below w.heap.size w (w.alloc (.cells #[.string ⟨#[]⟩, .int .i64 past] 97)) := below_alloc (Below.refl _ _) _
      refine bodyPost_ret (results_cell_row rfl _ _ w.heap.size 97 #[.string ⟨#[]⟩, .int .i64 past] (0, 0) _ rfl (heap_alloc_new _ _) Tryd.underlying97 rfl infoS) rfl ?_
      exact ⟨rfl, HH.out.below hbl, Grew.of_below hbl⟩
    | cons s l =>
      obtain ⟨b, o, rfl, hbR, hblt, q0, q1, _⟩ := HS.out 0 s rfl
      simp only [Nat.zero_mul, Nat.add_zero] at q0 q1
      simp only [List.length_cons] at g0 hc1
      go_wp2_with fail
      case inl =>
        obtain rfl : l = [] := by
          cases l with
          | nil => rfl
          | cons _ _ => exfalso; simp only [List.length_cons] at hc1; omega
        refine bodyPost_ret (results_cell_row rfl _ _ w.heap.size 97 #[.string s.1, .int .i64 s.2] (0, 0) _ rfl (blk_k (blk_new (by simp)) _) Tryd.underlying97 rfl infoS) rfl ?_
        refine ⟨rfl, ⟨some ⟨b, o, none⟩, 0, blk_k (blk_k (HB.out.set 0 _) _) _, Nat.le_refl 0, by omega, ?_⟩, (((Grew.refl _ _ _).set 0 _).alloc _).alloc _⟩
        intro j x hj
        simp [takeR] at hj
      case inr =>
        refine bodyPost_ret (results_cell_row rfl _ _ w.heap.size 97 #[.string s.1, .int .i64 s.2] (0, 0) _ rfl (blk_k (blk_new (by simp)) _) Tryd.underlying97 rfl infoS) rfl ?_
        have hg : Grew R none w (((w.setCell ⟨R, 0, none⟩ (.slice (some ⟨b, o + 2, none⟩) l.length (c - 1))).alloc (.cells #[.string s.1, .int .i64 s.2] 97)).alloc (.cells #[.string s.1, .int .i64 s.2] 97)) := (((Grew.refl _ _ _).set 0 _).alloc _).alloc _
        exact ⟨rfl, ⟨some ⟨b, o + 2, none⟩, c - 1, blk_k (blk_k (HB.out.set 0 _) _) _, by show l.length ≤ c - 1; omega, by omega, HS.out.tail.grew hg⟩, hg⟩
  · have HT : Hid (takeS ⟨l, past, pl, en⟩ = (⟨#[]⟩, past) ∧ takeR ⟨l, past, pl, en⟩ = ⟨l, past, pl, en⟩) := by
      unfold takeS takeR noS
      exact ⟨if_neg he, if_neg he⟩
    go_wp2_with fail
    have hbl : Below w.heap.size w (w.alloc (.cells #[.string ⟨#[]⟩, .int .i64 past] 97)) := below_alloc (Below.refl _ _) _
    refine bodyPost_ret (results_cell_row rfl _ _ w.heap.size 97 #[.string ⟨#[]⟩, .int .i64 past] (0, 0) _ rfl (heap_alloc_new _ _) Tryd.underlying97 rfl infoS) rfl ?_
    rw [HT.out.1, HT.out.2]
    exact ⟨rfl, HH.out.below hbl, Grew.of_below hbl⟩

set_option maxHeartbeats 1000000 in
set_option maxRecDepth 100000 in
theorem refuse_any (w : World) (R : Nat) (r : RS) (p en : Int) (h : RIn w R r) :
    Calls Tryd.prog 59 #[.pointer (some ⟨R, 0, none⟩), .int .i64 p, .int .i64 en] w fun e w' => e = .returned (.tuple #[]) ∧ RIn w' R (refuseR r p en) ∧ Grew R none w w' := by
  have HH := hidIn h
  obtain ⟨a, c, hb, hc1, hc2, hs⟩ := h.has
  have HB := hidIn hb
  have HS := hidIn hs
  have HC : Hid (r.left.length ≤ c ∧ c ≤ 9223372036854775807) := ⟨hc1, hc2⟩
  have g3 : w.cell? ⟨R, 3, none⟩ = some (.int .i64 r.e) := hb.cell 3
  have f2 : w.frozen? ⟨R, 2, none⟩ = false := hb.frozen 2
  have f3 : w.frozen? ⟨R, 3, none⟩ = false := hb.frozen 3
  have g2 : w.cell? ⟨R, 2, none⟩ = some (.int .i64 r.pl) := hb.cell 2
  clear hb hs h hc1 hc2
  obtain ⟨l, past, pl, e0⟩ := r
  simp only at g2 g3
  go_enter Tryd.func59, Tryd.ntmps59
  by_cases he : e0 = 0
  · subst he
    go_wp2_with fail
    go_end0
    have hg : Grew R none w ((w.setCell ⟨R, 2, none⟩ (.int .i64 p)).setCell ⟨R, 3, none⟩ (.int .i64 en)) := ((Grew.refl _ _ _).set 2 _).set 3 _
    exact ⟨rfl, ⟨a, c, (HB.out.set 2 _).set 3 _, HC.out.1, HC.out.2, HS.out.grew hg⟩, hg⟩
  · have HT : Hid (refuseR ⟨l, past, pl, e0⟩ p en = ⟨l, past, pl, e0⟩) := if_neg he
    go_wp2_with fail
    go_end0
    rw [HT.out]
    exact ⟨rfl, HH.out, Grew.refl _ _ _⟩
set_option maxHeartbeats 1000000 in
set_option maxRecDepth 100000 in
theorem fit_any (w : World) (R : Nat) (r : RS) (s : Rn.Sg) (ok : Bool) (h : RIn w R r) :
    Calls Tryd.prog 38 #[.pointer (some ⟨R, 0, none⟩), .agg #[.string s.1, .int .i64 s.2], .bool ok] w fun e w' => e = .returned (.tuple #[]) ∧ RIn w' R (fitR r s ok) ∧ Grew R none w w' := by
  have HH := hidIn h
  clear h
  go_enter Tryd.func38, Tryd.ntmps38
  cases ok with
  | true =>
    go_wp2_with fail
    go_end0
    have hbl : Below w.heap.size w (w.alloc (.cells #[.string s.1, .int .i64 s.2] 97)) := below_alloc (Below.refl _ _) _
    exact ⟨rfl, HH.out.below hbl, Grew.of_below hbl⟩
  | false =>
    go_wp2_with fail
    have HBL : Hid (Below w.heap.size w (w.alloc (.cells #[.string s.1, .int .i64 s.2] 97))) := below_alloc (Below.refl _ _) _
    refine (refuse_any _ R r s.2 2 (HH.out.below HBL.out)).mono ?_
    rintro e w1 ⟨rfl, h1, hg1⟩
    go_wp2_with fail
    go_end0
    exact ⟨rfl, h1, (Grew.of_below HBL.out).trans hg1 (.inl rfl)⟩
theorem Grew.tr {M : Nat} {u v w : World} (h : Grew M none u v) (g : Grew M none v w) : Grew M none u w := h.trans g (.inl rfl)
/-- A new block of a sign, kept. -/
theorem sg_blk {w w1 : World} {R : Nat} {s : Rn.Sg} (hR : R < w.heap.size) (hg : Grew R none (w.alloc (.cells #[.string s.1, .int .i64 s.2] 97)) w1) : Blk w1 w.heap.size 97 #[.string s.1, .int .i64 s.2] :=
  (blk_new rfl).grew hg (by omega)

set_option maxHeartbeats 1000000 in
set_option maxRecDepth 100000 in
theorem mark_any (w : World) (R : Nat) (r : RS) (t : ByteArray) (h : RIn w R r) :
    Calls Tryd.prog 32 #[.pointer (some ⟨R, 0, none⟩), .string t] w fun e w' => e = .returned (.tuple #[]) ∧ RIn w' R (markR r t) ∧ Grew R none w w' := by
  have HH := hidIn h
  clear h
  go_enter Tryd.func32, Tryd.ntmps32
  go_wp2_with fail
  refine (take_any w R r HH.out).mono ?_
  rintro e w1 ⟨rfl, h1, hg1⟩
  have HM : Hid (markR r t = fitR (takeR r) (takeS r) (decide ((takeS r).1 = t))) := rfl
  generalize takeR r = r1 at *
  generalize takeS r = s at *
  have HR1 := hidIn h1
  have HG1 := hidIn hg1
  clear h1 hg1
  unfold sgV
  by_cases hst : s.1.toList = t.toList
  · have hd : decide (s.1 = t) = true := by rw [toList_inj hst]; simp
    rw [hd] at HM
    clear hd
    go_wp2_with fail
    have HBL : Hid (Below w1.heap.size w1 (w1.alloc (.cells #[.string s.1, .int .i64 s.2] 97))) := below_alloc (Below.refl _ _) _
    refine (fit_any _ R r1 s true (HR1.out.below HBL.out)).mono ?_
    rintro e w2 ⟨rfl, h2, hg2⟩
    go_wp2_with fail
    go_end0
    rw [HM.out]
    exact ⟨rfl, h2, HG1.out.tr ((Grew.of_below HBL.out).tr hg2)⟩
  · have hd : decide (s.1 = t) = false := by simp; intro e; exact hst (by rw [e])
    have hst2 : (s.1.toList == t.toList) = false := by simpa using hst
    rw [hd] at HM
    clear hd
    go_wp2_with fail
    have HBL : Hid (Below w1.heap.size w1 (w1.alloc (.cells #[.string s.1, .int .i64 s.2] 97))) := below_alloc (Below.refl _ _) _
    refine (fit_any _ R r1 s false (HR1.out.below HBL.out)).mono ?_
    rintro e w2 ⟨rfl, h2, hg2⟩
    go_wp2_with fail
    go_end0
    rw [HM.out]
    exact ⟨rfl, h2, HG1.out.tr ((Grew.of_below HBL.out).tr hg2)⟩
theorem emp_dec (s : ByteArray) : s.toList.isEmpty = decide (s = ⟨#[]⟩) := by
  have he : (⟨#[]⟩ : ByteArray).toList = [] := by decide +kernel
  by_cases h : s = ⟨#[]⟩
  · subst h; rw [he]; rfl
  · rw [decide_eq_false h]
    cases hl : s.toList with
    | nil => exact absurd (toList_inj (hl.trans he.symm)) h
    | cons a l => rfl
def endRd (r : RS) : RS := fitR (takeR r) (takeS r) (decide ((takeS r).1 = ⟨#[]⟩))
set_option maxHeartbeats 1000000 in
set_option maxRecDepth 100000 in
theorem end_any (w : World) (R : Nat) (r : RS) (h : RIn w R r) :
    Calls Tryd.prog 17 #[.pointer (some ⟨R, 0, none⟩)] w fun e w' => e = .returned (.tuple #[]) ∧ RIn w' R (endRd r) ∧ Grew R none w w' := by
  have HH := hidIn h
  clear h
  go_enter Tryd.func17, Tryd.ntmps17
  go_wp2_with fail
  refine (take_any w R r HH.out).mono ?_
  rintro e w1 ⟨rfl, h1, hg1⟩
  have HM : Hid (endRd r = fitR (takeR r) (takeS r) (decide ((takeS r).1 = ⟨#[]⟩))) := rfl
  generalize takeR r = r1 at *
  generalize takeS r = s at *
  have HR1 := hidIn h1
  have HG1 := hidIn hg1
  clear h1 hg1
  unfold sgV
  go_wp2_with fail
  rw [emp_dec]
  have HBL : Hid (Below w1.heap.size w1 (w1.alloc (.cells #[.string s.1, .int .i64 s.2] 97))) := below_alloc (Below.refl _ _) _
  refine (fit_any _ R r1 s (decide (s.1 = ⟨#[]⟩)) (HR1.out.below HBL.out)).mono ?_
  rintro e w2 ⟨rfl, h2, hg2⟩
  go_wp2_with fail
  go_end0
  rw [HM.out]
  exact ⟨rfl, h2, HG1.out.tr ((Grew.of_below HBL.out).tr hg2)⟩

set_option maxHeartbeats 2000000 in
set_option maxRecDepth 100000 in
theorem rname_any (w : World) (R : Nat) (r : RS) (h : RIn w R r) :
    Calls Tryd.prog 33 #[.pointer (some ⟨R, 0, none⟩)] w fun e w' => e = .returned (.string (takeS r).1) ∧ RIn w' R (nameR r) ∧ Grew R none w w' := by
  have HH := hidIn h
  clear h
  go_enter Tryd.func33, Tryd.ntmps33
  go_wp2_with fail
  refine (take_any w R r HH.out).mono ?_
  rintro e w1 ⟨rfl, h1, hg1⟩
  have HM : Hid (nameR r = fitR (takeR r) (takeS r) (nameGo 0 (runesOf (takeS r).1))) := rfl
  have HSE0 : Hid (∃ s, takeS r = s) := ⟨_, rfl⟩
  generalize takeR r = r1 at *
  obtain ⟨s, hse⟩ := HSE0.out
  have HSE := hidIn hse
  rw [hse] at HM
  rw [hse]
  clear hse HSE0
  have HR1 := hidIn h1
  have HG1 := hidIn hg1
  have HLT := hidIn h1.lt
  clear h1 hg1
  unfold sgV
  go_wp2_with fail
  obtain ⟨W, hW⟩ : ∃ W, W = w1.alloc (.cells #[.string s.1, .int .i64 s.2] 97) := ⟨_, rfl⟩
  have HBL : Hid (Below w1.heap.size w1 W) := by rw [hW]; exact below_alloc (Below.refl _ _) _
  have HBK : Hid (Blk W w1.heap.size 97 #[.string s.1, .int .i64 s.2]) := by rw [hW]; exact blk_new rfl
  have HNE : Hid (w1.heap.size ≠ R) := by have := HLT.out; show _ ≠ _; omega
  have HF : Hid (∀ X, Grew R none W X → X.cell? ⟨w1.heap.size, 0, none⟩ = some (.string s.1) ∧ X.cell? ⟨w1.heap.size, 1, none⟩ = some (.int .i64 s.2)) := fun X hX => by
    have h := HBK.out.grew hX HNE.out
    exact ⟨h.cell 0, h.cell 1⟩
  have HRW := hidIn (HR1.out.below HBL.out)
  rw [← hW]
  clear hW
  obtain ⟨c0, c1⟩ := HF.out W (Grew.refl _ _ _)
  go_region_with (first
    | (go_at_call 60; refine (name_any _ _).mono ?_; rintro e wA ⟨rfl, posA, rfl⟩; have hA := Grew.of_below (M := R) (row := none) (below_iter W.drew s.1 posA); obtain ⟨d0, d1⟩ := HF.out _ ((Grew.refl R none W).drew.tr hA))
    | (go_at_call 38; refine (fit_any _ R r1 s _ (HRW.out.below ((below_drew (Below.refl _ _)).trans (below_iter W.drew s.1 posA)))).mono ?_; rintro e wB ⟨rfl, hB, hgB⟩))
  all_goals
    have hgx := (Grew.refl R none W).drew.tr (hA.tr hgB)
    obtain ⟨d2, d3⟩ := HF.out _ hgx
    have HRX := hidIn hB
    have HGX := hidIn hgx
    clear hB hgx hgB hA d0 d1 c0 c1
    go_wp2_with fail
    go_ret
    exact ⟨by rw [HSE.out]; rfl, by rw [HM.out]; exact HRX.out, HG1.out.tr ((Grew.of_below HBL.out).tr HGX.out)⟩
theorem takeS_size {w : World} {R : Nat} {r : RS} (h : RIn w R r) : (takeS r).1.size ≤ 2147483648 := by
  obtain ⟨a, c, _, _, _, hs⟩ := h.has
  unfold takeS noS
  split
  · cases hl : r.left with
    | nil => show (⟨#[]⟩ : ByteArray).size ≤ _; decide
    | cons x l =>
      obtain ⟨_, _, _, _, _, _, _, h6⟩ := hs 0 x (by rw [hl]; rfl)
      exact h6
  · show (⟨#[]⟩ : ByteArray).size ≤ _; decide

set_option maxHeartbeats 2000000 in
set_option maxRecDepth 100000 in
theorem rday_any (w : World) (R : Nat) (r : RS) (h : RIn w R r) :
    Calls Tryd.prog 37 #[.pointer (some ⟨R, 0, none⟩)] w fun e w' => e = .returned (.int .i64 (dayV r)) ∧ RIn w' R (dayR r) ∧ Grew R none w w' := by
  have HH := hidIn h
  have HSZ := hidIn (takeS_size h)
  clear h
  go_enter Tryd.func37, Tryd.ntmps37
  go_wp2_with fail
  refine (take_any w R r HH.out).mono ?_
  rintro e w1 ⟨rfl, h1, hg1⟩
  have HM : Hid (dayR r = fitR (takeR r) (takeS r) ((Rn.numOf (takeS r).1.data.toList).2 && (decide (0 ≤ (Rn.numOf (takeS r).1.data.toList).1) && decide ((Rn.numOf (takeS r).1.data.toList).1 ≤ 10000)))) := rfl
  have HV : Hid (dayV r = (Rn.numOf (takeS r).1.data.toList).1) := rfl
  generalize takeR r = r1 at *
  generalize takeS r = s at *
  have HR1 := hidIn h1
  have HG1 := hidIn hg1
  have HLT := hidIn h1.lt
  clear h1 hg1
  unfold sgV
  go_wp2_with fail
  obtain ⟨W, hW⟩ : ∃ W, W = w1.alloc (.cells #[.string s.1, .int .i64 s.2] 97) := ⟨_, rfl⟩
  have HBL : Hid (Below w1.heap.size w1 W) := by rw [hW]; exact below_alloc (Below.refl _ _) _
  have HBK : Hid (Blk W w1.heap.size 97 #[.string s.1, .int .i64 s.2]) := by rw [hW]; exact blk_new rfl
  have HRW := hidIn (HR1.out.below HBL.out)
  rw [← hW]
  clear hW
  refine (Rn.number_any s.1 W (by have := HSZ.out; unfold maxLen; omega)).mono ?_
  rintro e w2 ⟨rfl, hb2⟩
  have hk := HBK.out.below hb2 HBK.out.lt
  have c0 : w2.cell? ⟨w1.heap.size, 0, none⟩ = some (.string s.1) := hk.cell 0
  have c1 : w2.cell? ⟨w1.heap.size, 1, none⟩ = some (.int .i64 s.2) := hk.cell 1
  have HB2 := hidIn hb2
  clear hb2 hk
  generalize (Rn.numOf s.1.data.toList).1 = n at *
  generalize (Rn.numOf s.1.data.toList).2 = ok at *
  have hcase : (ok = false) ∨ (ok = true ∧ ¬ 0 ≤ n) ∨ (ok = true ∧ 0 ≤ n ∧ ¬ n ≤ 10000) ∨ (ok = true ∧ 0 ≤ n ∧ n ≤ 10000) := by
    cases ok <;> by_cases a : 0 ≤ n <;> by_cases b : n ≤ 10000 <;> simp [a, b]
  have HRX := hidIn (HRW.out.below HB2.out)
  have HGX : Hid (Grew R none w w2) := HG1.out.tr ((Grew.of_below HBL.out).tr (Grew.of_below HB2.out))
  rcases hcase with rfl | ⟨rfl, q1⟩ | ⟨rfl, q1, q2⟩ | ⟨rfl, q1, q2⟩
  · go_wp2_with fail
    refine (fit_any _ R r1 s _ HRX.out).mono ?_
    rintro e w3 ⟨rfl, h3, hg3⟩
    go_wp2_with fail
    go_ret
    exact ⟨by rw [HV.out]; rfl, by rw [HM.out]; exact h3, HGX.out.tr hg3⟩
  · have HD : Hid ((true && (decide (0 ≤ n) && decide (n ≤ 10000))) = false) := by show _ = _; rw [decide_eq_false q1]; rfl
    go_wp2_with fail
    refine (fit_any _ R r1 s _ HRX.out).mono ?_
    rintro e w3 ⟨rfl, h3, hg3⟩
    go_wp2_with fail
    go_ret
    exact ⟨by rw [HV.out]; rfl, by rw [HM.out, HD.out]; first | exact h3 | (rw [decide_eq_false q1] at h3; exact h3) | (rw [HQ.out] at h3; exact h3) | (rw [decide_eq_true q2] at h3; exact h3), HGX.out.tr hg3⟩
  · have HD : Hid ((true && (decide (0 ≤ n) && decide (n ≤ 10000))) = false) := by show _ = _; rw [decide_eq_true q1, decide_eq_false q2]; rfl
    have HQ : Hid (decide (n ≤ 10000) = false) := decide_eq_false q2
    go_wp2_with fail
    refine (fit_any _ R r1 s _ HRX.out).mono ?_
    rintro e w3 ⟨rfl, h3, hg3⟩
    go_wp2_with fail
    go_ret
    exact ⟨by rw [HV.out]; rfl, by rw [HM.out, HD.out]; first | exact h3 | (rw [decide_eq_false q1] at h3; exact h3) | (rw [HQ.out] at h3; exact h3) | (rw [decide_eq_true q2] at h3; exact h3), HGX.out.tr hg3⟩
  · have HD : Hid ((true && (decide (0 ≤ n) && decide (n ≤ 10000))) = true) := by show _ = _; rw [decide_eq_true q1, decide_eq_true q2]; rfl
    go_wp2_with fail
    refine (fit_any _ R r1 s _ HRX.out).mono ?_
    rintro e w3 ⟨rfl, h3, hg3⟩
    go_wp2_with fail
    go_ret
    exact ⟨by rw [HV.out]; rfl, by rw [HM.out, HD.out]; first | exact h3 | (rw [decide_eq_false q1] at h3; exact h3) | (rw [HQ.out] at h3; exact h3) | (rw [decide_eq_true q2] at h3; exact h3), HGX.out.tr hg3⟩

set_option maxHeartbeats 2000000 in
set_option maxRecDepth 100000 in
theorem first_any (w : World) (R : Nat) (r : RS) (d : Nat) (hd : d ≤ 1000) (h : RIn w R r) :
    Calls Tryd.prog 31 #[.pointer (some ⟨R, 0, none⟩), .int .i64 (d : Int)] w fun e w' => e = .returned (sgV (takeS r)) ∧ RIn w' R (firstR r d) ∧ Grew R none w w' := by
  have HH := hidIn h
  have HLT0 := hidIn h.lt
  clear h
  go_enter Tryd.func31, Tryd.ntmps31
  go_wp2_with fail
  obtain ⟨W0, hW0⟩ : ∃ W, W = w.alloc (.cells #[.string ⟨#[]⟩, .int .i64 0] 97) := ⟨_, rfl⟩
  have HB0 : Hid (Below w.heap.size w W0) := by rw [hW0]; exact below_alloc (Below.refl _ _) _
  have HK0 : Hid (Blk W0 w.heap.size 97 #[.string ⟨#[]⟩, .int .i64 0]) := by rw [hW0]; exact blk_new rfl
  rw [← hW0]
  clear hW0
  refine (take_any W0 R r (HH.out.below HB0.out)).mono ?_
  rintro e w1 ⟨rfl, h1, hg1⟩
  have HM : Hid (firstR r d = if 12 < d then refuseR (takeR r) (takeS r).2 5 else takeR r) := rfl
  have HSE0 : Hid (∃ s, takeS r = s) := ⟨_, rfl⟩
  generalize takeR r = r1 at *
  obtain ⟨s, hse⟩ := HSE0.out
  have HSE := hidIn hse
  rw [hse] at HM
  rw [hse]
  clear hse HSE0
  have HR1 := hidIn h1
  have HK1 := hidIn (HK0.out.grew hg1 (by have := HLT0.out; omega))
  have HG1 : Hid (Grew R none w w1) := (Grew.of_below HB0.out).tr hg1
  have HLT : Hid (w.heap.size < w1.heap.size) := HK1.out.lt
  clear h1 hg1
  have HRN : Hid (w.heap.size ≠ R) := by have := HLT0.out; show _ ≠ _; omega
  unfold sgV
  have z0 : w1.cell? ⟨w.heap.size, 0, none⟩ = some (.string ⟨#[]⟩) := HK1.out.cell 0
  have z1 : w1.cell? ⟨w.heap.size, 1, none⟩ = some (.int .i64 0) := HK1.out.cell 1
  have f0 : w1.frozen? ⟨w.heap.size, 0, none⟩ = false := HK1.out.frozen 0
  have f1 : w1.frozen? ⟨w.heap.size, 1, none⟩ = false := HK1.out.frozen 1
  by_cases hd12 : 12 < d
  · have hd' : (12 : Int) < (d : Int) := by omega
    rw [if_pos hd12] at HM
    go_wp2_with fail
    obtain ⟨W, hW⟩ : ∃ W, W = w1.alloc (.cells #[.string s.1, .int .i64 s.2] 97) := ⟨_, rfl⟩
    have HBL : Hid (Below w1.heap.size w1 W) := by rw [hW]; exact below_alloc (Below.refl _ _) _
    have HBK : Hid (Blk W w1.heap.size 97 #[.string s.1, .int .i64 s.2]) := by rw [hW]; exact blk_new rfl
    rw [← hW]
    clear hW z0 z1 f0 f1
    refine (refuse_any W R r1 s.2 5 (HR1.out.below HBL.out)).mono ?_
    rintro e w2 ⟨rfl, h2, hg2⟩
    have HK2 := hidIn ((HK1.out.below HBL.out HK1.out.lt).grew hg2 HRN.out)
    have HS2 := hidIn (HBK.out.grew hg2 (by have := HR1.out.lt; omega))
    have HG2 : Hid (Grew R none w w2) := HG1.out.tr ((Grew.of_below HBL.out).tr hg2)
    have HR2 := hidIn h2
    have c0 : w2.cell? ⟨w1.heap.size, 0, none⟩ = some (.string s.1) := HS2.out.cell 0
    have c1 : w2.cell? ⟨w1.heap.size, 1, none⟩ = some (.int .i64 s.2) := HS2.out.cell 1
    have z0 : w2.cell? ⟨w.heap.size, 0, none⟩ = some (.string ⟨#[]⟩) := HK2.out.cell 0
    have z1 : w2.cell? ⟨w.heap.size, 1, none⟩ = some (.int .i64 0) := HK2.out.cell 1
    have f0 : w2.frozen? ⟨w.heap.size, 0, none⟩ = false := HK2.out.frozen 0
    have f1 : w2.frozen? ⟨w.heap.size, 1, none⟩ = false := HK2.out.frozen 1
    clear h2 hg2
    go_wp2_with fail
    refine bodyPost_ret (results_cell_row rfl _ _ w.heap.size 97 #[.string s.1, .int .i64 s.2] (0, 0) _ rfl ((HK2.out.set 0 _).set 1 _) Tryd.underlying97 rfl infoS) rfl ?_
    refine ⟨by rw [HSE.out]; rfl, ?_, (HG2.out.setNew (Nat.le_refl _) 0 _).setNew (Nat.le_refl _) 1 _⟩
    rw [HM.out]
    exact (HR2.out.set HLT0.out 0 _).set HLT0.out 1 _
  · have hd' : ¬ (12 : Int) < (d : Int) := by omega
    rw [if_neg hd12] at HM
    go_upto_region 4 with fail
    obtain ⟨W, hW⟩ : ∃ W, W = w1.alloc (.cells #[.string s.1, .int .i64 s.2] 97) := ⟨_, rfl⟩
    have HBL : Hid (Below w1.heap.size w1 W) := by rw [hW]; exact below_alloc (Below.refl _ _) _
    have HBK : Hid (Blk W w1.heap.size 97 #[.string s.1, .int .i64 s.2]) := by rw [hW]; exact blk_new rfl
    rw [← hW]
    clear hW z0 z1 f0 f1
    have HK2 := hidIn (HK1.out.below HBL.out HK1.out.lt)
    have HG2 : Hid (Grew R none w W) := HG1.out.tr (Grew.of_below HBL.out)
    have HR2 := hidIn (HR1.out.below HBL.out)
    have c0 : W.cell? ⟨w1.heap.size, 0, none⟩ = some (.string s.1) := HBK.out.cell 0
    have c1 : W.cell? ⟨w1.heap.size, 1, none⟩ = some (.int .i64 s.2) := HBK.out.cell 1
    have z0 : W.cell? ⟨w.heap.size, 0, none⟩ = some (.string ⟨#[]⟩) := HK2.out.cell 0
    have z1 : W.cell? ⟨w.heap.size, 1, none⟩ = some (.int .i64 0) := HK2.out.cell 1
    have f0 : W.frozen? ⟨w.heap.size, 0, none⟩ = false := HK2.out.frozen 0
    have f1 : W.frozen? ⟨w.heap.size, 1, none⟩ = false := HK2.out.frozen 1
    go_wp2_with fail
    refine bodyPost_ret (results_cell_row rfl _ _ w.heap.size 97 #[.string s.1, .int .i64 s.2] (0, 0) _ rfl ((HK2.out.set 0 _).set 1 _) Tryd.underlying97 rfl infoS) rfl ?_
    refine ⟨by rw [HSE.out]; rfl, ?_, (HG2.out.setNew (Nat.le_refl _) 0 _).setNew (Nat.le_refl _) 1 _⟩
    rw [HM.out]
    exact (HR2.out.set HLT0.out 0 _).set HLT0.out 1 _

end Go.Proofs.YtbppkklfjmpgiaaDoor
