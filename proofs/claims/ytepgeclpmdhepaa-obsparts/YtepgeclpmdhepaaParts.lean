/- Names of numbers and of their parts. -/
import Derived.Test.YtepgeclpmdhepaaNumber
import Derived.Test.YtepgeclpmdhepaaSameO
import Derived.Test.YtepgeclpmdhepaaKeep
namespace Go.Proofs.Ytepgeclpmdhepaa
open Go.RowKit Go.Maps
set_option linter.unusedVariables false

theorem snoc_ind {α : Type} {P : List α → Prop} (h0 : P []) (h1 : ∀ l a, P l → P (l ++ [a])) : ∀ l, P l := by
  intro l
  have h : ∀ n (l : List α), l.length = n → P l := by
    intro n
    induction n with
    | zero => intro l hl; rw [List.length_eq_zero_iff.1 hl]; exact h0
    | succ n ih =>
      intro l hl
      have hne : l ≠ [] := fun e => by rw [e] at hl; simp at hl
      rw [← List.dropLast_concat_getLast hne]
      exact h1 _ _ (ih _ (by simp [hl]))
  exact h _ l rfl
theorem mem_addN (acc : List ByteArray) (s t : ByteArray) : t ∈ addN acc s ↔ t ∈ acc ∨ t = s := by
  unfold addN
  split
  · rename_i h
    have := (inN_iff _ _).1 h
    constructor
    · exact .inl
    · rintro (h | rfl)
      · exact h
      · exact this
  · simp
theorem mem_addAll (l : List ByteArray) : ∀ acc t, t ∈ addAll acc l ↔ t ∈ acc ∨ t ∈ l := by
  induction l with
  | nil => intro acc t; simp [addAll]
  | cons s l ih =>
    intro acc t
    have := ih (addN acc s) t
    simp only [addAll, List.foldl_cons] at this ⊢
    rw [this, mem_addN]
    simp only [List.mem_cons]
    constructor
    · rintro ((h | h) | h)
      · exact .inl h
      · exact .inr (.inl h)
      · exact .inr (.inr h)
    · rintro (h | h | h)
      · exact .inl (.inl h)
      · exact .inl (.inr h)
      · exact .inr h
theorem addAll_in (l : List ByteArray) : ∀ acc, (∀ s ∈ l, s ∈ acc) → addAll acc l = acc := by
  induction l with
  | nil => intro acc _; rfl
  | cons s l ih =>
    intro acc h
    have h1 : addN acc s = acc := by unfold addN; rw [if_pos ((inN_iff _ _).2 (h s (by simp)))]
    simp only [addAll, List.foldl_cons, h1]
    exact ih acc (fun t ht => h t (by simp [ht]))
theorem own_below {w w' : World} {B : Nat} {e : TypeId} {size n : Nat} {v : Value} {xs : List Value} (h : w.ownsRow B e size v n xs) (hb : Below w.heap.size w w') : w'.ownsRow B e size v n xs :=
  h.kept (grown_of_below hb none) (by cases hv : v.ownBlock <;> simp)

theorem str_dec (a b : ByteArray) : (a.toList == b.toList) = decide (a = b) := by
  rw [Bool.eq_iff_iff, beq_iff_eq, decide_eq_true_eq]
  exact ⟨toList_inj, fun h => by rw [h]⟩

theorem addN_in (acc : List ByteArray) (s : ByteArray) (h : s ∈ acc) : addN acc s = acc := by unfold addN; rw [if_pos ((inN_iff _ _).2 h)]
theorem addN_out (acc : List ByteArray) (s : ByteArray) (h : ¬ s ∈ acc) : addN acc s = acc ++ [s] := by unfold addN; rw [if_neg (fun e => h ((inN_iff _ _).1 e))]
theorem addAll_one (acc l : List ByteArray) (s : ByteArray) : addAll acc (l ++ [s]) = addN (addAll acc l) s := by simp [addAll]
/-- What is there once is there as often as one likes. -/
theorem addAll_names (l : List ByteArray) : ∀ acc, addAll acc (addAll [] l) = addAll acc l := by
  induction l using snoc_ind with
  | h0 => intro acc; rfl
  | h1 l s ih =>
    intro acc
    rw [addAll_one [] l s, addAll_one acc l s]
    by_cases hs : s ∈ addAll [] l
    · rw [addN_in _ _ hs, ih acc, addN_in]
      exact (mem_addAll l acc s).2 (.inr (by simpa using (mem_addAll l [] s).1 hs))
    · rw [addN_out _ _ hs, addAll_one, ih acc]
theorem addN_nodup (acc : List ByteArray) (s : ByteArray) (h : acc.Nodup) : (addN acc s).Nodup := by
  by_cases hs : s ∈ acc
  · rw [addN_in _ _ hs]; exact h
  · rw [addN_out _ _ hs, List.nodup_append]
    refine ⟨h, by simp, fun a ha b hb => ?_⟩
    simp at hb
    subst hb
    intro e
    exact hs (e ▸ ha)
theorem addAll_nodup (l : List ByteArray) : ∀ acc, acc.Nodup → (addAll acc l).Nodup := by
  induction l with
  | nil => intro acc h; exact h
  | cons s l ih => intro acc h; exact ih _ (addN_nodup acc s h)
def litS (s : ByteArray) : Lit := .string s.data.toList
theorem addKey_map (acc : List ByteArray) (s : ByteArray) : addKey (acc.map litS) (litS s) = (addN acc s).map litS := by
  unfold addKey
  have h : (acc.map litS).any (fun y => y.sameKey (litS s)) = inN acc s := by
    rw [List.any_map, Bool.eq_iff_iff, inN_iff]
    simp only [List.any_eq_true, Function.comp, litS, Lit.sameKey, beq_iff_eq]
    constructor
    · rintro ⟨x, hx, he⟩
      have : x = s := Go.WideShapes.bytes_inj he
      subst this
      exact hx
    · intro h
      exact ⟨s, h, rfl⟩
  rw [h]
  unfold addN
  split
  · rfl
  · simp
theorem foldKey_map (l : List ByteArray) : ∀ acc, (l.map litS).foldl addKey (acc.map litS) = (addAll acc l).map litS := by
  induction l with
  | nil => intro acc; rfl
  | cons s l ih => intro acc; rw [List.map_cons, List.foldl_cons, addKey_map, ih]; rfl
def setB (l : List ByteArray) : DataW Unit := setOf (.lit (.bool true)) (l.map litS)
theorem size_setB (l : List ByteArray) : Maps.size (setB l) = (addAll [] l).length := by
  unfold setB
  rw [size_setOf _ _ (fun y hy => by obtain ⟨_, _, rfl⟩ := List.mem_map.1 hy; trivial)]
  have := foldKey_map l []
  simp only [List.map_nil] at this
  rw [this]
  simp
theorem setB_snoc (l : List ByteArray) (s : ByteArray) : setB (l ++ [s]) = (setB l).put (litS s) (.lit (.bool true)) := by
  unfold setB
  rw [List.map_append, List.map_singleton, setOf_snoc]
/-- The names of numbers, one by one, each number's once. -/
def namesL : List O → List ByteArray
  | [] => []
  | k :: l => k.names ++ namesL l
theorem namesL_snoc (l : List O) (k : O) : namesL (l ++ [k]) = namesL l ++ k.names := by
  induction l with
  | nil => simp [namesL]
  | cons a l ih => simp [namesL, ih]
theorem addAll_namesL (l : List O) : ∀ acc, addAll acc (namesL l) = addAll acc (allL l) := by
  induction l with
  | nil => intro acc; rfl
  | cons k l ih =>
    intro acc
    simp only [namesL, allL]
    rw [addAll_append, addAll_append, ih]
    unfold O.names
    rw [addAll_names]
theorem names_length (o : O) : o.names.length ≤ o.nodes := by
  have h1 := addAll_length o.all []
  have h2 := all_nodes o
  unfold O.names
  simp at h1
  omega
theorem namesL_length (l : List O) : (namesL l).length ≤ sumN l := by
  induction l with
  | nil => simp [namesL]
  | cons k l ih => have := names_length k; simp [namesL, sumN]; omega
theorem names_sizes (o : O) (h : o.Ok) : ∀ s ∈ o.names, s.size ≤ 2147483648 := by
  intro s hs
  have hs' : s ∈ o.all := by simpa using (mem_addAll o.all [] s).1 hs
  clear hs
  induction o with
  | const n => simp [O.all] at hs'
  | fix t => simp [O.all] at hs'; subst hs'; exact h
  | odd v => simp [O.all] at hs'
  | neg o ih => exact ih h hs'
  | add l r h1 h2 => simp only [O.all, List.mem_append] at hs'; rcases hs' with hs' | hs'; exact h1 h.1 hs'; exact h2 h.2 hs'
  | mul l r h1 h2 => simp only [O.all, List.mem_append] at hs'; rcases hs' with hs' | hs'; exact h1 h.1 hs'; exact h2 h.2 hs'
  | max l r h1 h2 => simp only [O.all, List.mem_append] at hs'; rcases hs' with hs' | hs'; exact h1 h.1 hs'; exact h2 h.2 hs'
/-- The length of a map behind a guard that was met. -/
theorem wpList_len_met {H : Type} {P : Program} {w : World} {ops : Array Oper} {rest : List Oper} {o : Oper} {a : Act} {Q : Exit → Act → World → Prop} (hw : Region.wanted o (yielded ops a.tmps) = true) (m : Operand) (t : TypeId) (hop : o.op = Op.call { callee := Callee.builtin Builtin.len, args := #[m], argTypes := #[t] })
    (k e : TypeId) (ht : P.underlying t = some (.map k e)) (R : Value → Option (DataW H × List MemPlace)) (b n : Nat) (D : DataW H) (hm : a.eval m = .map (some b)) (hown : w.ownsMap P k R b n D)
    (hK : wpList P ops Q rest (a.put o.dst (.int .i64 (Maps.size D))) w) : wpList P ops Q (o :: rest) a w := by
  simp only [wpList, hw, if_true]
  refine .inl ?_
  unfold Oper.wp
  simp [execOp, hop, resolve, invoke, builtin, hm, hown.len ht o.type, Result.andThen]
  exact hK
theorem Grew.below' {M : Nat} {w w' : World} {B : Nat} (h : Grew M none w w') (hB : B ≤ w.heap.size) (hM : B ≤ M) : Below B w w' := h.below hB hM (fun k hk => by cases hk)
theorem ownsMap_below {H : Type} {P : Program} {k : TypeId} {R : Value → Option (DataW H × List MemPlace)} {b n : Nat} {D : DataW H} {w w' : World} (h : w.ownsMap P k R b n D) (hb : Below w.heap.size w w') : w'.ownsMap P k R b n D := h.kept (grown_of_below hb none) (by simp)

end Go.Proofs.Ytepgeclpmdhepaa
