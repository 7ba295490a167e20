/- Trees that are spoilt at a place. -/
import Derived.Test.YtdlflpnjmldakaaRefLab
import Derived.Test.YtdlflpnjmldakaaMaker
namespace Go.Proofs.Ytdlflpnjmldakaa
open Go.RowKit
set_option linter.unusedVariables false

/-- What becomes of a tree that is spoilt itself. -/
def spoilHead (q : Nat) (v : Int) (s : ByteArray) (t : T) : T :=
  if q = 0 then .mk 0 ⟨#[]⟩ 0 [] else if q = 1 then .mk t.kind (cutTo s 20) t.n t.k else if q = 2 then .mk t.kind t.s v t.k
  else if q = 3 then (if 11 ≤ t.kind then .mk 1 ⟨#[]⟩ 0 [] else .mk 11 ⟨#[]⟩ 1 []) else t
mutual
/-- A tree that is spoilt at a place, and what is left of the place's number. -/
def spoilT (q : Nat) (v : Int) (s : ByteArray) : T → Int → T × Int
  | .mk kind s0 n k, a => if a = 0 then (spoilHead q v s (.mk kind s0 n k), -1) else (.mk kind s0 n (spoilL q v s k (a - 1)).1, (spoilL q v s k (a - 1)).2)
def spoilL (q : Nat) (v : Int) (s : ByteArray) : List T → Int → List T × Int
  | [], a => ([], a)
  | t :: l, a => if 0 ≤ a then ((spoilT q v s t a).1 :: (spoilL q v s l (spoilT q v s t a).2).1, (spoilL q v s l (spoilT q v s t a).2).2) else (t :: l, a)
end
theorem spoilL_snoc (q : Nat) (v : Int) (s : ByteArray) (t : T) (l : List T) : ∀ a : Int, spoilL q v s (l ++ [t]) a = if 0 ≤ (spoilL q v s l a).2 then ((spoilL q v s l a).1 ++ [(spoilT q v s t (spoilL q v s l a).2).1], (spoilT q v s t (spoilL q v s l a).2).2) else ((spoilL q v s l a).1 ++ [t], (spoilL q v s l a).2) := by
  induction l with
  | nil => intro a; simp only [List.nil_append, spoilL]; by_cases h : 0 ≤ a <;> simp [h]
  | cons x l ih =>
    intro a
    simp only [List.cons_append, spoilL]
    by_cases h : 0 ≤ a
    · simp only [if_pos h]
      rw [ih]
      split <;> rfl
    · simp only [if_neg h, List.cons_append]
theorem spoilL_len (q : Nat) (v : Int) (s : ByteArray) (l : List T) : ∀ a, (spoilL q v s l a).1.length = l.length := by
  induction l with
  | nil => intro a; simp [spoilL]
  | cons x l ih => intro a; simp only [spoilL]; split <;> simp [ih]
theorem spoilT_bd (q : Nat) (v : Int) (s : ByteArray) (t : T) : ∀ a, 0 ≤ a → -1 ≤ (spoilT q v s t a).2 ∧ (spoilT q v s t a).2 ≤ a := by
  induction t using T.ind with
  | _ kind s0 n k ih =>
    have hL : ∀ a, -1 ≤ a → -1 ≤ (spoilL q v s k a).2 ∧ (spoilL q v s k a).2 ≤ a := by
      induction k with
      | nil => intro a h; simp only [spoilL]; omega
      | cons x l ihl =>
        intro a h
        simp only [spoilL]
        split
        · rename_i h0
          have h1 := ih x (by simp) a h0
          have h2 := ihl (fun t ht => ih t (by simp [ht])) (spoilT q v s x a).2 h1.1
          simp only
          omega
        · simp only; omega
    intro a h
    unfold spoilT
    split
    · simp only; omega
    · have := hL (a - 1) (by omega)
      simp only
      omega
theorem spoilL_bd (q : Nat) (v : Int) (s : ByteArray) (l : List T) : ∀ a, -1 ≤ a → -1 ≤ (spoilL q v s l a).2 ∧ (spoilL q v s l a).2 ≤ a := by
  induction l with
  | nil => intro a h; simp only [spoilL]; omega
  | cons x l ihl =>
    intro a h
    simp only [spoilL]
    split
    · rename_i h0
      have h1 := spoilT_bd q v s x a h0
      have h2 := ihl (spoilT q v s x a).2 h1.1
      simp only
      omega
    · simp only; omega
theorem head_kind (q : Nat) (v : Int) (s : ByteArray) (t : T) : (spoilHead q v s t).kind = t.kind ∧ (spoilHead q v s t).k = t.k ∨ ((spoilHead q v s t).kind = 0 ∨ (spoilHead q v s t).kind = 1 ∨ (spoilHead q v s t).kind = 11) ∧ (spoilHead q v s t).k = [] := by
  unfold spoilHead
  split
  · exact .inr ⟨.inl rfl, rfl⟩
  · split
    · exact .inl ⟨rfl, rfl⟩
    · split
      · exact .inl ⟨rfl, rfl⟩
      · split
        · split
          · exact .inr ⟨.inr (.inl rfl), rfl⟩
          · exact .inr ⟨.inr (.inr rfl), rfl⟩
        · exact .inl ⟨rfl, rfl⟩
theorem head_s (q : Nat) (v : Int) (s : ByteArray) (t : T) (h : t.s.size ≤ 2147483648) : (spoilHead q v s t).s.size ≤ 2147483648 := by
  have he : (⟨#[]⟩ : ByteArray).size ≤ 2147483648 := by decide
  unfold spoilHead
  split
  · exact he
  · split
    · have := cutTo_size s 20
      show (cutTo s 20).size ≤ _
      omega
    · split
      · exact h
      · split
        · split
          · exact he
          · exact he
        · exact h
theorem head_n (q : Nat) (v : Int) (s : ByteArray) (t : T) (hv : -9223372036854775808 ≤ v ∧ v ≤ 9223372036854775807) (h : -9223372036854775808 ≤ t.n ∧ t.n ≤ 9223372036854775807) : -9223372036854775808 ≤ (spoilHead q v s t).n ∧ (spoilHead q v s t).n ≤ 9223372036854775807 := by
  unfold spoilHead
  split
  · exact ⟨by decide, by decide⟩
  · split
    · exact h
    · split
      · exact hv
      · split
        · split
          · exact ⟨by decide, by decide⟩
          · exact ⟨by decide, by decide⟩
        · exact h
theorem shaped_iff (t : T) : t.Shaped ↔ (t.kind = 13 ∨ t.kind = 15 ∨ t.kind = 16 → t.k.length = 2) ∧ (t.kind = 14 → t.k.length = 1) ∧ (t.kind = 13 ∨ t.kind = 14 ∨ t.kind = 15 ∨ t.kind = 16 ∨ t.k = []) ∧ -9223372036854775808 ≤ t.n ∧ t.n ≤ 9223372036854775807 ∧ t.s.size ≤ 2147483648 ∧ ShapedL t.k := by
  cases t
  unfold T.Shaped
  exact Iff.rfl
theorem shapedL_of : ∀ {l : List T}, (∀ t ∈ l, t.Shaped) → ShapedL l := by
  intro l
  induction l with
  | nil => intro _; unfold ShapedL; trivial
  | cons x l ih => intro h; unfold ShapedL; exact ⟨h x (by simp), ih (fun t ht => h t (by simp [ht]))⟩
theorem spoilL_all {P : T → Prop} (q : Nat) (v : Int) (s : ByteArray) (l : List T) (h : ∀ t ∈ l, P t ∧ ∀ a, P (spoilT q v s t a).1) : ∀ a, ∀ t ∈ (spoilL q v s l a).1, P t := by
  induction l with
  | nil => intro a t ht; simp [spoilL] at ht
  | cons x l ih =>
    intro a t ht
    simp only [spoilL] at ht
    split at ht
    · simp only [List.mem_cons] at ht
      rcases ht with rfl | ht
      · exact (h x (by simp)).2 a
      · exact ih (fun t ht => h t (by simp [ht])) _ t ht
    · exact (h t ht).1
theorem spoil_shaped (q : Nat) (v : Int) (s : ByteArray) (hv : -9223372036854775808 ≤ v ∧ v ≤ 9223372036854775807) (t : T) : t.Shaped → ∀ a, (spoilT q v s t a).1.Shaped := by
  induction t using T.ind with
  | _ kind s0 n k ih =>
    intro h a
    have h' := (shaped_iff _).1 h
    obtain ⟨h2, h1, h3, hn1, hn2, hs, hk⟩ := h'
    unfold spoilT
    split
    · rw [shaped_iff]
      simp only
      have hs' := head_s q v s (.mk kind s0 n k) hs
      have hn' := head_n q v s (.mk kind s0 n k) hv ⟨hn1, hn2⟩
      rcases head_kind q v s (.mk kind s0 n k) with ⟨e1, e2⟩ | ⟨e1, e2⟩
      · rw [e1, e2]; exact ⟨h2, h1, h3, hn'.1, hn'.2, hs', hk⟩
      · rw [e2]; exact ⟨fun h => by omega, fun h => by omega, .inr (.inr (.inr (.inr rfl))), hn'.1, hn'.2, hs', by unfold ShapedL; trivial⟩
    · rw [shaped_iff]
      have hl := spoilL_len q v s k (a - 1)
      simp only [T.kind, T.k, T.s, T.n] at *
      refine ⟨fun h => by rw [hl]; exact h2 h, fun h => by rw [hl]; exact h1 h, ?_, hn1, hn2, hs, shapedL_of (spoilL_all q v s k (fun t ht => ⟨shapedL_mem hk t ht, ih t ht (shapedL_mem hk t ht)⟩) _)⟩
      rcases h3 with h | h | h | h | h
      · exact .inl h
      · exact .inr (.inl h)
      · exact .inr (.inr (.inl h))
      · exact .inr (.inr (.inr (.inl h)))
      · refine .inr (.inr (.inr (.inr ?_)))
        subst h
        simp [spoilL]
theorem head_cnt (q : Nat) (v : Int) (s : ByteArray) (t : T) : (spoilHead q v s t).cnt ≤ t.cnt := by
  have h1 : 1 ≤ t.cnt := by cases t; unfold T.cnt; omega
  unfold spoilHead
  split
  · simp [T.cnt, cntL]; exact h1
  · split
    · cases t; simp [T.cnt, T.k]
    · split
      · cases t; simp [T.cnt, T.k]
      · split
        · split
          · simp [T.cnt, cntL]; exact h1
          · simp [T.cnt, cntL]; exact h1
        · exact Nat.le_refl _
theorem spoil_cnt (q : Nat) (v : Int) (s : ByteArray) (t : T) : ∀ a, (spoilT q v s t a).1.cnt ≤ t.cnt := by
  induction t using T.ind with
  | _ kind s0 n k ih =>
    have hL : ∀ a, cntL (spoilL q v s k a).1 ≤ cntL k := by
      induction k with
      | nil => intro a; simp [spoilL]
      | cons x l ihl =>
        intro a
        simp only [spoilL]
        split
        · have h1 := ih x (by simp) a
          have h2 := ihl (fun t ht => ih t (by simp [ht])) (spoilT q v s x a).2
          simp only [cntL]
          omega
        · exact Nat.le_refl _
    intro a
    unfold spoilT
    split
    · exact head_cnt q v s _
    · have := hL (a - 1)
      simp only [T.cnt]
      omega
theorem obsL_len (l : List T) : (obsL l).length = l.length := by
  induction l with
  | nil => rfl
  | cons x l ih => simp [obsL, ih]
theorem obsOf_nodes (t : T) : (obsOf t).nodes ≤ t.cnt := by
  induction t using T.ind with
  | _ kind s n k ih =>
    unfold obsOf T.cnt
    split
    · simp [O.nodes]
    · split
      · simp [O.nodes]
      · match k, ih with
        | [], _ => simp [obsL, O.nodes]
        | [a], ih =>
          have h1 := ih a (by simp)
          simp only [obsL, cntL]
          split
          · simp only [O.nodes]; omega
          · simp [O.nodes]
        | [a, b], ih =>
          have h1 := ih a (by simp)
          have h2 := ih b (by simp)
          simp only [obsL, cntL]
          split
          · simp only [O.nodes]; omega
          · split
            · simp only [O.nodes]; omega
            · split
              · simp only [O.nodes]; omega
              · simp [O.nodes]
        | a :: b :: c :: l, _ => simp [obsL, O.nodes]

end Go.Proofs.Ytdlflpnjmldakaa
