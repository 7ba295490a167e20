/- Trees that are spoilt at a place. -/
import Derived.Test.YtmhckbcddmdchaaRefLab
import Derived.Test.YtmhckbcddmdchaaMaker
import Derived.Test.YtmhckbcddmdchaaTtA
import Derived.Test.YtmhckbcddmdchaaTermP
import Derived.Test.YtmhckbcddmdchaaTermWalk
import Derived.Test.YtmhckbcddmdchaaSize
import Derived.Test.YtmhckbcddmdchaaNumber
import Derived.Test.YtmhckbcddmdchaaPlainL
import Derived.Test.YtmhckbcddmdchaaWhole
namespace Go.Proofs.Ytmhckbcddmdchaa
open Go.RowKit
set_option linter.unusedVariables false

/-- What becomes of a tree that is spoilt itself. -/
def spoilHead (q : Nat) (v : Int) (s : ByteArray) (t : T) : T :=
  if q = 0 then .mk 0 ⟨#[]⟩ 0 [] else if q = 1 then .mk t.kind (cutTo s 20) t.n t.k else if q = 2 then .mk t.kind t.s v t.k
  else if q = 3 then (if 11 ≤ t.kind then .mk 1 ⟨#[]⟩ 0 [] else .mk 11 ⟨#[]⟩ 1 []) else t
mutual
/-- A tree that is spoilt at a place, and what is left of the place's number. -/
def spoilT (q : Nat) (v : Int) (s : ByteArray) : T → Int → T × Int
  | .mk kind s0 n k, a => if a = 0 then (spoilHead q v s (.mk kind s0 n k), -1) else (.mk kind s0 n (spoilL q v s k (a - 1)).1, (spoilL q v s k (a - 1)).2)
def spoilL (q : Nat) (v : Int) (s : ByteArray) : List T → Int → List T × Int
  | [], a => ([], a)
  | t :: l, a => if 0 ≤ a then ((spoilT q v s t a).1 :: (spoilL q v s l (spoilT q v s t a).2).1, (spoilL q v s l (spoilT q v s t a).2).2) else (t :: l, a)
end
theorem spoilL_snoc (q : Nat) (v : Int) (s : ByteArray) (t : T) (l : List T) : ∀ a : Int, spoilL q v s (l ++ [t]) a = if 0 ≤ (spoilL q v s l a).2 then ((spoilL q v s l a).1 ++ [(spoilT q v s t (spoilL q v s l a).2).1], (spoilT q v s t (spoilL q v s l a).2).2) else ((spoilL q v s l a).1 ++ [t], (spoilL q v s l a).2) := by
  induction l with
  | nil => intro a; simp only [List.nil_append, spoilL]; by_cases h : 0 ≤ a <;> simp [h]
  | cons x l ih =>
    intro a
    simp only [List.cons_append, spoilL]
    by_cases h : 0 ≤ a
    · simp only [if_pos h]
      rw [ih]
      split <;> rfl
    · simp only [if_neg h, List.cons_append]
theorem spoilL_len (q : Nat) (v : Int) (s : ByteArray) (l : List T) : ∀ a, (spoilL q v s l a).1.length = l.length := by
  induction l with
  | nil => intro a; simp [spoilL]
  | cons x l ih => intro a; simp only [spoilL]; split <;> simp [ih]
theorem spoilT_bd (q : Nat) (v : Int) (s : ByteArray) (t : T) : ∀ a, 0 ≤ a → -1 ≤ (spoilT q v s t a).2 ∧ (spoilT q v s t a).2 ≤ a := by
  induction t using T.ind with
  | _ kind s0 n k ih =>
    have hL : ∀ a, -1 ≤ a → -1 ≤ (spoilL q v s k a).2 ∧ (spoilL q v s k a).2 ≤ a := by
      induction k with
      | nil => intro a h; simp only [spoilL]; omega
      | cons x l ihl =>
        intro a h
        simp only [spoilL]
        split
        · rename_i h0
          have h1 := ih x (by simp) a h0
          have h2 := ihl (fun t ht => ih t (by simp [ht])) (spoilT q v s x a).2 h1.1
          simp only
          omega
        · simp only; omega
    intro a h
    unfold spoilT
    split
    · simp only; omega
    · have := hL (a - 1) (by omega)
      simp only
      omega
theorem spoilL_bd (q : Nat) (v : Int) (s : ByteArray) (l : List T) : ∀ a, -1 ≤ a → -1 ≤ (spoilL q v s l a).2 ∧ (spoilL q v s l a).2 ≤ a := by
  induction l with
  | nil => intro a h; simp only [spoilL]; omega
  | cons x l ihl =>
    intro a h
    simp only [spoilL]
    split
    · rename_i h0
      have h1 := spoilT_bd q v s x a h0
      have h2 := ihl (spoilT q v s x a).2 h1.1
      simp only
      omega
    · simp only; omega
theorem head_kind (q : Nat) (v : Int) (s : ByteArray) (t : T) : (spoilHead q v s t).kind = t.kind ∧ (spoilHead q v s t).k = t.k ∨ ((spoilHead q v s t).kind = 0 ∨ (spoilHead q v s t).kind = 1 ∨ (spoilHead q v s t).kind = 11) ∧ (spoilHead q v s t).k = [] := by
  unfold spoilHead
  split
  · exact .inr ⟨.inl rfl, rfl⟩
  · split
    · exact .inl ⟨rfl, rfl⟩
    · split
      · exact .inl ⟨rfl, rfl⟩
      · split
        · split
          · exact .inr ⟨.inr (.inl rfl), rfl⟩
          · exact .inr ⟨.inr (.inr rfl), rfl⟩
        · exact .inl ⟨rfl, rfl⟩
theorem head_s (q : Nat) (v : Int) (s : ByteArray) (t : T) (h : t.s.size ≤ 2147483648) : (spoilHead q v s t).s.size ≤ 2147483648 := by
  have he : (⟨#[]⟩ : ByteArray).size ≤ 2147483648 := by decide
  unfold spoilHead
  split
  · exact he
  · split
    · have := cutTo_size s 20
      show (cutTo s 20).size ≤ _
      omega
    · split
      · exact h
      · split
        · split
          · exact he
          · exact he
        · exact h
theorem head_n (q : Nat) (v : Int) (s : ByteArray) (t : T) (hv : -9223372036854775808 ≤ v ∧ v ≤ 9223372036854775807) (h : -9223372036854775808 ≤ t.n ∧ t.n ≤ 9223372036854775807) : -9223372036854775808 ≤ (spoilHead q v s t).n ∧ (spoilHead q v s t).n ≤ 9223372036854775807 := by
  unfold spoilHead
  split
  · exact ⟨by decide, by decide⟩
  · split
    · exact h
    · split
      · exact hv
      · split
        · split
          · exact ⟨by decide, by decide⟩
          · exact ⟨by decide, by decide⟩
        · exact h
theorem shaped_iff (t : T) : t.Shaped ↔ (t.kind = 13 ∨ t.kind = 15 ∨ t.kind = 16 → t.k.length = 2) ∧ (t.kind = 14 → t.k.length = 1) ∧ (t.kind = 13 ∨ t.kind = 14 ∨ t.kind = 15 ∨ t.kind = 16 ∨ t.k = []) ∧ -9223372036854775808 ≤ t.n ∧ t.n ≤ 9223372036854775807 ∧ t.s.size ≤ 2147483648 ∧ ShapedL t.k := by
  cases t
  unfold T.Shaped
  exact Iff.rfl
theorem shapedL_of : ∀ {l : List T}, (∀ t ∈ l, t.Shaped) → ShapedL l := by
  intro l
  induction l with
  | nil => intro _; unfold ShapedL; trivial
  | cons x l ih => intro h; unfold ShapedL; exact ⟨h x (by simp), ih (fun t ht => h t (by simp [ht]))⟩
theorem spoilL_all {P : T → Prop} (q : Nat) (v : Int) (s : ByteArray) (l : List T) (h : ∀ t ∈ l, P t ∧ ∀ a, P (spoilT q v s t a).1) : ∀ a, ∀ t ∈ (spoilL q v s l a).1, P t := by
  induction l with
  | nil => intro a t ht; simp [spoilL] at ht
  | cons x l ih =>
    intro a t ht
    simp only [spoilL] at ht
    split at ht
    · simp only [List.mem_cons] at ht
      rcases ht with rfl | ht
      · exact (h x (by simp)).2 a
      · exact ih (fun t ht => h t (by simp [ht])) _ t ht
    · exact (h t ht).1
theorem spoil_shaped (q : Nat) (v : Int) (s : ByteArray) (hv : -9223372036854775808 ≤ v ∧ v ≤ 9223372036854775807) (t : T) : t.Shaped → ∀ a, (spoilT q v s t a).1.Shaped := by
  induction t using T.ind with
  | _ kind s0 n k ih =>
    intro h a
    have h' := (shaped_iff _).1 h
    obtain ⟨h2, h1, h3, hn1, hn2, hs, hk⟩ := h'
    unfold spoilT
    split
    · rw [shaped_iff]
      simp only
      have hs' := head_s q v s (.mk kind s0 n k) hs
      have hn' := head_n q v s (.mk kind s0 n k) hv ⟨hn1, hn2⟩
      rcases head_kind q v s (.mk kind s0 n k) with ⟨e1, e2⟩ | ⟨e1, e2⟩
      · rw [e1, e2]; exact ⟨h2, h1, h3, hn'.1, hn'.2, hs', hk⟩
      · rw [e2]; exact ⟨fun h => by omega, fun h => by omega, .inr (.inr (.inr (.inr rfl))), hn'.1, hn'.2, hs', by unfold ShapedL; trivial⟩
    · rw [shaped_iff]
      have hl := spoilL_len q v s k (a - 1)
      simp only [T.kind, T.k, T.s, T.n] at *
      refine ⟨fun h => by rw [hl]; exact h2 h, fun h => by rw [hl]; exact h1 h, ?_, hn1, hn2, hs, shapedL_of (spoilL_all q v s k (fun t ht => ⟨shapedL_mem hk t ht, ih t ht (shapedL_mem hk t ht)⟩) _)⟩
      rcases h3 with h | h | h | h | h
      · exact .inl h
      · exact .inr (.inl h)
      · exact .inr (.inr (.inl h))
      · exact .inr (.inr (.inr (.inl h)))
      · refine .inr (.inr (.inr (.inr ?_)))
        subst h
        simp [spoilL]
theorem head_cnt (q : Nat) (v : Int) (s : ByteArray) (t : T) : (spoilHead q v s t).cnt ≤ t.cnt := by
  have h1 : 1 ≤ t.cnt := by cases t; unfold T.cnt; omega
  unfold spoilHead
  split
  · simp [T.cnt, cntL]; exact h1
  · split
    · cases t; simp [T.cnt, T.k]
    · split
      · cases t; simp [T.cnt, T.k]
      · split
        · split
          · simp [T.cnt, cntL]; exact h1
          · simp [T.cnt, cntL]; exact h1
        · exact Nat.le_refl _
theorem spoil_cnt (q : Nat) (v : Int) (s : ByteArray) (t : T) : ∀ a, (spoilT q v s t a).1.cnt ≤ t.cnt := by
  induction t using T.ind with
  | _ kind s0 n k ih =>
    have hL : ∀ a, cntL (spoilL q v s k a).1 ≤ cntL k := by
      induction k with
      | nil => intro a; simp [spoilL]
      | cons x l ihl =>
        intro a
        simp only [spoilL]
        split
        · have h1 := ih x (by simp) a
          have h2 := ihl (fun t ht => ih t (by simp [ht])) (spoilT q v s x a).2
          simp only [cntL]
          omega
        · exact Nat.le_refl _
    intro a
    unfold spoilT
    split
    · exact head_cnt q v s _
    · have := hL (a - 1)
      simp only [T.cnt]
      omega
theorem obsL_len (l : List T) : (obsL l).length = l.length := by
  induction l with
  | nil => rfl
  | cons x l ih => simp [obsL, ih]
theorem obsOf_nodes (t : T) : (obsOf t).nodes ≤ t.cnt := by
  induction t using T.ind with
  | _ kind s n k ih =>
    unfold obsOf T.cnt
    split
    · simp [O.nodes]
    · split
      · simp [O.nodes]
      · match k, ih with
        | [], _ => simp [obsL, O.nodes]
        | [a], ih =>
          have h1 := ih a (by simp)
          simp only [obsL, cntL]
          split
          · simp only [O.nodes]; omega
          · simp [O.nodes]
        | [a, b], ih =>
          have h1 := ih a (by simp)
          have h2 := ih b (by simp)
          simp only [obsL, cntL]
          split
          · simp only [O.nodes]; omega
          · split
            · simp only [O.nodes]; omega
            · split
              · simp only [O.nodes]; omega
              · simp [O.nodes]
        | a :: b :: c :: l, _ => simp [obsL, O.nodes]

end Go.Proofs.Ytmhckbcddmdchaa
namespace Go.Proofs.Ytmhckbcddmdchaa
open Go.RowKit
set_option linter.unusedVariables false

theorem infoTT : (Try.prog.info? 29).map (fun i => (i.zero, i.size, i.bytes)) = some (some (.agg zeroT), 4, 56) := by kernel_rfl
/-- A tree stands wherever the old blocks and the new ones are as they were. -/
def Spread (W0 : World) (B : Nat) (w : World) (t : T) (v : Value) : Prop := ∀ X : World, (∀ b o c, (b < W0.heap.size ∨ B ≤ b) → w.cell? ⟨b, o, none⟩ = some c → X.cell? ⟨b, o, none⟩ = some c) → TIn X 0 t v
theorem Spread.here {W0 w : World} {B : Nat} {t : T} {v : Value} (h : Spread W0 B w t v) : TIn w 0 t v := h w (fun _ _ _ _ h => h)
theorem spread_old {W0 w : World} {B : Nat} {t : T} {v : Value} (h : TIn W0 0 t v) (hb : Below W0.heap.size W0 w) : Spread W0 B w t v :=
  fun X hX => h.kept (Nat.le_refl _) (fun b o c _ hc => hX b o c (.inl (World.block_lt_of_cell? W0 _ hc)) ((hb.cell (p := ⟨b, o, none⟩) (World.block_lt_of_cell? W0 _ hc)).trans hc))
theorem spread_leaf {W0 w : World} {B : Nat} (kind : Int) (s : ByteArray) (n : Int) : Spread W0 B w (.mk kind s n []) (.agg #[.int .i64 kind, .string s, .int .i64 n, .slice none 0 0]) := fun X _ => tin_leaf X 0 kind s n
def SpoilPost (W0 w : World) (r : T × Int) (e : Ending) (w' : World) : Prop :=
  ∃ ka kc, e = .returned (.tuple #[.agg (four r.1 ka kc), .int .i64 r.2]) ∧ Spread W0 w.heap.size w' r.1 (.agg (four r.1 ka kc)) ∧ Below w.heap.size w w'
theorem tin_parts {X : World} {t : T} {a : Option Addr} {cap : Nat} (h : TIn X 0 t (.agg #[.int .i64 t.kind, .string t.s, .int .i64 t.n, .slice a t.k.length cap])) (kind : Int) (s : ByteArray) (n : Int) : TIn X 0 (.mk kind s n t.k) (.agg #[.int .i64 kind, .string s, .int .i64 n, .slice a t.k.length cap]) := by
  obtain ⟨a', cap', e, h4, h5, h6⟩ := h
  simp at e
  obtain ⟨rfl, rfl⟩ := e
  exact ⟨a, cap, rfl, h4, h5, h6⟩

set_option maxHeartbeats 2000000 in
set_option maxRecDepth 100000 in
theorem spoil_head (W0 : World) (t : T) (what v : Int) (s : ByteArray) (hw1 : -9223372036854775808 ≤ what) (hw2 : what ≤ 9223372036854775807) (hs : s.size ≤ maxLen) (w : World) (x : Value) (hx : TIn W0 0 t x) (hb : Below W0.heap.size W0 w) :
    Calls Try.prog 49 #[x, .int .i64 0, .int .i64 what, .int .i64 v, .string s] w (SpoilPost W0 w (spoilHead (what % 5).toNat v s t, -1)) := by
  obtain ⟨q, hq⟩ : ∃ q : Nat, what % 5 = q := ⟨(what % 5).toNat, by omega⟩
  have hq5 : q = 0 ∨ q = 1 ∨ q = 2 ∨ q = 3 ∨ q = 4 := by omega
  have HX := hidIn hx
  obtain ⟨a, cap, rfl, _, _, _⟩ := hx
  have HB0 := hidIn hb
  have HQ : Hid ((what % 5).toNat = q) := by show _ = _; omega
  have hsz : w.heap.size + 1 ≠ w.heap.size := by omega
  clear hb
  go_enter Try.func49, Try.ntmps49
  go_wp2_with fail
  obtain ⟨W, hW⟩ : ∃ W, W = (w.alloc (.cells #[.int .i64 t.kind, .string t.s, .int .i64 t.n, .slice a t.k.length cap] 29)).alloc (.cells #[.int .i64 0, .string ⟨#[]⟩, .int .i64 0, .slice none 0 0] 29) := ⟨_, rfl⟩
  have HB : Hid (Below w.heap.size w W) := by rw [hW]; exact below_alloc (below_alloc (Below.refl _ _) _) _
  have hP : Blk W w.heap.size 29 #[.int .i64 t.kind, .string t.s, .int .i64 t.n, .slice a t.k.length cap] := by rw [hW]; exact blk_keep (blk_new rfl) _
  have hZ : Blk W (w.heap.size + 1) 29 zeroT := by rw [hW]; exact blk_new (by simp)
  have HSX : Hid (∀ (B : Nat) (X : World), Below w.heap.size w X → Spread W0 B X t (.agg #[.int .i64 t.kind, .string t.s, .int .i64 t.n, .slice a t.k.length cap])) := fun B X hX => spread_old HX.out (HB0.out.trans (hX.mono HB0.out.size))
  rw [← hW]
  clear hW
  have c0 := hP.cell 0
  have c1 := hP.cell 1
  have c2 := hP.cell 2
  have c3 := hP.cell 3
  have e0 := hP.frozen 0
  have e1 := hP.frozen 1
  have e2 := hP.frozen 2
  have e3 := hP.frozen 3
  obtain ⟨⟨z0, z1, z2, z3⟩, f0, f1, f2, f3⟩ := blk_zero hZ
  have HP := hidIn hP
  have HZ := hidIn hZ
  have HSS := hidIn hs
  clear hP hZ hs HX
  refine calls_same (within_any _ 5 _ (by omega) (by omega) hw1 hw2) ?_
  rw [hq]
  clear hq hw1 hw2
  rcases hq5 with rfl | rfl | rfl | rfl | rfl
  · go_wp2_with fail
    refine bodyPost_ret (results_cell_slot rfl _ _ (w.heap.size + 1) 29 #[.int .i64 0, .string ⟨#[]⟩, .int .i64 0, .slice none 0 0] (0, 0) _ rfl ?blk Try.underlying29 rfl infoT) rfl ?post
    case blk => change Blk _ _ _ _; (with_reducible refine blk_set4' ?_ _ _ _ _); (repeat first | with_reducible exact HZ.out | with_reducible refine blk_other ?_ hsz _ _)
    case post =>
      rw [HQ.out]
      change SpoilPost W0 w (T.mk 0 ⟨#[]⟩ 0 [], -1) _ _
      refine ⟨_, _, rfl, spread_leaf _ _ _, ?_⟩
      all_goals (repeat first | with_reducible exact HB.out | with_reducible refine below_set ?_ (by omega) _ _)
  · go_wp2_with fail
    refine calls_same (text_any _ 20 _ HSS.out (by omega)) ?_
    go_wp2_with fail
    refine bodyPost_ret (results_cell_slot rfl _ _ (w.heap.size + 1) 29 #[.int .i64 t.kind, .string (cutTo s 20), .int .i64 t.n, .slice a t.k.length cap] (0, 0) _ rfl ?blk Try.underlying29 rfl infoT) rfl ?post
    case blk => change Blk _ _ _ _; (with_reducible refine blk_set4' ?_ _ _ _ _); (repeat first | with_reducible exact HZ.out | with_reducible refine blk_other ?_ hsz _ _)
    case post =>
      rw [HQ.out]
      change SpoilPost W0 w (T.mk t.kind (cutTo s 20) t.n t.k, -1) _ _
      refine ⟨_, _, rfl, (fun X hX => tin_parts (HSX.out _ _ ?_ X hX) _ _ _), ?_⟩
      all_goals (repeat first | with_reducible exact HB.out | with_reducible refine below_set ?_ (by omega) _ _)
  · go_wp2_with fail
    refine bodyPost_ret (results_cell_slot rfl _ _ (w.heap.size + 1) 29 #[.int .i64 t.kind, .string t.s, .int .i64 v, .slice a t.k.length cap] (0, 0) _ rfl ?blk Try.underlying29 rfl infoT) rfl ?post
    case blk => change Blk _ _ _ _; (with_reducible refine blk_set4' ?_ _ _ _ _); (repeat first | with_reducible exact HZ.out | with_reducible refine blk_other ?_ hsz _ _)
    case post =>
      rw [HQ.out]
      change SpoilPost W0 w (T.mk t.kind t.s v t.k, -1) _ _
      refine ⟨_, _, rfl, (fun X hX => tin_parts (HSX.out _ _ ?_ X hX) _ _ _), ?_⟩
      all_goals (repeat first | with_reducible exact HB.out | with_reducible refine below_set ?_ (by omega) _ _)
  · by_cases h11 : 11 ≤ t.kind
    · go_wp2_with fail
      refine bodyPost_ret (results_cell_slot rfl _ _ (w.heap.size + 1) 29 #[.int .i64 1, .string ⟨#[]⟩, .int .i64 0, .slice none 0 0] (0, 0) _ rfl ?blk Try.underlying29 rfl infoT) rfl ?post
      case blk => change Blk _ _ _ _; (with_reducible refine blk_set4' ?_ _ _ _ _); (repeat first | with_reducible exact HZ.out | with_reducible refine blk_other ?_ hsz _ _)
      case post =>
        rw [HQ.out, show spoilHead 3 v s t = T.mk 1 ⟨#[]⟩ 0 [] from if_pos h11]
        refine ⟨_, _, rfl, spread_leaf _ _ _, ?_⟩
        all_goals (repeat first | with_reducible exact HB.out | with_reducible refine below_set ?_ (by omega) _ _)
    · go_wp2_with fail
      refine bodyPost_ret (results_cell_slot rfl _ _ (w.heap.size + 1) 29 #[.int .i64 11, .string ⟨#[]⟩, .int .i64 1, .slice none 0 0] (0, 0) _ rfl ?blk Try.underlying29 rfl infoT) rfl ?post
      case blk => change Blk _ _ _ _; (with_reducible refine blk_set4' ?_ _ _ _ _); (repeat first | with_reducible exact HZ.out | with_reducible refine blk_other ?_ hsz _ _)
      case post =>
        rw [HQ.out, show spoilHead 3 v s t = T.mk 11 ⟨#[]⟩ 1 [] from if_neg (Int.not_le.2 h11)]
        refine ⟨_, _, rfl, spread_leaf _ _ _, ?_⟩
        all_goals (repeat first | with_reducible exact HB.out | with_reducible refine below_set ?_ (by omega) _ _)
  · go_wp2_with fail
    refine bodyPost_ret (results_cell_slot rfl _ _ (w.heap.size + 1) 29 #[.int .i64 t.kind, .string t.s, .int .i64 t.n, .slice a t.k.length cap] (0, 0) _ rfl ?blk Try.underlying29 rfl infoT) rfl ?post
    case blk => change Blk _ _ _ _; (with_reducible refine blk_set4' ?_ _ _ _ _); (repeat first | with_reducible exact HZ.out | with_reducible refine blk_other ?_ hsz _ _)
    case post =>
      rw [HQ.out]
      change SpoilPost W0 w (t, -1) _ _
      refine ⟨_, _, rfl, (HSX.out _ _ ?_), ?_⟩
      all_goals (repeat first | with_reducible exact HB.out | with_reducible refine below_set ?_ (by omega) _ _)

/-- The cells of trees, one behind another. -/
def CellsAt (cur : Array Value) (j : Nat) (t : T) (ka : Option Addr) (kc : Nat) : Prop := cur[j * 4]? = some (.int .i64 t.kind) ∧ cur[j * 4 + 1]? = some (.string t.s) ∧ cur[j * 4 + 2]? = some (.int .i64 t.n) ∧ cur[j * 4 + 3]? = some (.slice ka t.k.length kc)
/-- A row of trees in block R: each stands wherever the old blocks and those behind R are as they were. -/
def RowIn (W0 : World) (R : Nat) (w : World) (cur : Array Value) (l : List T) : Prop := ∀ j t, l[j]? = some t → ∃ ka kc, CellsAt cur j t ka kc ∧ Spread W0 (R + 1) w t (.agg (four t ka kc))
theorem Spread.next {W0 w w' : World} {B : Nat} {t : T} {v : Value} (h : Spread W0 B w t v) (hc : ∀ b o c, (b < W0.heap.size ∨ B ≤ b) → w.cell? ⟨b, o, none⟩ = some c → w'.cell? ⟨b, o, none⟩ = some c) : Spread W0 B w' t v :=
  fun X hX => h X (fun b o c hb hw => hX b o c hb (hc b o c hb hw))
theorem Spread.low {W0 w : World} {B B' : Nat} {t : T} {v : Value} (h : Spread W0 B w t v) (hB : B' ≤ B) : Spread W0 B' w t v :=
  fun X hX => h X (fun b o c hb hw => hX b o c (by omega) hw)
theorem RowIn.next {W0 w w' : World} {R : Nat} {cur : Array Value} {l : List T} (h : RowIn W0 R w cur l) (hc : ∀ b o c, b ≠ R → w.cell? ⟨b, o, none⟩ = some c → w'.cell? ⟨b, o, none⟩ = some c) (hR : W0.heap.size ≤ R) : RowIn W0 R w' cur l := by
  intro j t hj
  obtain ⟨ka, kc, h1, h2⟩ := h j t hj
  exact ⟨ka, kc, h1, h2.next (fun b o c hb hw => hc b o c (by omega) hw)⟩
def put4 (cur : Array Value) (i : Nat) (a b c d : Value) : Array Value := (((cur.setIfInBounds (i * 4) a).setIfInBounds (i * 4 + 1) b).setIfInBounds (i * 4 + 2) c).setIfInBounds (i * 4 + 3) d
theorem put4_same (cur : Array Value) (i : Nat) (a b c d : Value) (h : i * 4 + 3 < cur.size) : (put4 cur i a b c d)[i * 4]? = some a ∧ (put4 cur i a b c d)[i * 4 + 1]? = some b ∧ (put4 cur i a b c d)[i * 4 + 2]? = some c ∧ (put4 cur i a b c d)[i * 4 + 3]? = some d := by
  unfold put4
  refine ⟨?_, ?_, ?_, ?_⟩ <;> simp [Array.getElem?_setIfInBounds] <;> omega
theorem put4_other (cur : Array Value) (i j : Nat) (a b c d : Value) (h : j ≠ i) (x : Nat) (hx : x < 4) : (put4 cur i a b c d)[j * 4 + x]? = cur[j * 4 + x]? := by
  unfold put4
  rw [Array.getElem?_setIfInBounds_ne (by omega), Array.getElem?_setIfInBounds_ne (by omega), Array.getElem?_setIfInBounds_ne (by omega), Array.getElem?_setIfInBounds_ne (by omega)]
theorem RowIn.put {W0 w : World} {R : Nat} {cur : Array Value} {l : List T} {i : Nat} {x t : T} {ka : Option Addr} {kc : Nat} (h : RowIn W0 R w cur l) (hi : l[i]? = some x) (hc : i * 4 + 3 < cur.size) (ht : Spread W0 (R + 1) w t (.agg (four t ka kc))) : RowIn W0 R w (put4 cur i (.int .i64 t.kind) (.string t.s) (.int .i64 t.n) (.slice ka t.k.length kc)) (l.set i t) := by
  intro j u hj
  by_cases hji : j = i
  · subst hji
    have hl := (List.getElem?_eq_some_iff.1 hi).1
    rw [List.getElem?_set_self hl] at hj
    injection hj with hj
    subst hj
    exact ⟨ka, kc, put4_same cur j _ _ _ _ hc, ht⟩
  · rw [List.getElem?_set_ne (fun e => hji e.symm)] at hj
    obtain ⟨kb, kd, h1, h2⟩ := h j u hj
    refine ⟨kb, kd, ?_, h2⟩
    obtain ⟨c0, c1, c2, c3⟩ := h1
    exact ⟨(put4_other cur i j _ _ _ _ hji 0 (by omega)).trans c0, (put4_other cur i j _ _ _ _ hji 1 (by omega)).trans c1, (put4_other cur i j _ _ _ _ hji 2 (by omega)).trans c2, (put4_other cur i j _ _ _ _ hji 3 (by omega)).trans c3⟩
/-- The cells of parts that lie in memory. -/
def rowCells (l : List T) (f : Nat → Option Addr × Nat) : Nat → List Value
  | i => match l with
    | [] => []
    | t :: r => .int .i64 t.kind :: .string t.s :: .int .i64 t.n :: .slice (f i).1 t.k.length (f i).2 :: rowCells r f (i + 1)
theorem rowCells_len (f : Nat → Option Addr × Nat) (l : List T) : ∀ i, (rowCells l f i).length = l.length * 4 := by
  induction l with
  | nil => intro i; simp [rowCells]
  | cons t l ih => intro i; simp only [rowCells, List.length_cons, ih]; omega
theorem rowCells_get (f : Nat → Option Addr × Nat) (l : List T) : ∀ i j t, l[j]? = some t → (rowCells l f i)[j * 4]? = some (.int .i64 t.kind) ∧ (rowCells l f i)[j * 4 + 1]? = some (.string t.s) ∧ (rowCells l f i)[j * 4 + 2]? = some (.int .i64 t.n) ∧ (rowCells l f i)[j * 4 + 3]? = some (.slice (f (i + j)).1 t.k.length (f (i + j)).2) := by
  induction l with
  | nil => intro i j t h; simp at h
  | cons u l ih =>
    intro i j t h
    cases j with
    | zero => simp at h; subst h; simp [rowCells]
    | succ j =>
      simp at h
      have := ih (i + 1) j t h
      simp only [rowCells]
      rw [show (j + 1) * 4 = j * 4 + 1 + 1 + 1 + 1 by omega, show i + (j + 1) = i + 1 + j by omega]
      simpa using this
theorem rowCells_one (f : Nat → Option Addr × Nat) (l : List T) : ∀ i, ∀ u ∈ rowCells l f i, u.oneCell' = true := by
  induction l with
  | nil => intro i u hu; simp [rowCells] at hu
  | cons t l ih =>
    intro i u hu
    simp only [rowCells, List.mem_cons] at hu
    rcases hu with rfl | rfl | rfl | rfl | hu
    · rfl
    · rfl
    · rfl
    · rfl
    · exact ih (i + 1) u hu
theorem kat_row {w : World} {l : List T} {b o : Nat} (h : KAt w 0 l (some ⟨b, o, none⟩) 0) : ∃ f : Nat → Option Addr × Nat, (∀ j t, l[j]? = some t → TIn w 0 t (.agg (four t (f j).1 (f j).2))) ∧ ∀ (j : Nat) (u : Value), (rowCells l f 0)[j]? = some u → w.cell? ((⟨b, o, none⟩ : Addr).add j) = some u := by
  have hx : ∀ j, ∃ p : Option Addr × Nat, ∀ t, l[j]? = some t → w.cell? ⟨b, o + j * 4, none⟩ = some (.int .i64 t.kind) ∧ w.cell? ⟨b, o + j * 4 + 1, none⟩ = some (.string t.s) ∧ w.cell? ⟨b, o + j * 4 + 2, none⟩ = some (.int .i64 t.n) ∧ w.cell? ⟨b, o + j * 4 + 3, none⟩ = some (.slice p.1 t.k.length p.2) ∧ TIn w 0 t (.agg (four t p.1 p.2)) := by
    intro j
    cases hj : l[j]? with
    | none => exact ⟨(none, 0), fun t ht => by cases ht⟩
    | some t =>
      obtain ⟨b', o', ka, kc, e, c0, c1, c2, c3, ht⟩ := h.cells hj
      injection e with e
      injection e with e1 e2
      subst e1 e2
      exact ⟨(ka, kc), fun t' ht' => by injection ht' with ht'; subst ht'; exact ⟨c0, c1, c2, c3, ht⟩⟩
  refine ⟨fun j => Classical.choose (hx j), fun j t hj => ((Classical.choose_spec (hx j)) t hj).2.2.2.2, ?_⟩
  intro j u hu
  have hlen := (List.getElem?_eq_some_iff.1 hu).1
  rw [rowCells_len] at hlen
  obtain ⟨q, r, hr, rfl⟩ : ∃ q r, r < 4 ∧ j = q * 4 + r := ⟨j / 4, j % 4, Nat.mod_lt _ (by omega), by omega⟩
  obtain ⟨t, ht⟩ : ∃ t, l[q]? = some t := ⟨_, List.getElem?_eq_getElem (by omega)⟩
  have hg := rowCells_get (fun j => Classical.choose (hx j)) l 0 q t ht
  have hs := (Classical.choose_spec (hx q)) t ht
  rw [Nat.zero_add] at hg
  rw [Go.WideShapes.add_plain, ← Nat.add_assoc]
  have h4 : r = 0 ∨ r = 1 ∨ r = 2 ∨ r = 3 := by omega
  rcases h4 with rfl | rfl | rfl | rfl
  · rw [Nat.add_zero] at hu ⊢; rw [hg.1] at hu; injection hu with hu; subst hu; exact hs.1
  · rw [hg.2.1] at hu; injection hu with hu; subst hu; exact hs.2.1
  · rw [hg.2.2.1] at hu; injection hu with hu; subst hu; exact hs.2.2.1
  · rw [hg.2.2.2] at hu; injection hu with hu; subst hu; exact hs.2.2.2.1

end Go.Proofs.Ytmhckbcddmdchaa
namespace Go.Proofs.Ytmhckbcddmdchaa
open Go.RowKit
set_option linter.unusedVariables false

theorem len_cnt (l : List T) : l.length ≤ cntL l := by
  induction l with
  | nil => simp
  | cons t l ih => have h1 : 1 ≤ t.cnt := by cases t; unfold T.cnt; omega
                   simp only [cntL, List.length_cons]; omega
theorem cell_set4 {W : World} {R i : Nat} {a b c d : Value} {k o : Nat} (h : k ≠ R) : ((((W.setCell ⟨R, i, none⟩ a).setCell ⟨R, i + 1, none⟩ b).setCell ⟨R, i + 2, none⟩ c).setCell ⟨R, i + 3, none⟩ d).cell? ⟨k, o, none⟩ = W.cell? ⟨k, o, none⟩ := by
  rw [World.cell?_setCell_other _ _ _ _ (by intro e; injection e with e; exact h e.symm), World.cell?_setCell_other _ _ _ _ (by intro e; injection e with e; exact h e.symm), World.cell?_setCell_other _ _ _ _ (by intro e; injection e with e; exact h e.symm), World.cell?_setCell_other _ _ _ _ (by intro e; injection e with e; exact h e.symm)]
theorem blk_put4 {W : World} {R ty : Nat} {cur : Array Value} (h : Blk W R ty cur) (i : Nat) (a b c d : Value) : Blk ((((W.setCell ⟨R, i * 4, none⟩ a).setCell ⟨R, i * 4 + 1, none⟩ b).setCell ⟨R, i * 4 + 2, none⟩ c).setCell ⟨R, i * 4 + 3, none⟩ d) R ty (put4 cur i a b c d) :=
  (((h.set _ a).set _ b).set _ c).set _ d
theorem put4_size (cur : Array Value) (i : Nat) (a b c d : Value) : (put4 cur i a b c d).size = cur.size := by simp [put4]
/-- What stands in the row behind so many rounds. -/
def rowAt (q : Nat) (v : Int) (s : ByteArray) (k : List T) (a : Int) (i : Nat) : List T := (spoilL q v s (k.take i) a).1 ++ k.drop i
theorem rowAt_get (q : Nat) (v : Int) (s : ByteArray) (k : List T) (a : Int) (i : Nat) (hi : i < k.length) : (rowAt q v s k a i)[i]? = k[i]? := by
  have hl := spoilL_len q v s (k.take i) a
  rw [List.length_take, Nat.min_eq_left (by omega)] at hl
  unfold rowAt
  rw [List.getElem?_append_right (by omega), hl, Nat.sub_self, List.getElem?_drop, Nat.add_zero]
theorem rowAt_len (q : Nat) (v : Int) (s : ByteArray) (k : List T) (a : Int) (i : Nat) : (rowAt q v s k a i).length = k.length := by
  have hl := spoilL_len q v s (k.take i) a
  unfold rowAt
  rw [List.length_append, hl, ← List.length_append, List.take_append_drop]
theorem rowAt_next (q : Nat) (v : Int) (s : ByteArray) (k : List T) (a : Int) (i : Nat) (t : T) (ht : k[i]? = some t) : rowAt q v s k a (i + 1) = (if 0 ≤ (spoilL q v s (k.take i) a).2 then (rowAt q v s k a i).set i (spoilT q v s t (spoilL q v s (k.take i) a).2).1 else rowAt q v s k a i) ∧ (spoilL q v s (k.take (i + 1)) a).2 = if 0 ≤ (spoilL q v s (k.take i) a).2 then (spoilT q v s t (spoilL q v s (k.take i) a).2).2 else (spoilL q v s (k.take i) a).2 := by
  have hi := (List.getElem?_eq_some_iff.1 ht).1
  have hl := spoilL_len q v s (k.take i) a
  rw [List.length_take, Nat.min_eq_left (by omega)] at hl
  have hd : k.drop i = t :: k.drop (i + 1) := by
    rw [List.drop_eq_getElem_cons hi]
    congr 1
    exact (List.getElem?_eq_some_iff.1 ht).2
  unfold rowAt
  rw [take_more _ _ _ ht, spoilL_snoc, hd]
  split
  · simp only [List.append_assoc, List.singleton_append]
    rw [List.set_append_right _ _ (by omega), hl, Nat.sub_self, List.set_cons_zero]
    simp
  · simp

/-- Parts that are as they were from a place on. -/
def OldIn (W0 : World) (cur : Array Value) (k : List T) (i : Nat) : Prop := ∀ j t, i ≤ j → k[j]? = some t → ∃ ka kc, CellsAt cur j t ka kc ∧ TIn W0 0 t (.agg (four t ka kc))
theorem OldIn.put {W0 : World} {cur : Array Value} {k : List T} {i : Nat} (h : OldIn W0 cur k i) (a b c d : Value) : OldIn W0 (put4 cur i a b c d) k (i + 1) := by
  intro j t hj ht
  obtain ⟨ka, kc, ⟨c0, c1, c2, c3⟩, h2⟩ := h j t (by omega) ht
  exact ⟨ka, kc, ⟨(put4_other cur i j _ _ _ _ (by omega) 0 (by omega)).trans c0, (put4_other cur i j _ _ _ _ (by omega) 1 (by omega)).trans c1, (put4_other cur i j _ _ _ _ (by omega) 2 (by omega)).trans c2, (put4_other cur i j _ _ _ _ (by omega) 3 (by omega)).trans c3⟩, h2⟩
/-- A copy of a tree's parts. -/
structure KidsRow (W0 w w' : World) (ro : Option Addr) (c2 R : Nat) (cur : Array Value) (k : List T) : Prop where
  cap : k.length ≤ c2 ∧ c2 ≤ 9223372036854775807
  at_ : k ≠ [] → ro = some ⟨R, 0, none⟩ ∧ Blk w' R 29 cur ∧ k.length * 4 ≤ cur.size
  base : w.heap.size ≤ R
  row : RowIn W0 R w' cur k
  old : OldIn W0 cur k 0
  below : Below w.heap.size w w'
theorem run_append_nil (w : World) (ty cap : Nat) : (Builtin.append_ #[27, 27] ty #[.slice none 0 0, .slice none 0 cap]).run Try.prog w = .ok (.slice none 0 0) w := by
  obtain ⟨i0, hi, hz0, hz1, hz2⟩ := info_parts infoTT
  simp [Builtin.append_, run_underlying Try.underlying27, sizeOf, typeInfo, hi, Builtin.lenOf, Builtin.firstCells]
theorem wpList_append_kids {ops : Array Oper} {rest : List Oper} {o : Oper} {a : Act} {Q : Exit → Act → World → Prop} (w : World) (hgd : o.guard = none) (s x : Operand)
    (ho : o.op = .call { callee := .builtin .append, args := #[s, x], argTypes := #[27, 27] })
    (hs : a.eval s = .slice none 0 0) (k : List T) (ao : Option Addr) (cap : Nat) (hx : a.eval x = .slice ao k.length cap) (W0 : World) (hK : KAt W0 0 k ao 0) (hb : Below W0.heap.size W0 w) (hkl : k.length ≤ 1000000)
    (h : ∀ ro c2 R cur w', KidsRow W0 w w' ro c2 R cur k → wpList Try.prog ops Q rest (a.put o.dst (.slice ro k.length c2)) w') : wpList Try.prog ops Q (o :: rest) a w := by
  obtain ⟨i0, hi, hz0, hz1, hz2⟩ := info_parts infoTT
  cases ao with
  | none =>
    have hk : k = [] := by
      cases k with
      | nil => rfl
      | cons t l => exfalso; unfold KAt at hK; obtain ⟨⟨b, o, e, _⟩, _⟩ := hK; cases e
    subst hk
    refine wpList_plain hgd fun K hKK => ?_
    have hrun := run_append_nil w o.type cap
    have hk2 := h none 0 w.heap.size #[] w ⟨⟨Nat.le_refl _, by simp⟩, fun hn => absurd rfl hn, Nat.le_refl _, fun j t hj => by simp at hj, fun j t _ hj => by simp at hj, Below.refl _ _⟩
    unfold Oper.wp
    simp at hx
    simp [execOp, ho, resolve, invoke, builtin, hs, hx, hrun, Result.andThen]
    exact hKK _ _ hk2
  | some ad =>
    obtain ⟨f, hT, hC⟩ : ∃ f : Nat → Option Addr × Nat, (∀ j t, k[j]? = some t → TIn W0 0 t (.agg (four t (f j).1 (f j).2))) ∧ ∀ (j : Nat) (u : Value), (rowCells k f 0)[j]? = some u → W0.cell? (ad.add j) = some u := by
      cases k with
      | nil => exact ⟨fun _ => (none, 0), fun j t hj => by simp at hj, fun j u hj => by simp [rowCells] at hj⟩
      | cons t l =>
        have hK2 := hK
        unfold KAt at hK2
        obtain ⟨⟨b, o, e, _⟩, _⟩ := hK2
        injection e with e
        subst e
        exact kat_row hK
    refine wpList_append_own_at w hgd s x 27 ho w.heap.size 29 i0 (.agg zeroT) 4 56 Try.underlying27 hi hz0 hz1 hz2 rfl (by decide) _ _ _ hs (World.ownsRow_nil _ _ _ _) ad k.length cap (rowCells k f 0) hx (rowCells_len f k 0) ?_ (rowCells_one f k 0) (by unfold maxLen; omega) (by omega) (Nat.le_refl _) ?_
    · intro j u hj
      have hc := hC j u hj
      exact (hb.cell (World.block_lt_of_cell? W0 _ hc)).trans hc
    · intro v' w' hown hgrow _ _
      have hbl : Below w.heap.size w w' := (Below.refl _ _).grown hgrow (Nat.le_refl _) (fun k hk => by simp [Value.ownBlock] at hk)
      simp only [Nat.zero_add, List.nil_append] at hown
      rcases hown.2 with ⟨rfl, h0⟩ | ⟨g, c2, cur, rfl, hg, hG, hn, hm, hz, ht⟩
      · have hk : k = [] := List.length_eq_zero_iff.1 h0
        subst hk
        exact h none 0 w.heap.size #[] w' ⟨⟨Nat.le_refl _, by simp⟩, fun hn => absurd rfl hn, Nat.le_refl _, fun j t hj => by simp at hj, fun j t _ hj => by simp at hj, hbl⟩
      · have hcells : ∀ j t, k[j]? = some t → CellsAt cur j t (f j).1 (f j).2 := by
          intro j t hj
          have hjl := (List.getElem?_eq_some_iff.1 hj).1
          have hgt := rowCells_get f k 0 j t hj
          have hcur : ∀ m, m < k.length * 4 → cur[m]? = (rowCells k f 0)[m]? := by
            intro m hm
            rw [← ht, List.getElem?_take, if_pos hm, Array.getElem?_toList]
          rw [Nat.zero_add] at hgt
          exact ⟨(hcur _ (by omega)).trans hgt.1, (hcur _ (by omega)).trans hgt.2.1, (hcur _ (by omega)).trans hgt.2.2.1, (hcur _ (by omega)).trans hgt.2.2.2⟩
        exact h _ c2 g cur w' ⟨⟨hn, by unfold maxLen at hm; omega⟩, fun _ => ⟨rfl, hG, by omega⟩, hg, fun j t hj => ⟨(f j).1, (f j).2, hcells j t hj, spread_old (hT j t hj) (hb.trans (hbl.mono hb.size))⟩, fun j t _ hj => ⟨(f j).1, (f j).2, hcells j t hj, hT j t hj⟩, hbl⟩

set_option maxHeartbeats 4000000 in
set_option maxRecDepth 100000 in
theorem spoil_any (what v : Int) (s : ByteArray) (hw1 : -9223372036854775808 ≤ what) (hw2 : what ≤ 9223372036854775807) (hs : s.size ≤ maxLen) (W0 : World) (t : T) : t.cnt ≤ 999990 → ∀ (a : Int), 0 ≤ a → a ≤ 4611686018427387904 → ∀ (w : World) (x : Value), TIn W0 0 t x → Below W0.heap.size W0 w →
    Calls Try.prog 49 #[x, .int .i64 a, .int .i64 what, .int .i64 v, .string s] w (SpoilPost W0 w (spoilT (what % 5).toNat v s t a)) := by
  induction t using T.ind with
  | _ kind s0 n k ih =>
  intro hcnt a ha0 ha1 w x hx hb
  by_cases h0 : a = 0
  · subst h0
    have h := spoil_head W0 (.mk kind s0 n k) what v s hw1 hw2 hs w x hx hb
    have he : spoilT (what % 5).toNat v s (.mk kind s0 n k) 0 = (spoilHead (what % 5).toNat v s (.mk kind s0 n k), -1) := by unfold spoilT; rw [if_pos rfl]
    rw [he]
    exact h
  · have HR : Hid (spoilT (what % 5).toNat v s (.mk kind s0 n k) a = (.mk kind s0 n (spoilL (what % 5).toNat v s k (a - 1)).1, (spoilL (what % 5).toNat v s k (a - 1)).2)) := by unfold Hid spoilT; rw [if_neg h0]
    have h0' : (a == 0) = false := by rw [beq_eq_false_iff_ne]; exact h0
    have hct : (T.mk kind s0 n k).cnt = cntL k + 1 := by rw [T.cnt]
    rw [hct] at hcnt
    have hkl : k.length ≤ 1000000 := by have := len_cnt k; omega
    have HIH : Hid (∀ t ∈ k, ∀ (a : Int), 0 ≤ a → a ≤ 4611686018427387904 → ∀ (w : World) (x : Value), TIn W0 0 t x → Below W0.heap.size W0 w → Calls Try.prog 49 #[x, .int .i64 a, .int .i64 what, .int .i64 v, .string s] w (SpoilPost W0 w (spoilT (what % 5).toNat v s t a))) := fun t ht => ih t ht (by have := cntL_mem k t ht; omega)
    clear ih hct hcnt
    obtain ⟨ao, cap, rfl, hc1, hc2, hK⟩ := hx
    simp only [T.kind, T.s, T.n, T.k] at hc1 hK ⊢
    have HK := hidIn hK
    have HB0 := hidIn hb
    clear hK hb
    generalize (what % 5).toNat = q at *
    go_enter Try.func49, Try.ntmps49
    go_wp2_with (first
      | (at_builtin; refine wpList_append_kids _ rfl _ _ rfl rfl k ao cap rfl W0 HK.out (HB0.out.trans (Below.mono (below_alloc (below_alloc (Below.refl _ _) _) _) HB0.out.size)) hkl ?_; intro ro c2 R cur w1 hrow)
      | go_in)
    obtain ⟨W, hW⟩ : ∃ W, W = (w.alloc (.cells #[.int .i64 kind, .string s0, .int .i64 n, .slice ao k.length cap] 29)).alloc (.cells #[.int .i64 0, .string ⟨#[]⟩, .int .i64 0, .slice none 0 0] 29) := ⟨_, rfl⟩
    rw [← hW] at hrow
    have HB : Hid (Below w.heap.size w W) := by rw [hW]; exact below_alloc (below_alloc (Below.refl _ _) _) _
    have HPW : Hid (Blk W w.heap.size 29 #[.int .i64 kind, .string s0, .int .i64 n, .slice ao k.length cap]) := by rw [hW]; exact blk_keep (blk_new rfl) _
    have HZW : Hid (Blk W (w.heap.size + 1) 29 zeroT) := by rw [hW]; exact blk_new (by simp)
    have HWS : Hid (W.heap.size = w.heap.size + 2) := by unfold Hid; rw [hW]; simp
    have HROW := hidIn hrow
    clear hW hrow
    go_loopw [45, 1] (fun s45 s1 wr => ∃ (i : Nat) (cr : Array Value), i ≤ k.length ∧ s45 = .int .i64 i ∧ s1 = .int .i64 (spoilL q v s (k.take i) (a - 1)).2 ∧ (k ≠ [] → Blk wr R 29 cr ∧ k.length * 4 ≤ cr.size) ∧ RowIn W0 R wr cr (rowAt q v s k (a - 1) i) ∧ OldIn W0 cr k i ∧ Below W.heap.size W wr) (fun s45 _ _ => k.length - (intOf s45).toNat)
    case atStart => exact ⟨0, cur, by omega, rfl, by rw [List.take_zero, spoilL], fun hn => (HROW.out.at_ hn).2, by have h := HROW.out.row; simpa [rowAt, spoilL] using h, HROW.out.old, HROW.out.below⟩
    case round =>
      obtain ⟨i, cr, hi, rfl, rfl, hblk, hrow, hold, hbr⟩ := hrel
      have HBLK := hidIn hblk
      have HRW := hidIn hrow
      have HOLD := hidIn hold
      have HBR := hidIn hbr
      clear hblk hrow hold hbr
      have hbd := spoilL_bd q v s (k.take i) (a - 1) (by omega)
      by_cases hlt : i < k.length
      · have hlt' : (i : Int) < (k.length : Int) := by omega
        obtain ⟨t, hti⟩ : ∃ t, k[i]? = some t := ⟨_, List.getElem?_eq_getElem hlt⟩
        have hne : k ≠ [] := by intro e; rw [e] at hlt; simp at hlt
        have HNX := hidIn (rowAt_next q v s k (a - 1) i t hti)
        have HGET := hidIn ((rowAt_get q v s k (a - 1) i hlt).trans hti)
        have HM : Hid (t ∈ k) := List.mem_of_getElem? hti
        obtain ⟨hro, _, _⟩ := HROW.out.at_ hne
        subst hro
        obtain ⟨hbk, hsz⟩ := HBLK.out hne
        generalize (spoilL q v s (k.take i) (a - 1)).2 = A at *
        by_cases hA : 0 ≤ A
        · obtain ⟨ka, kc, ⟨d0, d1, d2, d3⟩, htin⟩ := HOLD.out i t (Nat.le_refl _) hti
          have c0 : wr.cell? ⟨R, i * 4, none⟩ = _ := (hbk.cell _).trans d0
          have c1 : wr.cell? ⟨R, i * 4 + 1, none⟩ = _ := (hbk.cell _).trans d1
          have c2' : wr.cell? ⟨R, i * 4 + 2, none⟩ = _ := (hbk.cell _).trans d2
          have c3 : wr.cell? ⟨R, i * 4 + 3, none⟩ = _ := (hbk.cell _).trans d3
          have HTI := hidIn htin
          have HBK := hidIn hbk
          have HSZ := hidIn hsz
          clear htin hti d0 d1 d2 d3 hbk hsz
          go_wp2_with fail
          have HB0W := hidIn (HB0.out.trans ((HB.out.trans (HBR.out.mono HB.out.size)).mono HB0.out.size))
          refine (HIH.out t HM.out A hA (by omega) wr _ HTI.out HB0W.out).mono ?_
          rintro e w2 ⟨kb, kd, rfl, hsp, hb2⟩
          have hbd2 := spoilT_bd q v s t A hA
          generalize spoilT q v s t A = r at *
          obtain ⟨t', A2⟩ := r
          simp only [if_pos hA] at hsp hbd2 HNX ⊢
          have HBK2 : Hid (Blk w2 R 29 cr) := HBK.out.below hb2 HBK.out.lt
          have HOK : Hid (∀ m, m < k.length * 4 → ∃ u, w2.cell? ⟨R, m, none⟩ = some u) := by
            intro m hm
            have := HSZ.out
            exact ⟨cr[m]'(by omega), (HBK2.out.cell m).trans (Array.getElem?_eq_getElem _)⟩
          obtain ⟨u0, c0⟩ := HOK.out (i * 4) (by omega)
          obtain ⟨u1, c1⟩ := HOK.out (i * 4 + 1) (by omega)
          obtain ⟨u2, c2'⟩ := HOK.out (i * 4 + 2) (by omega)
          obtain ⟨u3, c3⟩ := HOK.out (i * 4 + 3) (by omega)
          have f0 := HBK2.out.frozen (i * 4)
          have f1 := HBK2.out.frozen (i * 4 + 1)
          have f2 := HBK2.out.frozen (i * 4 + 2)
          have f3 := HBK2.out.frozen (i * 4 + 3)
          have HB2 := hidIn hb2
          have HSP := hidIn hsp
          have HFIN : Hid ((k ≠ [] → Blk ((((w2.setCell ⟨R, i * 4, none⟩ (.int .i64 t'.kind)).setCell ⟨R, i * 4 + 1, none⟩ (.string t'.s)).setCell ⟨R, i * 4 + 2, none⟩ (.int .i64 t'.n)).setCell ⟨R, i * 4 + 3, none⟩ (.slice kb t'.k.length kd)) R 29 (put4 cr i (.int .i64 t'.kind) (.string t'.s) (.int .i64 t'.n) (.slice kb t'.k.length kd)) ∧ k.length * 4 ≤ (put4 cr i (.int .i64 t'.kind) (.string t'.s) (.int .i64 t'.n) (.slice kb t'.k.length kd)).size) ∧ RowIn W0 R ((((w2.setCell ⟨R, i * 4, none⟩ (.int .i64 t'.kind)).setCell ⟨R, i * 4 + 1, none⟩ (.string t'.s)).setCell ⟨R, i * 4 + 2, none⟩ (.int .i64 t'.n)).setCell ⟨R, i * 4 + 3, none⟩ (.slice kb t'.k.length kd)) (put4 cr i (.int .i64 t'.kind) (.string t'.s) (.int .i64 t'.n) (.slice kb t'.k.length kd)) ((rowAt q v s k (a - 1) i).set i t') ∧ Below W.heap.size W ((((w2.setCell ⟨R, i * 4, none⟩ (.int .i64 t'.kind)).setCell ⟨R, i * 4 + 1, none⟩ (.string t'.s)).setCell ⟨R, i * 4 + 2, none⟩ (.int .i64 t'.n)).setCell ⟨R, i * 4 + 3, none⟩ (.slice kb t'.k.length kd))) := by
            have hbase := HROW.out.base
            have hRW : W0.heap.size ≤ R := by have := HB0.out.size; have := HB.out.size; omega
            refine ⟨fun _ => ⟨blk_put4 HBK2.out i _ _ _ _, by rw [put4_size]; exact HSZ.out⟩, ?_, ?_⟩
            · have h2 : RowIn W0 R w2 cr (rowAt q v s k (a - 1) i) := HRW.out.next (fun b o c _ hc => (HB2.out.cell (p := ⟨b, o, none⟩) (World.block_lt_of_cell? _ _ hc)).trans hc) hRW
              have h3 := h2.put HGET.out (by have := HSZ.out; omega) (HSP.out.low (by have := HBK.out.lt; omega))
              exact h3.next (fun b o c hb hc => (cell_set4 hb).trans hc) hRW
            · have h4 : Below W.heap.size W w2 := HBR.out.trans (HB2.out.mono HBR.out.size)
              exact (((h4.setCell hbase _).setCell hbase _).setCell hbase _).setCell hbase _
          clear hb2 hsp
          unfold four
          go_wp2_with fail
          go_roundw
          case rel => exact ⟨i + 1, _, by omega, by go_num, by rw [HNX.out.2], HFIN.out.1, by rw [HNX.out.1]; exact HFIN.out.2.1, HOLD.out.put _ _ _ _, HFIN.out.2.2⟩
          case measure => simp [intOf]; omega
        · have hA' : A < 0 := by omega
          go_wp2_with fail
          go_roundw
          case rel =>
            have hn := HNX.out
            simp only [if_neg hA] at hn
            exact ⟨i + 1, cr, by omega, by go_num, by rw [hn.2], HBLK.out, by rw [hn.1]; exact HRW.out, fun j t hj ht => HOLD.out j t (by omega) ht, HBR.out⟩
          case measure => simp [intOf]; omega
      · have hle : i = k.length := by omega
        subst hle
        have hLk : rowAt q v s k (a - 1) k.length = (spoilL q v s k (a - 1)).1 := by simp [rowAt]
        rw [List.take_length] at hbd ⊢
        have hlen := spoilL_len q v s k (a - 1)
        have HRW2 : Hid (RowIn W0 R wr cr (spoilL q v s k (a - 1)).1) := by unfold Hid; rw [← hLk]; exact HRW.out
        have HLEN := hidIn hlen
        clear hLk HRW hlen
        generalize spoilL q v s k (a - 1) = r at *
        obtain ⟨L, A⟩ := r
        simp only at hbd HRW2 HLEN HR ⊢
        have hP := HPW.out.below HBR.out HPW.out.lt
        have hZ := HZW.out.below HBR.out HZW.out.lt
        have c0 := hP.cell 0
        have c1 := hP.cell 1
        have c2' := hP.cell 2
        have c3 := hP.cell 3
        have e0 := hP.frozen 0
        have e1 := hP.frozen 1
        have e2 := hP.frozen 2
        have e3 := hP.frozen 3
        obtain ⟨⟨z0, z1, z2, z3⟩, f0, f1, f2, f3⟩ := blk_zero hZ
        have hsz : w.heap.size + 1 ≠ w.heap.size := by omega
        have HZ := hidIn hZ
        clear hP hZ
        go_wp2_with fail
        refine bodyPost_ret (results_cell_slot rfl _ _ (w.heap.size + 1) 29 #[.int .i64 kind, .string s0, .int .i64 n, .slice ro k.length c2] (0, 0) _ rfl ?blk Try.underlying29 rfl infoT) rfl ?post
        case blk => change Blk _ _ _ _; (with_reducible refine blk_set4' ?_ _ _ _ _); (repeat first | with_reducible exact HZ.out | with_reducible refine blk_other ?_ hsz _ _)
        case post =>
          rw [HR.out]
          have hb3 : Below w.heap.size w wr := HB.out.trans (HBR.out.mono HB.out.size)
          refine ⟨ro, c2, ?_, ?_, ?_⟩
          · show _ = Ending.returned (.tuple #[.agg #[.int .i64 kind, .string s0, .int .i64 n, .slice ro L.length c2], .int .i64 A])
            rw [HLEN.out]
            rfl
          · intro X hX
            have hcap := HROW.out.cap
            refine ⟨ro, c2, rfl, by show L.length ≤ c2; rw [HLEN.out]; exact hcap.1, hcap.2, ?_⟩
            have hbase := HROW.out.base
            have hws := HWS.out
            have hold : ∀ b o c, (b < W0.heap.size ∨ R ≤ b) → wr.cell? ⟨b, o, none⟩ = some c → X.cell? ⟨b, o, none⟩ = some c := by
              intro b o c hb hc
              have hW0 := HB0.out.size
              refine hX b o c (by omega) ?_
              rw [World.cell?_setCell_other _ _ _ _ (by intro e; injection e with e; omega), World.cell?_setCell_other _ _ _ _ (by intro e; injection e with e; omega), World.cell?_setCell_other _ _ _ _ (by intro e; injection e with e; omega), World.cell?_setCell_other _ _ _ _ (by intro e; injection e with e; omega), World.cell?_setCell_other _ _ _ _ (by intro e; injection e with e; omega)]
              exact hc
            refine KAt_mk (fun j t hj => ?_)
            have hj' : L[j]? = some t := hj
            have hne : k ≠ [] := by
              intro e
              have h1 := (List.getElem?_eq_some_iff.1 hj').1
              rw [HLEN.out, e] at h1
              simp at h1
            obtain ⟨hro, _, _⟩ := HROW.out.at_ hne
            obtain ⟨hbk, _⟩ := HBLK.out hne
            obtain ⟨ka, kc, ⟨d0, d1, d2, d3⟩, hsp⟩ := HRW2.out j t hj'
            refine ⟨R, 0, hro, ?_⟩
            rw [Nat.zero_add, Nat.zero_add]
            exact TAt_mk (hsp X (fun b o c hb hc => hold b o c (by omega) hc)) (Nat.zero_le _) (hold _ _ _ (.inr (Nat.le_refl _)) ((hbk.cell _).trans d0)) (hold _ _ _ (.inr (Nat.le_refl _)) ((hbk.cell _).trans d1)) (hold _ _ _ (.inr (Nat.le_refl _)) ((hbk.cell _).trans d2)) (hold _ _ _ (.inr (Nat.le_refl _)) ((hbk.cell _).trans d3))
          · (repeat first | with_reducible exact hb3 | with_reducible refine below_set ?_ (by omega) _ _)

end Go.Proofs.Ytmhckbcddmdchaa
namespace Go.Proofs.Ytmhckbcddmdchaa
open Go.RowKit
set_option linter.unusedVariables false

def SpoiltPost (W0 w : World) (t : T) (q : Nat) (v : Int) (s : ByteArray) (e : Ending) (w' : World) : Prop :=
  ∃ a ka kc, e = .returned (.agg (four (spoilT q v s t a).1 ka kc)) ∧ Spread W0 w.heap.size w' (spoilT q v s t a).1 (.agg (four (spoilT q v s t a).1 ka kc)) ∧ Below w.heap.size w w'

set_option maxHeartbeats 2000000 in
set_option maxRecDepth 100000 in
theorem spoilt_any (t : T) (at' what v : Int) (s : ByteArray) (ha1 : -9223372036854775808 ≤ at') (ha2 : at' ≤ 9223372036854775807) (hw1 : -9223372036854775808 ≤ what) (hw2 : what ≤ 9223372036854775807) (hs : s.size ≤ maxLen) (hcnt : t.cnt ≤ 999990) (hn1 : 1 ≤ t.nodes) (hn2 : t.nodes ≤ 1000000) (W0 w : World) (x : Value) (hx : TIn W0 0 t x) (hb : Below W0.heap.size W0 w) :
    Calls Try.prog 30 #[x, .int .i64 at', .int .i64 what, .int .i64 v, .string s] w (SpoiltPost W0 w t (what % 5).toNat v s) := by
  have HB0 := hidIn hb
  clear hb
  have HX := hidIn hx
  obtain ⟨ao, cap, rfl, _, _, _⟩ := hx
  have HCNT := hidIn hcnt
  have HSS := hidIn hs
  clear hs hcnt
  go_enter Try.func30, Try.ntmps30
  go_wp2_with fail
  obtain ⟨W, hW⟩ : ∃ W, W = (w.alloc (.cells #[.int .i64 t.kind, .string t.s, .int .i64 t.n, .slice ao t.k.length cap] 29)).alloc (.cells #[.int .i64 0, .string ⟨#[]⟩, .int .i64 0, .slice none 0 0] 29) := ⟨_, rfl⟩
  have HB : Hid (Below w.heap.size w W) := by rw [hW]; exact below_alloc (below_alloc (Below.refl _ _) _) _
  have HP : Hid (Blk W w.heap.size 29 #[.int .i64 t.kind, .string t.s, .int .i64 t.n, .slice ao t.k.length cap]) := by rw [hW]; exact blk_keep (blk_new rfl) _
  have HZ : Hid (Blk W (w.heap.size + 1) 29 zeroT) := by rw [hW]; exact blk_new (by simp)
  have HWS : Hid (W.heap.size = w.heap.size + 2) := by unfold Hid; rw [hW]; simp
  have HXW := hidIn (HX.out.below (HB0.out.trans (HB.out.mono HB0.out.size)))
  rw [← hW]
  clear hW
  refine (refSize_any t W _ HXW.out hn2).mono ?_
  rintro e w2 ⟨rfl, hb2⟩
  have hP := HP.out.below hb2 HP.out.lt
  have hZ := HZ.out.below hb2 HZ.out.lt
  have c0 := hP.cell 0
  have c1 := hP.cell 1
  have c2 := hP.cell 2
  have c3 := hP.cell 3
  obtain ⟨⟨z0, z1, z2, z3⟩, f0, f1, f2, f3⟩ := blk_zero hZ
  have HB2 := hidIn hb2
  have hn1' : (1 : Int) ≤ (t.nodes : Int) := by omega
  have hn2' : (t.nodes : Int) ≤ 4611686018427387904 := by omega
  have hm0 := Int.emod_nonneg at' (show (t.nodes : Int) ≠ 0 by omega)
  have hm1 := Int.emod_lt_of_pos at' (show 0 < (t.nodes : Int) by omega)
  have hsz2 : w.heap.size + 2 ≤ w2.heap.size := by have := HWS.out; have := hb2.size; omega
  clear hb2 hP hZ
  go_wp2_with fail
  obtain ⟨Y, hY⟩ : ∃ Y, Y = w2.alloc (.cells #[.int .i64 0, .string ⟨#[]⟩, .int .i64 0, .slice none 0 0] 29) := ⟨_, rfl⟩
  have HBY : Hid (Below W.heap.size W Y) := by rw [hY]; exact below_alloc HB2.out _
  have hYZ : Blk Y w2.heap.size 29 zeroT := by rw [hY]; exact blk_new rfl
  have HYZ := hidIn hYZ
  have hYP := HP.out.below HBY.out HP.out.lt
  rw [← hY]
  clear hY c0 c1 c2 c3 z0 z1 z2 z3 f0 f1 f2 f3
  have hYc : ∀ k, k < 4 → ∀ X, X = Y ∨ X = Y.drew → X.cell? ⟨w.heap.size, k, none⟩ = (#[.int .i64 t.kind, .string t.s, .int .i64 t.n, .slice ao t.k.length cap] : Array Value)[k]? := by
    rintro k _ X (rfl | rfl)
    · exact hYP.cell k
    · exact hYP.cell k
  have c0 := hYP.cell 0
  have c1 := hYP.cell 1
  have c2 := hYP.cell 2
  have c3 := hYP.cell 3
  clear hYc hYP hYZ
  have HC : Hid (∀ X, Below Y.heap.size Y X → Calls Try.prog 49 #[.agg #[.int .i64 t.kind, .string t.s, .int .i64 t.n, .slice ao t.k.length cap], .int .i64 (at' % (t.nodes : Int)), .int .i64 what, .int .i64 v, .string s] X (fun e w5 => ∃ ka kc t' A, e = .returned (.tuple #[.agg #[.int .i64 t'.kind, .string t'.s, .int .i64 t'.n, .slice ka t'.k.length kc], .int .i64 A]) ∧ t' = (spoilT (what % 5).toNat v s t (at' % (t.nodes : Int))).1 ∧ Spread W0 Y.heap.size w5 t' (.agg (four t' ka kc)) ∧ Below Y.heap.size Y w5)) := by
    intro X hX
    have hwX : Below W0.heap.size W0 X := HB0.out.trans ((HB.out.trans ((HBY.out.trans (hX.mono HBY.out.size)).mono HB.out.size)).mono HB0.out.size)
    refine (spoil_any what v s hw1 hw2 HSS.out W0 t HCNT.out _ hm0 (by omega) X _ HX.out hwX).mono ?_
    rintro e w5 ⟨ka, kc, rfl, hsp, hb5⟩
    exact ⟨ka, kc, _, _, rfl, rfl, hsp.low hX.size, hX.trans (hb5.mono hX.size)⟩
  have hltY : w.heap.size + 1 < Y.heap.size := by have := HWS.out; have := HBY.out.size; omega
  have hlt2 : w2.heap.size < Y.heap.size := HYZ.out.lt
  have HZY : Hid (Blk Y (w.heap.size + 1) 29 zeroT) := HZ.out.below HBY.out HZ.out.lt
  clear HX HXW HCNT HSS
  have hne : w.heap.size + 1 ≠ w2.heap.size := by have := HWS.out; have := HB2.out.size; omega
  go_region_with (first | (go_at_call 27; refine calls_same (within_any _ _ _ hn1' hn2' ha1 ha2) ?_) | (go_at_call 49; refine (HC.out _ (by first | exact below_drew (Below.refl _ _) | exact Below.refl _ _)).mono ?_; rintro e w5 ⟨ka, kc, t', A, rfl, hteq, hsp, hb5⟩; have hZ5 := HYZ.out.below hb5 HYZ.out.lt; have hR5 := HZY.out.below hb5 HZY.out.lt; obtain ⟨⟨z0, z1, z2, z3⟩, f0, f1, f2, f3⟩ := blk_zero hZ5; obtain ⟨⟨y0, y1, y2, y3⟩, e0, e1, e2, e3⟩ := blk_zero hR5; have HR5 := hidIn hR5; have HSP := hidIn hsp; have HB5 := hidIn hb5; have HTE := hidIn hteq; clear hZ5 hR5 hsp hb5 hteq))
  all_goals
    go_wp2_with fail
    refine bodyPost_ret (results_cell_row rfl _ _ (w.heap.size + 1) 29 #[.int .i64 t'.kind, .string t'.s, .int .i64 t'.n, .slice ka t'.k.length kc] (0, 0) _ rfl ?blk Try.underlying29 rfl infoT) rfl ?post
    case blk => change Blk _ _ _ _; (with_reducible refine blk_set4' ?_ _ _ _ _); (repeat first | with_reducible exact HR5.out | with_reducible refine blk_other ?_ hne _ _)
    case post =>
      have hte := HTE.out
      refine ⟨at' % (t.nodes : Int), ka, kc, ?_, ?_, ?_⟩
      · rw [← hte]; rfl
      · rw [← hte]
        have hW0 := HB0.out.size
        intro X hX
        refine HSP.out X (fun b o c hb hc => hX b o c (by omega) ?_)
        rw [World.cell?_setCell_other _ _ _ _ (by intro e; injection e with e; omega), World.cell?_setCell_other _ _ _ _ (by intro e; injection e with e; omega), World.cell?_setCell_other _ _ _ _ (by intro e; injection e with e; omega), World.cell?_setCell_other _ _ _ _ (by intro e; injection e with e; omega), World.cell?_setCell_other _ _ _ _ (by intro e; injection e with e; omega), World.cell?_setCell_other _ _ _ _ (by intro e; injection e with e; omega), World.cell?_setCell_other _ _ _ _ (by intro e; injection e with e; omega), World.cell?_setCell_other _ _ _ _ (by intro e; injection e with e; omega)]
        exact hc
      · have hb3 : Below w.heap.size w w5 := HB.out.trans ((HBY.out.trans (HB5.out.mono HBY.out.size)).mono HB.out.size)
        (repeat first | with_reducible exact hb3 | with_reducible refine below_set ?_ (by omega) _ _)

end Go.Proofs.Ytmhckbcddmdchaa
namespace Go.Proofs.Ytmhckbcddmdchaa
open Go.RowKit
set_option linter.unusedVariables false

theorem sc_leaf (t : T) (h : t.kind = 0 ∨ t.kind = 1 ∨ t.kind = 2 ∨ 8 < t.kind) (hs : t.s.size ≤ 2147483648) : SC t := by
  cases t
  exact .leaf _ _ _ _ h hs
theorem sc_n {t : T} (h : SC t) (n : Int) (hn : -9223372036854775808 ≤ n ∧ n ≤ 9223372036854775807) : SC (.mk t.kind t.s n t.k) := by
  cases h with
  | leaf kind s n0 k h hs => exact .leaf _ _ _ _ h hs
  | give s n0 a ha => exact .give _ _ _ ha
  | and s n0 a b ha hb => exact .and _ _ _ _ ha hb
  | or s n0 a b hs ha hb => exact .or _ _ _ _ hs ha hb
  | scale s n0 o a ho ha => exact .scale _ _ _ _ ho ha
  | when s n0 a hn0 ha => exact .when _ _ _ hn ha
  | iff s n0 o a b ho ha hb => exact .iff _ _ _ _ _ ho ha hb
theorem sc_s {t : T} (h : SC t) (s : ByteArray) (hs : s.size ≤ 2147483648) : SC (.mk t.kind s t.n t.k) := by
  cases h with
  | leaf kind s0 n0 k h hs0 => exact .leaf _ _ _ _ h hs
  | give s0 n0 a ha => exact .give _ _ _ ha
  | and s0 n0 a b ha hb => exact .and _ _ _ _ ha hb
  | or s0 n0 a b hs0 ha hb => exact .or _ _ _ _ hs ha hb
  | scale s0 n0 o a ho ha => exact .scale _ _ _ _ ho ha
  | when s0 n0 a hn0 ha => exact .when _ _ _ hn0 ha
  | iff s0 n0 o a b ho ha hb => exact .iff _ _ _ _ _ ho ha hb
theorem head_sc (q : Nat) (v : Int) (s : ByteArray) (hv : -9223372036854775808 ≤ v ∧ v ≤ 9223372036854775807) {t : T} (h : SC t) : SC (spoilHead q v s t) := by
  have he : (⟨#[]⟩ : ByteArray).size ≤ 2147483648 := by decide
  unfold spoilHead
  split
  · exact .leaf _ _ _ _ (.inl rfl) he
  · split
    · exact sc_s h _ (by have := cutTo_size s 20; omega)
    · split
      · exact sc_n h v hv
      · split
        · split
          · exact .leaf _ _ _ _ (.inr (.inl rfl)) he
          · exact .leaf _ _ _ _ (.inr (.inr (.inr (by decide)))) he
        · exact h
theorem spoilL_one (q : Nat) (v : Int) (s : ByteArray) (x : T) (a : Int) : ∃ x', (spoilL q v s [x] a).1 = [x'] ∧ (x' = x ∨ ∃ a', x' = (spoilT q v s x a').1) := by
  simp only [spoilL]
  split
  · exact ⟨_, rfl, .inr ⟨_, rfl⟩⟩
  · exact ⟨_, rfl, .inl rfl⟩
theorem spoilL_cons (q : Nat) (v : Int) (s : ByteArray) (x : T) (l : List T) (a : Int) : ∃ x' a2, (spoilL q v s (x :: l) a).1 = x' :: (spoilL q v s l a2).1 ∧ (x' = x ∨ ∃ a', x' = (spoilT q v s x a').1) := by
  simp only [spoilL]
  split
  · exact ⟨_, _, rfl, .inr ⟨_, rfl⟩⟩
  · refine ⟨x, a, ?_, .inl rfl⟩
    cases l with
    | nil => simp [spoilL]
    | cons y l => rename_i h; simp [spoilL, h]
theorem spoil_sc (q : Nat) (v : Int) (s : ByteArray) (hv : -9223372036854775808 ≤ v ∧ v ≤ 9223372036854775807) {t : T} (h : SC t) : ∀ a, SC (spoilT q v s t a).1 := by
  induction h with
  | leaf kind s0 n k h hs =>
    intro a
    unfold spoilT
    split
    · exact head_sc q v s hv (.leaf _ _ _ _ h hs)
    · exact .leaf _ _ _ _ h hs
  | give s0 n x hx ih =>
    intro a
    unfold spoilT
    split
    · exact head_sc q v s hv (.give _ _ _ hx)
    · obtain ⟨x', e, h⟩ := spoilL_one q v s x (a - 1)
      simp only
      rw [e]
      refine .give _ _ _ ?_
      rcases h with rfl | ⟨a', rfl⟩
      · exact hx
      · exact ih a'
  | and s0 n x y hx hy ihx ihy =>
    intro a
    unfold spoilT
    split
    · exact head_sc q v s hv (.and _ _ _ _ hx hy)
    · obtain ⟨x', a2, e, h⟩ := spoilL_cons q v s x [y] (a - 1)
      obtain ⟨y', e', h'⟩ := spoilL_one q v s y a2
      simp only
      rw [e, e']
      refine .and _ _ _ _ ?_ ?_
      · rcases h with rfl | ⟨a', rfl⟩
        · exact hx
        · exact ihx a'
      · rcases h' with rfl | ⟨a', rfl⟩
        · exact hy
        · exact ihy a'
  | or s0 n x y hs hx hy ihx ihy =>
    intro a
    unfold spoilT
    split
    · exact head_sc q v s hv (.or _ _ _ _ hs hx hy)
    · obtain ⟨x', a2, e, h⟩ := spoilL_cons q v s x [y] (a - 1)
      obtain ⟨y', e', h'⟩ := spoilL_one q v s y a2
      simp only
      rw [e, e']
      refine .or _ _ _ _ hs ?_ ?_
      · rcases h with rfl | ⟨a', rfl⟩
        · exact hx
        · exact ihx a'
      · rcases h' with rfl | ⟨a', rfl⟩
        · exact hy
        · exact ihy a'
  | scale s0 n o y ho hy ihy =>
    intro a
    unfold spoilT
    split
    · exact head_sc q v s hv (.scale _ _ _ _ ho hy)
    · obtain ⟨x', a2, e, h⟩ := spoilL_cons q v s o [y] (a - 1)
      obtain ⟨y', e', h'⟩ := spoilL_one q v s y a2
      simp only
      rw [e, e']
      refine .scale _ _ _ _ ?_ ?_
      · rcases h with rfl | ⟨a', rfl⟩
        · exact ho
        · exact spoil_shaped q v s hv o ho a'
      · rcases h' with rfl | ⟨a', rfl⟩
        · exact hy
        · exact ihy a'
  | when s0 n x hn hx ih =>
    intro a
    unfold spoilT
    split
    · exact head_sc q v s hv (.when _ _ _ hn hx)
    · obtain ⟨x', e, h⟩ := spoilL_one q v s x (a - 1)
      simp only
      rw [e]
      refine .when _ _ _ hn ?_
      rcases h with rfl | ⟨a', rfl⟩
      · exact hx
      · exact ih a'
  | iff s0 n o x y ho hx hy ihx ihy =>
    intro a
    unfold spoilT
    split
    · exact head_sc q v s hv (.iff _ _ _ _ _ ho hx hy)
    · obtain ⟨o', a2, e, h⟩ := spoilL_cons q v s o [x, y] (a - 1)
      obtain ⟨x', a3, e2, h2⟩ := spoilL_cons q v s x [y] a2
      obtain ⟨y', e', h'⟩ := spoilL_one q v s y a3
      simp only
      rw [e, e2, e']
      refine .iff _ _ _ _ _ ?_ ?_ ?_
      · rcases h with rfl | ⟨a', rfl⟩
        · exact ho
        · exact spoil_shaped q v s hv o ho a'
      · rcases h2 with rfl | ⟨a', rfl⟩
        · exact hx
        · exact ihx a'
      · rcases h' with rfl | ⟨a', rfl⟩
        · exact hy
        · exact ihy a'

end Go.Proofs.Ytmhckbcddmdchaa
namespace Go.Proofs.Ytmhckbcddmdchaa
open Go.RowKit
set_option linter.unusedVariables false

def OddPostC (w : World) (e : Ending) (w' : World) : Prop := ∃ c : C, e = .returned c.val ∧ c.Ok ∧ c.weight ≤ 10 ∧ Below w.heap.size w w'
theorem strangeC_of (t : TypeId) (x : Value) (h0 : t ≠ 56) (h1 : t ≠ 58) (h2 : t ≠ 70) (h3 : t ≠ 74) (h4 : t ≠ 68) (h5 : t ≠ 62) (h6 : t ≠ 60) (h7 : t ≠ 66) : (C.odd (.iface t x)).Ok := .inr ⟨t, x, rfl, h0, h1, h2, h3, h4, h5, h6, h7⟩

set_option maxHeartbeats 2000000 in
set_option maxRecDepth 100000 in
theorem oddC_any (n : Int) (w : World) (h1 : -9223372036854775808 ≤ n) (h2 : n ≤ 9223372036854775807) : Calls Try.prog 31 #[.int .i64 n] w (OddPostC w) := by
  obtain ⟨q, hq⟩ : ∃ q : Nat, n % 9 = q := ⟨(n % 9).toNat, by omega⟩
  have hq9 : q = 0 ∨ q = 1 ∨ q = 2 ∨ q = 3 ∨ q = 4 ∨ q = 5 ∨ q = 6 ∨ q = 7 ∨ q = 8 := by omega
  have hmm := @run_makeMap Try.prog
  go_enter Try.func31, Try.ntmps31
  go_wp2_with fail
  refine calls_same (within_any _ 9 _ (by omega) (by omega) h1 h2) ?_
  rw [hq]
  clear h1 h2 hq
  rcases hq9 with rfl | rfl | rfl | rfl | rfl | rfl | rfl | rfl | rfl
  all_goals
    go_wp2_with fail
    go_ret
    first
      | exact ⟨.odd .nilIface, rfl, .inl rfl, by simp [C.weight], by repeat first | exact Below.refl _ _ | refine below_alloc ?_ _⟩
      | exact ⟨.odd (.iface _ _), rfl, strangeC_of _ _ (by decide) (by decide) (by decide) (by decide) (by decide) (by decide) (by decide) (by decide), by simp [C.weight], by repeat first | exact Below.refl _ _ | refine below_alloc ?_ _⟩
theorem termOf_weight (t : T) (h : SC t) : (termOf t).weight ≤ 2 * t.cnt := by
  induction h with
  | leaf kind s n k h hs =>
    unfold termOf T.cnt
    split
    · simp only [C.weight]; omega
    · split
      · simp only [C.weight]; omega
      · split <;> first | omega | (simp only [C.weight]; omega)
  | give s n a ha iha => show (C.give (termOf a)).weight ≤ _; simp only [C.weight, T.cnt, cntL] at *; omega
  | and s n a b ha hb iha ihb => show (C.and (termOf a) (termOf b)).weight ≤ _; simp only [C.weight, T.cnt, cntL] at *; omega
  | or s n a b hs ha hb iha ihb => show (C.or s (termOf a) (termOf b)).weight ≤ _; simp only [C.weight, T.cnt, cntL] at *; omega
  | scale s n o a ho ha iha => have := obsOf_nodes o; show (C.scale (obsOf o) (termOf a)).weight ≤ _; simp only [C.weight, T.cnt, cntL] at *; omega
  | when s n a hn ha iha => show (C.when n (termOf a)).weight ≤ _; simp only [C.weight, T.cnt, cntL] at *; omega
  | iff s n o a b ho ha hb iha ihb => have := obsOf_nodes o; show (C.iff (obsOf o) (termOf a) (termOf b)).weight ≤ _; simp only [C.weight, T.cnt, cntL] at *; omega

end Go.Proofs.Ytmhckbcddmdchaa
namespace Go.Proofs.Ytmhckbcddmdchaa
open Go.RowKit
set_option linter.unusedVariables false

def OddPost (w : World) (e : Ending) (w' : World) : Prop := ∃ o : O, e = .returned o.val ∧ o.Ok ∧ (o = .const 1 ∨ ∃ v, o = .odd v) ∧ Below w.heap.size w w'
theorem strange_of (t : TypeId) (x : Value) (h0 : t ≠ 82) (h1 : t ≠ 64) (h2 : t ≠ 79) (h3 : t ≠ 84) (h4 : t ≠ 85) (h5 : t ≠ 86) : (O.odd (.iface t x)).Ok := .inr ⟨t, x, rfl, h0, h1, h2, h3, h4, h5⟩

set_option maxHeartbeats 2000000 in
set_option maxRecDepth 100000 in
theorem odd_any (n : Int) (w : World) (h1 : -9223372036854775808 ≤ n) (h2 : n ≤ 9223372036854775807) : Calls Try.prog 31 #[.int .i64 n] w (OddPost w) := by
  obtain ⟨q, hq⟩ : ∃ q : Nat, n % 9 = q := ⟨(n % 9).toNat, by omega⟩
  have hq9 : q = 0 ∨ q = 1 ∨ q = 2 ∨ q = 3 ∨ q = 4 ∨ q = 5 ∨ q = 6 ∨ q = 7 ∨ q = 8 := by omega
  have hmm := @run_makeMap Try.prog
  go_enter Try.func31, Try.ntmps31
  go_wp2_with fail
  refine calls_same (within_any _ 9 _ (by omega) (by omega) h1 h2) ?_
  rw [hq]
  clear h1 h2 hq
  rcases hq9 with rfl | rfl | rfl | rfl | rfl | rfl | rfl | rfl | rfl
  all_goals
    go_wp2_with fail
    go_ret
    first
      | exact ⟨.odd .nilIface, rfl, .inl rfl, .inr ⟨_, rfl⟩, by repeat first | exact Below.refl _ _ | refine below_alloc ?_ _⟩
      | exact ⟨.const 1, rfl, by simp [O.Ok], .inl rfl, by repeat first | exact Below.refl _ _ | refine below_alloc ?_ _⟩
      | exact ⟨.odd (.iface _ _), rfl, strange_of _ _ (by decide) (by decide) (by decide) (by decide) (by decide) (by decide), .inr ⟨_, rfl⟩, by repeat first | exact Below.refl _ _ | refine below_alloc ?_ _⟩

end Go.Proofs.Ytmhckbcddmdchaa
namespace Go.Proofs.Ytmhckbcddmdchaa
open Go.RowKit
set_option linter.unusedVariables false

def SomePost (w : World) (e : Ending) (w' : World) : Prop :=
  ∃ (o : O) (ka : Option Addr) (kc : Nat), e = .returned (.tuple #[o.val, .agg #[.int .i64 (plain o).kind, .string (plain o).s, .int .i64 (plain o).n, .slice ka (plain o).k.length kc]]) ∧ o.Ok ∧ o.nodes ≤ 1000 ∧ TIn w' w.heap.size (plain o) (.agg (four (plain o) ka kc)) ∧ Below w.heap.size w w'
theorem tdiv_in (a b : Int) (hb : 2 ≤ b) (h1 : -9223372036854775808 ≤ a) (h2 : a ≤ 9223372036854775807) : -9223372036854775808 ≤ a.tdiv b ∧ a.tdiv b ≤ 9223372036854775807 := by
  by_cases h : 0 ≤ a
  · have h3 := Int.tdiv_nonneg h (by omega : 0 ≤ b)
    have h4 : a.tdiv b ≤ a := Int.tdiv_le_self b h
    omega
  · have h3 := Int.tdiv_nonneg (by omega : 0 ≤ -a) (by omega : 0 ≤ b)
    have h4 : (-a).tdiv b ≤ -a := Int.tdiv_le_self b (by omega)
    rw [Int.neg_tdiv] at h3 h4
    omega
/-- A slot, and a struct's cell, as results. -/
theorem results_slot_cell {P : Program} {fn : Func} {p q : Tmp} {ty : TypeId} (h : fn.results = #[.tmp q, .cell p ty]) (tmps : Array Value) (w : World) (g : Nat) (t : TypeId) (cs : Array Value) (fr : Nat × Nat) (d : TypeDesc)
    (hp : tmps.getD p undef = .pointer (some ⟨g, 0, none⟩)) (hg : w.heap[g]? = some (.cells cs t fr))
    (hu : P.underlying ty = some d) (hd : (match d with | .struct _ | .array _ _ => true | _ => false) = true) (hi : (P.info? ty).map (·.size) = some cs.size) :
    (results fn tmps).run P w = .ok (.tuple #[tmps.getD q undef, .agg cs]) w := by
  have hp' : tmps[p]?.getD undef = .pointer (some ⟨g, 0, none⟩) := by simpa using hp
  simp [results, h, hp', asAddr, run_loadVar_row w g t ty cs fr d hg hu hd hi]

set_option maxHeartbeats 4000000 in
set_option maxRecDepth 100000 in
theorem some4_any (p : Pl) (at' what v : Int) (s : ByteArray) (odd : Int) (w : World) (hp : PlanIn w p) (ha1 : -9223372036854775808 ≤ at') (ha2 : at' ≤ 9223372036854775807) (hw1 : -9223372036854775808 ≤ what) (hw2 : what ≤ 9223372036854775807) (hv1 : -9223372036854775808 ≤ v) (hv2 : v ≤ 9223372036854775807) (hs : s.size ≤ maxLen) (ho1 : -9223372036854775808 ≤ odd) (ho2 : odd ≤ 9223372036854775807) :
    Calls Try.prog 6 #[planV p, .int .i64 at', .int .i64 what, .int .i64 v, .string s, .int .i64 odd] w (SomePost w) := by
  unfold planV
  have HP := hidIn hp
  have HSS := hidIn hs
  clear hp hs
  go_enter Try.func6, Try.ntmps6
  go_wp2_with fail
  obtain ⟨W, hW⟩ : ∃ W, W = (w.alloc (.cells #[.slice p.na p.nl p.nc, .slice p.wa p.wl p.wc] 25)).alloc (.cells #[.int .i64 0, .string ⟨#[]⟩, .int .i64 0, .slice none 0 0] 29) := ⟨_, rfl⟩
  have HB : Hid (Below w.heap.size w W) := by rw [hW]; exact below_alloc (below_alloc (Below.refl _ _) _) _
  have HZ : Hid (Blk W (w.heap.size + 1) 29 zeroT) := by rw [hW]; exact blk_new (by simp)
  have HWS : Hid (W.heap.size = w.heap.size + 2) := by unfold Hid; rw [hW]; simp
  have HPW := hidIn (HP.out.below HB.out)
  rw [← hW]
  clear hW HP
  refine (number_any p W HPW.out).mono ?_
  rintro e w1 ⟨v1, rfl, ht1, hb1⟩
  have ht1' := ht1
  obtain ⟨ka, kc, rfl, _, _, _⟩ := ht1'
  have HSH := hidIn (shaped_plain _ (whole_ok _ (numP_whole p)))
  have HCN : Hid ((plain (numP p)).cnt ≤ 70) := by have h1 := plain_cnt (numP p); have h2 := numP_nodes p; show _ ≤ _; omega
  have HND : Hid (1 ≤ (plain (numP p)).nodes ∧ (plain (numP p)).nodes ≤ 31) := by
    rw [plain_nodes]
    have h2 := numP_nodes p
    refine ⟨?_, h2⟩
    have := numP_whole p
    cases h : numP p <;> simp [O.nodes]
    rw [h] at this
    exact this
  have HT1 := hidIn ht1
  have HB1 := hidIn hb1
  clear ht1 hb1
  generalize plain (numP p) = t at *
  by_cases hwt : what.tmod 4 = 0
  · have hwt' : (what.tmod 4 == 0) = true := by rw [hwt]; rfl
    have hdq : -9223372036854775808 ≤ what.tdiv 4 ∧ what.tdiv 4 ≤ 9223372036854775807 := tdiv_in what 4 (by omega) hw1 hw2
    have hwq : IntKind.i64.wrap (what.tdiv 4) = what.tdiv 4 := wrap_small _ hdq.1 hdq.2
    go_wp2_with fail
    obtain ⟨Y, hY⟩ : ∃ Y, Y = w1.alloc (.cells #[.int .i64 t.kind, .string t.s, .int .i64 t.n, .slice ka t.k.length kc] 29) := ⟨_, rfl⟩
    have HBY1 : Hid (Below w1.heap.size w1 Y) := by rw [hY]; exact below_alloc (Below.refl _ _) _
    have HYS : Hid (Y.heap.size = w1.heap.size + 1) := by unfold Hid; rw [hY]; simp
    have HY14 : Hid (Blk Y w1.heap.size 29 #[.int .i64 t.kind, .string t.s, .int .i64 t.n, .slice ka t.k.length kc]) := by rw [hY]; exact blk_new rfl
    rw [← hY]
    clear hY
    refine (spoilt_any t at' _ v s ha1 ha2 hdq.1 hdq.2 HSS.out (by have := HCN.out; omega) HND.out.1 (by have := HND.out.2; omega) w1 Y _ (HT1.out.low (Nat.zero_le _)) HBY1.out).mono ?_
    rintro e w2 ⟨a, kb, kd, rfl, hsp, hb2⟩
    have HSH2 := hidIn (spoil_shaped (what.tdiv 4 % 5).toNat v s ⟨hv1, hv2⟩ t HSH.out a)
    have HCN2 : Hid ((spoilT (what.tdiv 4 % 5).toNat v s t a).1.cnt ≤ 70) := Nat.le_trans (spoil_cnt _ v s t a) HCN.out
    generalize (spoilT (what.tdiv 4 % 5).toNat v s t a).1 = t2 at *
    have hk2 := HY14.out.below hb2 HY14.out.lt
    obtain ⟨c0, c1, c2, c3⟩ : w2.cell? ⟨w1.heap.size, 0, none⟩ = some (.int .i64 t.kind) ∧ w2.cell? ⟨w1.heap.size, 1, none⟩ = some (.string t.s) ∧ w2.cell? ⟨w1.heap.size, 2, none⟩ = some (.int .i64 t.n) ∧ w2.cell? ⟨w1.heap.size, 3, none⟩ = some (.slice ka t.k.length kc) := ⟨hk2.cell 0, hk2.cell 1, hk2.cell 2, hk2.cell 3⟩
    have f0 := hk2.frozen 0
    have f1 := hk2.frozen 1
    have f2 := hk2.frozen 2
    have f3 := hk2.frozen 3
    have HTX : Hid (TIn ((((w2.setCell ⟨w1.heap.size, 0, none⟩ (.int .i64 t2.kind)).setCell ⟨w1.heap.size, 1, none⟩ (.string t2.s)).setCell ⟨w1.heap.size, 2, none⟩ (.int .i64 t2.n)).setCell ⟨w1.heap.size, 3, none⟩ (.slice kb t2.k.length kd)) 0 t2 (.agg (four t2 kb kd))) := hsp _ (fun b o c hb hc => by have := HYS.out; rw [set4_cell' (by omega)]; exact hc)
    have HBX : Hid (Below W.heap.size W ((((w2.setCell ⟨w1.heap.size, 0, none⟩ (.int .i64 t2.kind)).setCell ⟨w1.heap.size, 1, none⟩ (.string t2.s)).setCell ⟨w1.heap.size, 2, none⟩ (.int .i64 t2.n)).setCell ⟨w1.heap.size, 3, none⟩ (.slice kb t2.k.length kd))) := by
      have h1 : Below W.heap.size W w2 := HB1.out.trans ((HBY1.out.trans (hb2.mono HBY1.out.size)).mono HB1.out.size)
      have hs := HB1.out.size
      exact (((h1.setCell hs _).setCell hs _).setCell hs _).setCell hs _
    clear hsp hb2 hk2
    unfold four
    go_wp2_with fail
    refine (obsT_any t2 HSH2.out _ _ HTX.out).mono ?_
    rintro e w3 ⟨rfl, hb3⟩
    have HB3 : Hid (Below W.heap.size W w3) := HBX.out.trans (hb3.mono HBX.out.size)
    have HO0 := hidIn (obsOf_ok t2 HSH2.out)
    have HN0 : Hid ((obsOf t2).nodes ≤ 70) := by have h1 := obsOf_nodes t2; have h2 := HCN2.out; show _ ≤ _; omega
    clear hb3
    generalize obsOf t2 = o0 at *
    by_cases hodd : odd.tmod 9 = 8
    · have hodd' : (odd.tmod 9 == 8) = true := by rw [hodd]; rfl
      have hdv : -9223372036854775808 ≤ odd.tdiv 9 ∧ odd.tdiv 9 ≤ 9223372036854775807 := tdiv_in odd 9 (by omega) ho1 ho2
      have hwr : IntKind.i64.wrap (odd.tdiv 9) = odd.tdiv 9 := wrap_small _ hdv.1 hdv.2
      have q0 := o0.one' HO0.out
      have cv0 := q0.cells
      have mv0 := q0.cells
      unfold Value.cells at mv0
      go_wp2_with fail
      refine (odd_any _ w3 hdv.1 hdv.2).mono ?_
      rintro e w5 ⟨o5, rfl, hok5, h51, hb5⟩
      obtain ⟨o, ho⟩ : ∃ o, o = O.add o0 o5 := ⟨_, rfl⟩
      have HOK : Hid o.Ok := by rw [ho]; exact ⟨HO0.out, hok5⟩
      have HON : Hid (o.nodes ≤ 1000) := by
        rw [ho]
        have h1 := HN0.out
        rcases h51 with rfl | ⟨v, rfl⟩
        · simp only [O.nodes]; show _ ≤ _; omega
        · simp only [O.nodes]; show _ ≤ _; omega
      have HOV : Hid (o.val = .iface 79 (.agg #[o0.val, o5.val])) := by rw [ho]; rfl
      have HB3' : Hid (Below W.heap.size W w5) := HB3.out.trans (hb5.mono HB3.out.size)
      clear HB3
      have HB3 := HB3'
      have q5 := o5.one' hok5
      have cv5 := q5.cells
      have mv5 := q5.cells
      unfold Value.cells at mv5
      clear hb5 hok5 h51 ho q5 q0
      go_wp2_with fail
      rw [← HOV.out]
      refine (plainO_any o HOK.out _).mono ?_
      rintro e w4 ⟨la, lc, rfl, ht4, hb4⟩
      have HT4 := hidIn ht4
      have hb4' : Below W.heap.size W w4 := HB3.out.trans (hb4.mono HB3.out.size)
      have hZ4 := HZ.out.below hb4' HZ.out.lt
      obtain ⟨⟨z0, z1, z2, z3⟩, f0, f1, f2, f3⟩ := blk_zero hZ4
      have HZ4 := hidIn hZ4
      have HB4 := hidIn hb4'
      have HS3 := hidIn HB3.out.size
      clear ht4 hb4 hb4' hZ4
      go_wp2_with fail
      refine bodyPost_ret (results_slot_cell rfl _ _ (w.heap.size + 1) 29 (four (plain o) la lc) (0, 0) _ rfl ?blk Try.underlying29 rfl infoT) rfl ?post
      case blk => change Blk _ _ _ _; unfold four; (with_reducible exact blk_set4' HZ4.out _ _ _ _)
      case post =>
        have hWS := HWS.out
        have hs3 := HS3.out
        have hbw : Below w.heap.size w w4 := HB.out.trans (HB4.out.mono HB.out.size)
        refine ⟨o, la, lc, rfl, HOK.out, HON.out, ?_, ?_⟩
        · refine HT4.out.kept (by omega) (fun k x c hk hc => ?_)
          rw [set4_cell' (by omega)]
          exact hc
        · (repeat first | with_reducible exact hbw | with_reducible refine below_set ?_ (by omega) _ _)
    · have hodd' : (odd.tmod 9 == 8) = false := by rw [beq_eq_false_iff_ne]; exact hodd
      obtain ⟨o, ho⟩ : ∃ o, o = o0 := ⟨_, rfl⟩
      subst ho
      have HOK := HO0
      have HON : Hid (o.nodes ≤ 1000) := by have h1 := HN0.out; show _ ≤ _; omega
      go_wp2_with fail
      refine (plainO_any o HOK.out _).mono ?_
      rintro e w4 ⟨la, lc, rfl, ht4, hb4⟩
      have HT4 := hidIn ht4
      have hb4' : Below W.heap.size W w4 := HB3.out.trans (hb4.mono HB3.out.size)
      have hZ4 := HZ.out.below hb4' HZ.out.lt
      obtain ⟨⟨z0, z1, z2, z3⟩, f0, f1, f2, f3⟩ := blk_zero hZ4
      have HZ4 := hidIn hZ4
      have HB4 := hidIn hb4'
      have HS3 := hidIn HB3.out.size
      clear ht4 hb4 hb4' hZ4
      go_wp2_with fail
      refine bodyPost_ret (results_slot_cell rfl _ _ (w.heap.size + 1) 29 (four (plain o) la lc) (0, 0) _ rfl ?blk Try.underlying29 rfl infoT) rfl ?post
      case blk => change Blk _ _ _ _; unfold four; (with_reducible exact blk_set4' HZ4.out _ _ _ _)
      case post =>
        have hWS := HWS.out
        have hs3 := HS3.out
        have hbw : Below w.heap.size w w4 := HB.out.trans (HB4.out.mono HB.out.size)
        refine ⟨o, la, lc, rfl, HOK.out, HON.out, ?_, ?_⟩
        · refine HT4.out.kept (by omega) (fun k x c hk hc => ?_)
          rw [set4_cell' (by omega)]
          exact hc
        · (repeat first | with_reducible exact hbw | with_reducible refine below_set ?_ (by omega) _ _)
  · have hwt' : (what.tmod 4 == 0) = false := by rw [beq_eq_false_iff_ne]; exact hwt
    go_wp2_with fail
    have HSH2 := HSH
    have HCN2 := HCN
    have HTX : Hid (TIn (w1.alloc (.cells #[.int .i64 t.kind, .string t.s, .int .i64 t.n, .slice ka t.k.length kc] 29)) 0 t (.agg (four t ka kc))) := (HT1.out.below (below_alloc (Below.refl _ _) _)).low (Nat.zero_le _)
    have HBX : Hid (Below W.heap.size W (w1.alloc (.cells #[.int .i64 t.kind, .string t.s, .int .i64 t.n, .slice ka t.k.length kc] 29))) := below_alloc HB1.out _
    refine (obsT_any t HSH2.out _ _ HTX.out).mono ?_
    rintro e w3 ⟨rfl, hb3⟩
    have HB3 : Hid (Below W.heap.size W w3) := HBX.out.trans (hb3.mono HBX.out.size)
    have HO0 := hidIn (obsOf_ok t HSH2.out)
    have HN0 : Hid ((obsOf t).nodes ≤ 70) := by have h1 := obsOf_nodes t; have h2 := HCN2.out; show _ ≤ _; omega
    clear hb3
    generalize obsOf t = o0 at *
    by_cases hodd : odd.tmod 9 = 8
    · have hodd' : (odd.tmod 9 == 8) = true := by rw [hodd]; rfl
      have hdv : -9223372036854775808 ≤ odd.tdiv 9 ∧ odd.tdiv 9 ≤ 9223372036854775807 := tdiv_in odd 9 (by omega) ho1 ho2
      have hwr : IntKind.i64.wrap (odd.tdiv 9) = odd.tdiv 9 := wrap_small _ hdv.1 hdv.2
      have q0 := o0.one' HO0.out
      have cv0 := q0.cells
      have mv0 := q0.cells
      unfold Value.cells at mv0
      go_wp2_with fail
      refine (odd_any _ w3 hdv.1 hdv.2).mono ?_
      rintro e w5 ⟨o5, rfl, hok5, h51, hb5⟩
      obtain ⟨o, ho⟩ : ∃ o, o = O.add o0 o5 := ⟨_, rfl⟩
      have HOK : Hid o.Ok := by rw [ho]; exact ⟨HO0.out, hok5⟩
      have HON : Hid (o.nodes ≤ 1000) := by
        rw [ho]
        have h1 := HN0.out
        rcases h51 with rfl | ⟨v, rfl⟩
        · simp only [O.nodes]; show _ ≤ _; omega
        · simp only [O.nodes]; show _ ≤ _; omega
      have HOV : Hid (o.val = .iface 79 (.agg #[o0.val, o5.val])) := by rw [ho]; rfl
      have HB3' : Hid (Below W.heap.size W w5) := HB3.out.trans (hb5.mono HB3.out.size)
      clear HB3
      have HB3 := HB3'
      have q5 := o5.one' hok5
      have cv5 := q5.cells
      have mv5 := q5.cells
      unfold Value.cells at mv5
      clear hb5 hok5 h51 ho q5 q0
      go_wp2_with fail
      rw [← HOV.out]
      refine (plainO_any o HOK.out _).mono ?_
      rintro e w4 ⟨la, lc, rfl, ht4, hb4⟩
      have HT4 := hidIn ht4
      have hb4' : Below W.heap.size W w4 := HB3.out.trans (hb4.mono HB3.out.size)
      have hZ4 := HZ.out.below hb4' HZ.out.lt
      obtain ⟨⟨z0, z1, z2, z3⟩, f0, f1, f2, f3⟩ := blk_zero hZ4
      have HZ4 := hidIn hZ4
      have HB4 := hidIn hb4'
      have HS3 := hidIn HB3.out.size
      clear ht4 hb4 hb4' hZ4
      go_wp2_with fail
      refine bodyPost_ret (results_slot_cell rfl _ _ (w.heap.size + 1) 29 (four (plain o) la lc) (0, 0) _ rfl ?blk Try.underlying29 rfl infoT) rfl ?post
      case blk => change Blk _ _ _ _; unfold four; (with_reducible exact blk_set4' HZ4.out _ _ _ _)
      case post =>
        have hWS := HWS.out
        have hs3 := HS3.out
        have hbw : Below w.heap.size w w4 := HB.out.trans (HB4.out.mono HB.out.size)
        refine ⟨o, la, lc, rfl, HOK.out, HON.out, ?_, ?_⟩
        · refine HT4.out.kept (by omega) (fun k x c hk hc => ?_)
          rw [set4_cell' (by omega)]
          exact hc
        · (repeat first | with_reducible exact hbw | with_reducible refine below_set ?_ (by omega) _ _)
    · have hodd' : (odd.tmod 9 == 8) = false := by rw [beq_eq_false_iff_ne]; exact hodd
      obtain ⟨o, ho⟩ : ∃ o, o = o0 := ⟨_, rfl⟩
      subst ho
      have HOK := HO0
      have HON : Hid (o.nodes ≤ 1000) := by have h1 := HN0.out; show _ ≤ _; omega
      go_wp2_with fail
      refine (plainO_any o HOK.out _).mono ?_
      rintro e w4 ⟨la, lc, rfl, ht4, hb4⟩
      have HT4 := hidIn ht4
      have hb4' : Below W.heap.size W w4 := HB3.out.trans (hb4.mono HB3.out.size)
      have hZ4 := HZ.out.below hb4' HZ.out.lt
      obtain ⟨⟨z0, z1, z2, z3⟩, f0, f1, f2, f3⟩ := blk_zero hZ4
      have HZ4 := hidIn hZ4
      have HB4 := hidIn hb4'
      have HS3 := hidIn HB3.out.size
      clear ht4 hb4 hb4' hZ4
      go_wp2_with fail
      refine bodyPost_ret (results_slot_cell rfl _ _ (w.heap.size + 1) 29 (four (plain o) la lc) (0, 0) _ rfl ?blk Try.underlying29 rfl infoT) rfl ?post
      case blk => change Blk _ _ _ _; unfold four; (with_reducible exact blk_set4' HZ4.out _ _ _ _)
      case post =>
        have hWS := HWS.out
        have hs3 := HS3.out
        have hbw : Below w.heap.size w w4 := HB.out.trans (HB4.out.mono HB.out.size)
        refine ⟨o, la, lc, rfl, HOK.out, HON.out, ?_, ?_⟩
        · refine HT4.out.kept (by omega) (fun k x c hk hc => ?_)
          rw [set4_cell' (by omega)]
          exact hc
        · (repeat first | with_reducible exact hbw | with_reducible refine below_set ?_ (by omega) _ _)

end Go.Proofs.Ytmhckbcddmdchaa
