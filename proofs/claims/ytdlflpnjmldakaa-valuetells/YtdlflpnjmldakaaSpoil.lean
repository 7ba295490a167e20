/- A tree that is spoilt at a place, as the statements make it. -/
import Derived.Test.YtdlflpnjmldakaaSpoil0
import Derived.Test.YtdlflpnjmldakaaPlainO2
namespace Go.Proofs.Ytdlflpnjmldakaa
open Go.RowKit
set_option linter.unusedVariables false

theorem infoTT : (Try.prog.info? 52).map (fun i => (i.zero, i.size, i.bytes)) = some (some (.agg zeroT), 4, 56) := by kernel_rfl
/-- A tree stands wherever the old blocks and the new ones are as they were. -/
def Spread (W0 : World) (B : Nat) (w : World) (t : T) (v : Value) : Prop := ∀ X : World, (∀ b o c, (b < W0.heap.size ∨ B ≤ b) → w.cell? ⟨b, o, none⟩ = some c → X.cell? ⟨b, o, none⟩ = some c) → TIn X 0 t v
theorem Spread.here {W0 w : World} {B : Nat} {t : T} {v : Value} (h : Spread W0 B w t v) : TIn w 0 t v := h w (fun _ _ _ _ h => h)
theorem spread_old {W0 w : World} {B : Nat} {t : T} {v : Value} (h : TIn W0 0 t v) (hb : Below W0.heap.size W0 w) : Spread W0 B w t v :=
  fun X hX => h.kept (Nat.le_refl _) (fun b o c _ hc => hX b o c (.inl (World.block_lt_of_cell? W0 _ hc)) ((hb.cell (p := ⟨b, o, none⟩) (World.block_lt_of_cell? W0 _ hc)).trans hc))
theorem spread_leaf {W0 w : World} {B : Nat} (kind : Int) (s : ByteArray) (n : Int) : Spread W0 B w (.mk kind s n []) (.agg #[.int .i64 kind, .string s, .int .i64 n, .slice none 0 0]) := fun X _ => tin_leaf X 0 kind s n
def SpoilPost (W0 w : World) (r : T × Int) (e : Ending) (w' : World) : Prop :=
  ∃ ka kc, e = .returned (.tuple #[.agg (four r.1 ka kc), .int .i64 r.2]) ∧ Spread W0 w.heap.size w' r.1 (.agg (four r.1 ka kc)) ∧ Below w.heap.size w w'
theorem tin_parts {X : World} {t : T} {a : Option Addr} {cap : Nat} (h : TIn X 0 t (.agg #[.int .i64 t.kind, .string t.s, .int .i64 t.n, .slice a t.k.length cap])) (kind : Int) (s : ByteArray) (n : Int) : TIn X 0 (.mk kind s n t.k) (.agg #[.int .i64 kind, .string s, .int .i64 n, .slice a t.k.length cap]) := by
  obtain ⟨a', cap', e, h4, h5, h6⟩ := h
  simp at e
  obtain ⟨rfl, rfl⟩ := e
  exact ⟨a, cap, rfl, h4, h5, h6⟩

set_option maxHeartbeats 2000000 in
set_option maxRecDepth 100000 in
theorem spoil_head (W0 : World) (t : T) (what v : Int) (s : ByteArray) (hw1 : -9223372036854775808 ≤ what) (hw2 : what ≤ 9223372036854775807) (hs : s.size ≤ maxLen) (w : World) (x : Value) (hx : TIn W0 0 t x) (hb : Below W0.heap.size W0 w) :
    Calls Try.prog 55 #[x, .int .i64 0, .int .i64 what, .int .i64 v, .string s] w (SpoilPost W0 w (spoilHead (what % 5).toNat v s t, -1)) := by
  obtain ⟨q, hq⟩ : ∃ q : Nat, what % 5 = q := ⟨(what % 5).toNat, by omega⟩
  have hq5 : q = 0 ∨ q = 1 ∨ q = 2 ∨ q = 3 ∨ q = 4 := by omega
  have HX := hidIn hx
  obtain ⟨a, cap, rfl, _, _, _⟩ := hx
  have HB0 := hidIn hb
  have HQ : Hid ((what % 5).toNat = q) := by show _ = _; omega
  have hsz : w.heap.size + 1 ≠ w.heap.size := by omega
  clear hb
  go_enter Try.func55, Try.ntmps55
  go_wp2_with fail
  obtain ⟨W, hW⟩ : ∃ W, W = (w.alloc (.cells #[.int .i64 t.kind, .string t.s, .int .i64 t.n, .slice a t.k.length cap] 52)).alloc (.cells #[.int .i64 0, .string ⟨#[]⟩, .int .i64 0, .slice none 0 0] 52) := ⟨_, rfl⟩
  have HB : Hid (Below w.heap.size w W) := by rw [hW]; exact below_alloc (below_alloc (Below.refl _ _) _) _
  have hP : Blk W w.heap.size 52 #[.int .i64 t.kind, .string t.s, .int .i64 t.n, .slice a t.k.length cap] := by rw [hW]; exact blk_keep (blk_new rfl) _
  have hZ : Blk W (w.heap.size + 1) 52 zeroT := by rw [hW]; exact blk_new (by simp)
  have HSX : Hid (∀ (B : Nat) (X : World), Below w.heap.size w X → Spread W0 B X t (.agg #[.int .i64 t.kind, .string t.s, .int .i64 t.n, .slice a t.k.length cap])) := fun B X hX => spread_old HX.out (HB0.out.trans (hX.mono HB0.out.size))
  rw [← hW]
  clear hW
  have c0 := hP.cell 0
  have c1 := hP.cell 1
  have c2 := hP.cell 2
  have c3 := hP.cell 3
  have e0 := hP.frozen 0
  have e1 := hP.frozen 1
  have e2 := hP.frozen 2
  have e3 := hP.frozen 3
  obtain ⟨⟨z0, z1, z2, z3⟩, f0, f1, f2, f3⟩ := blk_zero hZ
  have HP := hidIn hP
  have HZ := hidIn hZ
  have HSS := hidIn hs
  clear hP hZ hs HX
  refine calls_same (within_any _ 5 _ (by omega) (by omega) hw1 hw2) ?_
  rw [hq]
  clear hq hw1 hw2
  rcases hq5 with rfl | rfl | rfl | rfl | rfl
  · go_wp2_with fail
    refine bodyPost_ret (results_cell_slot rfl _ _ (w.heap.size + 1) 52 #[.int .i64 0, .string ⟨#[]⟩, .int .i64 0, .slice none 0 0] (0, 0) _ rfl ?blk Try.underlying52 rfl infoT) rfl ?post
    case blk => change Blk _ _ _ _; (with_reducible refine blk_set4' ?_ _ _ _ _); (repeat first | with_reducible exact HZ.out | with_reducible refine blk_other ?_ hsz _ _)
    case post =>
      rw [HQ.out]
      change SpoilPost W0 w (T.mk 0 ⟨#[]⟩ 0 [], -1) _ _
      refine ⟨_, _, rfl, spread_leaf _ _ _, ?_⟩
      all_goals (repeat first | with_reducible exact HB.out | with_reducible refine below_set ?_ (by omega) _ _)
  · go_wp2_with fail
    refine calls_same (text_any _ 20 _ HSS.out (by omega)) ?_
    go_wp2_with fail
    refine bodyPost_ret (results_cell_slot rfl _ _ (w.heap.size + 1) 52 #[.int .i64 t.kind, .string (cutTo s 20), .int .i64 t.n, .slice a t.k.length cap] (0, 0) _ rfl ?blk Try.underlying52 rfl infoT) rfl ?post
    case blk => change Blk _ _ _ _; (with_reducible refine blk_set4' ?_ _ _ _ _); (repeat first | with_reducible exact HZ.out | with_reducible refine blk_other ?_ hsz _ _)
    case post =>
      rw [HQ.out]
      change SpoilPost W0 w (T.mk t.kind (cutTo s 20) t.n t.k, -1) _ _
      refine ⟨_, _, rfl, (fun X hX => tin_parts (HSX.out _ _ ?_ X hX) _ _ _), ?_⟩
      all_goals (repeat first | with_reducible exact HB.out | with_reducible refine below_set ?_ (by omega) _ _)
  · go_wp2_with fail
    refine bodyPost_ret (results_cell_slot rfl _ _ (w.heap.size + 1) 52 #[.int .i64 t.kind, .string t.s, .int .i64 v, .slice a t.k.length cap] (0, 0) _ rfl ?blk Try.underlying52 rfl infoT) rfl ?post
    case blk => change Blk _ _ _ _; (with_reducible refine blk_set4' ?_ _ _ _ _); (repeat first | with_reducible exact HZ.out | with_reducible refine blk_other ?_ hsz _ _)
    case post =>
      rw [HQ.out]
      change SpoilPost W0 w (T.mk t.kind t.s v t.k, -1) _ _
      refine ⟨_, _, rfl, (fun X hX => tin_parts (HSX.out _ _ ?_ X hX) _ _ _), ?_⟩
      all_goals (repeat first | with_reducible exact HB.out | with_reducible refine below_set ?_ (by omega) _ _)
  · by_cases h11 : 11 ≤ t.kind
    · go_wp2_with fail
      refine bodyPost_ret (results_cell_slot rfl _ _ (w.heap.size + 1) 52 #[.int .i64 1, .string ⟨#[]⟩, .int .i64 0, .slice none 0 0] (0, 0) _ rfl ?blk Try.underlying52 rfl infoT) rfl ?post
      case blk => change Blk _ _ _ _; (with_reducible refine blk_set4' ?_ _ _ _ _); (repeat first | with_reducible exact HZ.out | with_reducible refine blk_other ?_ hsz _ _)
      case post =>
        rw [HQ.out, show spoilHead 3 v s t = T.mk 1 ⟨#[]⟩ 0 [] from if_pos h11]
        refine ⟨_, _, rfl, spread_leaf _ _ _, ?_⟩
        all_goals (repeat first | with_reducible exact HB.out | with_reducible refine below_set ?_ (by omega) _ _)
    · go_wp2_with fail
      refine bodyPost_ret (results_cell_slot rfl _ _ (w.heap.size + 1) 52 #[.int .i64 11, .string ⟨#[]⟩, .int .i64 1, .slice none 0 0] (0, 0) _ rfl ?blk Try.underlying52 rfl infoT) rfl ?post
      case blk => change Blk _ _ _ _; (with_reducible refine blk_set4' ?_ _ _ _ _); (repeat first | with_reducible exact HZ.out | with_reducible refine blk_other ?_ hsz _ _)
      case post =>
        rw [HQ.out, show spoilHead 3 v s t = T.mk 11 ⟨#[]⟩ 1 [] from if_neg (Int.not_le.2 h11)]
        refine ⟨_, _, rfl, spread_leaf _ _ _, ?_⟩
        all_goals (repeat first | with_reducible exact HB.out | with_reducible refine below_set ?_ (by omega) _ _)
  · go_wp2_with fail
    refine bodyPost_ret (results_cell_slot rfl _ _ (w.heap.size + 1) 52 #[.int .i64 t.kind, .string t.s, .int .i64 t.n, .slice a t.k.length cap] (0, 0) _ rfl ?blk Try.underlying52 rfl infoT) rfl ?post
    case blk => change Blk _ _ _ _; (with_reducible refine blk_set4' ?_ _ _ _ _); (repeat first | with_reducible exact HZ.out | with_reducible refine blk_other ?_ hsz _ _)
    case post =>
      rw [HQ.out]
      change SpoilPost W0 w (t, -1) _ _
      refine ⟨_, _, rfl, (HSX.out _ _ ?_), ?_⟩
      all_goals (repeat first | with_reducible exact HB.out | with_reducible refine below_set ?_ (by omega) _ _)

/-- The cells of trees, one behind another. -/
def CellsAt (cur : Array Value) (j : Nat) (t : T) (ka : Option Addr) (kc : Nat) : Prop := cur[j * 4]? = some (.int .i64 t.kind) ∧ cur[j * 4 + 1]? = some (.string t.s) ∧ cur[j * 4 + 2]? = some (.int .i64 t.n) ∧ cur[j * 4 + 3]? = some (.slice ka t.k.length kc)
/-- A row of trees in block R: each stands wherever the old blocks and those behind R are as they were. -/
def RowIn (W0 : World) (R : Nat) (w : World) (cur : Array Value) (l : List T) : Prop := ∀ j t, l[j]? = some t → ∃ ka kc, CellsAt cur j t ka kc ∧ Spread W0 (R + 1) w t (.agg (four t ka kc))
theorem Spread.next {W0 w w' : World} {B : Nat} {t : T} {v : Value} (h : Spread W0 B w t v) (hc : ∀ b o c, (b < W0.heap.size ∨ B ≤ b) → w.cell? ⟨b, o, none⟩ = some c → w'.cell? ⟨b, o, none⟩ = some c) : Spread W0 B w' t v :=
  fun X hX => h X (fun b o c hb hw => hX b o c hb (hc b o c hb hw))
theorem Spread.low {W0 w : World} {B B' : Nat} {t : T} {v : Value} (h : Spread W0 B w t v) (hB : B' ≤ B) : Spread W0 B' w t v :=
  fun X hX => h X (fun b o c hb hw => hX b o c (by omega) hw)
theorem RowIn.next {W0 w w' : World} {R : Nat} {cur : Array Value} {l : List T} (h : RowIn W0 R w cur l) (hc : ∀ b o c, b ≠ R → w.cell? ⟨b, o, none⟩ = some c → w'.cell? ⟨b, o, none⟩ = some c) (hR : W0.heap.size ≤ R) : RowIn W0 R w' cur l := by
  intro j t hj
  obtain ⟨ka, kc, h1, h2⟩ := h j t hj
  exact ⟨ka, kc, h1, h2.next (fun b o c hb hw => hc b o c (by omega) hw)⟩
def put4 (cur : Array Value) (i : Nat) (a b c d : Value) : Array Value := (((cur.setIfInBounds (i * 4) a).setIfInBounds (i * 4 + 1) b).setIfInBounds (i * 4 + 2) c).setIfInBounds (i * 4 + 3) d
theorem put4_same (cur : Array Value) (i : Nat) (a b c d : Value) (h : i * 4 + 3 < cur.size) : (put4 cur i a b c d)[i * 4]? = some a ∧ (put4 cur i a b c d)[i * 4 + 1]? = some b ∧ (put4 cur i a b c d)[i * 4 + 2]? = some c ∧ (put4 cur i a b c d)[i * 4 + 3]? = some d := by
  unfold put4
  refine ⟨?_, ?_, ?_, ?_⟩ <;> simp [Array.getElem?_setIfInBounds] <;> omega
theorem put4_other (cur : Array Value) (i j : Nat) (a b c d : Value) (h : j ≠ i) (x : Nat) (hx : x < 4) : (put4 cur i a b c d)[j * 4 + x]? = cur[j * 4 + x]? := by
  unfold put4
  rw [Array.getElem?_setIfInBounds_ne (by omega), Array.getElem?_setIfInBounds_ne (by omega), Array.getElem?_setIfInBounds_ne (by omega), Array.getElem?_setIfInBounds_ne (by omega)]
theorem RowIn.put {W0 w : World} {R : Nat} {cur : Array Value} {l : List T} {i : Nat} {x t : T} {ka : Option Addr} {kc : Nat} (h : RowIn W0 R w cur l) (hi : l[i]? = some x) (hc : i * 4 + 3 < cur.size) (ht : Spread W0 (R + 1) w t (.agg (four t ka kc))) : RowIn W0 R w (put4 cur i (.int .i64 t.kind) (.string t.s) (.int .i64 t.n) (.slice ka t.k.length kc)) (l.set i t) := by
  intro j u hj
  by_cases hji : j = i
  · subst hji
    have hl := (List.getElem?_eq_some_iff.1 hi).1
    rw [List.getElem?_set_self hl] at hj
    injection hj with hj
    subst hj
    exact ⟨ka, kc, put4_same cur j _ _ _ _ hc, ht⟩
  · rw [List.getElem?_set_ne (fun e => hji e.symm)] at hj
    obtain ⟨kb, kd, h1, h2⟩ := h j u hj
    refine ⟨kb, kd, ?_, h2⟩
    obtain ⟨c0, c1, c2, c3⟩ := h1
    exact ⟨(put4_other cur i j _ _ _ _ hji 0 (by omega)).trans c0, (put4_other cur i j _ _ _ _ hji 1 (by omega)).trans c1, (put4_other cur i j _ _ _ _ hji 2 (by omega)).trans c2, (put4_other cur i j _ _ _ _ hji 3 (by omega)).trans c3⟩
/-- The cells of parts that lie in memory. -/
def rowCells (l : List T) (f : Nat → Option Addr × Nat) : Nat → List Value
  | i => match l with
    | [] => []
    | t :: r => .int .i64 t.kind :: .string t.s :: .int .i64 t.n :: .slice (f i).1 t.k.length (f i).2 :: rowCells r f (i + 1)
theorem rowCells_len (f : Nat → Option Addr × Nat) (l : List T) : ∀ i, (rowCells l f i).length = l.length * 4 := by
  induction l with
  | nil => intro i; simp [rowCells]
  | cons t l ih => intro i; simp only [rowCells, List.length_cons, ih]; omega
theorem rowCells_get (f : Nat → Option Addr × Nat) (l : List T) : ∀ i j t, l[j]? = some t → (rowCells l f i)[j * 4]? = some (.int .i64 t.kind) ∧ (rowCells l f i)[j * 4 + 1]? = some (.string t.s) ∧ (rowCells l f i)[j * 4 + 2]? = some (.int .i64 t.n) ∧ (rowCells l f i)[j * 4 + 3]? = some (.slice (f (i + j)).1 t.k.length (f (i + j)).2) := by
  induction l with
  | nil => intro i j t h; simp at h
  | cons u l ih =>
    intro i j t h
    cases j with
    | zero => simp at h; subst h; simp [rowCells]
    | succ j =>
      simp at h
      have := ih (i + 1) j t h
      simp only [rowCells]
      rw [show (j + 1) * 4 = j * 4 + 1 + 1 + 1 + 1 by omega, show i + (j + 1) = i + 1 + j by omega]
      simpa using this
theorem rowCells_one (f : Nat → Option Addr × Nat) (l : List T) : ∀ i, ∀ u ∈ rowCells l f i, u.oneCell' = true := by
  induction l with
  | nil => intro i u hu; simp [rowCells] at hu
  | cons t l ih =>
    intro i u hu
    simp only [rowCells, List.mem_cons] at hu
    rcases hu with rfl | rfl | rfl | rfl | hu
    · rfl
    · rfl
    · rfl
    · rfl
    · exact ih (i + 1) u hu
theorem kat_row {w : World} {l : List T} {b o : Nat} (h : KAt w 0 l (some ⟨b, o, none⟩) 0) : ∃ f : Nat → Option Addr × Nat, (∀ j t, l[j]? = some t → TIn w 0 t (.agg (four t (f j).1 (f j).2))) ∧ ∀ (j : Nat) (u : Value), (rowCells l f 0)[j]? = some u → w.cell? ((⟨b, o, none⟩ : Addr).add j) = some u := by
  have hx : ∀ j, ∃ p : Option Addr × Nat, ∀ t, l[j]? = some t → w.cell? ⟨b, o + j * 4, none⟩ = some (.int .i64 t.kind) ∧ w.cell? ⟨b, o + j * 4 + 1, none⟩ = some (.string t.s) ∧ w.cell? ⟨b, o + j * 4 + 2, none⟩ = some (.int .i64 t.n) ∧ w.cell? ⟨b, o + j * 4 + 3, none⟩ = some (.slice p.1 t.k.length p.2) ∧ TIn w 0 t (.agg (four t p.1 p.2)) := by
    intro j
    cases hj : l[j]? with
    | none => exact ⟨(none, 0), fun t ht => by cases ht⟩
    | some t =>
      obtain ⟨b', o', ka, kc, e, c0, c1, c2, c3, ht⟩ := h.cells hj
      injection e with e
      injection e with e1 e2
      subst e1 e2
      exact ⟨(ka, kc), fun t' ht' => by injection ht' with ht'; subst ht'; exact ⟨c0, c1, c2, c3, ht⟩⟩
  refine ⟨fun j => Classical.choose (hx j), fun j t hj => ((Classical.choose_spec (hx j)) t hj).2.2.2.2, ?_⟩
  intro j u hu
  have hlen := (List.getElem?_eq_some_iff.1 hu).1
  rw [rowCells_len] at hlen
  obtain ⟨q, r, hr, rfl⟩ : ∃ q r, r < 4 ∧ j = q * 4 + r := ⟨j / 4, j % 4, Nat.mod_lt _ (by omega), by omega⟩
  obtain ⟨t, ht⟩ : ∃ t, l[q]? = some t := ⟨_, List.getElem?_eq_getElem (by omega)⟩
  have hg := rowCells_get (fun j => Classical.choose (hx j)) l 0 q t ht
  have hs := (Classical.choose_spec (hx q)) t ht
  rw [Nat.zero_add] at hg
  rw [Go.WideShapes.add_plain, ← Nat.add_assoc]
  have h4 : r = 0 ∨ r = 1 ∨ r = 2 ∨ r = 3 := by omega
  rcases h4 with rfl | rfl | rfl | rfl
  · rw [Nat.add_zero] at hu ⊢; rw [hg.1] at hu; injection hu with hu; subst hu; exact hs.1
  · rw [hg.2.1] at hu; injection hu with hu; subst hu; exact hs.2.1
  · rw [hg.2.2.1] at hu; injection hu with hu; subst hu; exact hs.2.2.1
  · rw [hg.2.2.2] at hu; injection hu with hu; subst hu; exact hs.2.2.2.1

end Go.Proofs.Ytdlflpnjmldakaa
