/- A tree that is spoilt at a place, as the statements make it. -/
import Derived.Test.YtngjlkdpplmpaaaCg2
import Derived.Test.YtngjlkdpplmpaaaPlainO2
import Derived.Test.YtngjlkdpplmpaaaNumber
import Derived.Test.YtngjlkdpplmpaaaOddV
import Derived.Test.YtngjlkdpplmpaaaWhole
import Derived.Test.YtngjlkdpplmpaaaMakerC0
import Derived.Test.YtngjlkdpplmpaaaCg1
import Derived.Test.YtngjlkdpplmpaaaRefO
import Derived.Test.YtngjlkdpplmpaaaTermW
namespace Go.Proofs.Ytngjlkdpplmpaaa
open Go.RowKit
set_option linter.unusedVariables false

theorem infoTT : (Try.prog.info? 72).map (fun i => (i.zero, i.size, i.bytes)) = some (some (.agg zeroT), 4, 56) := by kernel_rfl
/-- A tree stands wherever the old blocks and the new ones are as they were. -/
def Spread (W0 : World) (B : Nat) (w : World) (t : T) (v : Value) : Prop := ∀ X : World, (∀ b o c, (b < W0.heap.size ∨ B ≤ b) → w.cell? ⟨b, o, none⟩ = some c → X.cell? ⟨b, o, none⟩ = some c) → TIn X 0 t v
theorem Spread.here {W0 w : World} {B : Nat} {t : T} {v : Value} (h : Spread W0 B w t v) : TIn w 0 t v := h w (fun _ _ _ _ h => h)
theorem spread_old {W0 w : World} {B : Nat} {t : T} {v : Value} (h : TIn W0 0 t v) (hb : Below W0.heap.size W0 w) : Spread W0 B w t v :=
  fun X hX => h.kept (Nat.le_refl _) (fun b o c _ hc => hX b o c (.inl (World.block_lt_of_cell? W0 _ hc)) ((hb.cell (p := ⟨b, o, none⟩) (World.block_lt_of_cell? W0 _ hc)).trans hc))
theorem spread_leaf {W0 w : World} {B : Nat} (kind : Int) (s : ByteArray) (n : Int) : Spread W0 B w (.mk kind s n []) (.agg #[.int .i64 kind, .string s, .int .i64 n, .slice none 0 0]) := fun X _ => tin_leaf X 0 kind s n
def SpoilPost (W0 w : World) (r : T × Int) (e : Ending) (w' : World) : Prop :=
  ∃ ka kc, e = .returned (.tuple #[.agg (four r.1 ka kc), .int .i64 r.2]) ∧ Spread W0 w.heap.size w' r.1 (.agg (four r.1 ka kc)) ∧ Below w.heap.size w w'
theorem tin_parts {X : World} {t : T} {a : Option Addr} {cap : Nat} (h : TIn X 0 t (.agg #[.int .i64 t.kind, .string t.s, .int .i64 t.n, .slice a t.k.length cap])) (kind : Int) (s : ByteArray) (n : Int) : TIn X 0 (.mk kind s n t.k) (.agg #[.int .i64 kind, .string s, .int .i64 n, .slice a t.k.length cap]) := by
  obtain ⟨a', cap', e, h4, h5, h6⟩ := h
  simp at e
  obtain ⟨rfl, rfl⟩ := e
  exact ⟨a, cap, rfl, h4, h5, h6⟩

set_option maxHeartbeats 2000000 in
set_option maxRecDepth 100000 in
theorem spoil_head (W0 : World) (t : T) (what v : Int) (s : ByteArray) (hw1 : -9223372036854775808 ≤ what) (hw2 : what ≤ 9223372036854775807) (hs : s.size ≤ maxLen) (w : World) (x : Value) (hx : TIn W0 0 t x) (hb : Below W0.heap.size W0 w) :
    Calls Try.prog 55 #[x, .int .i64 0, .int .i64 what, .int .i64 v, .string s] w (SpoilPost W0 w (spoilHead (what % 5).toNat v s t, -1)) := by
  obtain ⟨q, hq⟩ : ∃ q : Nat, what % 5 = q := ⟨(what % 5).toNat, by omega⟩
  have hq5 : q = 0 ∨ q = 1 ∨ q = 2 ∨ q = 3 ∨ q = 4 := by omega
  have HX := hidIn hx
  obtain ⟨a, cap, rfl, _, _, _⟩ := hx
  have HB0 := hidIn hb
  have HQ : Hid ((what % 5).toNat = q) := by show _ = _; omega
  have hsz : w.heap.size + 1 ≠ w.heap.size := by omega
  clear hb
  go_enter Try.func55, Try.ntmps55
  go_wp2_with fail
  obtain ⟨W, hW⟩ : ∃ W, W = (w.alloc (.cells #[.int .i64 t.kind, .string t.s, .int .i64 t.n, .slice a t.k.length cap] 72)).alloc (.cells #[.int .i64 0, .string ⟨#[]⟩, .int .i64 0, .slice none 0 0] 72) := ⟨_, rfl⟩
  have HB : Hid (Below w.heap.size w W) := by rw [hW]; exact below_alloc (below_alloc (Below.refl _ _) _) _
  have hP : Blk W w.heap.size 72 #[.int .i64 t.kind, .string t.s, .int .i64 t.n, .slice a t.k.length cap] := by rw [hW]; exact blk_keep (blk_new rfl) _
  have hZ : Blk W (w.heap.size + 1) 72 zeroT := by rw [hW]; exact blk_new (by simp)
  have HSX : Hid (∀ (B : Nat) (X : World), Below w.heap.size w X → Spread W0 B X t (.agg #[.int .i64 t.kind, .string t.s, .int .i64 t.n, .slice a t.k.length cap])) := fun B X hX => spread_old HX.out (HB0.out.trans (hX.mono HB0.out.size))
  rw [← hW]
  clear hW
  have c0 := hP.cell 0
  have c1 := hP.cell 1
  have c2 := hP.cell 2
  have c3 := hP.cell 3
  have e0 := hP.frozen 0
  have e1 := hP.frozen 1
  have e2 := hP.frozen 2
  have e3 := hP.frozen 3
  obtain ⟨⟨z0, z1, z2, z3⟩, f0, f1, f2, f3⟩ := blk_zero hZ
  have HP := hidIn hP
  have HZ := hidIn hZ
  have HSS := hidIn hs
  clear hP hZ hs HX
  refine calls_same (within_any _ 5 _ (by omega) (by omega) hw1 hw2) ?_
  rw [hq]
  clear hq hw1 hw2
  rcases hq5 with rfl | rfl | rfl | rfl | rfl
  · go_wp2_with fail
    refine bodyPost_ret (results_cell_slot rfl _ _ (w.heap.size + 1) 72 #[.int .i64 0, .string ⟨#[]⟩, .int .i64 0, .slice none 0 0] (0, 0) _ rfl ?blk Try.underlying72 rfl infoT) rfl ?post
    case blk => change Blk _ _ _ _; (with_reducible refine blk_set4' ?_ _ _ _ _); (repeat first | with_reducible exact HZ.out | with_reducible refine blk_other ?_ hsz _ _)
    case post =>
      rw [HQ.out]
      change SpoilPost W0 w (T.mk 0 ⟨#[]⟩ 0 [], -1) _ _
      refine ⟨_, _, rfl, spread_leaf _ _ _, ?_⟩
      all_goals (repeat first | with_reducible exact HB.out | with_reducible refine below_set ?_ (by omega) _ _)
  · go_wp2_with fail
    refine calls_same (text_any _ 20 _ HSS.out (by omega)) ?_
    go_wp2_with fail
    refine bodyPost_ret (results_cell_slot rfl _ _ (w.heap.size + 1) 72 #[.int .i64 t.kind, .string (cutTo s 20), .int .i64 t.n, .slice a t.k.length cap] (0, 0) _ rfl ?blk Try.underlying72 rfl infoT) rfl ?post
    case blk => change Blk _ _ _ _; (with_reducible refine blk_set4' ?_ _ _ _ _); (repeat first | with_reducible exact HZ.out | with_reducible refine blk_other ?_ hsz _ _)
    case post =>
      rw [HQ.out]
      change SpoilPost W0 w (T.mk t.kind (cutTo s 20) t.n t.k, -1) _ _
      refine ⟨_, _, rfl, (fun X hX => tin_parts (HSX.out _ _ ?_ X hX) _ _ _), ?_⟩
      all_goals (repeat first | with_reducible exact HB.out | with_reducible refine below_set ?_ (by omega) _ _)
  · go_wp2_with fail
    refine bodyPost_ret (results_cell_slot rfl _ _ (w.heap.size + 1) 72 #[.int .i64 t.kind, .string t.s, .int .i64 v, .slice a t.k.length cap] (0, 0) _ rfl ?blk Try.underlying72 rfl infoT) rfl ?post
    case blk => change Blk _ _ _ _; (with_reducible refine blk_set4' ?_ _ _ _ _); (repeat first | with_reducible exact HZ.out | with_reducible refine blk_other ?_ hsz _ _)
    case post =>
      rw [HQ.out]
      change SpoilPost W0 w (T.mk t.kind t.s v t.k, -1) _ _
      refine ⟨_, _, rfl, (fun X hX => tin_parts (HSX.out _ _ ?_ X hX) _ _ _), ?_⟩
      all_goals (repeat first | with_reducible exact HB.out | with_reducible refine below_set ?_ (by omega) _ _)
  · by_cases h11 : 11 ≤ t.kind
    · go_wp2_with fail
      refine bodyPost_ret (results_cell_slot rfl _ _ (w.heap.size + 1) 72 #[.int .i64 1, .string ⟨#[]⟩, .int .i64 0, .slice none 0 0] (0, 0) _ rfl ?blk Try.underlying72 rfl infoT) rfl ?post
      case blk => change Blk _ _ _ _; (with_reducible refine blk_set4' ?_ _ _ _ _); (repeat first | with_reducible exact HZ.out | with_reducible refine blk_other ?_ hsz _ _)
      case post =>
        rw [HQ.out, show spoilHead 3 v s t = T.mk 1 ⟨#[]⟩ 0 [] from if_pos h11]
        refine ⟨_, _, rfl, spread_leaf _ _ _, ?_⟩
        all_goals (repeat first | with_reducible exact HB.out | with_reducible refine below_set ?_ (by omega) _ _)
    · go_wp2_with fail
      refine bodyPost_ret (results_cell_slot rfl _ _ (w.heap.size + 1) 72 #[.int .i64 11, .string ⟨#[]⟩, .int .i64 1, .slice none 0 0] (0, 0) _ rfl ?blk Try.underlying72 rfl infoT) rfl ?post
      case blk => change Blk _ _ _ _; (with_reducible refine blk_set4' ?_ _ _ _ _); (repeat first | with_reducible exact HZ.out | with_reducible refine blk_other ?_ hsz _ _)
      case post =>
        rw [HQ.out, show spoilHead 3 v s t = T.mk 11 ⟨#[]⟩ 1 [] from if_neg (Int.not_le.2 h11)]
        refine ⟨_, _, rfl, spread_leaf _ _ _, ?_⟩
        all_goals (repeat first | with_reducible exact HB.out | with_reducible refine below_set ?_ (by omega) _ _)
  · go_wp2_with fail
    refine bodyPost_ret (results_cell_slot rfl _ _ (w.heap.size + 1) 72 #[.int .i64 t.kind, .string t.s, .int .i64 t.n, .slice a t.k.length cap] (0, 0) _ rfl ?blk Try.underlying72 rfl infoT) rfl ?post
    case blk => change Blk _ _ _ _; (with_reducible refine blk_set4' ?_ _ _ _ _); (repeat first | with_reducible exact HZ.out | with_reducible refine blk_other ?_ hsz _ _)
    case post =>
      rw [HQ.out]
      change SpoilPost W0 w (t, -1) _ _
      refine ⟨_, _, rfl, (HSX.out _ _ ?_), ?_⟩
      all_goals (repeat first | with_reducible exact HB.out | with_reducible refine below_set ?_ (by omega) _ _)

/-- The cells of trees, one behind another. -/
def CellsAt (cur : Array Value) (j : Nat) (t : T) (ka : Option Addr) (kc : Nat) : Prop := cur[j * 4]? = some (.int .i64 t.kind) ∧ cur[j * 4 + 1]? = some (.string t.s) ∧ cur[j * 4 + 2]? = some (.int .i64 t.n) ∧ cur[j * 4 + 3]? = some (.slice ka t.k.length kc)
/-- A row of trees in block R: each stands wherever the old blocks and those behind R are as they were. -/
def RowIn (W0 : World) (R : Nat) (w : World) (cur : Array Value) (l : List T) : Prop := ∀ j t, l[j]? = some t → ∃ ka kc, CellsAt cur j t ka kc ∧ Spread W0 (R + 1) w t (.agg (four t ka kc))
theorem Spread.next {W0 w w' : World} {B : Nat} {t : T} {v : Value} (h : Spread W0 B w t v) (hc : ∀ b o c, (b < W0.heap.size ∨ B ≤ b) → w.cell? ⟨b, o, none⟩ = some c → w'.cell? ⟨b, o, none⟩ = some c) : Spread W0 B w' t v :=
  fun X hX => h X (fun b o c hb hw => hX b o c hb (hc b o c hb hw))
theorem Spread.low {W0 w : World} {B B' : Nat} {t : T} {v : Value} (h : Spread W0 B w t v) (hB : B' ≤ B) : Spread W0 B' w t v :=
  fun X hX => h X (fun b o c hb hw => hX b o c (by omega) hw)
theorem RowIn.next {W0 w w' : World} {R : Nat} {cur : Array Value} {l : List T} (h : RowIn W0 R w cur l) (hc : ∀ b o c, b ≠ R → w.cell? ⟨b, o, none⟩ = some c → w'.cell? ⟨b, o, none⟩ = some c) (hR : W0.heap.size ≤ R) : RowIn W0 R w' cur l := by
  intro j t hj
  obtain ⟨ka, kc, h1, h2⟩ := h j t hj
  exact ⟨ka, kc, h1, h2.next (fun b o c hb hw => hc b o c (by omega) hw)⟩
def put4 (cur : Array Value) (i : Nat) (a b c d : Value) : Array Value := (((cur.setIfInBounds (i * 4) a).setIfInBounds (i * 4 + 1) b).setIfInBounds (i * 4 + 2) c).setIfInBounds (i * 4 + 3) d
theorem put4_same (cur : Array Value) (i : Nat) (a b c d : Value) (h : i * 4 + 3 < cur.size) : (put4 cur i a b c d)[i * 4]? = some a ∧ (put4 cur i a b c d)[i * 4 + 1]? = some b ∧ (put4 cur i a b c d)[i * 4 + 2]? = some c ∧ (put4 cur i a b c d)[i * 4 + 3]? = some d := by
  unfold put4
  refine ⟨?_, ?_, ?_, ?_⟩ <;> simp [Array.getElem?_setIfInBounds] <;> omega
theorem put4_other (cur : Array Value) (i j : Nat) (a b c d : Value) (h : j ≠ i) (x : Nat) (hx : x < 4) : (put4 cur i a b c d)[j * 4 + x]? = cur[j * 4 + x]? := by
  unfold put4
  rw [Array.getElem?_setIfInBounds_ne (by omega), Array.getElem?_setIfInBounds_ne (by omega), Array.getElem?_setIfInBounds_ne (by omega), Array.getElem?_setIfInBounds_ne (by omega)]
theorem RowIn.put {W0 w : World} {R : Nat} {cur : Array Value} {l : List T} {i : Nat} {x t : T} {ka : Option Addr} {kc : Nat} (h : RowIn W0 R w cur l) (hi : l[i]? = some x) (hc : i * 4 + 3 < cur.size) (ht : Spread W0 (R + 1) w t (.agg (four t ka kc))) : RowIn W0 R w (put4 cur i (.int .i64 t.kind) (.string t.s) (.int .i64 t.n) (.slice ka t.k.length kc)) (l.set i t) := by
  intro j u hj
  by_cases hji : j = i
  · subst hji
    have hl := (List.getElem?_eq_some_iff.1 hi).1
    rw [List.getElem?_set_self hl] at hj
    injection hj with hj
    subst hj
    exact ⟨ka, kc, put4_same cur j _ _ _ _ hc, ht⟩
  · rw [List.getElem?_set_ne (fun e => hji e.symm)] at hj
    obtain ⟨kb, kd, h1, h2⟩ := h j u hj
    refine ⟨kb, kd, ?_, h2⟩
    obtain ⟨c0, c1, c2, c3⟩ := h1
    exact ⟨(put4_other cur i j _ _ _ _ hji 0 (by omega)).trans c0, (put4_other cur i j _ _ _ _ hji 1 (by omega)).trans c1, (put4_other cur i j _ _ _ _ hji 2 (by omega)).trans c2, (put4_other cur i j _ _ _ _ hji 3 (by omega)).trans c3⟩
/-- The cells of parts that lie in memory. -/
def rowCells (l : List T) (f : Nat → Option Addr × Nat) : Nat → List Value
  | i => match l with
    | [] => []
    | t :: r => .int .i64 t.kind :: .string t.s :: .int .i64 t.n :: .slice (f i).1 t.k.length (f i).2 :: rowCells r f (i + 1)
theorem rowCells_len (f : Nat → Option Addr × Nat) (l : List T) : ∀ i, (rowCells l f i).length = l.length * 4 := by
  induction l with
  | nil => intro i; simp [rowCells]
  | cons t l ih => intro i; simp only [rowCells, List.length_cons, ih]; omega
theorem rowCells_get (f : Nat → Option Addr × Nat) (l : List T) : ∀ i j t, l[j]? = some t → (rowCells l f i)[j * 4]? = some (.int .i64 t.kind) ∧ (rowCells l f i)[j * 4 + 1]? = some (.string t.s) ∧ (rowCells l f i)[j * 4 + 2]? = some (.int .i64 t.n) ∧ (rowCells l f i)[j * 4 + 3]? = some (.slice (f (i + j)).1 t.k.length (f (i + j)).2) := by
  induction l with
  | nil => intro i j t h; simp at h
  | cons u l ih =>
    intro i j t h
    cases j with
    | zero => simp at h; subst h; simp [rowCells]
    | succ j =>
      simp at h
      have := ih (i + 1) j t h
      simp only [rowCells]
      rw [show (j + 1) * 4 = j * 4 + 1 + 1 + 1 + 1 by omega, show i + (j + 1) = i + 1 + j by omega]
      simpa using this
theorem rowCells_one (f : Nat → Option Addr × Nat) (l : List T) : ∀ i, ∀ u ∈ rowCells l f i, u.oneCell' = true := by
  induction l with
  | nil => intro i u hu; simp [rowCells] at hu
  | cons t l ih =>
    intro i u hu
    simp only [rowCells, List.mem_cons] at hu
    rcases hu with rfl | rfl | rfl | rfl | hu
    · rfl
    · rfl
    · rfl
    · rfl
    · exact ih (i + 1) u hu
theorem kat_row {w : World} {l : List T} {b o : Nat} (h : KAt w 0 l (some ⟨b, o, none⟩) 0) : ∃ f : Nat → Option Addr × Nat, (∀ j t, l[j]? = some t → TIn w 0 t (.agg (four t (f j).1 (f j).2))) ∧ ∀ (j : Nat) (u : Value), (rowCells l f 0)[j]? = some u → w.cell? ((⟨b, o, none⟩ : Addr).add j) = some u := by
  have hx : ∀ j, ∃ p : Option Addr × Nat, ∀ t, l[j]? = some t → w.cell? ⟨b, o + j * 4, none⟩ = some (.int .i64 t.kind) ∧ w.cell? ⟨b, o + j * 4 + 1, none⟩ = some (.string t.s) ∧ w.cell? ⟨b, o + j * 4 + 2, none⟩ = some (.int .i64 t.n) ∧ w.cell? ⟨b, o + j * 4 + 3, none⟩ = some (.slice p.1 t.k.length p.2) ∧ TIn w 0 t (.agg (four t p.1 p.2)) := by
    intro j
    cases hj : l[j]? with
    | none => exact ⟨(none, 0), fun t ht => by cases ht⟩
    | some t =>
      obtain ⟨b', o', ka, kc, e, c0, c1, c2, c3, ht⟩ := h.cells hj
      injection e with e
      injection e with e1 e2
      subst e1 e2
      exact ⟨(ka, kc), fun t' ht' => by injection ht' with ht'; subst ht'; exact ⟨c0, c1, c2, c3, ht⟩⟩
  refine ⟨fun j => Classical.choose (hx j), fun j t hj => ((Classical.choose_spec (hx j)) t hj).2.2.2.2, ?_⟩
  intro j u hu
  have hlen := (List.getElem?_eq_some_iff.1 hu).1
  rw [rowCells_len] at hlen
  obtain ⟨q, r, hr, rfl⟩ : ∃ q r, r < 4 ∧ j = q * 4 + r := ⟨j / 4, j % 4, Nat.mod_lt _ (by omega), by omega⟩
  obtain ⟨t, ht⟩ : ∃ t, l[q]? = some t := ⟨_, List.getElem?_eq_getElem (by omega)⟩
  have hg := rowCells_get (fun j => Classical.choose (hx j)) l 0 q t ht
  have hs := (Classical.choose_spec (hx q)) t ht
  rw [Nat.zero_add] at hg
  rw [Go.WideShapes.add_plain, ← Nat.add_assoc]
  have h4 : r = 0 ∨ r = 1 ∨ r = 2 ∨ r = 3 := by omega
  rcases h4 with rfl | rfl | rfl | rfl
  · rw [Nat.add_zero] at hu ⊢; rw [hg.1] at hu; injection hu with hu; subst hu; exact hs.1
  · rw [hg.2.1] at hu; injection hu with hu; subst hu; exact hs.2.1
  · rw [hg.2.2.1] at hu; injection hu with hu; subst hu; exact hs.2.2.1
  · rw [hg.2.2.2] at hu; injection hu with hu; subst hu; exact hs.2.2.2.1

end Go.Proofs.Ytngjlkdpplmpaaa
namespace Go.Proofs.Ytngjlkdpplmpaaa
open Go.RowKit
set_option linter.unusedVariables false

theorem len_cnt (l : List T) : l.length ≤ cntL l := by
  induction l with
  | nil => simp
  | cons t l ih => have h1 : 1 ≤ t.cnt := by cases t; unfold T.cnt; omega
                   simp only [cntL, List.length_cons]; omega
theorem cell_set4 {W : World} {R i : Nat} {a b c d : Value} {k o : Nat} (h : k ≠ R) : ((((W.setCell ⟨R, i, none⟩ a).setCell ⟨R, i + 1, none⟩ b).setCell ⟨R, i + 2, none⟩ c).setCell ⟨R, i + 3, none⟩ d).cell? ⟨k, o, none⟩ = W.cell? ⟨k, o, none⟩ := by
  rw [World.cell?_setCell_other _ _ _ _ (by intro e; injection e with e; exact h e.symm), World.cell?_setCell_other _ _ _ _ (by intro e; injection e with e; exact h e.symm), World.cell?_setCell_other _ _ _ _ (by intro e; injection e with e; exact h e.symm), World.cell?_setCell_other _ _ _ _ (by intro e; injection e with e; exact h e.symm)]
theorem blk_put4 {W : World} {R ty : Nat} {cur : Array Value} (h : Blk W R ty cur) (i : Nat) (a b c d : Value) : Blk ((((W.setCell ⟨R, i * 4, none⟩ a).setCell ⟨R, i * 4 + 1, none⟩ b).setCell ⟨R, i * 4 + 2, none⟩ c).setCell ⟨R, i * 4 + 3, none⟩ d) R ty (put4 cur i a b c d) :=
  (((h.set _ a).set _ b).set _ c).set _ d
theorem put4_size (cur : Array Value) (i : Nat) (a b c d : Value) : (put4 cur i a b c d).size = cur.size := by simp [put4]
/-- What stands in the row behind so many rounds. -/
def rowAt (q : Nat) (v : Int) (s : ByteArray) (k : List T) (a : Int) (i : Nat) : List T := (spoilL q v s (k.take i) a).1 ++ k.drop i
theorem rowAt_get (q : Nat) (v : Int) (s : ByteArray) (k : List T) (a : Int) (i : Nat) (hi : i < k.length) : (rowAt q v s k a i)[i]? = k[i]? := by
  have hl := spoilL_len q v s (k.take i) a
  rw [List.length_take, Nat.min_eq_left (by omega)] at hl
  unfold rowAt
  rw [List.getElem?_append_right (by omega), hl, Nat.sub_self, List.getElem?_drop, Nat.add_zero]
theorem rowAt_len (q : Nat) (v : Int) (s : ByteArray) (k : List T) (a : Int) (i : Nat) : (rowAt q v s k a i).length = k.length := by
  have hl := spoilL_len q v s (k.take i) a
  unfold rowAt
  rw [List.length_append, hl, ← List.length_append, List.take_append_drop]
theorem rowAt_next (q : Nat) (v : Int) (s : ByteArray) (k : List T) (a : Int) (i : Nat) (t : T) (ht : k[i]? = some t) : rowAt q v s k a (i + 1) = (if 0 ≤ (spoilL q v s (k.take i) a).2 then (rowAt q v s k a i).set i (spoilT q v s t (spoilL q v s (k.take i) a).2).1 else rowAt q v s k a i) ∧ (spoilL q v s (k.take (i + 1)) a).2 = if 0 ≤ (spoilL q v s (k.take i) a).2 then (spoilT q v s t (spoilL q v s (k.take i) a).2).2 else (spoilL q v s (k.take i) a).2 := by
  have hi := (List.getElem?_eq_some_iff.1 ht).1
  have hl := spoilL_len q v s (k.take i) a
  rw [List.length_take, Nat.min_eq_left (by omega)] at hl
  have hd : k.drop i = t :: k.drop (i + 1) := by
    rw [List.drop_eq_getElem_cons hi]
    congr 1
    exact (List.getElem?_eq_some_iff.1 ht).2
  unfold rowAt
  rw [take_more _ _ _ ht, spoilL_snoc, hd]
  split
  · simp only [List.append_assoc, List.singleton_append]
    rw [List.set_append_right _ _ (by omega), hl, Nat.sub_self, List.set_cons_zero]
    simp
  · simp

/-- Parts that are as they were from a place on. -/
def OldIn (W0 : World) (cur : Array Value) (k : List T) (i : Nat) : Prop := ∀ j t, i ≤ j → k[j]? = some t → ∃ ka kc, CellsAt cur j t ka kc ∧ TIn W0 0 t (.agg (four t ka kc))
theorem OldIn.put {W0 : World} {cur : Array Value} {k : List T} {i : Nat} (h : OldIn W0 cur k i) (a b c d : Value) : OldIn W0 (put4 cur i a b c d) k (i + 1) := by
  intro j t hj ht
  obtain ⟨ka, kc, ⟨c0, c1, c2, c3⟩, h2⟩ := h j t (by omega) ht
  exact ⟨ka, kc, ⟨(put4_other cur i j _ _ _ _ (by omega) 0 (by omega)).trans c0, (put4_other cur i j _ _ _ _ (by omega) 1 (by omega)).trans c1, (put4_other cur i j _ _ _ _ (by omega) 2 (by omega)).trans c2, (put4_other cur i j _ _ _ _ (by omega) 3 (by omega)).trans c3⟩, h2⟩
/-- A copy of a tree's parts. -/
structure KidsRow (W0 w w' : World) (ro : Option Addr) (c2 R : Nat) (cur : Array Value) (k : List T) : Prop where
  cap : k.length ≤ c2 ∧ c2 ≤ 9223372036854775807
  at_ : k ≠ [] → ro = some ⟨R, 0, none⟩ ∧ Blk w' R 72 cur ∧ k.length * 4 ≤ cur.size
  base : w.heap.size ≤ R
  row : RowIn W0 R w' cur k
  old : OldIn W0 cur k 0
  below : Below w.heap.size w w'
theorem run_append_nil (w : World) (ty cap : Nat) : (Builtin.append_ #[70, 70] ty #[.slice none 0 0, .slice none 0 cap]).run Try.prog w = .ok (.slice none 0 0) w := by
  obtain ⟨i0, hi, hz0, hz1, hz2⟩ := info_parts infoTT
  simp [Builtin.append_, run_underlying Try.underlying70, sizeOf, typeInfo, hi, Builtin.lenOf, Builtin.firstCells]
theorem wpList_append_kids {ops : Array Oper} {rest : List Oper} {o : Oper} {a : Act} {Q : Exit → Act → World → Prop} (w : World) (hgd : o.guard = none) (s x : Operand)
    (ho : o.op = .call { callee := .builtin .append, args := #[s, x], argTypes := #[70, 70] })
    (hs : a.eval s = .slice none 0 0) (k : List T) (ao : Option Addr) (cap : Nat) (hx : a.eval x = .slice ao k.length cap) (W0 : World) (hK : KAt W0 0 k ao 0) (hb : Below W0.heap.size W0 w) (hkl : k.length ≤ 1000000)
    (h : ∀ ro c2 R cur w', KidsRow W0 w w' ro c2 R cur k → wpList Try.prog ops Q rest (a.put o.dst (.slice ro k.length c2)) w') : wpList Try.prog ops Q (o :: rest) a w := by
  obtain ⟨i0, hi, hz0, hz1, hz2⟩ := info_parts infoTT
  cases ao with
  | none =>
    have hk : k = [] := by
      cases k with
      | nil => rfl
      | cons t l => exfalso; unfold KAt at hK; obtain ⟨⟨b, o, e, _⟩, _⟩ := hK; cases e
    subst hk
    refine wpList_plain hgd fun K hKK => ?_
    have hrun := run_append_nil w o.type cap
    have hk2 := h none 0 w.heap.size #[] w ⟨⟨Nat.le_refl _, by simp⟩, fun hn => absurd rfl hn, Nat.le_refl _, fun j t hj => by simp at hj, fun j t _ hj => by simp at hj, Below.refl _ _⟩
    unfold Oper.wp
    simp at hx
    simp [execOp, ho, resolve, invoke, builtin, hs, hx, hrun, Result.andThen]
    exact hKK _ _ hk2
  | some ad =>
    obtain ⟨f, hT, hC⟩ : ∃ f : Nat → Option Addr × Nat, (∀ j t, k[j]? = some t → TIn W0 0 t (.agg (four t (f j).1 (f j).2))) ∧ ∀ (j : Nat) (u : Value), (rowCells k f 0)[j]? = some u → W0.cell? (ad.add j) = some u := by
      cases k with
      | nil => exact ⟨fun _ => (none, 0), fun j t hj => by simp at hj, fun j u hj => by simp [rowCells] at hj⟩
      | cons t l =>
        have hK2 := hK
        unfold KAt at hK2
        obtain ⟨⟨b, o, e, _⟩, _⟩ := hK2
        injection e with e
        subst e
        exact kat_row hK
    refine wpList_append_own_at w hgd s x 70 ho w.heap.size 72 i0 (.agg zeroT) 4 56 Try.underlying70 hi hz0 hz1 hz2 rfl (by decide) _ _ _ hs (World.ownsRow_nil _ _ _ _) ad k.length cap (rowCells k f 0) hx (rowCells_len f k 0) ?_ (rowCells_one f k 0) (by unfold maxLen; omega) (by omega) (Nat.le_refl _) ?_
    · intro j u hj
      have hc := hC j u hj
      exact (hb.cell (World.block_lt_of_cell? W0 _ hc)).trans hc
    · intro v' w' hown hgrow _ _
      have hbl : Below w.heap.size w w' := (Below.refl _ _).grown hgrow (Nat.le_refl _) (fun k hk => by simp [Value.ownBlock] at hk)
      simp only [Nat.zero_add, List.nil_append] at hown
      rcases hown.2 with ⟨rfl, h0⟩ | ⟨g, c2, cur, rfl, hg, hG, hn, hm, hz, ht⟩
      · have hk : k = [] := List.length_eq_zero_iff.1 h0
        subst hk
        exact h none 0 w.heap.size #[] w' ⟨⟨Nat.le_refl _, by simp⟩, fun hn => absurd rfl hn, Nat.le_refl _, fun j t hj => by simp at hj, fun j t _ hj => by simp at hj, hbl⟩
      · have hcells : ∀ j t, k[j]? = some t → CellsAt cur j t (f j).1 (f j).2 := by
          intro j t hj
          have hjl := (List.getElem?_eq_some_iff.1 hj).1
          have hgt := rowCells_get f k 0 j t hj
          have hcur : ∀ m, m < k.length * 4 → cur[m]? = (rowCells k f 0)[m]? := by
            intro m hm
            rw [← ht, List.getElem?_take, if_pos hm, Array.getElem?_toList]
          rw [Nat.zero_add] at hgt
          exact ⟨(hcur _ (by omega)).trans hgt.1, (hcur _ (by omega)).trans hgt.2.1, (hcur _ (by omega)).trans hgt.2.2.1, (hcur _ (by omega)).trans hgt.2.2.2⟩
        exact h _ c2 g cur w' ⟨⟨hn, by unfold maxLen at hm; omega⟩, fun _ => ⟨rfl, hG, by omega⟩, hg, fun j t hj => ⟨(f j).1, (f j).2, hcells j t hj, spread_old (hT j t hj) (hb.trans (hbl.mono hb.size))⟩, fun j t _ hj => ⟨(f j).1, (f j).2, hcells j t hj, hT j t hj⟩, hbl⟩

set_option maxHeartbeats 4000000 in
set_option maxRecDepth 100000 in
theorem spoil_any (what v : Int) (s : ByteArray) (hw1 : -9223372036854775808 ≤ what) (hw2 : what ≤ 9223372036854775807) (hs : s.size ≤ maxLen) (W0 : World) (t : T) : t.cnt ≤ 999990 → ∀ (a : Int), 0 ≤ a → a ≤ 4611686018427387904 → ∀ (w : World) (x : Value), TIn W0 0 t x → Below W0.heap.size W0 w →
    Calls Try.prog 55 #[x, .int .i64 a, .int .i64 what, .int .i64 v, .string s] w (SpoilPost W0 w (spoilT (what % 5).toNat v s t a)) := by
  induction t using T.ind with
  | _ kind s0 n k ih =>
  intro hcnt a ha0 ha1 w x hx hb
  by_cases h0 : a = 0
  · subst h0
    have h := spoil_head W0 (.mk kind s0 n k) what v s hw1 hw2 hs w x hx hb
    have he : spoilT (what % 5).toNat v s (.mk kind s0 n k) 0 = (spoilHead (what % 5).toNat v s (.mk kind s0 n k), -1) := by unfold spoilT; rw [if_pos rfl]
    rw [he]
    exact h
  · have HR : Hid (spoilT (what % 5).toNat v s (.mk kind s0 n k) a = (.mk kind s0 n (spoilL (what % 5).toNat v s k (a - 1)).1, (spoilL (what % 5).toNat v s k (a - 1)).2)) := by unfold Hid spoilT; rw [if_neg h0]
    have h0' : (a == 0) = false := by rw [beq_eq_false_iff_ne]; exact h0
    have hct : (T.mk kind s0 n k).cnt = cntL k + 1 := by rw [T.cnt]
    rw [hct] at hcnt
    have hkl : k.length ≤ 1000000 := by have := len_cnt k; omega
    have HIH : Hid (∀ t ∈ k, ∀ (a : Int), 0 ≤ a → a ≤ 4611686018427387904 → ∀ (w : World) (x : Value), TIn W0 0 t x → Below W0.heap.size W0 w → Calls Try.prog 55 #[x, .int .i64 a, .int .i64 what, .int .i64 v, .string s] w (SpoilPost W0 w (spoilT (what % 5).toNat v s t a))) := fun t ht => ih t ht (by have := cntL_mem k t ht; omega)
    clear ih hct hcnt
    obtain ⟨ao, cap, rfl, hc1, hc2, hK⟩ := hx
    simp only [T.kind, T.s, T.n, T.k] at hc1 hK ⊢
    have HK := hidIn hK
    have HB0 := hidIn hb
    clear hK hb
    generalize (what % 5).toNat = q at *
    go_enter Try.func55, Try.ntmps55
    go_wp2_with (first
      | (at_builtin; refine wpList_append_kids _ rfl _ _ rfl rfl k ao cap rfl W0 HK.out (HB0.out.trans (Below.mono (below_alloc (below_alloc (Below.refl _ _) _) _) HB0.out.size)) hkl ?_; intro ro c2 R cur w1 hrow)
      | go_in)
    obtain ⟨W, hW⟩ : ∃ W, W = (w.alloc (.cells #[.int .i64 kind, .string s0, .int .i64 n, .slice ao k.length cap] 72)).alloc (.cells #[.int .i64 0, .string ⟨#[]⟩, .int .i64 0, .slice none 0 0] 72) := ⟨_, rfl⟩
    rw [← hW] at hrow
    have HB : Hid (Below w.heap.size w W) := by rw [hW]; exact below_alloc (below_alloc (Below.refl _ _) _) _
    have HPW : Hid (Blk W w.heap.size 72 #[.int .i64 kind, .string s0, .int .i64 n, .slice ao k.length cap]) := by rw [hW]; exact blk_keep (blk_new rfl) _
    have HZW : Hid (Blk W (w.heap.size + 1) 72 zeroT) := by rw [hW]; exact blk_new (by simp)
    have HWS : Hid (W.heap.size = w.heap.size + 2) := by unfold Hid; rw [hW]; simp
    have HROW := hidIn hrow
    clear hW hrow
    go_loopw [45, 1] (fun s45 s1 wr => ∃ (i : Nat) (cr : Array Value), i ≤ k.length ∧ s45 = .int .i64 i ∧ s1 = .int .i64 (spoilL q v s (k.take i) (a - 1)).2 ∧ (k ≠ [] → Blk wr R 72 cr ∧ k.length * 4 ≤ cr.size) ∧ RowIn W0 R wr cr (rowAt q v s k (a - 1) i) ∧ OldIn W0 cr k i ∧ Below W.heap.size W wr) (fun s45 _ _ => k.length - (intOf s45).toNat)
    case atStart => exact ⟨0, cur, by omega, rfl, by rw [List.take_zero, spoilL], fun hn => (HROW.out.at_ hn).2, by have h := HROW.out.row; simpa [rowAt, spoilL] using h, HROW.out.old, HROW.out.below⟩
    case round =>
      obtain ⟨i, cr, hi, rfl, rfl, hblk, hrow, hold, hbr⟩ := hrel
      have HBLK := hidIn hblk
      have HRW := hidIn hrow
      have HOLD := hidIn hold
      have HBR := hidIn hbr
      clear hblk hrow hold hbr
      have hbd := spoilL_bd q v s (k.take i) (a - 1) (by omega)
      by_cases hlt : i < k.length
      · have hlt' : (i : Int) < (k.length : Int) := by omega
        obtain ⟨t, hti⟩ : ∃ t, k[i]? = some t := ⟨_, List.getElem?_eq_getElem hlt⟩
        have hne : k ≠ [] := by intro e; rw [e] at hlt; simp at hlt
        have HNX := hidIn (rowAt_next q v s k (a - 1) i t hti)
        have HGET := hidIn ((rowAt_get q v s k (a - 1) i hlt).trans hti)
        have HM : Hid (t ∈ k) := List.mem_of_getElem? hti
        obtain ⟨hro, _, _⟩ := HROW.out.at_ hne
        subst hro
        obtain ⟨hbk, hsz⟩ := HBLK.out hne
        generalize (spoilL q v s (k.take i) (a - 1)).2 = A at *
        by_cases hA : 0 ≤ A
        · obtain ⟨ka, kc, ⟨d0, d1, d2, d3⟩, htin⟩ := HOLD.out i t (Nat.le_refl _) hti
          have c0 : wr.cell? ⟨R, i * 4, none⟩ = _ := (hbk.cell _).trans d0
          have c1 : wr.cell? ⟨R, i * 4 + 1, none⟩ = _ := (hbk.cell _).trans d1
          have c2' : wr.cell? ⟨R, i * 4 + 2, none⟩ = _ := (hbk.cell _).trans d2
          have c3 : wr.cell? ⟨R, i * 4 + 3, none⟩ = _ := (hbk.cell _).trans d3
          have HTI := hidIn htin
          have HBK := hidIn hbk
          have HSZ := hidIn hsz
          clear htin hti d0 d1 d2 d3 hbk hsz
          go_wp2_with fail
          have HB0W := hidIn (HB0.out.trans ((HB.out.trans (HBR.out.mono HB.out.size)).mono HB0.out.size))
          refine (HIH.out t HM.out A hA (by omega) wr _ HTI.out HB0W.out).mono ?_
          rintro e w2 ⟨kb, kd, rfl, hsp, hb2⟩
          have hbd2 := spoilT_bd q v s t A hA
          generalize spoilT q v s t A = r at *
          obtain ⟨t', A2⟩ := r
          simp only [if_pos hA] at hsp hbd2 HNX ⊢
          have HBK2 : Hid (Blk w2 R 72 cr) := HBK.out.below hb2 HBK.out.lt
          have HOK : Hid (∀ m, m < k.length * 4 → ∃ u, w2.cell? ⟨R, m, none⟩ = some u) := by
            intro m hm
            have := HSZ.out
            exact ⟨cr[m]'(by omega), (HBK2.out.cell m).trans (Array.getElem?_eq_getElem _)⟩
          obtain ⟨u0, c0⟩ := HOK.out (i * 4) (by omega)
          obtain ⟨u1, c1⟩ := HOK.out (i * 4 + 1) (by omega)
          obtain ⟨u2, c2'⟩ := HOK.out (i * 4 + 2) (by omega)
          obtain ⟨u3, c3⟩ := HOK.out (i * 4 + 3) (by omega)
          have f0 := HBK2.out.frozen (i * 4)
          have f1 := HBK2.out.frozen (i * 4 + 1)
          have f2 := HBK2.out.frozen (i * 4 + 2)
          have f3 := HBK2.out.frozen (i * 4 + 3)
          have HB2 := hidIn hb2
          have HSP := hidIn hsp
          have HFIN : Hid ((k ≠ [] → Blk ((((w2.setCell ⟨R, i * 4, none⟩ (.int .i64 t'.kind)).setCell ⟨R, i * 4 + 1, none⟩ (.string t'.s)).setCell ⟨R, i * 4 + 2, none⟩ (.int .i64 t'.n)).setCell ⟨R, i * 4 + 3, none⟩ (.slice kb t'.k.length kd)) R 72 (put4 cr i (.int .i64 t'.kind) (.string t'.s) (.int .i64 t'.n) (.slice kb t'.k.length kd)) ∧ k.length * 4 ≤ (put4 cr i (.int .i64 t'.kind) (.string t'.s) (.int .i64 t'.n) (.slice kb t'.k.length kd)).size) ∧ RowIn W0 R ((((w2.setCell ⟨R, i * 4, none⟩ (.int .i64 t'.kind)).setCell ⟨R, i * 4 + 1, none⟩ (.string t'.s)).setCell ⟨R, i * 4 + 2, none⟩ (.int .i64 t'.n)).setCell ⟨R, i * 4 + 3, none⟩ (.slice kb t'.k.length kd)) (put4 cr i (.int .i64 t'.kind) (.string t'.s) (.int .i64 t'.n) (.slice kb t'.k.length kd)) ((rowAt q v s k (a - 1) i).set i t') ∧ Below W.heap.size W ((((w2.setCell ⟨R, i * 4, none⟩ (.int .i64 t'.kind)).setCell ⟨R, i * 4 + 1, none⟩ (.string t'.s)).setCell ⟨R, i * 4 + 2, none⟩ (.int .i64 t'.n)).setCell ⟨R, i * 4 + 3, none⟩ (.slice kb t'.k.length kd))) := by
            have hbase := HROW.out.base
            have hRW : W0.heap.size ≤ R := by have := HB0.out.size; have := HB.out.size; omega
            refine ⟨fun _ => ⟨blk_put4 HBK2.out i _ _ _ _, by rw [put4_size]; exact HSZ.out⟩, ?_, ?_⟩
            · have h2 : RowIn W0 R w2 cr (rowAt q v s k (a - 1) i) := HRW.out.next (fun b o c _ hc => (HB2.out.cell (p := ⟨b, o, none⟩) (World.block_lt_of_cell? _ _ hc)).trans hc) hRW
              have h3 := h2.put HGET.out (by have := HSZ.out; omega) (HSP.out.low (by have := HBK.out.lt; omega))
              exact h3.next (fun b o c hb hc => (cell_set4 hb).trans hc) hRW
            · have h4 : Below W.heap.size W w2 := HBR.out.trans (HB2.out.mono HBR.out.size)
              exact (((h4.setCell hbase _).setCell hbase _).setCell hbase _).setCell hbase _
          clear hb2 hsp
          unfold four
          go_wp2_with fail
          go_roundw
          case rel => exact ⟨i + 1, _, by omega, by go_num, by rw [HNX.out.2], HFIN.out.1, by rw [HNX.out.1]; exact HFIN.out.2.1, HOLD.out.put _ _ _ _, HFIN.out.2.2⟩
          case measure => simp [intOf]; omega
        · have hA' : A < 0 := by omega
          go_wp2_with fail
          go_roundw
          case rel =>
            have hn := HNX.out
            simp only [if_neg hA] at hn
            exact ⟨i + 1, cr, by omega, by go_num, by rw [hn.2], HBLK.out, by rw [hn.1]; exact HRW.out, fun j t hj ht => HOLD.out j t (by omega) ht, HBR.out⟩
          case measure => simp [intOf]; omega
      · have hle : i = k.length := by omega
        subst hle
        have hLk : rowAt q v s k (a - 1) k.length = (spoilL q v s k (a - 1)).1 := by simp [rowAt]
        rw [List.take_length] at hbd ⊢
        have hlen := spoilL_len q v s k (a - 1)
        have HRW2 : Hid (RowIn W0 R wr cr (spoilL q v s k (a - 1)).1) := by unfold Hid; rw [← hLk]; exact HRW.out
        have HLEN := hidIn hlen
        clear hLk HRW hlen
        generalize spoilL q v s k (a - 1) = r at *
        obtain ⟨L, A⟩ := r
        simp only at hbd HRW2 HLEN HR ⊢
        have hP := HPW.out.below HBR.out HPW.out.lt
        have hZ := HZW.out.below HBR.out HZW.out.lt
        have c0 := hP.cell 0
        have c1 := hP.cell 1
        have c2' := hP.cell 2
        have c3 := hP.cell 3
        have e0 := hP.frozen 0
        have e1 := hP.frozen 1
        have e2 := hP.frozen 2
        have e3 := hP.frozen 3
        obtain ⟨⟨z0, z1, z2, z3⟩, f0, f1, f2, f3⟩ := blk_zero hZ
        have hsz : w.heap.size + 1 ≠ w.heap.size := by omega
        have HZ := hidIn hZ
        clear hP hZ
        go_wp2_with fail
        refine bodyPost_ret (results_cell_slot rfl _ _ (w.heap.size + 1) 72 #[.int .i64 kind, .string s0, .int .i64 n, .slice ro k.length c2] (0, 0) _ rfl ?blk Try.underlying72 rfl infoT) rfl ?post
        case blk => change Blk _ _ _ _; (with_reducible refine blk_set4' ?_ _ _ _ _); (repeat first | with_reducible exact HZ.out | with_reducible refine blk_other ?_ hsz _ _)
        case post =>
          rw [HR.out]
          have hb3 : Below w.heap.size w wr := HB.out.trans (HBR.out.mono HB.out.size)
          refine ⟨ro, c2, ?_, ?_, ?_⟩
          · show _ = Ending.returned (.tuple #[.agg #[.int .i64 kind, .string s0, .int .i64 n, .slice ro L.length c2], .int .i64 A])
            rw [HLEN.out]
            rfl
          · intro X hX
            have hcap := HROW.out.cap
            refine ⟨ro, c2, rfl, by show L.length ≤ c2; rw [HLEN.out]; exact hcap.1, hcap.2, ?_⟩
            have hbase := HROW.out.base
            have hws := HWS.out
            have hold : ∀ b o c, (b < W0.heap.size ∨ R ≤ b) → wr.cell? ⟨b, o, none⟩ = some c → X.cell? ⟨b, o, none⟩ = some c := by
              intro b o c hb hc
              have hW0 := HB0.out.size
              refine hX b o c (by omega) ?_
              rw [World.cell?_setCell_other _ _ _ _ (by intro e; injection e with e; omega), World.cell?_setCell_other _ _ _ _ (by intro e; injection e with e; omega), World.cell?_setCell_other _ _ _ _ (by intro e; injection e with e; omega), World.cell?_setCell_other _ _ _ _ (by intro e; injection e with e; omega), World.cell?_setCell_other _ _ _ _ (by intro e; injection e with e; omega)]
              exact hc
            refine KAt_mk (fun j t hj => ?_)
            have hj' : L[j]? = some t := hj
            have hne : k ≠ [] := by
              intro e
              have h1 := (List.getElem?_eq_some_iff.1 hj').1
              rw [HLEN.out, e] at h1
              simp at h1
            obtain ⟨hro, _, _⟩ := HROW.out.at_ hne
            obtain ⟨hbk, _⟩ := HBLK.out hne
            obtain ⟨ka, kc, ⟨d0, d1, d2, d3⟩, hsp⟩ := HRW2.out j t hj'
            refine ⟨R, 0, hro, ?_⟩
            rw [Nat.zero_add, Nat.zero_add]
            exact TAt_mk (hsp X (fun b o c hb hc => hold b o c (by omega) hc)) (Nat.zero_le _) (hold _ _ _ (.inr (Nat.le_refl _)) ((hbk.cell _).trans d0)) (hold _ _ _ (.inr (Nat.le_refl _)) ((hbk.cell _).trans d1)) (hold _ _ _ (.inr (Nat.le_refl _)) ((hbk.cell _).trans d2)) (hold _ _ _ (.inr (Nat.le_refl _)) ((hbk.cell _).trans d3))
          · (repeat first | with_reducible exact hb3 | with_reducible refine below_set ?_ (by omega) _ _)

end Go.Proofs.Ytngjlkdpplmpaaa
namespace Go.Proofs.Ytngjlkdpplmpaaa
open Go.RowKit
set_option linter.unusedVariables false

def SpoiltPost (W0 w : World) (t : T) (q : Nat) (v : Int) (s : ByteArray) (e : Ending) (w' : World) : Prop :=
  ∃ a ka kc, e = .returned (.agg (four (spoilT q v s t a).1 ka kc)) ∧ Spread W0 w.heap.size w' (spoilT q v s t a).1 (.agg (four (spoilT q v s t a).1 ka kc)) ∧ Below w.heap.size w w'

set_option maxHeartbeats 2000000 in
set_option maxRecDepth 100000 in
theorem spoilt_any (t : T) (at' what v : Int) (s : ByteArray) (ha1 : -9223372036854775808 ≤ at') (ha2 : at' ≤ 9223372036854775807) (hw1 : -9223372036854775808 ≤ what) (hw2 : what ≤ 9223372036854775807) (hs : s.size ≤ maxLen) (hcnt : t.cnt ≤ 999990) (hn1 : 1 ≤ t.nodes) (hn2 : t.nodes ≤ 1000000) (W0 w : World) (x : Value) (hx : TIn W0 0 t x) (hb : Below W0.heap.size W0 w) :
    Calls Try.prog 32 #[x, .int .i64 at', .int .i64 what, .int .i64 v, .string s] w (SpoiltPost W0 w t (what % 5).toNat v s) := by
  have HB0 := hidIn hb
  clear hb
  have HX := hidIn hx
  obtain ⟨ao, cap, rfl, _, _, _⟩ := hx
  have HCNT := hidIn hcnt
  have HSS := hidIn hs
  clear hs hcnt
  go_enter Try.func32, Try.ntmps32
  go_wp2_with fail
  obtain ⟨W, hW⟩ : ∃ W, W = (w.alloc (.cells #[.int .i64 t.kind, .string t.s, .int .i64 t.n, .slice ao t.k.length cap] 72)).alloc (.cells #[.int .i64 0, .string ⟨#[]⟩, .int .i64 0, .slice none 0 0] 72) := ⟨_, rfl⟩
  have HB : Hid (Below w.heap.size w W) := by rw [hW]; exact below_alloc (below_alloc (Below.refl _ _) _) _
  have HP : Hid (Blk W w.heap.size 72 #[.int .i64 t.kind, .string t.s, .int .i64 t.n, .slice ao t.k.length cap]) := by rw [hW]; exact blk_keep (blk_new rfl) _
  have HZ : Hid (Blk W (w.heap.size + 1) 72 zeroT) := by rw [hW]; exact blk_new (by simp)
  have HWS : Hid (W.heap.size = w.heap.size + 2) := by unfold Hid; rw [hW]; simp
  have HXW := hidIn (HX.out.below (HB0.out.trans (HB.out.mono HB0.out.size)))
  rw [← hW]
  clear hW
  refine (refSize_any t W _ HXW.out hn2).mono ?_
  rintro e w2 ⟨rfl, hb2⟩
  have hP := HP.out.below hb2 HP.out.lt
  have hZ := HZ.out.below hb2 HZ.out.lt
  have c0 := hP.cell 0
  have c1 := hP.cell 1
  have c2 := hP.cell 2
  have c3 := hP.cell 3
  obtain ⟨⟨z0, z1, z2, z3⟩, f0, f1, f2, f3⟩ := blk_zero hZ
  have HB2 := hidIn hb2
  have hn1' : (1 : Int) ≤ (t.nodes : Int) := by omega
  have hn2' : (t.nodes : Int) ≤ 4611686018427387904 := by omega
  have hm0 := Int.emod_nonneg at' (show (t.nodes : Int) ≠ 0 by omega)
  have hm1 := Int.emod_lt_of_pos at' (show 0 < (t.nodes : Int) by omega)
  have hsz2 : w.heap.size + 2 ≤ w2.heap.size := by have := HWS.out; have := hb2.size; omega
  clear hb2 hP hZ
  go_wp2_with fail
  obtain ⟨Y, hY⟩ : ∃ Y, Y = w2.alloc (.cells #[.int .i64 0, .string ⟨#[]⟩, .int .i64 0, .slice none 0 0] 72) := ⟨_, rfl⟩
  have HBY : Hid (Below W.heap.size W Y) := by rw [hY]; exact below_alloc HB2.out _
  have hYZ : Blk Y w2.heap.size 72 zeroT := by rw [hY]; exact blk_new rfl
  have HYZ := hidIn hYZ
  have hYP := HP.out.below HBY.out HP.out.lt
  rw [← hY]
  clear hY c0 c1 c2 c3 z0 z1 z2 z3 f0 f1 f2 f3
  have hYc : ∀ k, k < 4 → ∀ X, X = Y ∨ X = Y.drew → X.cell? ⟨w.heap.size, k, none⟩ = (#[.int .i64 t.kind, .string t.s, .int .i64 t.n, .slice ao t.k.length cap] : Array Value)[k]? := by
    rintro k _ X (rfl | rfl)
    · exact hYP.cell k
    · exact hYP.cell k
  have c0 := hYP.cell 0
  have c1 := hYP.cell 1
  have c2 := hYP.cell 2
  have c3 := hYP.cell 3
  clear hYc hYP hYZ
  have HC : Hid (∀ X, Below Y.heap.size Y X → Calls Try.prog 55 #[.agg #[.int .i64 t.kind, .string t.s, .int .i64 t.n, .slice ao t.k.length cap], .int .i64 (at' % (t.nodes : Int)), .int .i64 what, .int .i64 v, .string s] X (fun e w5 => ∃ ka kc t' A, e = .returned (.tuple #[.agg #[.int .i64 t'.kind, .string t'.s, .int .i64 t'.n, .slice ka t'.k.length kc], .int .i64 A]) ∧ t' = (spoilT (what % 5).toNat v s t (at' % (t.nodes : Int))).1 ∧ Spread W0 Y.heap.size w5 t' (.agg (four t' ka kc)) ∧ Below Y.heap.size Y w5)) := by
    intro X hX
    have hwX : Below W0.heap.size W0 X := HB0.out.trans ((HB.out.trans ((HBY.out.trans (hX.mono HBY.out.size)).mono HB.out.size)).mono HB0.out.size)
    refine (spoil_any what v s hw1 hw2 HSS.out W0 t HCNT.out _ hm0 (by omega) X _ HX.out hwX).mono ?_
    rintro e w5 ⟨ka, kc, rfl, hsp, hb5⟩
    exact ⟨ka, kc, _, _, rfl, rfl, hsp.low hX.size, hX.trans (hb5.mono hX.size)⟩
  have hltY : w.heap.size + 1 < Y.heap.size := by have := HWS.out; have := HBY.out.size; omega
  have hlt2 : w2.heap.size < Y.heap.size := HYZ.out.lt
  have HZY : Hid (Blk Y (w.heap.size + 1) 72 zeroT) := HZ.out.below HBY.out HZ.out.lt
  clear HX HXW HCNT HSS
  have hne : w.heap.size + 1 ≠ w2.heap.size := by have := HWS.out; have := HB2.out.size; omega
  go_region_with (first | (go_at_call 9; refine calls_same (within_any _ _ _ hn1' hn2' ha1 ha2) ?_) | (go_at_call 55; refine (HC.out _ (by first | exact below_drew (Below.refl _ _) | exact Below.refl _ _)).mono ?_; rintro e w5 ⟨ka, kc, t', A, rfl, hteq, hsp, hb5⟩; have hZ5 := HYZ.out.below hb5 HYZ.out.lt; have hR5 := HZY.out.below hb5 HZY.out.lt; obtain ⟨⟨z0, z1, z2, z3⟩, f0, f1, f2, f3⟩ := blk_zero hZ5; obtain ⟨⟨y0, y1, y2, y3⟩, e0, e1, e2, e3⟩ := blk_zero hR5; have HR5 := hidIn hR5; have HSP := hidIn hsp; have HB5 := hidIn hb5; have HTE := hidIn hteq; clear hZ5 hR5 hsp hb5 hteq))
  all_goals
    go_wp2_with fail
    refine bodyPost_ret (results_cell_row rfl _ _ (w.heap.size + 1) 72 #[.int .i64 t'.kind, .string t'.s, .int .i64 t'.n, .slice ka t'.k.length kc] (0, 0) _ rfl ?blk Try.underlying72 rfl infoT) rfl ?post
    case blk => change Blk _ _ _ _; (with_reducible refine blk_set4' ?_ _ _ _ _); (repeat first | with_reducible exact HR5.out | with_reducible refine blk_other ?_ hne _ _)
    case post =>
      have hte := HTE.out
      refine ⟨at' % (t.nodes : Int), ka, kc, ?_, ?_, ?_⟩
      · rw [← hte]; rfl
      · rw [← hte]
        have hW0 := HB0.out.size
        intro X hX
        refine HSP.out X (fun b o c hb hc => hX b o c (by omega) ?_)
        rw [World.cell?_setCell_other _ _ _ _ (by intro e; injection e with e; omega), World.cell?_setCell_other _ _ _ _ (by intro e; injection e with e; omega), World.cell?_setCell_other _ _ _ _ (by intro e; injection e with e; omega), World.cell?_setCell_other _ _ _ _ (by intro e; injection e with e; omega), World.cell?_setCell_other _ _ _ _ (by intro e; injection e with e; omega), World.cell?_setCell_other _ _ _ _ (by intro e; injection e with e; omega), World.cell?_setCell_other _ _ _ _ (by intro e; injection e with e; omega), World.cell?_setCell_other _ _ _ _ (by intro e; injection e with e; omega)]
        exact hc
      · have hb3 : Below w.heap.size w w5 := HB.out.trans ((HBY.out.trans (HB5.out.mono HBY.out.size)).mono HB.out.size)
        (repeat first | with_reducible exact hb3 | with_reducible refine below_set ?_ (by omega) _ _)

end Go.Proofs.Ytngjlkdpplmpaaa
namespace Go.Proofs.Ytngjlkdpplmpaaa
open Go.RowKit
set_option linter.unusedVariables false

def SomePost (w : World) (e : Ending) (w' : World) : Prop :=
  ∃ (o : O) (ka : Option Addr) (kc : Nat), e = .returned (.tuple #[o.val, .agg #[.int .i64 (plain o).kind, .string (plain o).s, .int .i64 (plain o).n, .slice ka (plain o).k.length kc]]) ∧ o.Ok ∧ o.nodes ≤ 1000 ∧ TIn w' w.heap.size (plain o) (.agg (four (plain o) ka kc)) ∧ Below w.heap.size w w'
theorem tdiv_in (a b : Int) (hb : 2 ≤ b) (h1 : -9223372036854775808 ≤ a) (h2 : a ≤ 9223372036854775807) : -9223372036854775808 ≤ a.tdiv b ∧ a.tdiv b ≤ 9223372036854775807 := by
  by_cases h : 0 ≤ a
  · have h3 := Int.tdiv_nonneg h (by omega : 0 ≤ b)
    have h4 : a.tdiv b ≤ a := Int.tdiv_le_self b h
    omega
  · have h3 := Int.tdiv_nonneg (by omega : 0 ≤ -a) (by omega : 0 ≤ b)
    have h4 : (-a).tdiv b ≤ -a := Int.tdiv_le_self b (by omega)
    rw [Int.neg_tdiv] at h3 h4
    omega
/-- A slot, and a struct's cell, as results. -/
theorem results_slot_cell {P : Program} {fn : Func} {p q : Tmp} {ty : TypeId} (h : fn.results = #[.tmp q, .cell p ty]) (tmps : Array Value) (w : World) (g : Nat) (t : TypeId) (cs : Array Value) (fr : Nat × Nat) (d : TypeDesc)
    (hp : tmps.getD p undef = .pointer (some ⟨g, 0, none⟩)) (hg : w.heap[g]? = some (.cells cs t fr))
    (hu : P.underlying ty = some d) (hd : (match d with | .struct _ | .array _ _ => true | _ => false) = true) (hi : (P.info? ty).map (·.size) = some cs.size) :
    (results fn tmps).run P w = .ok (.tuple #[tmps.getD q undef, .agg cs]) w := by
  have hp' : tmps[p]?.getD undef = .pointer (some ⟨g, 0, none⟩) := by simpa using hp
  simp [results, h, hp', asAddr, run_loadVar_row w g t ty cs fr d hg hu hd hi]

end Go.Proofs.Ytngjlkdpplmpaaa
namespace Go.Proofs.Ytngjlkdpplmpaaa.Vl
open Go.RowKit Wd Cn
set_option linter.unusedVariables false

theorem ints_below {w w' : World} {a : Option Addr} {len : Nat} {f : Nat → Int} (h : HasInts w a len f) (hb : Below w.heap.size w w') : HasInts w' a len f := by
  intro i hi
  obtain ⟨b, o, e, hl, hc, h1⟩ := h i hi
  exact ⟨b, o, e, Nat.lt_of_lt_of_le hl hb.size, (hb.cell (p := ⟨b, o + i, none⟩) hl).trans hc, h1⟩
/-- The document's world, just made. -/
theorem bo_new {w0 W : World} {p f c : Nat} {K : KW} (h : In w0 W p f c K) : Bo w0 (W.alloc (.cells #[.slice none 0 0, .slice none 0 0] 109)) p f c W.heap.size W.heap.size K ⟨[], []⟩ := by
  refine ⟨h.step (below_alloc (Below.refl _ _) _), ⟨.slice none 0 0, .slice none 0 0, heap_alloc_new _ _, World.ownsRow_nil _ _ _ _, World.ownsRow_nil _ _ _ _, Nat.le_refl _⟩, h.below.size, by simp⟩

end Go.Proofs.Ytngjlkdpplmpaaa.Vl
namespace Go.Proofs.Ytngjlkdpplmpaaa.Ca
open Go.RowKit Wd Cn Vl
set_option linter.unusedVariables false

theorem Bo.mapC {w0 W : World} {p f c r B : Nat} {Kc Kr : KW} (h : Bo w0 W p f c r B Kc Kr) : ∃ es cl, W.heap[c]? = some (.map es cl) := by
  obtain ⟨es, cl, hm, _⟩ := h.i.kin.ch
  exact ⟨es, cl, hm⟩
theorem bo_ch {w0 W : World} {p f c r B : Nat} {Kc Kr : KW} (h : Bo w0 W p f c r B Kc Kr) (s t : ByteArray) (q d : Int) (hk : chOk (s, t)) :
    Calls Try.prog 12 #[.pointer (some ⟨p, 0, none⟩), .string s, .string t, .int .i64 q, .int .i64 d] W fun e w' => e = .returned (.int .i64 (chE Kc s t q d)) ∧ Bo w0 w' p f c r B (chN Kc s t q d) Kr :=
  (ch_any W p f c Kc h.i.kin s t q d hk).mono fun e w' h1 => ⟨h1.1, h.gr h1.2.1 h1.2.2 h.i.hc (Bo.mapC h)⟩
theorem bo_rch {w0 W : World} {p f c r B : Nat} {Kc Kr : KW} (h : Bo w0 W p f c r B Kc Kr) (s t : ByteArray) (q d : Int) (hs : s.size ≤ 1000000) (ht : t.size ≤ 1000000) (hl : Kr.C.length ≤ 1000) :
    Calls Try.prog 37 #[.pointer (some ⟨r, 0, none⟩), .string s, .string t, .int .i64 q, .int .i64 d] W fun e w' => e = .returned (.int .i64 (chE Kr s t q d)) ∧ Bo w0 w' p f c r B Kc (chN Kr s t q d) := by
  obtain ⟨vF, vC, hr⟩ := h.rr
  exact (refCh_any W _ r Kr vF vC hr h.hBW s t q d hs ht hl).mono fun e w' h1 => ⟨h1.1, h.rt h1.2.1 h1.2.2⟩
theorem chN_vals {K : KW} (s t : ByteArray) (q d : Int) (h : KW.Vals K) : KW.Vals (chN K s t q d) := by
  unfold chN
  split
  · exact h
  · exact h
theorem chN_F (K : KW) (s t : ByteArray) (q d : Int) : (chN K s t q d).F = K.F := by
  unfold chN
  split <;> rfl
theorem chN_len (K : KW) (s t : ByteArray) (q d : Int) : (chN K s t q d).C.length ≤ K.C.length + 1 := by
  unfold chN
  split <;> simp
theorem pickB_iff (q : Int) : pickB q = true ↔ q = 0 ∨ q = 1 := by simp [pickB]
theorem chE_ok {K : KW} {s t : ByteArray} {q d : Int} (h : chE K s t q d = 0) : pickB q = true ∧ Wd.dayB d = true := by
  unfold chE at h
  split at h
  · cases h
  · rename_i h1
    simp only [Bool.not_eq_false, Bool.and_eq_true] at h1
    exact ⟨h1.1.2, h1.2⟩
theorem chN_chs {K : KW} (s t : ByteArray) (q d : Int) (h : KW.Chs K) : KW.Chs (chN K s t q d) := by
  unfold chN
  split
  · rename_i h1
    obtain ⟨h2, h3⟩ := chE_ok h1
    intro x hx
    rcases List.mem_append.1 hx with hx | hx
    · exact h x hx
    · simp at hx
      subst hx
      exact ⟨(pickB_iff q).1 h2, (Wd.dayB_iff d).1 h3⟩
  · exact h
/-- Fixings alone: nothing is chosen. -/
theorem fixN_C (K : KW) (s : ByteArray) (d v : Int) : (fixN K s d v).C = K.C := by
  unfold fixN
  split <;> rfl

set_option maxHeartbeats 8000000 in
set_option maxRecDepth 100000 in
theorem known9_any (w0 w : World) (p f c r B : Nat) (la : Option Addr) (ll lc : Nat) (lf : Nat → Int) (h : Bo w0 w p f c r B ⟨[], []⟩ ⟨[], []⟩) (hl : HasInts w0 la ll lf) (hll : ll ≤ 9223372036854775807) :
    Calls Try.prog 35 #[.pointer (some ⟨p, 0, none⟩), .pointer (some ⟨r, 0, none⟩), .slice la ll lc] w fun e w' => e = .returned (.tuple #[]) ∧ ∃ K, Bo w0 w' p f c r B K K ∧ KW.Vals K ∧ K.F.length ≤ 12 ∧ K.C = [] := by
  have HB := hidV h
  have HL := hidV hl
  clear h hl
  go_enter Try.func35, Try.ntmps35
  go_wp2_with fail
  go_loopw [6] (fun s6 wr => ∃ (i : Nat) (K : KW), s6 = .int .i64 i ∧ i ≤ 12 ∧ i ≤ ll ∧ Bo w0 wr p f c r B K K ∧ KW.Vals K ∧ K.F.length ≤ i ∧ K.C = []) (fun s6 _ => 12 - (intOf s6).toNat)
  case atStart => exact ⟨0, ⟨[], []⟩, rfl, by omega, by omega, HB.out, (fun q hq => by simp at hq), by simp, rfl⟩
  case round =>
    obtain ⟨i, K, rfl, hi12, hil, hbo, hvals, hlen, hkc⟩ := hrel
    have HKC := hidV hkc
    clear hkc
    have HBO := hidV hbo
    have HVL := hidV hvals
    have HLN := hidV hlen
    clear hbo hvals hlen
    by_cases hlt : i < ll ∧ i < 12
    · obtain ⟨h1, h2⟩ := hlt
      have h1' : (i : Int) < (ll : Int) := by omega
      have h2' : (i : Int) < 12 := by omega
      obtain ⟨lb, lo, rfl, hlb, hlc, hf1, hf2⟩ := HL.out i h1
      have HLC : Hid (∀ w', Below w0.heap.size w0 w' → w'.cell? ⟨lb, lo + i, none⟩ = some (.int .i64 (lf i))) := fun w' hw' => (hw'.cell (p := ⟨lb, lo + i, none⟩) hlb).trans hlc
      obtain ⟨q1, q2⟩ := tdiv_range (lf i) 8 (by omega) hf1 hf2
      have HW40 := hidV (fun w : World => within_any ((lf i).tdiv 8) 40 w (by omega) (by omega) q1 q2)
      have HW8 := hidV (fun w : World => within_any (lf i) 8 w (by omega) (by omega) hf1 hf2)
      obtain ⟨u, hu⟩ : ∃ u : Nat, (lf i).tdiv 8 % 40 = u := ⟨((lf i).tdiv 8 % 40).toNat, by omega⟩
      have hu40 : u < 40 := by omega
      rw [hu] at HW40
      obtain ⟨d, hd⟩ : ∃ d : Nat, lf i % 8 = d := ⟨(lf i % 8).toNat, by omega⟩
      have hd8 : d < 8 := by omega
      rw [hd] at HW8
      clear hlc hu hd
      obtain ⟨m, hm⟩ : ∃ m : Nat, i % 3 = m := ⟨_, rfl⟩
      have hm3 : m < 3 := by omega
      have htm : Int.tmod (i : Int) 3 = (m : Int) := by rw [← hm]; rw [Int.tmod_eq_emod_of_nonneg (by omega)]; omega
      have hm3' : ¬ ((3 : Int) ≤ (m : Int)) := by omega
      obtain ⟨sn, hsz, hcell⟩ := three_cells wr m hm3
      have HSZ := hidV hsz
      clear hm hsz
      have hb0 := HLC.out wr HBO.out.i.below
      have hb1 : (wr.alloc (.cells #[.string ⟨#[108, 105, 98, 111, 114]⟩, .string ⟨#[114, 97, 105, 110]⟩, .string ⟨#[195, 182, 108]⟩] 9)).cell? ⟨lb, lo + i, none⟩ = some (.int .i64 (lf i)) := HLC.out _ (HBO.out.step (below_alloc (Below.refl _ _) _)).i.below
      have HB1 := hidV (HBO.out.step (below_alloc (Below.refl wr.heap.size wr) (.cells #[.string ⟨#[108, 105, 98, 111, 114]⟩, .string ⟨#[114, 97, 105, 110]⟩, .string ⟨#[195, 182, 108]⟩] 9)))
      have HFK : Hid (fixOk (sn, (d : Int))) := ⟨Nat.le_trans HSZ.out (by decide), by omega, by omega⟩
      have HREM : Hid (Int.tmod (lf i) 29 = 28 ∨ (Int.tmod (lf i) 29 == 28) = false) := by
        by_cases h : Int.tmod (lf i) 29 = 28
        · exact .inl h
        · exact .inr (by simpa using h)
      go_wp2_with fail
      refine calls_same (HW40.out _) ?_
      rcases HREM.out with h29 | h29
      all_goals
        go_wp2_with fail
        refine calls_same (HW8.out _) ?_
        go_wp2_with fail
        generalize wr.alloc (.cells #[.string ⟨#[108, 105, 98, 111, 114]⟩, .string ⟨#[114, 97, 105, 110]⟩, .string ⟨#[195, 182, 108]⟩] 9) = W1 at *
        refine (bo_fix HB1.out sn d _ HFK.out).mono ?_
        rintro e w2 ⟨rfl, hb2, hg2⟩
        have HB2 := hidV hb2
        have hb3 := HLC.out w2 HB2.out.i.below
        clear hb2 hg2 hb0 hb1 hcell
        go_wp2_with fail
        refine calls_same (HW8.out _) ?_
        go_wp2_with fail
        refine (bo_rfix HB2.out sn d _ (Nat.le_trans HSZ.out (by decide)) (by have := HLN.out; omega)).mono ?_
        rintro e w3 ⟨rfl, hb4, hr4⟩
        have HB3 := hidV hb4
        clear hb4 hr4 hb3
        go_wp2_with fail
        go_roundw
        case rel => exact ⟨i + 1, _, by go_num, by omega, by omega, HB3.out, fixN_vals _ _ _ _ HVL.out, Nat.le_trans (fixN_length _ _ _ _) (by have := HLN.out; omega), by rw [fixN_C]; exact HKC.out⟩
        case measure => simp [intOf] <;> omega
    · rcases (by omega : ((i : Int) < (ll : Int) ∧ ¬ (i : Int) < 12) ∨ ¬ (i : Int) < (ll : Int)) with ⟨h1, h3⟩ | h1
      all_goals
        clear hlt
        go_wp2_with fail
        go_end0
        exact ⟨rfl, K, HBO.out, HVL.out, Nat.le_trans HLN.out hi12, HKC.out⟩

set_option maxHeartbeats 8000000 in
set_option maxRecDepth 100000 in
theorem known10_any (la : Option Addr) (ll lc : Nat) (lf : Nat → Int) (ca : Option Addr) (cl cc : Nat) (cf : Nat → Int) (w : World) (hl : HasInts w la ll lf) (hll : ll ≤ 9223372036854775807) (hc : HasInts w ca cl cf) (hcl : cl ≤ 9223372036854775807) :
    Calls Try.prog 18 #[.slice la ll lc, .slice ca cl cc] w fun e w' => ∃ p f c r, e = .returned (.tuple #[.pointer (some ⟨p, 0, none⟩), .pointer (some ⟨r, 0, none⟩)]) ∧ ∃ B K, Bo w w' p f c r B K K ∧ KW.Vals K ∧ KW.Chs K ∧ K.F.length ≤ 12 ∧ K.C.length ≤ 4 := by
  have HLI := hidC hl
  have HCI := hidC hc
  clear hl hc
  go_enter Try.func18, Try.ntmps18
  go_wp2_with fail
  refine (new_in' w).mono ?_
  rintro e w1 ⟨p, f, c, rfl, hi⟩
  have HBO0 := hidC (bo_new hi)
  clear hi
  go_wp2_with fail
  obtain ⟨r, hr⟩ : ∃ r, w1.heap.size = r := ⟨_, rfl⟩
  rw [hr] at HBO0
  simp only [hr]
  generalize w1.alloc (.cells #[.slice none 0 0, .slice none 0 0] 109) = V at *
  clear hr
  refine (known9_any w V p f c r r la ll lc lf HBO0.out HLI.out hll).mono ?_
  rintro e w2 ⟨rfl, K0, hbo, hv0, hf0, hk0⟩
  have HKC := hidC hk0
  have HB2 := hidC hbo
  have HV2 := hidC hv0
  have HF2 := hidC hf0
  clear hbo hv0 hf0 hk0
  go_wp2_with fail
  go_loopw [8] (fun s8 wr => ∃ (i : Nat) (K : KW), s8 = .int .i64 i ∧ i ≤ 4 ∧ i ≤ cl ∧ Bo w wr p f c r r K K ∧ KW.Vals K ∧ KW.Chs K ∧ K.F.length ≤ 12 ∧ K.C.length ≤ i) (fun s8 _ => 4 - (intOf s8).toNat)
  case atStart => exact ⟨0, K0, rfl, by omega, by omega, HB2.out, HV2.out, (fun q hq => by rw [HKC.out] at hq; cases hq), HF2.out, by rw [HKC.out]; simp⟩
  case round =>
    obtain ⟨i, K, rfl, hi4, hil, hbo, hvals, hchs, hfl, hclen⟩ := hrel
    have HBO := hidC hbo
    have HVL := hidC hvals
    have HCH := hidC hchs
    have HFL := hidC hfl
    have HCL := hidC hclen
    clear hbo hvals hchs hfl hclen
    by_cases hlt : i < cl ∧ i < 4
    · obtain ⟨h1, h2⟩ := hlt
      have h1' : (i : Int) < (cl : Int) := by omega
      have h2' : (i : Int) < 4 := by omega
      obtain ⟨lb, lo, rfl, hlb, hlc, hf1, hf2⟩ := HCI.out i h1
      have HLC : Hid (∀ w', Below w.heap.size w w' → w'.cell? ⟨lb, lo + i, none⟩ = some (.int .i64 (cf i))) := fun w' hw' => (hw'.cell (p := ⟨lb, lo + i, none⟩) hlb).trans hlc
      obtain ⟨q1, q2⟩ := tdiv_range (cf i) 2 (by omega) hf1 hf2
      have HW6 := hidC (fun w : World => within_any ((cf i).tdiv 2) 6 w (by omega) (by omega) q1 q2)
      have HW2 := hidC (fun w : World => within_any (cf i) 2 w (by omega) (by omega) hf1 hf2)
      obtain ⟨u, hu⟩ : ∃ u, (cf i).tdiv 2 % 6 = u := ⟨_, rfl⟩
      obtain ⟨d, hd⟩ : ∃ d, cf i % 2 = d := ⟨_, rfl⟩
      have hu1 : 0 ≤ u := by omega
      have hu2 : u < 6 := by omega
      have hd1 : 0 ≤ d := by omega
      have hd2 : d < 2 := by omega
      rw [hu] at HW6
      rw [hd] at HW2
      clear hu hd hlc
      have HDG : Hid (∀ w : World, Calls Try.prog 36 #[.int .i64 ((i : Int) + 1)] w fun e w' => e = .returned (.string (digT (i + 1))) ∧ Below w.heap.size w w') := fun w => by
        have h := digT_any (i + 1) (by omega) w
        rwa [show ((i + 1 : Nat) : Int) = (i : Int) + 1 by omega] at h
      go_wp2_with fail
      refine (HDG.out wr).mono ?_
      rintro e w3 ⟨rfl, hb3⟩
      have HB3 := hidC (HBO.out.step hb3)
      have q0 := HLC.out w3 HB3.out.i.below
      have hsz := digT_size (i + 1)
      generalize hDG : digT (i + 1) = D at *
      have HSZ : Hid (((⟨#[99, 104]⟩ : ByteArray) ++ D).size ≤ 1000000) := by
        have h := chT_size (i + 1)
        unfold chT at h
        rw [hDG] at h
        exact Nat.le_trans h (by decide)
      clear hDG
      clear hb3
      rcases (show Int.tmod (cf i) 3 = 0 ∨ (Int.tmod (cf i) 3 != 0) = true by by_cases h : Int.tmod (cf i) 3 = 0; exact .inl h; exact .inr (by simpa using h)) with h3 | h3
      · have h3' : (Int.tmod (cf i) 3 != 0) = false := by simp [h3]
        clear h3
        go_wp2_with fail
        go_roundw
        case rel => exact ⟨i + 1, K, by go_num, by omega, by omega, HB3.out, HVL.out, HCH.out, HFL.out, Nat.le_trans HCL.out (by omega)⟩
        case measure => simp [intOf] <;> omega
      · go_wp2_with fail
        clear q0 h3
        have HBD := hidC (HB3.out.step (below_drew (Below.refl w3.heap.size w3)))
        refine Mx.wp_region_mix (fun w' => Below w.heap.size w w') [(0, false), (1, false), (2, false), (3, false), (4, false), (5, false), (7, false), (8, false), (9, false), (10, false), (11, false), (6, true), (12, true), (13, true)] (by kernel_rfl) (by kernel_rfl) HBD.out.i.below ?_ (by kernel_rfl)
        simp only [List.map_cons, List.map_nil, List.getD_cons_zero, List.getD_cons_succ]
        generalize hops : (#[_, _, _, _, _, _, _, _, _, _, _, _, _, _] : Array Oper) = ops
        clear hops
        refine Mx.m_pure (.pointer (some ⟨p, 0, none⟩)) (Mx.wanted_none rfl) (fun w' hw' => ?_) ?_
        · go_simp
        simp only [Act.put, List.setIfInBounds_toArray, List.set_cons_zero, List.set_cons_succ]
        refine Mx.m_pure (.string ((⟨#[99, 104]⟩ : ByteArray) ++ D)) (Mx.wanted_none rfl) (fun w' hw' => ?_) ?_
        · go_simp
        simp only [Act.put, List.setIfInBounds_toArray, List.set_cons_zero, List.set_cons_succ]
        refine Mx.m_pure (.slice (some ⟨lb, lo, none⟩) cl cc) (Mx.wanted_none rfl) (fun w' hw' => ?_) ?_
        · go_simp
        simp only [Act.put, List.setIfInBounds_toArray, List.set_cons_zero, List.set_cons_succ]
        refine Mx.m_pure (.int .i64 i) (Mx.wanted_none rfl) (fun w' hw' => ?_) ?_
        · go_simp
        simp only [Act.put, List.setIfInBounds_toArray, List.set_cons_zero, List.set_cons_succ]
        refine Mx.m_pure (.pointer (some ⟨lb, lo + i, none⟩)) (Mx.wanted_none rfl) (fun w' hw' => ?_) ?_
        · go_simp
        simp only [Act.put, List.setIfInBounds_toArray, List.set_cons_zero, List.set_cons_succ]
        refine Mx.m_pure (.int .i64 (cf i)) (Mx.wanted_none rfl) (fun w' hw' => ?_) ?_
        · have q0 := HLC.out w' hw'
          go_simp
        simp only [Act.put, List.setIfInBounds_toArray, List.set_cons_zero, List.set_cons_succ]
        refine Mx.m_pure (.slice (some ⟨lb, lo, none⟩) cl cc) (Mx.wanted_none rfl) (fun w' hw' => ?_) ?_
        · go_simp
        simp only [Act.put, List.setIfInBounds_toArray, List.set_cons_zero, List.set_cons_succ]
        refine Mx.m_pure (.int .i64 i) (Mx.wanted_none rfl) (fun w' hw' => ?_) ?_
        · go_simp
        simp only [Act.put, List.setIfInBounds_toArray, List.set_cons_zero, List.set_cons_succ]
        refine Mx.m_pure (.pointer (some ⟨lb, lo + i, none⟩)) (Mx.wanted_none rfl) (fun w' hw' => ?_) ?_
        · go_simp
        simp only [Act.put, List.setIfInBounds_toArray, List.set_cons_zero, List.set_cons_succ]
        refine Mx.m_pure (.int .i64 (cf i)) (Mx.wanted_none rfl) (fun w' hw' => ?_) ?_
        · have q0 := HLC.out w' hw'
          go_simp
        simp only [Act.put, List.setIfInBounds_toArray, List.set_cons_zero, List.set_cons_succ]
        refine Mx.m_pure (.int .i64 ((cf i).tdiv 2)) (Mx.wanted_none rfl) (fun w' hw' => ?_) ?_
        · go_simp
          exact wrap_small _ q1 q2
        simp only [Act.put, List.setIfInBounds_toArray, List.set_cons_zero, List.set_cons_succ]
        refine Mx.m_call 9 #[.int .i64 (cf i), .int .i64 2] (Mx.wanted_none rfl) ?_ ?_
        · go_simp
        refine (HW2.out _).mono ?_
        rintro e1 w1 ⟨rfl, rfl⟩
        refine ⟨_, rfl, HBD.out.i.below, ?_⟩
        simp only [Act.put, List.setIfInBounds_toArray, List.set_cons_zero, List.set_cons_succ]
        refine Mx.m_call 9 #[.int .i64 ((cf i).tdiv 2), .int .i64 6] (Mx.wanted_none rfl) ?_ ?_
        · go_simp
        refine (HW6.out _).mono ?_
        rintro e1 w1 ⟨rfl, rfl⟩
        refine ⟨_, rfl, HBD.out.i.below, ?_⟩
        simp only [Act.put, List.setIfInBounds_toArray, List.set_cons_zero, List.set_cons_succ]
        refine Mx.m_call 12 #[.pointer (some ⟨p, 0, none⟩), .string ⟨#[116]⟩, .string ((⟨#[99, 104]⟩ : ByteArray) ++ D), .int .i64 d, .int .i64 u] (Mx.wanted_none rfl) ?_ ?_
        · go_simp
        refine (bo_ch HBD.out ⟨#[116]⟩ ((⟨#[99, 104]⟩ : ByteArray) ++ D) d u ⟨show (⟨#[116]⟩ : ByteArray).size ≤ maxLen by decide, Nat.le_trans HSZ.out (by decide)⟩).mono ?_
        rintro e w4 ⟨rfl, hb4⟩
        have HB4 := hidC hb4
        clear hb4
        refine ⟨_, rfl, HB4.out.i.below, ?_⟩
        clear HBD HB3
        simp only [Act.put, List.setIfInBounds_toArray, List.set_cons_zero, List.set_cons_succ]
        refine Mx.m_nil ?_
        intro _
        go_wp2_with fail
        have HBD := hidC (HB4.out.step (below_drew (Below.refl w4.heap.size w4)))
        clear HB4
        refine Mx.wp_region_mix (fun w' => Below w.heap.size w w') [(0, false), (1, false), (2, false), (3, false), (4, false), (5, false), (7, false), (8, false), (9, false), (10, false), (11, false), (6, true), (12, true), (13, true)] (by kernel_rfl) (by kernel_rfl) HBD.out.i.below ?_ (by kernel_rfl)
        simp only [List.map_cons, List.map_nil, List.getD_cons_zero, List.getD_cons_succ]
        generalize hops : (#[_, _, _, _, _, _, _, _, _, _, _, _, _, _] : Array Oper) = ops
        clear hops
        refine Mx.m_pure (.pointer (some ⟨r, 0, none⟩)) (Mx.wanted_none rfl) (fun w' hw' => ?_) ?_
        · go_simp
        simp only [Act.put, List.setIfInBounds_toArray, List.set_cons_zero, List.set_cons_succ]
        refine Mx.m_pure (.string ((⟨#[99, 104]⟩ : ByteArray) ++ D)) (Mx.wanted_none rfl) (fun w' hw' => ?_) ?_
        · go_simp
        simp only [Act.put, List.setIfInBounds_toArray, List.set_cons_zero, List.set_cons_succ]
        refine Mx.m_pure (.slice (some ⟨lb, lo, none⟩) cl cc) (Mx.wanted_none rfl) (fun w' hw' => ?_) ?_
        · go_simp
        simp only [Act.put, List.setIfInBounds_toArray, List.set_cons_zero, List.set_cons_succ]
        refine Mx.m_pure (.int .i64 i) (Mx.wanted_none rfl) (fun w' hw' => ?_) ?_
        · go_simp
        simp only [Act.put, List.setIfInBounds_toArray, List.set_cons_zero, List.set_cons_succ]
        refine Mx.m_pure (.pointer (some ⟨lb, lo + i, none⟩)) (Mx.wanted_none rfl) (fun w' hw' => ?_) ?_
        · go_simp
        simp only [Act.put, List.setIfInBounds_toArray, List.set_cons_zero, List.set_cons_succ]
        refine Mx.m_pure (.int .i64 (cf i)) (Mx.wanted_none rfl) (fun w' hw' => ?_) ?_
        · have q0 := HLC.out w' hw'
          go_simp
        simp only [Act.put, List.setIfInBounds_toArray, List.set_cons_zero, List.set_cons_succ]
        refine Mx.m_pure (.slice (some ⟨lb, lo, none⟩) cl cc) (Mx.wanted_none rfl) (fun w' hw' => ?_) ?_
        · go_simp
        simp only [Act.put, List.setIfInBounds_toArray, List.set_cons_zero, List.set_cons_succ]
        refine Mx.m_pure (.int .i64 i) (Mx.wanted_none rfl) (fun w' hw' => ?_) ?_
        · go_simp
        simp only [Act.put, List.setIfInBounds_toArray, List.set_cons_zero, List.set_cons_succ]
        refine Mx.m_pure (.pointer (some ⟨lb, lo + i, none⟩)) (Mx.wanted_none rfl) (fun w' hw' => ?_) ?_
        · go_simp
        simp only [Act.put, List.setIfInBounds_toArray, List.set_cons_zero, List.set_cons_succ]
        refine Mx.m_pure (.int .i64 (cf i)) (Mx.wanted_none rfl) (fun w' hw' => ?_) ?_
        · have q0 := HLC.out w' hw'
          go_simp
        simp only [Act.put, List.setIfInBounds_toArray, List.set_cons_zero, List.set_cons_succ]
        refine Mx.m_pure (.int .i64 ((cf i).tdiv 2)) (Mx.wanted_none rfl) (fun w' hw' => ?_) ?_
        · go_simp
          exact wrap_small _ q1 q2
        simp only [Act.put, List.setIfInBounds_toArray, List.set_cons_zero, List.set_cons_succ]
        refine Mx.m_call 9 #[.int .i64 (cf i), .int .i64 2] (Mx.wanted_none rfl) ?_ ?_
        · go_simp
        refine (HW2.out _).mono ?_
        rintro e1 w1 ⟨rfl, rfl⟩
        refine ⟨_, rfl, HBD.out.i.below, ?_⟩
        simp only [Act.put, List.setIfInBounds_toArray, List.set_cons_zero, List.set_cons_succ]
        refine Mx.m_call 9 #[.int .i64 ((cf i).tdiv 2), .int .i64 6] (Mx.wanted_none rfl) ?_ ?_
        · go_simp
        refine (HW6.out _).mono ?_
        rintro e1 w1 ⟨rfl, rfl⟩
        refine ⟨_, rfl, HBD.out.i.below, ?_⟩
        simp only [Act.put, List.setIfInBounds_toArray, List.set_cons_zero, List.set_cons_succ]
        refine Mx.m_call 37 #[.pointer (some ⟨r, 0, none⟩), .string ⟨#[116]⟩, .string ((⟨#[99, 104]⟩ : ByteArray) ++ D), .int .i64 d, .int .i64 u] (Mx.wanted_none rfl) ?_ ?_
        · go_simp
        refine (bo_rch HBD.out ⟨#[116]⟩ ((⟨#[99, 104]⟩ : ByteArray) ++ D) d u (by decide) HSZ.out (by have := HCL.out; omega)).mono ?_
        rintro e w5 ⟨rfl, hb5⟩
        have HB5 := hidC hb5
        clear hb5
        refine ⟨_, rfl, HB5.out.i.below, ?_⟩
        simp only [Act.put, List.setIfInBounds_toArray, List.set_cons_zero, List.set_cons_succ]
        refine Mx.m_nil ?_
        intro _
        go_wp2_with fail
        go_roundw
        case rel => exact ⟨i + 1, _, by go_num, by omega, by omega, HB5.out, chN_vals _ _ _ _ HVL.out, chN_chs _ _ _ _ HCH.out, by rw [chN_F]; exact HFL.out, Nat.le_trans (chN_len _ _ _ _ _) (by have := HCL.out; omega)⟩
        case measure => simp [intOf] <;> omega
    · rcases (by omega : ((i : Int) < (cl : Int) ∧ ¬ (i : Int) < 4) ∨ ¬ (i : Int) < (cl : Int)) with ⟨h1, h3⟩ | h1
      all_goals
        clear hlt
        go_wp2_with fail
        go_ret2
        exact ⟨p, f, c, r, rfl, r, K, HBO.out, HVL.out, HCH.out, HFL.out, Nat.le_trans HCL.out hi4⟩

end Go.Proofs.Ytngjlkdpplmpaaa.Ca
namespace Go.Proofs.Ytngjlkdpplmpaaa
open Go.RowKit
set_option linter.unusedVariables false

theorem plainC_nodes (c : C) : (plainC c).nodes = c.nodes := by
  induction c with
  | scale o c ih => have := plain_nodes o; simp only [plainC, T.nodes, nodesL, C.nodes] at *; simp; omega
  | iff o l r h1 h2 => have := plain_nodes o; simp only [plainC, T.nodes, nodesL, C.nodes] at *; simp; omega
  | _ => simp_all [plainC, T.nodes, nodesL, C.nodes] <;> omega
theorem plainC_depth (c : C) : (plainC c).depth = c.depth := by
  induction c with
  | scale o c ih => have := plain_depth o; simp only [plainC, T.depth, depthL, C.depth] at *; simp; omega
  | iff o l r h1 h2 => have := plain_depth o; simp only [plainC, T.depth, depthL, C.depth] at *; simp; omega
  | _ => simp_all [plainC, T.depth, depthL, C.depth] <;> omega
theorem plainC_labs (c : C) : (plainC c).labs = c.labels := by
  induction c <;> simp_all [plainC, T.labs, labsL, C.labels, plain_labs]
theorem plainC_cnt (c : C) : (plainC c).cnt ≤ 3 * c.weight := by
  induction c with
  | scale o c ih => have := plain_cnt o; simp only [plainC, T.cnt, cntL, C.weight] at *; omega
  | iff o l r h1 h2 => have := plain_cnt o; simp only [plainC, T.cnt, cntL, C.weight] at *; omega
  | _ => simp only [plainC, T.cnt, cntL, C.weight] at * <;> omega
theorem plainC_sized (c : C) (h : c.Ok) : (plainC c).Sized := by
  have he : (⟨#[]⟩ : ByteArray).size ≤ 2147483648 := by decide
  induction c with
  | zero => simp only [plainC, T.Sized, SizedL]; exact ⟨he, trivial⟩
  | one s => simp only [plainC, T.Sized, SizedL]; exact ⟨h, trivial⟩
  | odd v => simp only [plainC, T.Sized, SizedL]; exact ⟨he, trivial⟩
  | give c h1 => simp only [plainC, T.Sized, SizedL]; exact ⟨he, h1 h, trivial⟩
  | and l r h1 h2 => simp only [plainC, T.Sized, SizedL]; exact ⟨he, h1 h.1, h2 h.2, trivial⟩
  | or s l r h1 h2 => simp only [plainC, T.Sized, SizedL]; exact ⟨h.1, h1 h.2.1, h2 h.2.2, trivial⟩
  | scale o c h1 => simp only [plainC, T.Sized, SizedL]; exact ⟨he, plain_sized o h.1, h1 h.2, trivial⟩
  | when d c h1 => simp only [plainC, T.Sized, SizedL]; exact ⟨he, h1 h.2, trivial⟩
  | iff o l r h1 h2 => simp only [plainC, T.Sized, SizedL]; exact ⟨he, plain_sized o h.1, h1 h.2.1, h2 h.2.2, trivial⟩
theorem plainC_form (c : C) : formT (plainC c) false = formC c := by
  induction c <;> simp_all [plainC, formT, formTL, headOk, partB, formC, plain_form, Bool.and_assoc]
theorem plainC_chk (c : C) : chkT (plainC c) false = chkC c := by
  unfold chkT chkC
  rw [plainC_form, plainC_nodes, plainC_depth, plainC_labs]
theorem refCheckC_any (c : C) (hok : c.Ok) (hw : c.weight ≤ 300000) (w : World) (v : Value) (B : Nat) (ht : TIn w B (plainC c) v) : Calls Try.prog 38 #[v, .bool false] w fun e w' => e = .returned (.int .i64 (chkC c)) ∧ Below w.heap.size w w' := by
  have h := refCheck_any (plainC c) (plainC_sized c hok) (by have := plainC_cnt c; omega) (by rw [plainC_nodes]; have := weight_nodes c; omega) false w v (ht.low (Nat.zero_le _))
  rw [plainC_chk] at h
  exact h
/-- The right contract of a plan. -/
def rightP (p : Pl) : C := if chkC (conP p) = 0 then conP p else .one ⟨#[117, 115, 100]⟩
theorem rightP_whole (p : Pl) : (rightP p).whole := by
  unfold rightP
  split
  · exact conP_whole p
  · show (⟨#[117, 115, 100]⟩ : ByteArray).size ≤ _
    decide
theorem rightP_weight (p : Pl) : (rightP p).weight ≤ 630 := by
  unfold rightP
  split
  · exact conP_weight p
  · simp [C.weight]

set_option maxHeartbeats 1000000 in
set_option maxRecDepth 100000 in
theorem right_any (p : Pl) (w : World) (h : PlanIn w p) : Calls Try.prog 21 #[planV p] w fun e w' => ∃ v, e = .returned v ∧ TIn w' w.heap.size (plainC (rightP p)) v ∧ Below w.heap.size w w' := by
  unfold planV
  have HP := hidIn h
  have HOK := hidIn (cwhole_ok _ (conP_whole p))
  have HWT := hidIn (conP_weight p)
  have HRP : Hid (rightP p = if chkC (conP p) = 0 then conP p else .one ⟨#[117, 115, 100]⟩) := rfl
  clear h
  go_enter Try.func21, Try.ntmps21
  go_wp2_with fail
  obtain ⟨W, hW⟩ : ∃ W, W = (w.alloc (.cells #[.slice p.na p.nl p.nc, .slice p.wa p.wl p.wc] 69)).alloc (.cells #[.int .i64 0, .string ⟨#[]⟩, .int .i64 0, .slice none 0 0] 72) := ⟨_, rfl⟩
  have hWs : W.heap.size = w.heap.size + 2 := by rw [hW]; simp
  have HB : Hid (Below w.heap.size w W) := by rw [hW]; exact below_alloc (below_alloc (Below.refl _ _) _) _
  have HZ : Hid (Blk W (w.heap.size + 1) 72 zeroT) := by rw [hW]; exact blk_new (by simp)
  have HPW := hidIn (HP.out.below HB.out)
  have HWS := hidIn hWs
  rw [← hW]
  clear hW hWs
  refine (contract_any p W HPW.out).mono ?_
  rintro e w1 ⟨v, rfl, ht1, hb1⟩
  have ht1' := ht1
  obtain ⟨ka, kc, rfl, _, _, _⟩ := ht1'
  have HT1 := hidIn ht1
  have HB1 := hidIn hb1
  clear ht1 hb1
  generalize hC : conP p = c at *
  clear hC
  go_wp2_with fail
  obtain ⟨w2, hw2⟩ : ∃ w2, w2 = w1.alloc (.cells (four (plainC c) ka kc) 72) := ⟨_, rfl⟩
  have HB2 : Hid (Below W.heap.size W w2) := by rw [hw2]; exact below_alloc HB1.out _
  have HT2 : Hid (TIn w2 W.heap.size (plainC c) (.agg (four (plainC c) ka kc))) := by rw [hw2]; exact HT1.out.below (below_alloc (Below.refl _ _) _)
  have HK2 : Hid (Blk w2 w1.heap.size 72 (four (plainC c) ka kc)) := by rw [hw2]; exact blk_new rfl
  unfold four at hw2
  rw [← hw2]
  clear hw2 HT1
  refine (refCheckC_any c HOK.out (by have := HWT.out; omega) w2 _ _ HT2.out).mono ?_
  rintro e w3 ⟨rfl, hb3⟩
  have HB3 := hidIn (HB2.out.trans (hb3.mono HB2.out.size))
  have HT3 := hidIn (HT2.out.below hb3)
  have hk3 : Blk w3 w1.heap.size 72 (four (plainC c) ka kc) := HK2.out.below hb3 HK2.out.lt
  obtain ⟨q0, q1, q2, q3⟩ := four_cells hk3
  have HZ3 : Hid (Blk w3 (w.heap.size + 1) 72 zeroT) := HZ.out.below HB3.out HZ.out.lt
  obtain ⟨⟨z0, z1, z2, z3⟩, f0, f1, f2, f3⟩ := blk_zero HZ3.out
  have hne : ¬ w.heap.size + 1 = w1.heap.size := by have := HWS.out; have := HB1.out.size; omega
  have HBE : Hid (Below w.heap.size w w3) := HB.out.trans (HB3.out.mono HB.out.size)
  clear hb3 hk3 HK2 HT2
  by_cases h0 : chkC c = 0
  · have h0' : (chkC c == 0) = true := by simp [h0]
    have HR : Hid (rightP p = c) := by unfold Hid; rw [HRP.out, if_pos h0]
    rw [h0]
    clear h0
    go_wp2_with fail
    refine bodyPost_ret (results_cell_row rfl _ _ (w.heap.size + 1) 72 #[.int .i64 (plainC c).kind, .string (plainC c).s, .int .i64 (plainC c).n, .slice ka (plainC c).k.length kc] (0, 0) _ rfl (set4_blk HZ3.out _ _ _ _) Try.underlying72 rfl infoT) rfl ?_
    refine ⟨_, rfl, ?_, (((HBE.out.setCell (Nat.le_succ _) _).setCell (Nat.le_succ _) _).setCell (Nat.le_succ _) _).setCell (Nat.le_succ _) _⟩
    rw [HR.out]
    exact (HT3.out.set4 (R := w.heap.size + 1) (by have := HWS.out; omega) _ _ _ _).low (by have := HWS.out; omega)
  · have h0' : (chkC c == 0) = false := by rw [beq_eq_false_iff_ne]; exact h0
    have HR : Hid (rightP p = .one ⟨#[117, 115, 100]⟩) := by unfold Hid; rw [HRP.out, if_neg h0]
    go_wp2_with fail
    refine bodyPost_ret (results_cell_row rfl _ _ (w.heap.size + 1) 72 #[.int .i64 2, .string ⟨#[117, 115, 100]⟩, .int .i64 0, .slice none 0 0] (0, 0) _ rfl (set4_blk HZ3.out _ _ _ _) Try.underlying72 rfl infoT) rfl ?_
    refine ⟨_, rfl, ?_, (((HBE.out.setCell (Nat.le_succ _) _).setCell (Nat.le_succ _) _).setCell (Nat.le_succ _) _).setCell (Nat.le_succ _) _⟩
    rw [HR.out]
    exact tin_leaf _ _ _ _ _

end Go.Proofs.Ytngjlkdpplmpaaa
namespace Go.Proofs.Ytngjlkdpplmpaaa.Ca
open Go.RowKit Wd Cn Vl
set_option linter.unusedVariables false

theorem rightP_chk (p : Pl) : chkC (rightP p) = 0 := by
  unfold rightP
  split
  · assumption
  · rfl
theorem right_made {p : Pl} {W X : World} (hP : PlanIn W p) (hX : Below W.heap.size W X) : Calls Try.prog 21 #[.agg #[.slice p.na p.nl p.nc, .slice p.wa p.wl p.wc]] X (fun e w' => ∃ v, e = .returned v ∧ Below X.heap.size X w' ∧ TIn w' 0 (plainC (rightP p)) v) := by
  have h := right_any p X (hP.below hX)
  unfold planV at h
  exact h.mono fun e w' ⟨v, h1, h2, h3⟩ => ⟨v, h1, h3, h2.low (Nat.zero_le _)⟩
theorem right_term {p : Pl} {X : World} {v : Value} (ht : TIn X 0 (plainC (rightP p)) v) : Calls Try.prog 20 #[v] X (fun e w' => e = .returned (rightP p).val ∧ Below X.heap.size X w') :=
  termP_any (rightP p) (rightP_whole p) X v 0 ht
theorem rightP_ok (p : Pl) : (rightP p).Ok := cwhole_ok _ (rightP_whole p)
/-- What is known of an answer. -/
theorem ofK_at {K : KW} {id : ByteArray} {c : C} {d : Int} (hc : chkC c = 0) (h1 : 0 ≤ d) (h2 : d ≤ 10000) : ofK K id c d = if (ck K id c d 1).e = 0 then ⟨(ck K id c d 1).f, addW [] (ck K id c d 1).w, 0⟩ else ⟨[], [], (ck K id c d 1).e⟩ := by
  unfold ofK
  rw [if_pos ⟨hc, h1, h2⟩]
theorem ofK_e {K : KW} {id : ByteArray} {c : C} {d : Int} (hc : chkC c = 0) (h1 : 0 ≤ d) (h2 : d ≤ 10000) : (ofK K id c d).e = (ck K id c d 1).e := by
  rw [ofK_at hc h1 h2]
  split
  · rename_i h; exact h.symm
  · rfl
theorem ofK_errs {K : KW} (hK : KW.Vals K) {id : ByteArray} {c : C} {d : Int} (hc : chkC c = 0) (h1 : 0 ≤ d) (h2 : d ≤ 10000) : (ofK K id c d).e = 0 ∨ (ofK K id c d).e = 6 := by
  rw [ofK_e hc h1 h2]
  exact ck_errs K hK id c (chkC_ok hc).1 d 1
theorem ofK_fl {K : KW} (hC : KW.Chs K) {id : ByteArray} {c : C} {d : Int} (hc : chkC c = 0) (h1 : 0 ≤ d) (h2 : d ≤ 10000) : ∀ x ∈ (ofK K id c d).f, x.In d := by
  rw [ofK_at hc h1 h2]
  split
  · exact ck_flows K hC id c (chkC_ok hc).1 d 1 h2 (by decide) (by rfl)
  · intro x hx; cases hx
theorem ofK_wt {K : KW} (hC : KW.Chs K) {id : ByteArray} {c : C} (hok : c.Ok) {d : Int} (hc : chkC c = 0) (h1 : 0 ≤ d) (h2 : d ≤ 10000) : ∀ y ∈ (ofK K id c d).w, y.In K id c.labels d := by
  rw [ofK_at hc h1 h2]
  split
  · intro y hy
    exact ck_waits K hC id c (chkC_ok hc).1 hok d 1 h2 y (((addW_mem _ [] y).1 hy).elim (fun h => by cases h) (fun h => h))
  · intro x hx; cases hx
theorem ofK_len' (K : KW) (id : ByteArray) (c : C) (d : Int) : (ofK K id c d).f.length ≤ c.weight ∧ (ofK K id c d).w.length ≤ c.weight := by
  have h := ck_len K id c d 1
  have h2 := addW_len (ck K id c d 1).w []
  unfold ofK
  split
  · split
    · simp at h2 ⊢; omega
    · simp
  · simp
theorem ofK_scale0 (K : KW) (id : ByteArray) (x : C) (d : Int) (hc : chkC (.scale (.const 0) x) = 0) (h1 : 0 ≤ d) (h2 : d ≤ 10000) : ofK K id (.scale (.const 0) x) d = ⟨[], [], 0⟩ := by
  rw [ofK_at hc h1 h2]
  rfl
theorem ofK_turned {K : KW} (hK : KW.Vals K) (id : ByteArray) (x t : C) (d n : Int) (hn : n ≠ 0) (hx : chkC x = 0) (ht : chkC t = 0) (h1 : 0 ≤ d) (h2 : d ≤ 10000) (he : ck K id t d 1 = ck K id x d n) (h0 : (ofK K id t d).e = 0) :
    (ofK K id x d).e = 0 ∧ (ofK K id t d).f = (ofK K id x d).f.map (Fl.times n) ∧ (ofK K id t d).w = (ofK K id x d).w.map (Wt.turn n) := by
  rw [ofK_e ht h1 h2, he] at h0
  have hh := ck_times K hK id n hn x (chkC_ok hx).1 d 1 (by decide) (by rw [Int.mul_one]; exact h0)
  rw [Int.mul_one] at hh
  obtain ⟨g1, g2, g3⟩ := hh
  rw [ofK_e hx h1 h2, ofK_at hx h1 h2, ofK_at ht h1 h2, he, if_pos h0, if_pos g1]
  exact ⟨g1, g2, by rw [g3]; exact addW_turn n _ []⟩
theorem scale_is (K : KW) (id : ByteArray) (x : C) (d n : Int) (hn : n ≠ 0) (h1 : -4 ≤ n) (h2 : n ≤ 4) : ck K id (.scale (.const n) x) d 1 = ck K id x d n := by
  have vn : vB n = true := (vB_iff n).2 ⟨by omega, by omega⟩
  have hm : mulR 1 n = (n, true) := by rw [mulR_ok rfl vn (by rw [Int.one_mul]; exact vn), Int.one_mul]
  simp [ck, rk, hm, hn]

end Go.Proofs.Ytngjlkdpplmpaaa.Ca
namespace Go.Proofs.Ytngjlkdpplmpaaa.Ca
open Go.RowKit Wd Cn Vl
set_option linter.unusedVariables false

theorem labels_form (c : C) (h : formC c = true) : ∀ s ∈ c.labels, nameGo 0 (runesOf s) = true := by
  induction c with
  | zero => intro s hs; cases hs
  | one t => intro s hs; cases hs
  | odd v => intro s hs; cases hs
  | give c ih => exact ih h
  | when d c ih => simp only [formC, Bool.and_eq_true] at h; exact ih h.2
  | scale o c ih => simp only [formC, Bool.and_eq_true] at h; exact ih h.2
  | and l r hl hr =>
    simp only [formC, Bool.and_eq_true] at h
    intro s hs
    simp only [C.labels, List.mem_append] at hs
    exact hs.elim (hl h.1 s) (hr h.2 s)
  | or t l r hl hr =>
    simp only [formC, Bool.and_eq_true] at h
    intro s hs
    simp only [C.labels, List.mem_cons, List.mem_append] at hs
    rcases hs with rfl | hs | hs
    · exact h.1.1
    · exact hl h.1.2 s hs
    · exact hr h.2 s hs
  | iff o l r hl hr =>
    simp only [formC, Bool.and_eq_true] at h
    intro s hs
    simp only [C.labels, List.mem_append] at hs
    exact hs.elim (hl h.1.2 s) (hr h.2 s)
theorem extW_ch (K : KW) (s t : ByteArray) (q d : Int) : ExtW K (chN K s t q d) := by
  unfold chN
  split
  · refine ⟨fun p v h => h, fun p v h => ?_⟩
    unfold KW.chosen at h ⊢
    simp only [List.find?_append]
    cases hx : K.C.find? fun q => decide (q.1 = p) with
    | none => rw [hx] at h; cases h
    | some q => rw [hx] at h; simpa using h
  · exact ⟨fun p v h => h, fun p v h => h⟩
theorem extW_fix (K : KW) (s : ByteArray) (d v : Int) : ExtW K (fixN K s d v) := by
  refine ⟨ext_fixN K s d v, fun p u h => ?_⟩
  unfold KW.chosen at h ⊢
  rw [fixN_C]
  exact h
theorem fixN_chs {K : KW} (s : ByteArray) (d v : Int) (h : KW.Chs K) : KW.Chs (fixN K s d v) := by
  intro q hq
  rw [fixN_C] at hq
  exact h q hq
theorem fix_known {K : KW} {s : ByteArray} {d v : Int} (h : fixE K s d v = 0) (hn : K.fixed (s, d) = none) : (fixN K s d v).fixed (s, d) = some v := by
  unfold fixN
  rw [if_pos h]
  unfold KW.fixed at hn ⊢
  simp only [List.find?_append]
  cases hx : K.F.find? fun q => decide (q.1 = (s, d)) with
  | none => simp
  | some q => rw [hx] at hn; cases hn
theorem fix_err {K : KW} {id : ByteArray} {l : List ByteArray} {d : Int} {y : Wt} (h : y.In K id l d) (h1 : 0 ≤ d) (hc : y.ch = false) (v : Int) (hv : vB v = true) : fixE K y.name y.day v = 0 ∨ fixE K y.name y.day v = 5 := by
  obtain ⟨_, _, hn, _, hf⟩ := h.nm hc
  have hd : Wd.dayB y.day = true := (Wd.dayB_iff _).2 ⟨Int.le_trans h1 h.lo, h.hi⟩
  unfold fixE
  rw [hn, hd, hv, hf]
  simp only [Option.isSome_none, Bool.and_self]
  split
  · rename_i h; cases h
  · split
    · rename_i h; cases h
    · split
      · exact .inr rfl
      · exact .inl rfl
theorem ch_err {K : KW} {c : C} {d : Int} {y : Wt} (h : y.In K ⟨#[116]⟩ c.labels d) (hf : formC c = true) (h1 : 0 ≤ d) (hc : y.ch = true) (q : Int) (hq : q = 0 ∨ q = 1) : chE K ⟨#[116]⟩ y.label q y.day = 0 := by
  obtain ⟨_, hl, hn⟩ := h.ch hc
  have hd : Wd.dayB y.day = true := (Wd.dayB_iff _).2 ⟨Int.le_trans h1 h.lo, h.hi⟩
  unfold chE
  rw [show nameGo 0 (runesOf ⟨#[116]⟩) = true by rfl, labels_form c hf _ hl, hd, (pickB_iff q).2 hq, hn]
  rfl
theorem metN_snoc (a l : List Fl) (x : Fl) (k : Nat) : metN a (l ++ [x]) k = if a[metN a l k]? = some x then metN a l k + 1 else metN a l k := by
  unfold metN
  rw [List.foldl_append]
  rfl
theorem metN_le (a : List Fl) : ∀ (l : List Fl) (k : Nat), k ≤ a.length → metN a l k ≤ a.length := by
  intro l
  induction l with
  | nil => intro k h; exact h
  | cons x l ih =>
    intro k h
    refine ih _ ?_
    show (if a[k]? = some x then k + 1 else k) ≤ a.length
    split
    · rename_i h1
      have := (List.getElem?_eq_some_iff.1 h1).1
      omega
    · exact h
theorem grows_met {K K' : KW} (hK : KW.Vals K) (hx : ExtW K K') (id : ByteArray) {c : C} {d : Int} (hc : chkC c = 0) (h1 : 0 ≤ d) (h2 : d ≤ 10000) (e1 : (ofK K id c d).e = 0) (e2 : (ofK K' id c d).e = 0) : metN (ofK K id c d).f (ofK K' id c d).f 0 = (ofK K id c d).f.length := by
  rw [ofK_e hc h1 h2] at e1 e2
  rw [ofK_at hc h1 h2, ofK_at hc h1 h2, if_pos e1, if_pos e2]
  exact met_all _ _ 0 (Nat.zero_le _) (ck_grows K K' hK hx id c (chkC_ok hc).1 d 1 e1 e2)
theorem gone_wait {K' : KW} (hC : KW.Chs K') {id : ByteArray} {c : C} (hok : c.Ok) {d : Int} (hc : chkC c = 0) (h1 : 0 ≤ d) (h2 : d ≤ 10000) {y : Wt} (hn : y.ch = false → K'.fixed (y.name, y.day) ≠ none) : ∀ z ∈ (ofK K' id c d).w, z = y → y.ch = true := by
  intro z hz he
  subst he
  cases hc2 : z.ch
  · exact absurd ((ofK_wt hC hok hc h1 h2 z hz).nm hc2).2.2.2.2 (hn hc2)
  · rfl

end Go.Proofs.Ytngjlkdpplmpaaa.Ca
namespace Go.Proofs.Ytngjlkdpplmpaaa.Ca
open Go.RowKit Wd Cn Vl
set_option linter.unusedVariables false

set_option maxHeartbeats 8000000 in
set_option maxRecDepth 100000 in
theorem grows_walk (pl : Pl) (la : Option Addr) (ll lc : Nat) (lf : Nat → Int) (ca : Option Addr) (cl cc : Nat) (cf : Nat → Int) (day val : Int) (w : World) (hp : PlanIn w pl) (hl : HasInts w la ll lf) (hll : ll ≤ 9223372036854775807) (hc : HasInts w ca cl cf) (hcl : cl ≤ 9223372036854775807) (hd1 : -9223372036854775808 ≤ day) (hd2 : day ≤ 9223372036854775807) (hn1 : -9223372036854775808 ≤ val) (hn2 : val ≤ 9223372036854775807) :
    Calls Try.prog 8 #[planV pl, .slice la ll lc, .slice ca cl cc, .int .i64 day, .int .i64 val] w fun e w' => e = .returned (.bool true) ∧ Below w.heap.size w w' := by
  have HWD := hidC (fun w : World => within_any day 5 w (by omega) (by omega) hd1 hd2)
  have HWV := hidC (fun (m : Int) (h1 : 1 ≤ m) (h2 : m ≤ 1000) (w : World) => within_any val m w h1 (by omega) hn1 hn2)
  obtain ⟨d, hd⟩ : ∃ d, day % 5 = d := ⟨_, rfl⟩
  have hdd1 : 0 ≤ d := by omega
  have hdd2 : d < 5 := by omega
  rw [hd] at HWD
  clear hd hn1 hn2 hd1 hd2
  have HP := hidC hp
  have HL := hidC hl
  have HCI := hidC hc
  clear hp hl hc
  unfold planV
  go_enter Try.func8, Try.ntmps8
  go_wp2_with fail
  have HB0 := hidC (below_alloc (Below.refl w.heap.size w) (.cells #[.slice pl.na pl.nl pl.nc, .slice pl.wa pl.wl pl.wc] 69))
  refine (right_made HP.out HB0.out).mono ?_
  rintro e w1 ⟨tv, rfl, hb1, ht⟩
  have HT := hidC ht
  have HB1 := hidC (HB0.out.trans (hb1.mono HB0.out.size))
  clear hb1 ht
  go_wp2_with fail
  refine (right_term HT.out).mono ?_
  rintro e w2 ⟨rfl, hb2⟩
  have HB2 := hidC (HB1.out.trans (hb2.mono HB1.out.size))
  have HLI := hidC (ints_below HL.out HB2.out)
  have HCI2 := hidC (ints_below HCI.out HB2.out)
  clear hb2 HP HL HCI
  obtain ⟨c, hcx⟩ : ∃ c, rightP pl = c := ⟨_, rfl⟩
  have HCHK : Hid (chkC c = 0) := by rw [← hcx]; exact rightP_chk pl
  have HOK : Hid c.Ok := by rw [← hcx]; exact rightP_ok pl
  obtain ⟨tc, xc, hval⟩ := form_val c (chkC_ok HCHK.out).1
  have HWT : Hid (c.weight ≤ 60) := by unfold Hid; rw [form_weight c (chkC_ok HCHK.out).1]; exact (chkC_ok HCHK.out).2.1
  have HVAL := hidC hval
  rw [hcx, hval]
  clear hcx hval HT
  go_wp2_with fail
  refine (known10_any la ll lc lf ca cl cc cf w2 HLI.out hll HCI2.out hcl).mono ?_
  rintro e w4 ⟨p, f, q, r, rfl, B, K, hb4, hvals, hchs, hfl, hcln⟩
  have HE := hidC (show Env w4 p f q K ⟨#[116]⟩ from ⟨hb4.i.kin, hvals, hchs, by decide⟩)
  have HW4 := hidC (HB2.out.trans (hb4.i.below.mono HB2.out.size))
  clear hb4 hvals hchs hfl hcln HLI HCI2
  have HCA := hidC (cash_at c HOK.out (by have := HWT.out; omega) w4 p f q K ⟨#[116]⟩ HE.out d ⟨by omega, by omega⟩ _ rfl)
  rw [HVAL.out] at HCA
  go_wp2_with fail
  refine calls_same (HWD.out _) ?_
  go_wp2_with fail
  refine HCA.out.mono ?_
  rintro e w6 ⟨ao, cap, bo, cap2, rfl, hA, hB, hb6⟩
  have HAF := hidC hA
  have HAW := hidC hB
  have HB6 := hidC hb6
  have HE6 := hidC (HE.out.below hb6)
  have HW6 := hidC (HW4.out.trans (hb6.mono HW4.out.size))
  clear hA hB hb6 HCA
  have HMET := hidC (fun (K' : KW) (hx : ExtW K K') (e1 : (ofK K ⟨#[116]⟩ c d).e = 0) (e2 : (ofK K' ⟨#[116]⟩ c d).e = 0) => grows_met HE.out.vals hx ⟨#[116]⟩ HCHK.out hdd1 (show d ≤ 10000 by omega) e1 e2)
  have HWTA := hidC (ofK_wt HE.out.chs (id := ⟨#[116]⟩) HOK.out HCHK.out hdd1 (show d ≤ 10000 by omega))
  have HLENA := hidC (ofK_len' K ⟨#[116]⟩ c d)
  generalize ofK K ⟨#[116]⟩ c d = A at *
  obtain ⟨af, aw, ae⟩ := A
  simp only at HMET HWTA HLENA HAF HAW ⊢
  have hla : af.length ≤ 60 := by have := HLENA.out.1; have := HWT.out; omega
  have hlw : aw.length ≤ 60 := by have := HLENA.out.2; have := HWT.out; omega
  by_cases hea : ae = 0
  rotate_left
  · have hea' : (ae != 0) = true := by simpa using hea
    clear hea
    go_wp2_with fail
    refine (wakes10_any w6).mono ?_
    rintro e w8 ⟨rfl, hb8⟩
    have HEND := hidC (HW6.out.trans (hb8.mono HW6.out.size))
    clear hb8
    go_wp2_with fail
    go_ret
    exact ⟨rfl, HEND.out⟩
  subst hea
  by_cases hl0 : aw.length = 0
  · have hl0' : ((aw.length : Int) == 0) = true := by simp [hl0]
    clear hl0
    go_wp2_with fail
    refine (wakes10_any w6).mono ?_
    rintro e w8 ⟨rfl, hb8⟩
    have HEND := hidC (HW6.out.trans (hb8.mono HW6.out.size))
    clear hb8
    go_wp2_with fail
    go_ret
    exact ⟨rfl, HEND.out⟩
  have hl0' : ((aw.length : Int) == 0) = false := beq_eq_false_iff_ne.2 (by omega)
  have hlp : 1 ≤ aw.length := by omega
  obtain ⟨j, hj⟩ : ∃ j : Nat, val % (aw.length : Int) = j := ⟨(val % (aw.length : Int)).toNat, (Int.toNat_of_nonneg (Int.emod_nonneg val (show (aw.length : Int) ≠ 0 by omega))).symm⟩
  have hjl : j < aw.length := by have := Int.emod_lt_of_pos val (show (0 : Int) < (aw.length : Int) by omega); rw [hj] at this; omega
  have hjl' : (j : Int) < (aw.length : Int) := by omega
  have HWJ := hidC (fun w : World => HWV.out (aw.length : Int) (by omega) (by omega) w)
  rw [hj] at HWJ
  obtain ⟨y, hy⟩ : ∃ y, aw[j]? = some y := ⟨_, List.getElem?_eq_getElem hjl⟩
  have HYI := hidC (HWTA.out y (List.mem_of_getElem? hy))
  clear hj hl0
  go_wp2_with fail
  refine (clone_any w6 p f q K HE6.out.kin).mono ?_
  rintro e w7 ⟨cb, rfl, cf', cq, hk7, hcb, hcf, hcq, hb7⟩
  have HK7 := hidC hk7
  have HB7 := hidC hb7
  have HLE := hidC (And.intro hcb (And.intro hcf hcq))
  obtain ⟨g, rfl, hg, d0, d1, d2, d3, d4⟩ := (HAW.out.below hb7) j y hy
  clear hk7 hb7 hcb hcf hcq hy
  obtain ⟨yc, yn, yl, yd, ys⟩ := y
  simp only at d0 d1 d2 d3 d4
  cases yc
  · have HYI2 := hidC HYI.out
    obtain ⟨qv, hqv⟩ : ∃ qv, val % 20 = qv := ⟨_, rfl⟩
    have hqv1 : 0 ≤ qv := by omega
    have hqv2 : qv < 20 := by omega
    have HWQ := hidC (fun w : World => HWV.out 20 (by omega) (by omega) w)
    rw [hqv] at HWQ
    have hyd1 : 0 ≤ yd := Int.le_trans hdd1 HYI.out.lo
    have hyd2 : yd ≤ 10000 := HYI.out.hi
    have HVB : Hid (vB (qv - 5) = true) := (vB_iff _).2 ⟨by omega, by omega⟩
    obtain ⟨fe, hfe⟩ : ∃ fe, fixE K yn yd (qv - 5) = fe := ⟨_, rfl⟩
    have HFE := hidC hfe
    have HF05 : Hid (fe = 0 ∨ fe = 5) := by rw [← hfe]; exact fix_err HYI.out hdd1 rfl _ HVB.out
    clear hqv hfe
    go_wp2_with fail
    refine calls_same (HWJ.out _) ?_
    go_wp2_with fail
    have HKV := hidC (HK7.out.below (below_alloc (Below.refl w7.heap.size w7) (.cells #[.bool false, .string yn, .string yl, .int .i64 yd, .int .i64 ys] 43)))
    have HYV := hidC (heap_alloc_new w7 (.cells #[.bool false, .string yn, .string yl, .int .i64 yd, .int .i64 ys] 43))
    have HBV := hidC (HB7.out.trans ((below_alloc (Below.refl w7.heap.size w7) (.cells #[.bool false, .string yn, .string yl, .int .i64 yd, .int .i64 ys] 43)).mono HB7.out.size))
    clear d0 d1 d2 d3 d4 hg
    generalize w7.alloc (.cells #[.bool false, .string yn, .string yl, .int .i64 yd, .int .i64 ys] 43) = V at *
    have HNE : Hid (w7.heap.size ≠ cf' ∧ w7.heap.size ≠ cq) := by
      obtain ⟨es, cl, hm, _⟩ := HKV.out.fix
      obtain ⟨es2, cl2, hm2, _⟩ := HKV.out.ch
      constructor
      · rintro rfl
        have := HYV.out
        rw [hm] at this
        cases this
      · rintro rfl
        have := HYV.out
        rw [hm2] at this
        cases this
    have HFC : Hid (∀ w' : World, w'.heap[w7.heap.size]? = some (.cells #[.bool false, .string yn, .string yl, .int .i64 yd, .int .i64 ys] 43) → w'.cell? ⟨w7.heap.size, 0, none⟩ = some (.bool false) ∧ w'.cell? ⟨w7.heap.size, 1, none⟩ = some (.string yn) ∧ w'.cell? ⟨w7.heap.size, 2, none⟩ = some (.string yl) ∧ w'.cell? ⟨w7.heap.size, 3, none⟩ = some (.int .i64 yd) ∧ w'.cell? ⟨w7.heap.size, 4, none⟩ = some (.int .i64 ys)) := fun w' hw' =>
      ⟨cell_of_row _ _ 0 _ _ _ hw', cell_of_row _ _ 1 _ _ _ hw', cell_of_row _ _ 2 _ _ _ hw', cell_of_row _ _ 3 _ _ _ hw', cell_of_row _ _ 4 _ _ _ hw'⟩
    have HSZ : Hid (yn.size ≤ maxLen ∧ yl.size ≤ maxLen) := by
      obtain ⟨h1, _, _, h2, _⟩ := HYI.out.nm rfl
      simp only at h1 h2
      exact ⟨Nat.le_trans h2 (by decide), by rw [h1]; decide⟩
    have HBD := hidC HYV.out
    refine Mx.wp_region_mix (fun w' => w'.heap[w7.heap.size]? = some (.cells #[.bool false, .string yn, .string yl, .int .i64 yd, .int .i64 ys] 43)) [(0, false), (1, false), (2, false), (3, false), (4, false), (5, false), (6, true), (7, false), (8, true), (9, false)] (by kernel_rfl) (by kernel_rfl) HBD.out ?_ (by kernel_rfl)
    simp only [List.map_cons, List.map_nil, List.getD_cons_zero, List.getD_cons_succ]
    generalize hops : (#[_, _, _, _, _, _, _, _, _, _] : Array Oper) = ops
    clear hops
    refine Mx.m_pure (.pointer (some ⟨cb, 0, none⟩)) (Mx.wanted_none rfl) (fun w' hw' => ?_) ?_
    · go_simp
    simp only [Act.put, List.setIfInBounds_toArray, List.set_cons_zero, List.set_cons_succ]
    refine Mx.m_pure (.pointer (some ⟨w7.heap.size, 1, none⟩)) (Mx.wanted_none rfl) (fun w' hw' => ?_) ?_
    · go_simp
    simp only [Act.put, List.setIfInBounds_toArray, List.set_cons_zero, List.set_cons_succ]
    refine Mx.m_pure (.string yn) (Mx.wanted_none rfl) (fun w' hw' => ?_) ?_
    · obtain ⟨q0, q1, q2, q3, q4⟩ := HFC.out w' hw'
      go_simp
    simp only [Act.put, List.setIfInBounds_toArray, List.set_cons_zero, List.set_cons_succ]
    refine Mx.m_pure (.pointer (some ⟨w7.heap.size, 3, none⟩)) (Mx.wanted_none rfl) (fun w' hw' => ?_) ?_
    · go_simp
    simp only [Act.put, List.setIfInBounds_toArray, List.set_cons_zero, List.set_cons_succ]
    refine Mx.m_pure (.int .i64 yd) (Mx.wanted_none rfl) (fun w' hw' => ?_) ?_
    · obtain ⟨q0, q1, q2, q3, q4⟩ := HFC.out w' hw'
      go_simp
    simp only [Act.put, List.setIfInBounds_toArray, List.set_cons_zero, List.set_cons_succ]
    refine Mx.m_pure (.int .i64 val) (Mx.wanted_none rfl) (fun w' hw' => ?_) ?_
    · go_simp
    simp only [Act.put, List.setIfInBounds_toArray, List.set_cons_zero, List.set_cons_succ]
    refine Mx.m_call 9 #[.int .i64 val, .int .i64 20] (Mx.wanted_none rfl) ?_ ?_
    · go_simp
    refine (HWQ.out _).mono ?_
    rintro e1 w9 ⟨rfl, rfl⟩
    refine ⟨_, rfl, HBD.out, ?_⟩
    simp only [Act.put, List.setIfInBounds_toArray, List.set_cons_zero, List.set_cons_succ]
    refine Mx.m_pure (.int .i64 (qv - 5)) (Mx.wanted_none rfl) (fun w' hw' => ?_) ?_
    · go_simp
      exact wrap_small _ (by omega) (by omega)
    simp only [Act.put, List.setIfInBounds_toArray, List.set_cons_zero, List.set_cons_succ]
    refine Mx.m_call 15 #[.pointer (some ⟨cb, 0, none⟩), .string yn, .int .i64 yd, .int .i64 (qv - 5)] (Mx.wanted_none rfl) ?_ ?_
    · go_simp
    refine (fix_any _ cb cf' cq K HKV.out.drew yn yd (qv - 5) ⟨HSZ.out.1, by omega, by omega⟩).mono ?_
    rintro e w9 ⟨rfl, hk9, hg9⟩
    have HK9 := hidC hk9
    have HY9 : Hid (w9.heap[w7.heap.size]? = some (.cells #[.bool false, .string yn, .string yl, .int .i64 yd, .int .i64 ys] 43)) := (hg9.block _ (Array.getElem?_eq_some_iff.1 HYV.out).1 HNE.out.1).trans HYV.out
    have HG9 : Hid (Below w6.heap.size w6 w9) := HBV.out.drew.trans (Gr.below hg9 (show w6.heap.size ≤ V.drew.heap.size from HBV.out.size) HLE.out.2.1)
    refine ⟨_, rfl, HY9.out, ?_⟩
    clear hk9 hg9
    rw [HFE.out]
    simp only [Act.put, List.setIfInBounds_toArray, List.set_cons_zero, List.set_cons_succ]
    refine Mx.m_pure (.int .i64 fe) (Mx.wanted_none rfl) (fun w' hw' => ?_) ?_
    · go_simp
    simp only [Act.put, List.setIfInBounds_toArray, List.set_cons_zero, List.set_cons_succ]
    refine Mx.m_nil ?_
    intro _
    rcases HF05.out with rfl | rfl
    rotate_left
    · go_wp2_with fail
      refine (wakes10_any w9).mono ?_
      rintro e w8 ⟨rfl, hb8⟩
      have HEND := hidC ((HW6.out.trans (HG9.out.mono HW6.out.size)).trans (hb8.mono (Nat.le_trans HW6.out.size HG9.out.size)))
      clear hb8
      go_wp2_with fail
      go_ret
      exact ⟨rfl, HEND.out⟩
    have HE9 := hidC (show Env w9 cb cf' cq (fixN K yn yd (qv - 5)) ⟨#[116]⟩ from ⟨HK9.out, fixN_vals _ _ _ _ HE.out.vals, fixN_chs _ _ _ HE.out.chs, by decide⟩)
    have HCB := hidC (cash_at c HOK.out (by have := HWT.out; omega) w9 cb cf' cq (fixN K yn yd (qv - 5)) ⟨#[116]⟩ HE9.out d ⟨by omega, by omega⟩ _ rfl)
    rw [HVAL.out] at HCB
    have HM2 := hidC (HMET.out (fixN K yn yd (qv - 5)) (extW_fix K _ _ _) trivial)
    have HERR := hidC (ofK_errs HE9.out.vals (id := ⟨#[116]⟩) HCHK.out hdd1 (show d ≤ 10000 by omega))
    have HGO := hidC (gone_wait HE9.out.chs (id := ⟨#[116]⟩) HOK.out HCHK.out hdd1 (show d ≤ 10000 by omega) (y := ⟨false, yn, yl, yd, ys⟩) (fun _ => by rw [fix_known HFE.out (HYI.out.nm rfl).2.2.2.2]; simp))
    have HLB := hidC (ofK_len' (fixN K yn yd (qv - 5)) ⟨#[116]⟩ c d)
    have HAF9 := hidC (HAF.out.below HG9.out)
    clear HE9 HK9 HMET HWTA HAF HAW
    go_wp2_with fail
    refine HCB.out.mono ?_
    rintro e w10 ⟨co, cap3, eo, cap4, rfl, hA, hB, hb10⟩
    have HBF := hidC hA
    have HBW := hidC hB
    have HAF10 := hidC (HAF9.out.below hb10)
    have HW10 : Hid (Below w.heap.size w w10) := by
      have h := HW6.out.trans (HG9.out.mono HW6.out.size)
      exact h.trans (hb10.mono h.size)
    have HY10 : Hid (w10.heap[w7.heap.size]? = some (.cells #[.bool false, .string yn, .string yl, .int .i64 yd, .int .i64 ys] 43)) := (hb10.block _ (Array.getElem?_eq_some_iff.1 HY9.out).1).trans HY9.out
    clear hA hB hb10 HCB
    generalize ofK (fixN K yn yd (qv - 5)) ⟨#[116]⟩ c d = Bq at *
    obtain ⟨bf, bw, be⟩ := Bq
    simp only at HM2 HERR HGO HLB HBF HBW ⊢
    have hlb : bf.length ≤ 60 := by have := HLB.out.1; have := HWT.out; omega
    have hlbw : bw.length ≤ 60 := by have := HLB.out.2; have := HWT.out; omega
    rcases HERR.out with rfl | rfl
    rotate_left
    · go_wp2_with fail
      refine (wakes10_any w10).mono ?_
      rintro e w8 ⟨rfl, hb8⟩
      have HEND := hidC (HW10.out.trans (hb8.mono HW10.out.size))
      clear hb8
      go_wp2_with fail
      go_ret
      exact ⟨rfl, HEND.out⟩
    have HMM := hidC (HM2.out rfl)
    clear HM2 HERR HLB
    go_wp2_with fail
    go_loopw [110, 23] (fun s110 s23 wr => ∃ i k : Nat, i ≤ bf.length ∧ s110 = .int .i64 i ∧ s23 = .int .i64 k ∧ k ≤ af.length ∧ metN af (bf.take i) 0 = k ∧ Below w10.heap.size w10 wr) (fun s110 _ _ => bf.length - (intOf s110).toNat)
    case atStart => exact ⟨0, 0, by omega, rfl, rfl, by omega, rfl, Below.refl _ _⟩
    case round =>
      obtain ⟨i, k, hi, rfl, rfl, hka, hmk, hbr⟩ := hrel
      have HBR := hidC hbr
      have HMK := hidC hmk
      clear hbr hmk
      by_cases hlt : i < bf.length
      · have hlt' : (i : Int) < (bf.length : Int) := by omega
        obtain ⟨x, hx⟩ : ∃ x, bf[i]? = some x := ⟨_, List.getElem?_eq_getElem hlt⟩
        have HSN : Hid (metN af (bf.take (i + 1)) 0 = if af[k]? = some x then k + 1 else k) := by
          unfold Hid
          rw [take_more bf i x hx, metN_snoc, HMK.out]
        obtain ⟨g, rfl, hg, d0, d1, d2⟩ := (HBF.out.below HBR.out) i x hx
        obtain ⟨xd, xcu, xa⟩ := x
        simp only at d0 d1 d2
        clear hx hg
        by_cases hkl : k < af.length
        · have hkl' : (k : Int) < (af.length : Int) := by omega
          obtain ⟨z, hz⟩ : ∃ z, af[k]? = some z := ⟨_, List.getElem?_eq_getElem hkl⟩
          obtain ⟨g', rfl, hg', e0, e1, e2⟩ := (HAF10.out.below HBR.out) k z hz
          obtain ⟨zd, zc, za⟩ := z
          simp only at e0 e1 e2
          have HZ := hidC hz
          clear hz hg'
          by_cases he : xd = zd ∧ xcu = zc ∧ xa = za
          · obtain ⟨rfl, rfl, rfl⟩ := he
            have HSN2 : Hid (metN af (bf.take (i + 1)) 0 = k + 1) := by unfold Hid; rw [HSN.out, HZ.out, if_pos rfl]
            have q9 : (xcu.toList == xcu.toList) = true := beq_self_eq_true _
            clear HSN
            go_wp2_with fail
            go_region
            go_wp2_with fail
            all_goals go_roundw
            case rel => exact ⟨i + 1, k + 1, by omega, by go_num, by go_num, by omega, HSN2.out, HBR.out.drew⟩
            case measure => simp [intOf] <;> omega
          · have HSN2 : Hid (metN af (bf.take (i + 1)) 0 = k) := by
              unfold Hid
              rw [HSN.out, HZ.out, if_neg]
              intro e
              injection e with e
              injection e with a1 a2 a3
              exact he ⟨a1.symm, a2.symm, a3.symm⟩
            have ways : (xd == zd) = false ∨ (xd = zd ∧ (xcu.toList == zc.toList) = false) ∨ (xd = zd ∧ (xcu.toList == zc.toList) = true ∧ (xa == za) = false) := by
              by_cases g0 : xd = zd
              · by_cases g1 : xcu = zc
                · have g2 : xa ≠ za := fun g2 => he ⟨g0, g1, g2⟩
                  exact .inr (.inr ⟨g0, by rw [g1]; exact beq_self_eq_true _, by simpa using g2⟩)
                · exact .inr (.inl ⟨g0, beq_eq_false_iff_ne.2 fun e => g1 (bytes_inj e)⟩)
              · exact .inl (by simpa using g0)
            clear he HSN
            rcases ways with f0 | ⟨rfl, f1⟩ | ⟨rfl, f1, f2⟩
            all_goals
              go_wp2_with fail
              go_region
              go_wp2_with fail
              all_goals go_roundw
              case rel => exact ⟨i + 1, k, by omega, by go_num, rfl, by omega, HSN2.out, HBR.out.drew⟩
              case measure => simp [intOf] <;> omega
        · have HSN2 : Hid (metN af (bf.take (i + 1)) 0 = k) := by
            unfold Hid
            rw [HSN.out, List.getElem?_eq_none (by omega), if_neg (by simp)]
          have hkl2 : decide ((k : Int) < (af.length : Int)) = false := decide_eq_false (by omega)
          clear HSN
          go_wp2_with fail
          go_region
          go_wp2_with fail
          all_goals go_roundw
          case rel => exact ⟨i + 1, k, by omega, by go_num, rfl, by omega, HSN2.out, HBR.out.drew⟩
          case measure => simp [intOf] <;> omega
      · have hie : i = bf.length := by omega
        subst hie
        rw [List.take_length] at HMK
        have HKE : Hid (k = af.length) := HMK.out.symm.trans HMM.out
        have HYR : Hid (wr.heap[w7.heap.size]? = some (.cells #[.bool false, .string yn, .string yl, .int .i64 yd, .int .i64 ys] 43)) := (HBR.out.block _ (Array.getElem?_eq_some_iff.1 HY10.out).1).trans HY10.out
        have HWR := hidC (HW10.out.trans (HBR.out.mono HW10.out.size))
        have HBWR := hidC (HBW.out.below HBR.out)
        clear HMK HMM HAF10 HBF HBW HY10
        generalize hW0 : wr = W0 at *
        clear hW0
        go_wp2_with fail
        go_loopw [133] (fun s133 wr => ∃ i : Nat, i ≤ bw.length ∧ s133 = .int .i64 i ∧ Below W0.heap.size W0 wr) (fun s133 _ => bw.length - (intOf s133).toNat)
        case atStart => exact ⟨0, by omega, rfl, Below.refl _ _⟩
        case round =>
          obtain ⟨j2, hj2, rfl, hbz⟩ := hrel
          have HBZ := hidC hbz
          clear hbz
          by_cases hltj : j2 < bw.length
          · have hltj' : (j2 : Int) < (bw.length : Int) := by omega
            obtain ⟨z, hz⟩ : ∃ z, bw[j2]? = some z := ⟨_, List.getElem?_eq_getElem hltj⟩
            have HZG := hidC (HGO.out z (List.mem_of_getElem? hz))
            obtain ⟨g, rfl, hg, d0, d1, d2, d3, d4⟩ := (HBWR.out.below HBZ.out) j2 z hz
            have hyr := (HBZ.out.block _ (Array.getElem?_eq_some_iff.1 HYR.out).1).trans HYR.out
            obtain ⟨zc, zn, zl, zd, zs⟩ := z
            simp only at d0 d1 d2 d3 d4
            have b0 : wr.cell? ⟨w7.heap.size, 0, none⟩ = some (.bool false) := cell_of_row _ _ 0 _ _ _ hyr
            have b1 : wr.cell? ⟨w7.heap.size, 1, none⟩ = some (.string yn) := cell_of_row _ _ 1 _ _ _ hyr
            have b2 : wr.cell? ⟨w7.heap.size, 2, none⟩ = some (.string yl) := cell_of_row _ _ 2 _ _ _ hyr
            have b3 : wr.cell? ⟨w7.heap.size, 3, none⟩ = some (.int .i64 yd) := cell_of_row _ _ 3 _ _ _ hyr
            have b4 : wr.cell? ⟨w7.heap.size, 4, none⟩ = some (.int .i64 ys) := cell_of_row _ _ 4 _ _ _ hyr
            have hlt7 : w7.heap.size < wr.heap.size := (Array.getElem?_eq_some_iff.1 hyr).1
            clear hz hg hyr
            by_cases he : zc = false ∧ zn = yn ∧ zl = yl ∧ zd = yd ∧ zs = ys
            · obtain ⟨rfl, rfl, rfl, rfl, rfl⟩ := he
              exact absurd (HZG.out rfl) (by simp)
            · have ways : zc = !false ∨ (zc = false ∧ ¬ zn.toList = yn.toList) ∨ (zc = false ∧ zn = yn ∧ ¬ zl.toList = yl.toList) ∨ (zc = false ∧ zn = yn ∧ zl = yl ∧ ¬ zd = yd) ∨ (zc = false ∧ zn = yn ∧ zl = yl ∧ zd = yd ∧ ¬ zs = ys) := by
                by_cases g0 : zc = false
                · by_cases g1 : zn = yn
                  · by_cases g2 : zl = yl
                    · by_cases g3 : zd = yd
                      · exact .inr (.inr (.inr (.inr ⟨g0, g1, g2, g3, fun g4 => he ⟨g0, g1, g2, g3, g4⟩⟩)))
                      · exact .inr (.inr (.inr (.inl ⟨g0, g1, g2, g3⟩)))
                    · exact .inr (.inr (.inl ⟨g0, g1, fun e => g2 (bytes_inj e)⟩))
                  · exact .inr (.inl ⟨g0, fun e => g1 (bytes_inj e)⟩)
                · exact .inl (by cases zc <;> simp at g0 ⊢)
              clear he HZG
              rcases ways with rfl | ⟨rfl, f1⟩ | ⟨rfl, rfl, f2⟩ | ⟨rfl, rfl, rfl, f3⟩ | ⟨rfl, rfl, rfl, rfl, f4⟩
              all_goals
                go_wp2_with fail
                go_roundw
                case rel => exact ⟨j2 + 1, by omega, by go_num, below_alloc HBZ.out _⟩
                case measure => simp [intOf] <;> omega
          · have hke := HKE.out
            subst hke
            go_wp2_with fail
            refine (wakes10_any wr).mono ?_
            rintro e w8 ⟨rfl, hb8⟩
            have h := HWR.out.trans (HBZ.out.mono HWR.out.size)
            have HEND := hidC (h.trans (hb8.mono h.size))
            clear hb8 h
            go_wp2_with fail
            go_ret
            exact ⟨rfl, HEND.out⟩
  · have HYI2 := hidC HYI.out
    obtain ⟨qv, hqv⟩ : ∃ qv, val % 2 = qv := ⟨_, rfl⟩
    have HWQ := hidC (fun w : World => HWV.out 2 (by omega) (by omega) w)
    rw [hqv] at HWQ
    have HCE : Hid (chE K ⟨#[116]⟩ yl qv yd = 0) := ch_err HYI.out (chkC_ok HCHK.out).1 hdd1 rfl qv (by omega)
    clear hqv
    go_wp2_with fail
    refine calls_same (HWJ.out _) ?_
    go_wp2_with fail
    have HKV := hidC (HK7.out.below (below_alloc (Below.refl w7.heap.size w7) (.cells #[.bool true, .string yn, .string yl, .int .i64 yd, .int .i64 ys] 43)))
    have HYV := hidC (heap_alloc_new w7 (.cells #[.bool true, .string yn, .string yl, .int .i64 yd, .int .i64 ys] 43))
    have HBV := hidC (HB7.out.trans ((below_alloc (Below.refl w7.heap.size w7) (.cells #[.bool true, .string yn, .string yl, .int .i64 yd, .int .i64 ys] 43)).mono HB7.out.size))
    clear d0 d1 d2 d3 d4 hg
    generalize w7.alloc (.cells #[.bool true, .string yn, .string yl, .int .i64 yd, .int .i64 ys] 43) = V at *
    have HNE : Hid (w7.heap.size ≠ cf' ∧ w7.heap.size ≠ cq) := by
      obtain ⟨es, cl, hm, _⟩ := HKV.out.fix
      obtain ⟨es2, cl2, hm2, _⟩ := HKV.out.ch
      constructor
      · rintro rfl
        have := HYV.out
        rw [hm] at this
        cases this
      · rintro rfl
        have := HYV.out
        rw [hm2] at this
        cases this
    have HFC : Hid (∀ w' : World, w'.heap[w7.heap.size]? = some (.cells #[.bool true, .string yn, .string yl, .int .i64 yd, .int .i64 ys] 43) → w'.cell? ⟨w7.heap.size, 0, none⟩ = some (.bool true) ∧ w'.cell? ⟨w7.heap.size, 1, none⟩ = some (.string yn) ∧ w'.cell? ⟨w7.heap.size, 2, none⟩ = some (.string yl) ∧ w'.cell? ⟨w7.heap.size, 3, none⟩ = some (.int .i64 yd) ∧ w'.cell? ⟨w7.heap.size, 4, none⟩ = some (.int .i64 ys)) := fun w' hw' =>
      ⟨cell_of_row _ _ 0 _ _ _ hw', cell_of_row _ _ 1 _ _ _ hw', cell_of_row _ _ 2 _ _ _ hw', cell_of_row _ _ 3 _ _ _ hw', cell_of_row _ _ 4 _ _ _ hw'⟩
    have HSZ : Hid (yn.size ≤ maxLen ∧ yl.size ≤ maxLen) := by
      obtain ⟨h1, h2, _⟩ := HYI.out.ch rfl
      simp only at h1 h2
      refine ⟨by rw [h1]; decide, ?_⟩
      have := labels_ok c HOK.out yl h2
      exact Nat.le_trans this (by decide)
    have HBD := hidC HYV.out
    refine Mx.wp_region_mix (fun w' => w'.heap[w7.heap.size]? = some (.cells #[.bool true, .string yn, .string yl, .int .i64 yd, .int .i64 ys] 43)) [(0, false), (1, false), (2, false), (3, false), (5, false), (6, false), (4, true), (7, true), (8, false)] (by kernel_rfl) (by kernel_rfl) HBD.out ?_ (by kernel_rfl)
    simp only [List.map_cons, List.map_nil, List.getD_cons_zero, List.getD_cons_succ]
    generalize hops : (#[_, _, _, _, _, _, _, _, _] : Array Oper) = ops
    clear hops
    refine Mx.m_pure (.pointer (some ⟨cb, 0, none⟩)) (Mx.wanted_none rfl) (fun w' hw' => ?_) ?_
    · go_simp
    simp only [Act.put, List.setIfInBounds_toArray, List.set_cons_zero, List.set_cons_succ]
    refine Mx.m_pure (.pointer (some ⟨w7.heap.size, 2, none⟩)) (Mx.wanted_none rfl) (fun w' hw' => ?_) ?_
    · go_simp
    simp only [Act.put, List.setIfInBounds_toArray, List.set_cons_zero, List.set_cons_succ]
    refine Mx.m_pure (.string yl) (Mx.wanted_none rfl) (fun w' hw' => ?_) ?_
    · obtain ⟨q0, q1, q2, q3, q4⟩ := HFC.out w' hw'
      go_simp
    simp only [Act.put, List.setIfInBounds_toArray, List.set_cons_zero, List.set_cons_succ]
    refine Mx.m_pure (.int .i64 val) (Mx.wanted_none rfl) (fun w' hw' => ?_) ?_
    · go_simp
    simp only [Act.put, List.setIfInBounds_toArray, List.set_cons_zero, List.set_cons_succ]
    refine Mx.m_pure (.pointer (some ⟨w7.heap.size, 3, none⟩)) (Mx.wanted_none rfl) (fun w' hw' => ?_) ?_
    · go_simp
    simp only [Act.put, List.setIfInBounds_toArray, List.set_cons_zero, List.set_cons_succ]
    refine Mx.m_pure (.int .i64 yd) (Mx.wanted_none rfl) (fun w' hw' => ?_) ?_
    · obtain ⟨q0, q1, q2, q3, q4⟩ := HFC.out w' hw'
      go_simp
    simp only [Act.put, List.setIfInBounds_toArray, List.set_cons_zero, List.set_cons_succ]
    refine Mx.m_call 9 #[.int .i64 val, .int .i64 2] (Mx.wanted_none rfl) ?_ ?_
    · go_simp
    refine (HWQ.out _).mono ?_
    rintro e1 w9 ⟨rfl, rfl⟩
    refine ⟨_, rfl, HBD.out, ?_⟩
    simp only [Act.put, List.setIfInBounds_toArray, List.set_cons_zero, List.set_cons_succ]
    refine Mx.m_call 12 #[.pointer (some ⟨cb, 0, none⟩), .string ⟨#[116]⟩, .string yl, .int .i64 qv, .int .i64 yd] (Mx.wanted_none rfl) ?_ ?_
    · go_simp
    refine (ch_any _ cb cf' cq K HKV.out.drew ⟨#[116]⟩ yl qv yd ⟨show (⟨#[116]⟩ : ByteArray).size ≤ maxLen by decide, HSZ.out.2⟩).mono ?_
    rintro e w9 ⟨rfl, hk9, hg9⟩
    have HK9 := hidC hk9
    have HY9 : Hid (w9.heap[w7.heap.size]? = some (.cells #[.bool true, .string yn, .string yl, .int .i64 yd, .int .i64 ys] 43)) := (hg9.block _ (Array.getElem?_eq_some_iff.1 HYV.out).1 HNE.out.2).trans HYV.out
    have HG9 : Hid (Below w6.heap.size w6 w9) := HBV.out.drew.trans (Gr.below hg9 (show w6.heap.size ≤ V.drew.heap.size from HBV.out.size) HLE.out.2.2)
    refine ⟨_, rfl, HY9.out, ?_⟩
    clear hk9 hg9
    rw [HCE.out]
    simp only [Act.put, List.setIfInBounds_toArray, List.set_cons_zero, List.set_cons_succ]
    refine Mx.m_pure (.int .i64 0) (Mx.wanted_none rfl) (fun w' hw' => ?_) ?_
    · go_simp
    simp only [Act.put, List.setIfInBounds_toArray, List.set_cons_zero, List.set_cons_succ]
    refine Mx.m_nil ?_
    intro _
    have HE9 := hidC (show Env w9 cb cf' cq (chN K ⟨#[116]⟩ yl qv yd) ⟨#[116]⟩ from ⟨HK9.out, chN_vals _ _ _ _ HE.out.vals, chN_chs _ _ _ _ HE.out.chs, by decide⟩)
    have HCB := hidC (cash_at c HOK.out (by have := HWT.out; omega) w9 cb cf' cq (chN K ⟨#[116]⟩ yl qv yd) ⟨#[116]⟩ HE9.out d ⟨by omega, by omega⟩ _ rfl)
    rw [HVAL.out] at HCB
    have HM2 := hidC (HMET.out (chN K ⟨#[116]⟩ yl qv yd) (extW_ch K _ _ _ _) trivial)
    have HERR := hidC (ofK_errs HE9.out.vals (id := ⟨#[116]⟩) HCHK.out hdd1 (show d ≤ 10000 by omega))
    have HGO := hidC (gone_wait HE9.out.chs (id := ⟨#[116]⟩) HOK.out HCHK.out hdd1 (show d ≤ 10000 by omega) (y := ⟨true, yn, yl, yd, ys⟩) (fun h => by cases h))
    have HLB := hidC (ofK_len' (chN K ⟨#[116]⟩ yl qv yd) ⟨#[116]⟩ c d)
    have HAF9 := hidC (HAF.out.below HG9.out)
    clear HE9 HK9 HMET HWTA HAF HAW
    go_wp2_with fail
    refine HCB.out.mono ?_
    rintro e w10 ⟨co, cap3, eo, cap4, rfl, hA, hB, hb10⟩
    have HBF := hidC hA
    have HBW := hidC hB
    have HAF10 := hidC (HAF9.out.below hb10)
    have HW10 : Hid (Below w.heap.size w w10) := by
      have h := HW6.out.trans (HG9.out.mono HW6.out.size)
      exact h.trans (hb10.mono h.size)
    have HY10 : Hid (w10.heap[w7.heap.size]? = some (.cells #[.bool true, .string yn, .string yl, .int .i64 yd, .int .i64 ys] 43)) := (hb10.block _ (Array.getElem?_eq_some_iff.1 HY9.out).1).trans HY9.out
    clear hA hB hb10 HCB
    generalize ofK (chN K ⟨#[116]⟩ yl qv yd) ⟨#[116]⟩ c d = Bq at *
    obtain ⟨bf, bw, be⟩ := Bq
    simp only at HM2 HERR HGO HLB HBF HBW ⊢
    have hlb : bf.length ≤ 60 := by have := HLB.out.1; have := HWT.out; omega
    have hlbw : bw.length ≤ 60 := by have := HLB.out.2; have := HWT.out; omega
    rcases HERR.out with rfl | rfl
    rotate_left
    · go_wp2_with fail
      refine (wakes10_any w10).mono ?_
      rintro e w8 ⟨rfl, hb8⟩
      have HEND := hidC (HW10.out.trans (hb8.mono HW10.out.size))
      clear hb8
      go_wp2_with fail
      go_ret
      exact ⟨rfl, HEND.out⟩
    have HMM := hidC (HM2.out rfl)
    clear HM2 HERR HLB
    go_wp2_with fail
    go_loopw [110, 23] (fun s110 s23 wr => ∃ i k : Nat, i ≤ bf.length ∧ s110 = .int .i64 i ∧ s23 = .int .i64 k ∧ k ≤ af.length ∧ metN af (bf.take i) 0 = k ∧ Below w10.heap.size w10 wr) (fun s110 _ _ => bf.length - (intOf s110).toNat)
    case atStart => exact ⟨0, 0, by omega, rfl, rfl, by omega, rfl, Below.refl _ _⟩
    case round =>
      obtain ⟨i, k, hi, rfl, rfl, hka, hmk, hbr⟩ := hrel
      have HBR := hidC hbr
      have HMK := hidC hmk
      clear hbr hmk
      by_cases hlt : i < bf.length
      · have hlt' : (i : Int) < (bf.length : Int) := by omega
        obtain ⟨x, hx⟩ : ∃ x, bf[i]? = some x := ⟨_, List.getElem?_eq_getElem hlt⟩
        have HSN : Hid (metN af (bf.take (i + 1)) 0 = if af[k]? = some x then k + 1 else k) := by
          unfold Hid
          rw [take_more bf i x hx, metN_snoc, HMK.out]
        obtain ⟨g, rfl, hg, d0, d1, d2⟩ := (HBF.out.below HBR.out) i x hx
        obtain ⟨xd, xcu, xa⟩ := x
        simp only at d0 d1 d2
        clear hx hg
        by_cases hkl : k < af.length
        · have hkl' : (k : Int) < (af.length : Int) := by omega
          obtain ⟨z, hz⟩ : ∃ z, af[k]? = some z := ⟨_, List.getElem?_eq_getElem hkl⟩
          obtain ⟨g', rfl, hg', e0, e1, e2⟩ := (HAF10.out.below HBR.out) k z hz
          obtain ⟨zd, zc, za⟩ := z
          simp only at e0 e1 e2
          have HZ := hidC hz
          clear hz hg'
          by_cases he : xd = zd ∧ xcu = zc ∧ xa = za
          · obtain ⟨rfl, rfl, rfl⟩ := he
            have HSN2 : Hid (metN af (bf.take (i + 1)) 0 = k + 1) := by unfold Hid; rw [HSN.out, HZ.out, if_pos rfl]
            have q9 : (xcu.toList == xcu.toList) = true := beq_self_eq_true _
            clear HSN
            go_wp2_with fail
            go_region
            go_wp2_with fail
            all_goals go_roundw
            case rel => exact ⟨i + 1, k + 1, by omega, by go_num, by go_num, by omega, HSN2.out, HBR.out.drew⟩
            case measure => simp [intOf] <;> omega
          · have HSN2 : Hid (metN af (bf.take (i + 1)) 0 = k) := by
              unfold Hid
              rw [HSN.out, HZ.out, if_neg]
              intro e
              injection e with e
              injection e with a1 a2 a3
              exact he ⟨a1.symm, a2.symm, a3.symm⟩
            have ways : (xd == zd) = false ∨ (xd = zd ∧ (xcu.toList == zc.toList) = false) ∨ (xd = zd ∧ (xcu.toList == zc.toList) = true ∧ (xa == za) = false) := by
              by_cases g0 : xd = zd
              · by_cases g1 : xcu = zc
                · have g2 : xa ≠ za := fun g2 => he ⟨g0, g1, g2⟩
                  exact .inr (.inr ⟨g0, by rw [g1]; exact beq_self_eq_true _, by simpa using g2⟩)
                · exact .inr (.inl ⟨g0, beq_eq_false_iff_ne.2 fun e => g1 (bytes_inj e)⟩)
              · exact .inl (by simpa using g0)
            clear he HSN
            rcases ways with f0 | ⟨rfl, f1⟩ | ⟨rfl, f1, f2⟩
            all_goals
              go_wp2_with fail
              go_region
              go_wp2_with fail
              all_goals go_roundw
              case rel => exact ⟨i + 1, k, by omega, by go_num, rfl, by omega, HSN2.out, HBR.out.drew⟩
              case measure => simp [intOf] <;> omega
        · have HSN2 : Hid (metN af (bf.take (i + 1)) 0 = k) := by
            unfold Hid
            rw [HSN.out, List.getElem?_eq_none (by omega), if_neg (by simp)]
          have hkl2 : decide ((k : Int) < (af.length : Int)) = false := decide_eq_false (by omega)
          clear HSN
          go_wp2_with fail
          go_region
          go_wp2_with fail
          all_goals go_roundw
          case rel => exact ⟨i + 1, k, by omega, by go_num, rfl, by omega, HSN2.out, HBR.out.drew⟩
          case measure => simp [intOf] <;> omega
      · have hie : i = bf.length := by omega
        subst hie
        rw [List.take_length] at HMK
        have HKE : Hid (k = af.length) := HMK.out.symm.trans HMM.out
        have HYR : Hid (wr.heap[w7.heap.size]? = some (.cells #[.bool true, .string yn, .string yl, .int .i64 yd, .int .i64 ys] 43)) := (HBR.out.block _ (Array.getElem?_eq_some_iff.1 HY10.out).1).trans HY10.out
        have HWR := hidC (HW10.out.trans (HBR.out.mono HW10.out.size))
        have HBWR := hidC (HBW.out.below HBR.out)
        clear HMK HMM HAF10 HBF HBW HY10
        generalize hW0 : wr = W0 at *
        clear hW0
        go_wp2_with fail
        go_loopw [133] (fun s133 wr => ∃ i : Nat, i ≤ bw.length ∧ s133 = .int .i64 i ∧ Below W0.heap.size W0 wr) (fun s133 _ => bw.length - (intOf s133).toNat)
        case atStart => exact ⟨0, by omega, rfl, Below.refl _ _⟩
        case round =>
          obtain ⟨j2, hj2, rfl, hbz⟩ := hrel
          have HBZ := hidC hbz
          clear hbz
          by_cases hltj : j2 < bw.length
          · have hltj' : (j2 : Int) < (bw.length : Int) := by omega
            obtain ⟨z, hz⟩ : ∃ z, bw[j2]? = some z := ⟨_, List.getElem?_eq_getElem hltj⟩
            have HZG := hidC (HGO.out z (List.mem_of_getElem? hz))
            obtain ⟨g, rfl, hg, d0, d1, d2, d3, d4⟩ := (HBWR.out.below HBZ.out) j2 z hz
            have hyr := (HBZ.out.block _ (Array.getElem?_eq_some_iff.1 HYR.out).1).trans HYR.out
            obtain ⟨zc, zn, zl, zd, zs⟩ := z
            simp only at d0 d1 d2 d3 d4
            have b0 : wr.cell? ⟨w7.heap.size, 0, none⟩ = some (.bool true) := cell_of_row _ _ 0 _ _ _ hyr
            have b1 : wr.cell? ⟨w7.heap.size, 1, none⟩ = some (.string yn) := cell_of_row _ _ 1 _ _ _ hyr
            have b2 : wr.cell? ⟨w7.heap.size, 2, none⟩ = some (.string yl) := cell_of_row _ _ 2 _ _ _ hyr
            have b3 : wr.cell? ⟨w7.heap.size, 3, none⟩ = some (.int .i64 yd) := cell_of_row _ _ 3 _ _ _ hyr
            have b4 : wr.cell? ⟨w7.heap.size, 4, none⟩ = some (.int .i64 ys) := cell_of_row _ _ 4 _ _ _ hyr
            have hlt7 : w7.heap.size < wr.heap.size := (Array.getElem?_eq_some_iff.1 hyr).1
            clear hz hg hyr
            by_cases he : zc = true ∧ zn = yn ∧ zl = yl ∧ zd = yd ∧ zs = ys
            · obtain ⟨rfl, rfl, rfl, rfl, rfl⟩ := he
              clear HZG
              go_wp2_with fail
              go_roundw
              case rel => exact ⟨j2 + 1, by omega, by go_num, below_alloc HBZ.out _⟩
              case measure => simp [intOf] <;> omega
            · have ways : zc = !true ∨ (zc = true ∧ ¬ zn.toList = yn.toList) ∨ (zc = true ∧ zn = yn ∧ ¬ zl.toList = yl.toList) ∨ (zc = true ∧ zn = yn ∧ zl = yl ∧ ¬ zd = yd) ∨ (zc = true ∧ zn = yn ∧ zl = yl ∧ zd = yd ∧ ¬ zs = ys) := by
                by_cases g0 : zc = true
                · by_cases g1 : zn = yn
                  · by_cases g2 : zl = yl
                    · by_cases g3 : zd = yd
                      · exact .inr (.inr (.inr (.inr ⟨g0, g1, g2, g3, fun g4 => he ⟨g0, g1, g2, g3, g4⟩⟩)))
                      · exact .inr (.inr (.inr (.inl ⟨g0, g1, g2, g3⟩)))
                    · exact .inr (.inr (.inl ⟨g0, g1, fun e => g2 (bytes_inj e)⟩))
                  · exact .inr (.inl ⟨g0, fun e => g1 (bytes_inj e)⟩)
                · exact .inl (by cases zc <;> simp at g0 ⊢)
              clear he HZG
              rcases ways with rfl | ⟨rfl, f1⟩ | ⟨rfl, rfl, f2⟩ | ⟨rfl, rfl, rfl, f3⟩ | ⟨rfl, rfl, rfl, rfl, f4⟩
              all_goals
                go_wp2_with fail
                go_roundw
                case rel => exact ⟨j2 + 1, by omega, by go_num, below_alloc HBZ.out _⟩
                case measure => simp [intOf] <;> omega
          · have hke := HKE.out
            subst hke
            go_wp2_with fail
            refine (wakes10_any wr).mono ?_
            rintro e w8 ⟨rfl, hb8⟩
            have h := HWR.out.trans (HBZ.out.mono HWR.out.size)
            have HEND := hidC (h.trans (hb8.mono h.size))
            clear hb8 h
            go_wp2_with fail
            go_ret
            exact ⟨rfl, HEND.out⟩

end Go.Proofs.Ytngjlkdpplmpaaa.Ca
