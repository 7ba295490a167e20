/- A number as a tree, of each kind. -/
import Derived.Test.YtkioolbjmcpjpaaGreatDoorPlainO
namespace Go.Proofs.YtkioolbjmcpjpaaGreatDoor
open Go.RowKit
set_option linter.unusedVariables false

theorem below_set {w w' : World} (h : Below w.heap.size w w') {R : Nat} (hR : w.heap.size ≤ R) (i : Nat) (x : Value) : Below w.heap.size w (w'.setCell ⟨R, i, none⟩ x) := h.setCell hR x
theorem set4_cell' {W : World} {R : Nat} {a b c d : Value} {k o : Nat} (h : k ≠ R) : ((((W.setCell ⟨R, 0, none⟩ a).setCell ⟨R, 1, none⟩ b).setCell ⟨R, 2, none⟩ c).setCell ⟨R, 3, none⟩ d).cell? ⟨k, o, none⟩ = W.cell? ⟨k, o, none⟩ := set4_cell a b c d h
theorem cell_alloc_set4 {W : World} {R : Nat} {a b c d : Value} {x : Obj} {k o : Nat} (h : k ≠ R ∧ R < W.heap.size) : (((((W.setCell ⟨R, 0, none⟩ a).setCell ⟨R, 1, none⟩ b).setCell ⟨R, 2, none⟩ c).setCell ⟨R, 3, none⟩ d).alloc x).cell? ⟨k, o, none⟩ = (W.alloc x).cell? ⟨k, o, none⟩ := by
  by_cases hk : k < W.heap.size
  · rw [(below_alloc (Below.refl _ _) x).cell (p := ⟨k, o, none⟩) (by simpa using hk), (below_alloc (Below.refl _ _) x).cell (p := ⟨k, o, none⟩) hk]
    exact set4_cell' h.1
  · by_cases hk2 : k = W.heap.size
    · subst hk2
      have h1 := heap_alloc_new ((((W.setCell ⟨R, 0, none⟩ a).setCell ⟨R, 1, none⟩ b).setCell ⟨R, 2, none⟩ c).setCell ⟨R, 3, none⟩ d) x
      have h2 := heap_alloc_new W x
      simp only [World.size_setCell] at h1
      simp only [World.cell?, h1, h2]
    · have h1 : ((((((W.setCell ⟨R, 0, none⟩ a).setCell ⟨R, 1, none⟩ b).setCell ⟨R, 2, none⟩ c).setCell ⟨R, 3, none⟩ d).alloc x)).heap[k]? = none := Array.getElem?_eq_none (by simp; omega)
      have h2 : (W.alloc x).heap[k]? = none := Array.getElem?_eq_none (by simp; omega)
      simp only [World.cell?, h1, h2]
/-- What is known of the calls on the parts. -/
def MakesO (o : O) : Prop := ∀ w : World, Calls Tryz.prog 106 #[o.val] w (TreePost w (plain o))
theorem blk_set4k {X : World} {R t : Nat} (h : Blk X R t zeroT) (a b c d : Value) (o : Obj) : Blk ((set4 X R a b c d).alloc o) R t #[a, b, c, d] := heap_keeps (set4_blk h a b c d) o

set_option maxHeartbeats 1000000 in
set_option maxRecDepth 100000 in
theorem plainO_const (n : Int) : MakesO (O.const n) := by
  intro w
  have a0 := fun v xT w => isConst v xT w
  unfold O.val
  go_enter Tryz.func106, Tryz.ntmps106
  go_wp2_with fail
  refine bodyPost_ret (results_cell_row rfl _ _ w.heap.size 33 #[.int .i64 11, .string ⟨#[]⟩, .int .i64 n, .slice none 0 0] (0, 0) _ rfl ?blk Tryz.underlying33 rfl infoT) rfl ?post
  case blk => change Blk _ _ _ _; (first | exact blk_keep (blk_new rfl) _ | exact blk_new rfl)
  case post => exact tree_leaf _ _ _ _ _ (by repeat first | exact Below.refl _ _ | refine below_alloc ?_ _)

set_option maxHeartbeats 1000000 in
set_option maxRecDepth 100000 in
theorem plainO_fix (s : ByteArray) : MakesO (O.fix s) := by
  intro w
  have a0 := fun v xT w => notConst 164 v xT w (by decide)
  have a1 := fun v xT w => isFix v xT w
  unfold O.val
  go_enter Tryz.func106, Tryz.ntmps106
  go_wp2_with fail
  refine bodyPost_ret (results_cell_row rfl _ _ w.heap.size 33 #[.int .i64 12, .string s, .int .i64 0, .slice none 0 0] (0, 0) _ rfl ?blk Tryz.underlying33 rfl infoT) rfl ?post
  case blk => change Blk _ _ _ _; (first | exact blk_keep (blk_new rfl) _ | exact blk_new rfl)
  case post => exact tree_leaf _ _ _ _ _ (by repeat first | exact Below.refl _ _ | refine below_alloc ?_ _)

set_option maxHeartbeats 1000000 in
set_option maxRecDepth 100000 in
theorem plainO_odd (v : Value) (h : Strange v) : MakesO (.odd v) := by
  intro w
  show Calls _ _ #[v] _ _
  rcases h with rfl | ⟨t, x, rfl, h0, h1, h2, h3, h4, h5⟩
  · have a0 := nilConst
    have a1 := nilFix
    have a2 := nilAdd
    have a3 := nilNeg
    have a4 := nilMul
    have a5 := nilMax
    go_enter Tryz.func106, Tryz.ntmps106
    go_wp2_with fail
    refine bodyPost_ret (results_cell_row rfl _ _ w.heap.size 33 #[.int .i64 0, .string ⟨#[]⟩, .int .i64 0, .slice none 0 0] (0, 0) _ rfl ?blk Tryz.underlying33 rfl infoT) rfl ?post
    case blk => change Blk _ _ _ _; exact blk_new rfl
    case post => exact tree_leaf _ _ _ _ _ (by repeat first | exact Below.refl _ _ | refine below_alloc ?_ _)
  · have a0 := fun v xT w => notConst t v xT w h0
    have a1 := fun v xT w => notFix t v xT w h1
    have a2 := fun v xT w => notAdd t v xT w h2
    have a3 := fun v xT w => notNeg t v xT w h3
    have a4 := fun v xT w => notMul t v xT w h4
    have a5 := fun v xT w => notMax t v xT w h5
    go_enter Tryz.func106, Tryz.ntmps106
    go_wp2_with fail
    refine bodyPost_ret (results_cell_row rfl _ _ w.heap.size 33 #[.int .i64 0, .string ⟨#[]⟩, .int .i64 0, .slice none 0 0] (0, 0) _ rfl ?blk Tryz.underlying33 rfl infoT) rfl ?post
    case blk => change Blk _ _ _ _; exact blk_new rfl
    case post => exact tree_leaf _ _ _ _ _ (by repeat first | exact Below.refl _ _ | refine below_alloc ?_ _)

theorem tree_two {w w3 F : World} {B b : Nat} {kind : Int} {s : ByteArray} {n : Int} {t u : T} (hK : KAt w3 B [t, u] (some ⟨b, 0, none⟩) 0) (hc : ∀ k o v, B ≤ k → w3.cell? ⟨k, o, none⟩ = some v → F.cell? ⟨k, o, none⟩ = some v) (hB : w.heap.size ≤ B) (hF : Below w.heap.size w F) : TreePost w (.mk kind s n [t, u]) (.returned (.agg #[.int .i64 kind, .string s, .int .i64 n, .slice (some ⟨b, 0, none⟩) 2 2])) F :=
  ⟨some ⟨b, 0, none⟩, 2, rfl, ⟨some ⟨b, 0, none⟩, 2, rfl, Nat.le_refl _, by omega, hK.kept hB hc⟩, hF⟩
theorem tree_one {w w3 F : World} {B b : Nat} {kind : Int} {s : ByteArray} {n : Int} {t : T} (hK : KAt w3 B [t] (some ⟨b, 0, none⟩) 0) (hc : ∀ k o v, B ≤ k → w3.cell? ⟨k, o, none⟩ = some v → F.cell? ⟨k, o, none⟩ = some v) (hB : w.heap.size ≤ B) (hF : Below w.heap.size w F) : TreePost w (.mk kind s n [t]) (.returned (.agg #[.int .i64 kind, .string s, .int .i64 n, .slice (some ⟨b, 0, none⟩) 1 1])) F :=
  ⟨some ⟨b, 0, none⟩, 1, rfl, ⟨some ⟨b, 0, none⟩, 1, rfl, Nat.le_refl _, by omega, hK.kept hB hc⟩, hF⟩

set_option maxHeartbeats 1000000 in
set_option maxRecDepth 100000 in
theorem plainO_neg (o : O) (q : One' o.val) (ih : MakesO o) : MakesO (.neg o) := by
  intro w
  have a0 := fun v xT w => notConst 168 v xT w (by decide)
  have a1 := fun v xT w => notFix 168 v xT w (by decide)
  have a2 := fun v xT w => notAdd 168 v xT w (by decide)
  have a3 := fun v xT w => isNeg v xT w
  have HIH := hidIn ih
  have hs0 := q.store
  have cv0 := q.cells
  have mv0 := q.cells
  unfold Value.cells at mv0
  unfold O.val
  clear ih q
  go_enter Tryz.func106, Tryz.ntmps106
  go_wp2_with fail
  obtain ⟨W, hW⟩ : ∃ W, W = (w.alloc (.cells #[.int .i64 0, .string ⟨#[]⟩, .int .i64 0, .slice none 0 0] 33)).alloc (.cells #[o.val] 168) := ⟨_, rfl⟩
  have HB : Hid (Below w.heap.size w W) := by rw [hW]; exact below_alloc (below_alloc (Below.refl _ _) _) _
  have HZ : Hid (Blk W w.heap.size 33 zeroT) := by rw [hW]; exact blk_keep (blk_new rfl) _
  have HWS : Hid (W.heap.size = w.heap.size + 2) := by unfold Hid; rw [hW]; simp
  rw [← hW]
  clear hW
  refine (HIH.out W).mono ?_
  rintro e w1 ⟨ka, kc, rfl, ht1, hb1⟩
  have HT1 := hidIn ht1
  have HB1 := hidIn hb1
  have hZ1 := HZ.out.below hb1 HZ.out.lt
  obtain ⟨⟨z0, z1, z2, z3⟩, f0, f1, f2, f3⟩ := blk_zero hZ1
  have HZ1 := hidIn hZ1
  have hlt := hZ1.lt
  have hne : w.heap.size ≠ w1.heap.size := by omega
  have hfr : ∀ (o : Obj) (k : Nat), (w1.alloc o).frozen? ⟨w.heap.size, k, none⟩ = w1.frozen? ⟨w.heap.size, k, none⟩ := fun o k => (below_alloc (Below.refl _ _) o).frozen (p := ⟨w.heap.size, k, none⟩) hlt
  clear hb1 ht1 hZ1
  go_wp2_with fail
  refine bodyPost_ret (results_cell_row rfl _ _ w.heap.size 33 #[.int .i64 14, .string ⟨#[]⟩, .int .i64 0, .slice (some ⟨w1.heap.size, 0, none⟩) 1 1] (0, 0) _ rfl ?blk Tryz.underlying33 rfl infoT) rfl ?post
  case blk => change Blk _ _ _ _; (first | with_reducible exact blk_set4 HZ1.out _ _ _ _ _ | with_reducible exact blk_set4' (blk_keep HZ1.out _) _ _ _ _)
  case post =>
    have hbw : Below w.heap.size w w1 := HB.out.trans (HB1.out.mono HB.out.size)
    have hWS := HWS.out
    have hs1 := HB1.out.size
    refine tree_one (w := w) (w3 := w1.alloc (.cells (four (plain o) ka kc) 33)) (B := W.heap.size) (t := plain o) (kat_one (HT1.out.below (below_alloc (Below.refl _ _) _)) hs1 (blk_new rfl)) ?_ (by omega) ?_
    · intro k x v hk hv
      first
        | (rw [cell_alloc_set4 (by omega)]; exact hv)
        | (rw [set4_cell' (by omega)]; exact hv)
    · (repeat first | with_reducible exact hbw | with_reducible refine below_alloc ?_ _ | with_reducible refine below_set ?_ (by omega) _ _)

set_option maxHeartbeats 2000000 in
set_option maxRecDepth 100000 in
theorem plainO_add (l r : O) (ql : One' l.val) (qr : One' r.val) (ihl : MakesO l) (ihr : MakesO r) : MakesO (.add l r) := by
  intro w
  have a0 := fun v xT w => notConst 166 v xT w (by decide)
  have a1 := fun v xT w => notFix 166 v xT w (by decide)
  have a2 := fun v xT w => isAdd v xT w
  have hs0 := ql.store
  have cv0 := ql.cells
  have mv0 := ql.cells
  unfold Value.cells at mv0
  have hs1 := qr.store
  have cv1 := qr.cells
  have mv1 := qr.cells
  unfold Value.cells at mv1
  unfold O.val
  have HL := hidIn ihl
  have HR := hidIn ihr
  clear ihl ihr ql qr
  go_enter Tryz.func106, Tryz.ntmps106
  go_wp2_with fail
  obtain ⟨W, hW⟩ : ∃ W, W = (w.alloc (.cells #[.int .i64 0, .string ⟨#[]⟩, .int .i64 0, .slice none 0 0] 33)).alloc (.cells #[l.val, r.val] 166) := ⟨_, rfl⟩
  have HB : Hid (Below w.heap.size w W) := by rw [hW]; exact below_alloc (below_alloc (Below.refl _ _) _) _
  have HZ : Hid (Blk W w.heap.size 33 zeroT) := by rw [hW]; exact blk_keep (blk_new rfl) _
  have HX : Hid (Blk W (w.heap.size + 1) 166 #[l.val, r.val]) := by rw [hW]; exact blk_new (by simp)
  have HWS : Hid (W.heap.size = w.heap.size + 2) := by unfold Hid; rw [hW]; simp
  rw [← hW]
  clear hW
  have x0 : W.cell? ⟨w.heap.size + 1, 0, none⟩ = some l.val := HX.out.cell 0
  have x1 : W.cell? ⟨w.heap.size + 1, 1, none⟩ = some r.val := HX.out.cell 1
  have HC1 : Hid (∀ X, Below W.heap.size W X → Calls Tryz.prog 106 #[l.val] X (fun e w1 => ∃ ka kc, e = .returned (.agg #[.int .i64 (plain l).kind, .string (plain l).s, .int .i64 (plain l).n, .slice ka (plain l).k.length kc]) ∧ TIn w1 W.heap.size (plain l) (.agg (four (plain l) ka kc)) ∧ Below W.heap.size W w1)) := by
    intro X hX
    refine (HL.out X).mono ?_
    rintro e w1 ⟨ka, kc, rfl, ht, hb⟩
    exact ⟨ka, kc, rfl, ht.low hX.size, hX.trans (hb.mono hX.size)⟩
  have HC2 : Hid (∀ X (t : T) (v : Value), TIn X W.heap.size t v → Below W.heap.size W X → Calls Tryz.prog 106 #[r.val] X (fun e w1 => ∃ ka kc, e = .returned (.agg #[.int .i64 (plain r).kind, .string (plain r).s, .int .i64 (plain r).n, .slice ka (plain r).k.length kc]) ∧ TIn w1 W.heap.size (plain r) (.agg (four (plain r) ka kc)) ∧ TIn w1 W.heap.size t v ∧ Below W.heap.size W w1)) := by
    intro X t v htv hX
    refine (HR.out X).mono ?_
    rintro e w1 ⟨ka, kc, rfl, ht, hb⟩
    exact ⟨ka, kc, rfl, ht.low hX.size, htv.below hb, hX.trans (hb.mono hX.size)⟩
  clear HL HR
  have HPL : Hid (plain (.add l r) = .mk 13 ⟨#[]⟩ 0 [plain l, plain r]) := rfl
  generalize l.val = vl at *
  generalize r.val = vr at *
  generalize plain l = tl at *
  generalize plain r = tr at *
  clear hs0 cv0 mv0 hs1 cv1 mv1 a0 a1 a2
  go_region_with (first
    | (go_at_call 106; (with_reducible show Calls _ _ #[vl] _ _); refine (HC1.out _ (by first | with_reducible exact below_drew (Below.refl _ _) | with_reducible exact Below.refl _ _)).mono ?_; rintro e w1 ⟨ka, kc, rfl, ht1, hb1⟩; have x2 : w1.cell? ⟨w.heap.size + 1, 1, none⟩ = some vr := (HX.out.below hb1 HX.out.lt).cell 1; have HT1 := hidIn ht1; have HB1 := hidIn hb1; clear ht1 hb1)
    | (go_at_call 106; (with_reducible show Calls _ _ #[vr] _ _); refine (HC2.out _ tl (.agg (four tl ka kc)) (by first | with_reducible exact HT1.out | with_reducible exact HT1.out.below (below_drew (Below.refl _ _))) (by first | with_reducible exact HB1.out | with_reducible exact below_drew HB1.out)).mono ?_; rintro e w2 ⟨la, lc, rfl, ht2, ht3, hb2⟩; have HT2 := hidIn ht2; have HT3 := hidIn ht3; have HB2 := hidIn hb2; clear ht2 ht3 hb2)
    | (go_at_call 105; refine (treeTwo_any 13 tl tr ka la kc lc W.heap.size _ (by first | with_reducible exact HB2.out.size | with_reducible exact (below_drew HB2.out).size) (by first | with_reducible exact HT3.out | with_reducible exact HT3.out.below (below_drew (Below.refl _ _))) (by first | with_reducible exact HT2.out | with_reducible exact HT2.out.below (below_drew (Below.refl _ _)))).mono ?_; rintro e w3 ⟨b, rfl, hkat, hb3⟩; have hb3' : Below W.heap.size W w3 := (by first | exact HB2.out.trans (hb3.mono HB2.out.size) | exact (below_drew HB2.out).trans (hb3.mono HB2.out.size)); have hz3 := HZ.out.below hb3' HZ.out.lt; obtain ⟨⟨z0, z1, z2, z3⟩, f0, f1, f2, f3⟩ := blk_zero hz3; have HZ3 := hidIn hz3; have HB3 := hidIn hb3'; have HKAT := hidIn hkat; clear hz3 hb3 hb3' hkat))
  all_goals
    go_wp2_with fail
    refine bodyPost_ret (results_cell_row rfl _ _ w.heap.size 33 #[.int .i64 13, .string ⟨#[]⟩, .int .i64 0, .slice (some ⟨b, 0, none⟩) 2 2] (0, 0) _ rfl ?blk Tryz.underlying33 rfl infoT) rfl ?post
    case blk => change Blk _ _ _ _; (with_reducible exact blk_set4' HZ3.out _ _ _ _)
    case post =>
      have hbw : Below w.heap.size w w3 := HB.out.trans (HB3.out.mono HB.out.size)
      have hWS := HWS.out
      rw [HPL.out]
      refine tree_two (w := w) (B := W.heap.size) (t := tl) (u := tr) HKAT.out ?_ (by omega) ?_
      · intro k x v hk hv
        rw [set4_cell' (by omega)]
        exact hv
      · (repeat first | with_reducible exact hbw | with_reducible refine below_set ?_ (by omega) _ _)

set_option maxHeartbeats 2000000 in
set_option maxRecDepth 100000 in
theorem plainO_mul (l r : O) (ql : One' l.val) (qr : One' r.val) (ihl : MakesO l) (ihr : MakesO r) : MakesO (.mul l r) := by
  intro w
  have a0 := fun v xT w => notConst 169 v xT w (by decide)
  have a1 := fun v xT w => notFix 169 v xT w (by decide)
  have a2 := fun v xT w => notAdd 169 v xT w (by decide)
  have a3 := fun v xT w => notNeg 169 v xT w (by decide)
  have a4 := fun v xT w => isMul v xT w
  have hs0 := ql.store
  have cv0 := ql.cells
  have mv0 := ql.cells
  unfold Value.cells at mv0
  have hs1 := qr.store
  have cv1 := qr.cells
  have mv1 := qr.cells
  unfold Value.cells at mv1
  unfold O.val
  have HL := hidIn ihl
  have HR := hidIn ihr
  clear ihl ihr ql qr
  go_enter Tryz.func106, Tryz.ntmps106
  go_wp2_with fail
  obtain ⟨W, hW⟩ : ∃ W, W = (w.alloc (.cells #[.int .i64 0, .string ⟨#[]⟩, .int .i64 0, .slice none 0 0] 33)).alloc (.cells #[l.val, r.val] 169) := ⟨_, rfl⟩
  have HB : Hid (Below w.heap.size w W) := by rw [hW]; exact below_alloc (below_alloc (Below.refl _ _) _) _
  have HZ : Hid (Blk W w.heap.size 33 zeroT) := by rw [hW]; exact blk_keep (blk_new rfl) _
  have HX : Hid (Blk W (w.heap.size + 1) 169 #[l.val, r.val]) := by rw [hW]; exact blk_new (by simp)
  have HWS : Hid (W.heap.size = w.heap.size + 2) := by unfold Hid; rw [hW]; simp
  rw [← hW]
  clear hW
  have x0 : W.cell? ⟨w.heap.size + 1, 0, none⟩ = some l.val := HX.out.cell 0
  have x1 : W.cell? ⟨w.heap.size + 1, 1, none⟩ = some r.val := HX.out.cell 1
  have HC1 : Hid (∀ X, Below W.heap.size W X → Calls Tryz.prog 106 #[l.val] X (fun e w1 => ∃ ka kc, e = .returned (.agg #[.int .i64 (plain l).kind, .string (plain l).s, .int .i64 (plain l).n, .slice ka (plain l).k.length kc]) ∧ TIn w1 W.heap.size (plain l) (.agg (four (plain l) ka kc)) ∧ Below W.heap.size W w1)) := by
    intro X hX
    refine (HL.out X).mono ?_
    rintro e w1 ⟨ka, kc, rfl, ht, hb⟩
    exact ⟨ka, kc, rfl, ht.low hX.size, hX.trans (hb.mono hX.size)⟩
  have HC2 : Hid (∀ X (t : T) (v : Value), TIn X W.heap.size t v → Below W.heap.size W X → Calls Tryz.prog 106 #[r.val] X (fun e w1 => ∃ ka kc, e = .returned (.agg #[.int .i64 (plain r).kind, .string (plain r).s, .int .i64 (plain r).n, .slice ka (plain r).k.length kc]) ∧ TIn w1 W.heap.size (plain r) (.agg (four (plain r) ka kc)) ∧ TIn w1 W.heap.size t v ∧ Below W.heap.size W w1)) := by
    intro X t v htv hX
    refine (HR.out X).mono ?_
    rintro e w1 ⟨ka, kc, rfl, ht, hb⟩
    exact ⟨ka, kc, rfl, ht.low hX.size, htv.below hb, hX.trans (hb.mono hX.size)⟩
  clear HL HR
  have HPL : Hid (plain (.mul l r) = .mk 15 ⟨#[]⟩ 0 [plain l, plain r]) := rfl
  generalize l.val = vl at *
  generalize r.val = vr at *
  generalize plain l = tl at *
  generalize plain r = tr at *
  clear hs0 cv0 mv0 hs1 cv1 mv1 a0 a1 a2
  go_region_with (first
    | (go_at_call 106; (with_reducible show Calls _ _ #[vl] _ _); refine (HC1.out _ (by first | with_reducible exact below_drew (Below.refl _ _) | with_reducible exact Below.refl _ _)).mono ?_; rintro e w1 ⟨ka, kc, rfl, ht1, hb1⟩; have x2 : w1.cell? ⟨w.heap.size + 1, 1, none⟩ = some vr := (HX.out.below hb1 HX.out.lt).cell 1; have HT1 := hidIn ht1; have HB1 := hidIn hb1; clear ht1 hb1)
    | (go_at_call 106; (with_reducible show Calls _ _ #[vr] _ _); refine (HC2.out _ tl (.agg (four tl ka kc)) (by first | with_reducible exact HT1.out | with_reducible exact HT1.out.below (below_drew (Below.refl _ _))) (by first | with_reducible exact HB1.out | with_reducible exact below_drew HB1.out)).mono ?_; rintro e w2 ⟨la, lc, rfl, ht2, ht3, hb2⟩; have HT2 := hidIn ht2; have HT3 := hidIn ht3; have HB2 := hidIn hb2; clear ht2 ht3 hb2)
    | (go_at_call 105; refine (treeTwo_any 15 tl tr ka la kc lc W.heap.size _ (by first | with_reducible exact HB2.out.size | with_reducible exact (below_drew HB2.out).size) (by first | with_reducible exact HT3.out | with_reducible exact HT3.out.below (below_drew (Below.refl _ _))) (by first | with_reducible exact HT2.out | with_reducible exact HT2.out.below (below_drew (Below.refl _ _)))).mono ?_; rintro e w3 ⟨b, rfl, hkat, hb3⟩; have hb3' : Below W.heap.size W w3 := (by first | exact HB2.out.trans (hb3.mono HB2.out.size) | exact (below_drew HB2.out).trans (hb3.mono HB2.out.size)); have hz3 := HZ.out.below hb3' HZ.out.lt; obtain ⟨⟨z0, z1, z2, z3⟩, f0, f1, f2, f3⟩ := blk_zero hz3; have HZ3 := hidIn hz3; have HB3 := hidIn hb3'; have HKAT := hidIn hkat; clear hz3 hb3 hb3' hkat))
  all_goals
    go_wp2_with fail
    refine bodyPost_ret (results_cell_row rfl _ _ w.heap.size 33 #[.int .i64 15, .string ⟨#[]⟩, .int .i64 0, .slice (some ⟨b, 0, none⟩) 2 2] (0, 0) _ rfl ?blk Tryz.underlying33 rfl infoT) rfl ?post
    case blk => change Blk _ _ _ _; (with_reducible exact blk_set4' HZ3.out _ _ _ _)
    case post =>
      have hbw : Below w.heap.size w w3 := HB.out.trans (HB3.out.mono HB.out.size)
      have hWS := HWS.out
      rw [HPL.out]
      refine tree_two (w := w) (B := W.heap.size) (t := tl) (u := tr) HKAT.out ?_ (by omega) ?_
      · intro k x v hk hv
        rw [set4_cell' (by omega)]
        exact hv
      · (repeat first | with_reducible exact hbw | with_reducible refine below_set ?_ (by omega) _ _)

set_option maxHeartbeats 2000000 in
set_option maxRecDepth 100000 in
theorem plainO_max (l r : O) (ql : One' l.val) (qr : One' r.val) (ihl : MakesO l) (ihr : MakesO r) : MakesO (.max l r) := by
  intro w
  have a0 := fun v xT w => notConst 170 v xT w (by decide)
  have a1 := fun v xT w => notFix 170 v xT w (by decide)
  have a2 := fun v xT w => notAdd 170 v xT w (by decide)
  have a3 := fun v xT w => notNeg 170 v xT w (by decide)
  have a4 := fun v xT w => notMul 170 v xT w (by decide)
  have a5 := fun v xT w => isMax v xT w
  have hs0 := ql.store
  have cv0 := ql.cells
  have mv0 := ql.cells
  unfold Value.cells at mv0
  have hs1 := qr.store
  have cv1 := qr.cells
  have mv1 := qr.cells
  unfold Value.cells at mv1
  unfold O.val
  have HL := hidIn ihl
  have HR := hidIn ihr
  clear ihl ihr ql qr
  go_enter Tryz.func106, Tryz.ntmps106
  go_wp2_with fail
  obtain ⟨W, hW⟩ : ∃ W, W = (w.alloc (.cells #[.int .i64 0, .string ⟨#[]⟩, .int .i64 0, .slice none 0 0] 33)).alloc (.cells #[l.val, r.val] 170) := ⟨_, rfl⟩
  have HB : Hid (Below w.heap.size w W) := by rw [hW]; exact below_alloc (below_alloc (Below.refl _ _) _) _
  have HZ : Hid (Blk W w.heap.size 33 zeroT) := by rw [hW]; exact blk_keep (blk_new rfl) _
  have HX : Hid (Blk W (w.heap.size + 1) 170 #[l.val, r.val]) := by rw [hW]; exact blk_new (by simp)
  have HWS : Hid (W.heap.size = w.heap.size + 2) := by unfold Hid; rw [hW]; simp
  rw [← hW]
  clear hW
  have x0 : W.cell? ⟨w.heap.size + 1, 0, none⟩ = some l.val := HX.out.cell 0
  have x1 : W.cell? ⟨w.heap.size + 1, 1, none⟩ = some r.val := HX.out.cell 1
  have HC1 : Hid (∀ X, Below W.heap.size W X → Calls Tryz.prog 106 #[l.val] X (fun e w1 => ∃ ka kc, e = .returned (.agg #[.int .i64 (plain l).kind, .string (plain l).s, .int .i64 (plain l).n, .slice ka (plain l).k.length kc]) ∧ TIn w1 W.heap.size (plain l) (.agg (four (plain l) ka kc)) ∧ Below W.heap.size W w1)) := by
    intro X hX
    refine (HL.out X).mono ?_
    rintro e w1 ⟨ka, kc, rfl, ht, hb⟩
    exact ⟨ka, kc, rfl, ht.low hX.size, hX.trans (hb.mono hX.size)⟩
  have HC2 : Hid (∀ X (t : T) (v : Value), TIn X W.heap.size t v → Below W.heap.size W X → Calls Tryz.prog 106 #[r.val] X (fun e w1 => ∃ ka kc, e = .returned (.agg #[.int .i64 (plain r).kind, .string (plain r).s, .int .i64 (plain r).n, .slice ka (plain r).k.length kc]) ∧ TIn w1 W.heap.size (plain r) (.agg (four (plain r) ka kc)) ∧ TIn w1 W.heap.size t v ∧ Below W.heap.size W w1)) := by
    intro X t v htv hX
    refine (HR.out X).mono ?_
    rintro e w1 ⟨ka, kc, rfl, ht, hb⟩
    exact ⟨ka, kc, rfl, ht.low hX.size, htv.below hb, hX.trans (hb.mono hX.size)⟩
  clear HL HR
  have HPL : Hid (plain (.max l r) = .mk 16 ⟨#[]⟩ 0 [plain l, plain r]) := rfl
  generalize l.val = vl at *
  generalize r.val = vr at *
  generalize plain l = tl at *
  generalize plain r = tr at *
  clear hs0 cv0 mv0 hs1 cv1 mv1 a0 a1 a2
  go_region_with (first
    | (go_at_call 106; (with_reducible show Calls _ _ #[vl] _ _); refine (HC1.out _ (by first | with_reducible exact below_drew (Below.refl _ _) | with_reducible exact Below.refl _ _)).mono ?_; rintro e w1 ⟨ka, kc, rfl, ht1, hb1⟩; have x2 : w1.cell? ⟨w.heap.size + 1, 1, none⟩ = some vr := (HX.out.below hb1 HX.out.lt).cell 1; have HT1 := hidIn ht1; have HB1 := hidIn hb1; clear ht1 hb1)
    | (go_at_call 106; (with_reducible show Calls _ _ #[vr] _ _); refine (HC2.out _ tl (.agg (four tl ka kc)) (by first | with_reducible exact HT1.out | with_reducible exact HT1.out.below (below_drew (Below.refl _ _))) (by first | with_reducible exact HB1.out | with_reducible exact below_drew HB1.out)).mono ?_; rintro e w2 ⟨la, lc, rfl, ht2, ht3, hb2⟩; have HT2 := hidIn ht2; have HT3 := hidIn ht3; have HB2 := hidIn hb2; clear ht2 ht3 hb2)
    | (go_at_call 105; refine (treeTwo_any 16 tl tr ka la kc lc W.heap.size _ (by first | with_reducible exact HB2.out.size | with_reducible exact (below_drew HB2.out).size) (by first | with_reducible exact HT3.out | with_reducible exact HT3.out.below (below_drew (Below.refl _ _))) (by first | with_reducible exact HT2.out | with_reducible exact HT2.out.below (below_drew (Below.refl _ _)))).mono ?_; rintro e w3 ⟨b, rfl, hkat, hb3⟩; have hb3' : Below W.heap.size W w3 := (by first | exact HB2.out.trans (hb3.mono HB2.out.size) | exact (below_drew HB2.out).trans (hb3.mono HB2.out.size)); have hz3 := HZ.out.below hb3' HZ.out.lt; obtain ⟨⟨z0, z1, z2, z3⟩, f0, f1, f2, f3⟩ := blk_zero hz3; have HZ3 := hidIn hz3; have HB3 := hidIn hb3'; have HKAT := hidIn hkat; clear hz3 hb3 hb3' hkat))
  all_goals
    go_wp2_with fail
    refine bodyPost_ret (results_cell_row rfl _ _ w.heap.size 33 #[.int .i64 16, .string ⟨#[]⟩, .int .i64 0, .slice (some ⟨b, 0, none⟩) 2 2] (0, 0) _ rfl ?blk Tryz.underlying33 rfl infoT) rfl ?post
    case blk => change Blk _ _ _ _; (with_reducible exact blk_set4' HZ3.out _ _ _ _)
    case post =>
      have hbw : Below w.heap.size w w3 := HB.out.trans (HB3.out.mono HB.out.size)
      have hWS := HWS.out
      rw [HPL.out]
      refine tree_two (w := w) (B := W.heap.size) (t := tl) (u := tr) HKAT.out ?_ (by omega) ?_
      · intro k x v hk hv
        rw [set4_cell' (by omega)]
        exact hv
      · (repeat first | with_reducible exact hbw | with_reducible refine below_set ?_ (by omega) _ _)

theorem plainO_any (o : O) (h : o.Ok) : MakesO o := by
  induction o with
  | const n => exact plainO_const n
  | fix s => exact plainO_fix s
  | odd v => exact plainO_odd v h
  | neg o ih => exact plainO_neg o (o.one' h) (ih h)
  | add l r ihl ihr => exact plainO_add l r (l.one' h.1) (r.one' h.2) (ihl h.1) (ihr h.2)
  | mul l r ihl ihr => exact plainO_mul l r (l.one' h.1) (r.one' h.2) (ihl h.1) (ihr h.2)
  | max l r ihl ihr => exact plainO_max l r (l.one' h.1) (r.one' h.2) (ihl h.1) (ihr h.2)

end Go.Proofs.YtkioolbjmcpjpaaGreatDoor
