/- A reader of signs: what its small calls answer, and what they leave of it. -/
import Derived.Test.YtbppkklfjmpgiaaRun2
import Derived.Test.YtbppkklfjmpgiaaMakerObs
import Derived.Test.YtbppkklfjmpgiaaTermCheck
namespace Go.Proofs.Ytbppkklfjmpgiaa
open Go.RowKit
set_option linter.unusedVariables false

/-- A reader: the signs that are left, the place behind the last, the first fault's place and kind. -/
structure RS where
  left : List Rn.Sg
  past : Int
  pl : Int
  e : Int
/-- No sign. -/
def noS (r : RS) : Rn.Sg := (⟨#[]⟩, r.past)
def takeS (r : RS) : Rn.Sg := if r.e = 0 then r.left.headD (noS r) else noS r
def takeR (r : RS) : RS := if r.e = 0 then { r with left := r.left.tail } else r
def refuseR (r : RS) (p e : Int) : RS := if r.e = 0 then { r with pl := p, e := e } else r
def fitR (r : RS) (s : Rn.Sg) (ok : Bool) : RS := if ok = true then r else refuseR r s.2 2
def markR (r : RS) (t : ByteArray) : RS := fitR (takeR r) (takeS r) (decide ((takeS r).1 = t))
def nameR (r : RS) : RS := fitR (takeR r) (takeS r) (nameGo 0 (runesOf (takeS r).1))
def dayV (r : RS) : Int := (Rn.numOf (takeS r).1.data.toList).1
def dayOkR (r : RS) : Bool := (Rn.numOf (takeS r).1.data.toList).2 && (decide (0 ≤ dayV r) && decide (dayV r ≤ 10000))
def dayR (r : RS) : RS := fitR (takeR r) (takeS r) (dayOkR r)
def firstR (r : RS) (d : Nat) : RS := if 12 < d then refuseR (takeR r) (takeS r).2 5 else takeR r

/-- The signs that are left, in memory. -/
def SgAt (w : World) (R : Nat) (a : Option Addr) (l : List Rn.Sg) : Prop :=
  ∀ (j : Nat) x, l[j]? = some x → ∃ b o, a = some ⟨b, o, none⟩ ∧ b < R ∧ b < w.heap.size ∧ w.cell? ⟨b, o + j * 2, none⟩ = some (.string x.1) ∧ w.cell? ⟨b, o + j * 2 + 1, none⟩ = some (.int .i64 x.2) ∧ x.1.size ≤ 2147483648
def rCells (r : RS) (a : Option Addr) (c : Nat) : Array Value := #[.slice a r.left.length c, .int .i64 r.past, .int .i64 r.pl, .int .i64 r.e]
structure RIn (w : World) (R : Nat) (r : RS) : Prop where
  has : ∃ a c, Blk w R 88 (rCells r a c) ∧ r.left.length ≤ c ∧ c ≤ 9223372036854775807 ∧ SgAt w R a r.left
theorem SgAt.grew {w w' : World} {R : Nat} {a : Option Addr} {l : List Rn.Sg} (h : SgAt w R a l) (hg : Grew R none w w') : SgAt w' R a l := by
  intro j x hj
  obtain ⟨b, o, rfl, hb, hlt, h1, h2, h3⟩ := h j x hj
  have hk := hg.block b hlt (by omega) (by simp)
  refine ⟨b, o, rfl, hb, Nat.lt_of_lt_of_le hlt hg.size, ?_, ?_, h3⟩
  · rw [← h1]; simp only [World.cell?, hk]
  · rw [← h2]; simp only [World.cell?, hk]
theorem RIn.below {w w' : World} {R : Nat} {r : RS} (h : RIn w R r) (hb : Below w.heap.size w w') : RIn w' R r := by
  obtain ⟨a, c, h1, h2, h3, h4⟩ := h.has
  exact ⟨a, c, h1.below hb h1.lt, h2, h3, h4.grew (Grew.of_below hb)⟩
theorem RIn.lt {w : World} {R : Nat} {r : RS} (h : RIn w R r) : R < w.heap.size := by
  obtain ⟨a, c, h1, _⟩ := h.has
  exact h1.lt
theorem RIn.set {w : World} {R b : Nat} {r : RS} (h : RIn w R r) (hb : R < b) (i : Nat) (x : Value) : RIn (w.setCell ⟨b, i, none⟩ x) R r := by
  obtain ⟨a, c, h1, h2, h3, h4⟩ := h.has
  refine ⟨a, c, h1.other (by omega) i x, h2, h3, ?_⟩
  intro j y hj
  obtain ⟨b', o, rfl, hb', hlt, q1, q2, q3⟩ := h4 j y hj
  have hk : (w.setCell ⟨b, i, none⟩ x).heap[b']? = w.heap[b']? := heap_setCell_other w ⟨b, i, none⟩ b' x (by show b' ≠ b; omega)
  refine ⟨b', o, rfl, hb', by rw [World.size_setCell]; exact hlt, ?_, ?_, q3⟩
  · rw [← q1]; simp only [World.cell?, hk]
  · rw [← q2]; simp only [World.cell?, hk]
theorem infoS : (Try.prog.info? 119).map (·.size) = some 2 := by kernel_rfl
def sgV (s : Rn.Sg) : Value := .agg #[.string s.1, .int .i64 s.2]

theorem blk_k {W : World} {b t : Nat} {cs : Array Value} (h : Blk W b t cs) (o : Obj) : Blk (W.alloc o) b t cs := (Below.heap_alloc _ _ _ h.lt).trans h
theorem SgAt.tail {w : World} {R b o : Nat} {s : Rn.Sg} {l : List Rn.Sg} (h : SgAt w R (some ⟨b, o, none⟩) (s :: l)) : SgAt w R (some ⟨b, o + 2, none⟩) l := by
  intro j x hj
  obtain ⟨b', o', e, h1, h2, h3, h4, h5⟩ := h (j + 1) x (by simpa using hj)
  cases e
  refine ⟨b, o + 2, rfl, h1, h2, ?_, ?_, h5⟩
  · rw [show o + 2 + j * 2 = o + (j + 1) * 2 by omega]; exact h3
  · rw [show o + 2 + j * 2 + 1 = o + (j + 1) * 2 + 1 by omega]; exact h4

set_option maxHeartbeats 2000000 in
set_option maxRecDepth 100000 in
theorem take_any (w : World) (R : Nat) (r : RS) (h : RIn w R r) :
    Calls Try.prog 46 #[.pointer (some ⟨R, 0, none⟩)] w fun e w' => e = .returned (sgV (takeS r)) ∧ RIn w' R (takeR r) ∧ Grew R none w w' := by
  have HH := hidIn h
  obtain ⟨a, c, hb, hc1, hc2, hs⟩ := h.has
  have HB := hidIn hb
  have HS := hidIn hs
  have hlt := hb.lt
  have g0 : w.cell? ⟨R, 0, none⟩ = some (.slice a r.left.length c) := hb.cell 0
  have g1 : w.cell? ⟨R, 1, none⟩ = some (.int .i64 r.past) := hb.cell 1
  have g3 : w.cell? ⟨R, 3, none⟩ = some (.int .i64 r.e) := hb.cell 3
  have gf : w.frozen? ⟨R, 0, none⟩ = false := hb.frozen 0
  clear hb hs h
  obtain ⟨l, past, pl, en⟩ := r
  simp only at g0 g1 g3 hc1
  go_enter Try.func46, Try.ntmps46
  by_cases he : en = 0
  · subst he
    cases l with
    | nil =>
      simp only [List.length_nil] at g0
      go_wp2_with fail
      have hbl : Below w.heap.size w (w.alloc (.cells #[.string ⟨#[]⟩, .int .i64 past] 119)) := below_alloc (Below.refl _ _) _
      refine bodyPost_ret (results_cell_row rfl _ _ w.heap.size 119 #[.string ⟨#[]⟩, .int .i64 past] (0, 0) _ rfl (heap_alloc_new _ _) Try.underlying119 rfl infoS) rfl ?_
      exact ⟨rfl, HH.out.below hbl, Grew.of_below hbl⟩
    | cons s l =>
      obtain ⟨b, o, rfl, hbR, hblt, q0, q1, _⟩ := HS.out 0 s rfl
      simp only [Nat.zero_mul, Nat.add_zero] at q0 q1
      simp only [List.length_cons] at g0 hc1
      go_wp2_with fail
      case inl =>
        obtain rfl : l = [] := by
          cases l with
          | nil => rfl
          | cons _ _ => exfalso; simp only [List.length_cons] at hc1; omega
        refine bodyPost_ret (results_cell_row rfl _ _ w.heap.size 119 #[.string s.1, .int .i64 s.2] (0, 0) _ rfl (blk_k (blk_new (by simp)) _) Try.underlying119 rfl infoS) rfl ?_
        refine ⟨rfl, ⟨some ⟨b, o, none⟩, 0, blk_k (blk_k (HB.out.set 0 _) _) _, Nat.le_refl 0, by omega, ?_⟩, (((Grew.refl _ _ _).set 0 _).alloc _).alloc _⟩
        intro j x hj
        simp [takeR] at hj
      case inr =>
        refine bodyPost_ret (results_cell_row rfl _ _ w.heap.size 119 #[.string s.1, .int .i64 s.2] (0, 0) _ rfl (blk_k (blk_new (by simp)) _) Try.underlying119 rfl infoS) rfl ?_
        have hg : Grew R none w (((w.setCell ⟨R, 0, none⟩ (.slice (some ⟨b, o + 2, none⟩) l.length (c - 1))).alloc (.cells #[.string s.1, .int .i64 s.2] 119)).alloc (.cells #[.string s.1, .int .i64 s.2] 119)) := (((Grew.refl _ _ _).set 0 _).alloc _).alloc _
        exact ⟨rfl, ⟨some ⟨b, o + 2, none⟩, c - 1, blk_k (blk_k (HB.out.set 0 _) _) _, by show l.length ≤ c - 1; omega, by omega, HS.out.tail.grew hg⟩, hg⟩
  · have HT : Hid (takeS ⟨l, past, pl, en⟩ = (⟨#[]⟩, past) ∧ takeR ⟨l, past, pl, en⟩ = ⟨l, past, pl, en⟩) := by
      unfold takeS takeR noS
      exact ⟨if_neg he, if_neg he⟩
    go_wp2_with fail
    have hbl : Below w.heap.size w (w.alloc (.cells #[.string ⟨#[]⟩, .int .i64 past] 119)) := below_alloc (Below.refl _ _) _
    refine bodyPost_ret (results_cell_row rfl _ _ w.heap.size 119 #[.string ⟨#[]⟩, .int .i64 past] (0, 0) _ rfl (heap_alloc_new _ _) Try.underlying119 rfl infoS) rfl ?_
    rw [HT.out.1, HT.out.2]
    exact ⟨rfl, HH.out.below hbl, Grew.of_below hbl⟩

set_option maxHeartbeats 1000000 in
set_option maxRecDepth 100000 in
theorem refuse_any (w : World) (R : Nat) (r : RS) (p en : Int) (h : RIn w R r) :
    Calls Try.prog 71 #[.pointer (some ⟨R, 0, none⟩), .int .i64 p, .int .i64 en] w fun e w' => e = .returned (.tuple #[]) ∧ RIn w' R (refuseR r p en) ∧ Grew R none w w' := by
  have HH := hidIn h
  obtain ⟨a, c, hb, hc1, hc2, hs⟩ := h.has
  have HB := hidIn hb
  have HS := hidIn hs
  have HC : Hid (r.left.length ≤ c ∧ c ≤ 9223372036854775807) := ⟨hc1, hc2⟩
  have g3 : w.cell? ⟨R, 3, none⟩ = some (.int .i64 r.e) := hb.cell 3
  have f2 : w.frozen? ⟨R, 2, none⟩ = false := hb.frozen 2
  have f3 : w.frozen? ⟨R, 3, none⟩ = false := hb.frozen 3
  have g2 : w.cell? ⟨R, 2, none⟩ = some (.int .i64 r.pl) := hb.cell 2
  clear hb hs h hc1 hc2
  obtain ⟨l, past, pl, e0⟩ := r
  simp only at g2 g3
  go_enter Try.func71, Try.ntmps71
  by_cases he : e0 = 0
  · subst he
    go_wp2_with fail
    go_end0
    have hg : Grew R none w ((w.setCell ⟨R, 2, none⟩ (.int .i64 p)).setCell ⟨R, 3, none⟩ (.int .i64 en)) := ((Grew.refl _ _ _).set 2 _).set 3 _
    exact ⟨rfl, ⟨a, c, (HB.out.set 2 _).set 3 _, HC.out.1, HC.out.2, HS.out.grew hg⟩, hg⟩
  · have HT : Hid (refuseR ⟨l, past, pl, e0⟩ p en = ⟨l, past, pl, e0⟩) := if_neg he
    go_wp2_with fail
    go_end0
    rw [HT.out]
    exact ⟨rfl, HH.out, Grew.refl _ _ _⟩
set_option maxHeartbeats 1000000 in
set_option maxRecDepth 100000 in
theorem fit_any (w : World) (R : Nat) (r : RS) (s : Rn.Sg) (ok : Bool) (h : RIn w R r) :
    Calls Try.prog 45 #[.pointer (some ⟨R, 0, none⟩), .agg #[.string s.1, .int .i64 s.2], .bool ok] w fun e w' => e = .returned (.tuple #[]) ∧ RIn w' R (fitR r s ok) ∧ Grew R none w w' := by
  have HH := hidIn h
  clear h
  go_enter Try.func45, Try.ntmps45
  cases ok with
  | true =>
    go_wp2_with fail
    go_end0
    have hbl : Below w.heap.size w (w.alloc (.cells #[.string s.1, .int .i64 s.2] 119)) := below_alloc (Below.refl _ _) _
    exact ⟨rfl, HH.out.below hbl, Grew.of_below hbl⟩
  | false =>
    go_wp2_with fail
    have HBL : Hid (Below w.heap.size w (w.alloc (.cells #[.string s.1, .int .i64 s.2] 119))) := below_alloc (Below.refl _ _) _
    refine (refuse_any _ R r s.2 2 (HH.out.below HBL.out)).mono ?_
    rintro e w1 ⟨rfl, h1, hg1⟩
    go_wp2_with fail
    go_end0
    exact ⟨rfl, h1, (Grew.of_below HBL.out).trans hg1 (.inl rfl)⟩
theorem Grew.tr {M : Nat} {u v w : World} (h : Grew M none u v) (g : Grew M none v w) : Grew M none u w := h.trans g (.inl rfl)
/-- A new block of a sign, kept. -/
theorem sg_blk {w w1 : World} {R : Nat} {s : Rn.Sg} (hR : R < w.heap.size) (hg : Grew R none (w.alloc (.cells #[.string s.1, .int .i64 s.2] 119)) w1) : Blk w1 w.heap.size 119 #[.string s.1, .int .i64 s.2] :=
  (blk_new rfl).grew hg (by omega)

set_option maxHeartbeats 1000000 in
set_option maxRecDepth 100000 in
theorem mark_any (w : World) (R : Nat) (r : RS) (t : ByteArray) (h : RIn w R r) :
    Calls Try.prog 40 #[.pointer (some ⟨R, 0, none⟩), .string t] w fun e w' => e = .returned (.tuple #[]) ∧ RIn w' R (markR r t) ∧ Grew R none w w' := by
  have HH := hidIn h
  clear h
  go_enter Try.func40, Try.ntmps40
  go_wp2_with fail
  refine (take_any w R r HH.out).mono ?_
  rintro e w1 ⟨rfl, h1, hg1⟩
  have HM : Hid (markR r t = fitR (takeR r) (takeS r) (decide ((takeS r).1 = t))) := rfl
  generalize takeR r = r1 at *
  generalize takeS r = s at *
  have HR1 := hidIn h1
  have HG1 := hidIn hg1
  clear h1 hg1
  unfold sgV
  by_cases hst : s.1.toList = t.toList
  · have hd : decide (s.1 = t) = true := by rw [toList_inj hst]; simp
    rw [hd] at HM
    clear hd
    go_wp2_with fail
    have HBL : Hid (Below w1.heap.size w1 (w1.alloc (.cells #[.string s.1, .int .i64 s.2] 119))) := below_alloc (Below.refl _ _) _
    refine (fit_any _ R r1 s true (HR1.out.below HBL.out)).mono ?_
    rintro e w2 ⟨rfl, h2, hg2⟩
    go_wp2_with fail
    go_end0
    rw [HM.out]
    exact ⟨rfl, h2, HG1.out.tr ((Grew.of_below HBL.out).tr hg2)⟩
  · have hd : decide (s.1 = t) = false := by simp; intro e; exact hst (by rw [e])
    have hst2 : (s.1.toList == t.toList) = false := by simpa using hst
    rw [hd] at HM
    clear hd
    go_wp2_with fail
    have HBL : Hid (Below w1.heap.size w1 (w1.alloc (.cells #[.string s.1, .int .i64 s.2] 119))) := below_alloc (Below.refl _ _) _
    refine (fit_any _ R r1 s false (HR1.out.below HBL.out)).mono ?_
    rintro e w2 ⟨rfl, h2, hg2⟩
    go_wp2_with fail
    go_end0
    rw [HM.out]
    exact ⟨rfl, h2, HG1.out.tr ((Grew.of_below HBL.out).tr hg2)⟩
theorem emp_dec (s : ByteArray) : s.toList.isEmpty = decide (s = ⟨#[]⟩) := by
  have he : (⟨#[]⟩ : ByteArray).toList = [] := by decide +kernel
  by_cases h : s = ⟨#[]⟩
  · subst h; rw [he]; rfl
  · rw [decide_eq_false h]
    cases hl : s.toList with
    | nil => exact absurd (toList_inj (hl.trans he.symm)) h
    | cons a l => rfl
def endRd (r : RS) : RS := fitR (takeR r) (takeS r) (decide ((takeS r).1 = ⟨#[]⟩))
set_option maxHeartbeats 1000000 in
set_option maxRecDepth 100000 in
theorem end_any (w : World) (R : Nat) (r : RS) (h : RIn w R r) :
    Calls Try.prog 23 #[.pointer (some ⟨R, 0, none⟩)] w fun e w' => e = .returned (.tuple #[]) ∧ RIn w' R (endRd r) ∧ Grew R none w w' := by
  have HH := hidIn h
  clear h
  go_enter Try.func23, Try.ntmps23
  go_wp2_with fail
  refine (take_any w R r HH.out).mono ?_
  rintro e w1 ⟨rfl, h1, hg1⟩
  have HM : Hid (endRd r = fitR (takeR r) (takeS r) (decide ((takeS r).1 = ⟨#[]⟩))) := rfl
  generalize takeR r = r1 at *
  generalize takeS r = s at *
  have HR1 := hidIn h1
  have HG1 := hidIn hg1
  clear h1 hg1
  unfold sgV
  go_wp2_with fail
  rw [emp_dec]
  have HBL : Hid (Below w1.heap.size w1 (w1.alloc (.cells #[.string s.1, .int .i64 s.2] 119))) := below_alloc (Below.refl _ _) _
  refine (fit_any _ R r1 s (decide (s.1 = ⟨#[]⟩)) (HR1.out.below HBL.out)).mono ?_
  rintro e w2 ⟨rfl, h2, hg2⟩
  go_wp2_with fail
  go_end0
  rw [HM.out]
  exact ⟨rfl, h2, HG1.out.tr ((Grew.of_below HBL.out).tr hg2)⟩

set_option maxHeartbeats 2000000 in
set_option maxRecDepth 100000 in
theorem rname_any (w : World) (R : Nat) (r : RS) (h : RIn w R r) :
    Calls Try.prog 41 #[.pointer (some ⟨R, 0, none⟩)] w fun e w' => e = .returned (.string (takeS r).1) ∧ RIn w' R (nameR r) ∧ Grew R none w w' := by
  have HH := hidIn h
  clear h
  go_enter Try.func41, Try.ntmps41
  go_wp2_with fail
  refine (take_any w R r HH.out).mono ?_
  rintro e w1 ⟨rfl, h1, hg1⟩
  have HM : Hid (nameR r = fitR (takeR r) (takeS r) (nameGo 0 (runesOf (takeS r).1))) := rfl
  have HSE0 : Hid (∃ s, takeS r = s) := ⟨_, rfl⟩
  generalize takeR r = r1 at *
  obtain ⟨s, hse⟩ := HSE0.out
  have HSE := hidIn hse
  rw [hse] at HM
  rw [hse]
  clear hse HSE0
  have HR1 := hidIn h1
  have HG1 := hidIn hg1
  have HLT := hidIn h1.lt
  clear h1 hg1
  unfold sgV
  go_wp2_with fail
  obtain ⟨W, hW⟩ : ∃ W, W = w1.alloc (.cells #[.string s.1, .int .i64 s.2] 119) := ⟨_, rfl⟩
  have HBL : Hid (Below w1.heap.size w1 W) := by rw [hW]; exact below_alloc (Below.refl _ _) _
  have HBK : Hid (Blk W w1.heap.size 119 #[.string s.1, .int .i64 s.2]) := by rw [hW]; exact blk_new rfl
  have HNE : Hid (w1.heap.size ≠ R) := by have := HLT.out; show _ ≠ _; omega
  have HF : Hid (∀ X, Grew R none W X → X.cell? ⟨w1.heap.size, 0, none⟩ = some (.string s.1) ∧ X.cell? ⟨w1.heap.size, 1, none⟩ = some (.int .i64 s.2)) := fun X hX => by
    have h := HBK.out.grew hX HNE.out
    exact ⟨h.cell 0, h.cell 1⟩
  have HRW := hidIn (HR1.out.below HBL.out)
  rw [← hW]
  clear hW
  obtain ⟨c0, c1⟩ := HF.out W (Grew.refl _ _ _)
  go_region_with (first
    | (go_at_call 72; refine (name_any _ _).mono ?_; rintro e wA ⟨rfl, posA, rfl⟩; have hA := Grew.of_below (M := R) (row := none) (below_iter W.drew s.1 posA); obtain ⟨d0, d1⟩ := HF.out _ ((Grew.refl R none W).drew.tr hA))
    | (go_at_call 45; refine (fit_any _ R r1 s _ (HRW.out.below ((below_drew (Below.refl _ _)).trans (below_iter W.drew s.1 posA)))).mono ?_; rintro e wB ⟨rfl, hB, hgB⟩))
  all_goals
    have hgx := (Grew.refl R none W).drew.tr (hA.tr hgB)
    obtain ⟨d2, d3⟩ := HF.out _ hgx
    have HRX := hidIn hB
    have HGX := hidIn hgx
    clear hB hgx hgB hA d0 d1 c0 c1
    go_wp2_with fail
    go_ret
    exact ⟨by rw [HSE.out]; rfl, by rw [HM.out]; exact HRX.out, HG1.out.tr ((Grew.of_below HBL.out).tr HGX.out)⟩
theorem takeS_size {w : World} {R : Nat} {r : RS} (h : RIn w R r) : (takeS r).1.size ≤ 2147483648 := by
  obtain ⟨a, c, _, _, _, hs⟩ := h.has
  unfold takeS noS
  split
  · cases hl : r.left with
    | nil => show (⟨#[]⟩ : ByteArray).size ≤ _; decide
    | cons x l =>
      obtain ⟨_, _, _, _, _, _, _, h6⟩ := hs 0 x (by rw [hl]; rfl)
      exact h6
  · show (⟨#[]⟩ : ByteArray).size ≤ _; decide

set_option maxHeartbeats 2000000 in
set_option maxRecDepth 100000 in
theorem rday_any (w : World) (R : Nat) (r : RS) (h : RIn w R r) :
    Calls Try.prog 44 #[.pointer (some ⟨R, 0, none⟩)] w fun e w' => e = .returned (.int .i64 (dayV r)) ∧ RIn w' R (dayR r) ∧ Grew R none w w' := by
  have HH := hidIn h
  have HSZ := hidIn (takeS_size h)
  clear h
  go_enter Try.func44, Try.ntmps44
  go_wp2_with fail
  refine (take_any w R r HH.out).mono ?_
  rintro e w1 ⟨rfl, h1, hg1⟩
  have HM : Hid (dayR r = fitR (takeR r) (takeS r) ((Rn.numOf (takeS r).1.data.toList).2 && (decide (0 ≤ (Rn.numOf (takeS r).1.data.toList).1) && decide ((Rn.numOf (takeS r).1.data.toList).1 ≤ 10000)))) := rfl
  have HV : Hid (dayV r = (Rn.numOf (takeS r).1.data.toList).1) := rfl
  generalize takeR r = r1 at *
  generalize takeS r = s at *
  have HR1 := hidIn h1
  have HG1 := hidIn hg1
  have HLT := hidIn h1.lt
  clear h1 hg1
  unfold sgV
  go_wp2_with fail
  obtain ⟨W, hW⟩ : ∃ W, W = w1.alloc (.cells #[.string s.1, .int .i64 s.2] 119) := ⟨_, rfl⟩
  have HBL : Hid (Below w1.heap.size w1 W) := by rw [hW]; exact below_alloc (Below.refl _ _) _
  have HBK : Hid (Blk W w1.heap.size 119 #[.string s.1, .int .i64 s.2]) := by rw [hW]; exact blk_new rfl
  have HRW := hidIn (HR1.out.below HBL.out)
  rw [← hW]
  clear hW
  refine (Rn.number_any s.1 W (by have := HSZ.out; unfold maxLen; omega)).mono ?_
  rintro e w2 ⟨rfl, hb2⟩
  have hk := HBK.out.below hb2 HBK.out.lt
  have c0 : w2.cell? ⟨w1.heap.size, 0, none⟩ = some (.string s.1) := hk.cell 0
  have c1 : w2.cell? ⟨w1.heap.size, 1, none⟩ = some (.int .i64 s.2) := hk.cell 1
  have HB2 := hidIn hb2
  clear hb2 hk
  generalize (Rn.numOf s.1.data.toList).1 = n at *
  generalize (Rn.numOf s.1.data.toList).2 = ok at *
  have hcase : (ok = false) ∨ (ok = true ∧ ¬ 0 ≤ n) ∨ (ok = true ∧ 0 ≤ n ∧ ¬ n ≤ 10000) ∨ (ok = true ∧ 0 ≤ n ∧ n ≤ 10000) := by
    cases ok <;> by_cases a : 0 ≤ n <;> by_cases b : n ≤ 10000 <;> simp [a, b]
  have HRX := hidIn (HRW.out.below HB2.out)
  have HGX : Hid (Grew R none w w2) := HG1.out.tr ((Grew.of_below HBL.out).tr (Grew.of_below HB2.out))
  rcases hcase with rfl | ⟨rfl, q1⟩ | ⟨rfl, q1, q2⟩ | ⟨rfl, q1, q2⟩
  · go_wp2_with fail
    refine (fit_any _ R r1 s _ HRX.out).mono ?_
    rintro e w3 ⟨rfl, h3, hg3⟩
    go_wp2_with fail
    go_ret
    exact ⟨by rw [HV.out]; rfl, by rw [HM.out]; exact h3, HGX.out.tr hg3⟩
  · have HD : Hid ((true && (decide (0 ≤ n) && decide (n ≤ 10000))) = false) := by show _ = _; rw [decide_eq_false q1]; rfl
    go_wp2_with fail
    refine (fit_any _ R r1 s _ HRX.out).mono ?_
    rintro e w3 ⟨rfl, h3, hg3⟩
    go_wp2_with fail
    go_ret
    exact ⟨by rw [HV.out]; rfl, by rw [HM.out, HD.out]; first | exact h3 | (rw [decide_eq_false q1] at h3; exact h3) | (rw [HQ.out] at h3; exact h3) | (rw [decide_eq_true q2] at h3; exact h3), HGX.out.tr hg3⟩
  · have HD : Hid ((true && (decide (0 ≤ n) && decide (n ≤ 10000))) = false) := by show _ = _; rw [decide_eq_true q1, decide_eq_false q2]; rfl
    have HQ : Hid (decide (n ≤ 10000) = false) := decide_eq_false q2
    go_wp2_with fail
    refine (fit_any _ R r1 s _ HRX.out).mono ?_
    rintro e w3 ⟨rfl, h3, hg3⟩
    go_wp2_with fail
    go_ret
    exact ⟨by rw [HV.out]; rfl, by rw [HM.out, HD.out]; first | exact h3 | (rw [decide_eq_false q1] at h3; exact h3) | (rw [HQ.out] at h3; exact h3) | (rw [decide_eq_true q2] at h3; exact h3), HGX.out.tr hg3⟩
  · have HD : Hid ((true && (decide (0 ≤ n) && decide (n ≤ 10000))) = true) := by show _ = _; rw [decide_eq_true q1, decide_eq_true q2]; rfl
    go_wp2_with fail
    refine (fit_any _ R r1 s _ HRX.out).mono ?_
    rintro e w3 ⟨rfl, h3, hg3⟩
    go_wp2_with fail
    go_ret
    exact ⟨by rw [HV.out]; rfl, by rw [HM.out, HD.out]; first | exact h3 | (rw [decide_eq_false q1] at h3; exact h3) | (rw [HQ.out] at h3; exact h3) | (rw [decide_eq_true q2] at h3; exact h3), HGX.out.tr hg3⟩

set_option maxHeartbeats 2000000 in
set_option maxRecDepth 100000 in
theorem first_any (w : World) (R : Nat) (r : RS) (d : Nat) (hd : d ≤ 1000) (h : RIn w R r) :
    Calls Try.prog 39 #[.pointer (some ⟨R, 0, none⟩), .int .i64 (d : Int)] w fun e w' => e = .returned (sgV (takeS r)) ∧ RIn w' R (firstR r d) ∧ Grew R none w w' := by
  have HH := hidIn h
  have HLT0 := hidIn h.lt
  clear h
  go_enter Try.func39, Try.ntmps39
  go_wp2_with fail
  obtain ⟨W0, hW0⟩ : ∃ W, W = w.alloc (.cells #[.string ⟨#[]⟩, .int .i64 0] 119) := ⟨_, rfl⟩
  have HB0 : Hid (Below w.heap.size w W0) := by rw [hW0]; exact below_alloc (Below.refl _ _) _
  have HK0 : Hid (Blk W0 w.heap.size 119 #[.string ⟨#[]⟩, .int .i64 0]) := by rw [hW0]; exact blk_new rfl
  rw [← hW0]
  clear hW0
  refine (take_any W0 R r (HH.out.below HB0.out)).mono ?_
  rintro e w1 ⟨rfl, h1, hg1⟩
  have HM : Hid (firstR r d = if 12 < d then refuseR (takeR r) (takeS r).2 5 else takeR r) := rfl
  have HSE0 : Hid (∃ s, takeS r = s) := ⟨_, rfl⟩
  generalize takeR r = r1 at *
  obtain ⟨s, hse⟩ := HSE0.out
  have HSE := hidIn hse
  rw [hse] at HM
  rw [hse]
  clear hse HSE0
  have HR1 := hidIn h1
  have HK1 := hidIn (HK0.out.grew hg1 (by have := HLT0.out; omega))
  have HG1 : Hid (Grew R none w w1) := (Grew.of_below HB0.out).tr hg1
  have HLT : Hid (w.heap.size < w1.heap.size) := HK1.out.lt
  clear h1 hg1
  have HRN : Hid (w.heap.size ≠ R) := by have := HLT0.out; show _ ≠ _; omega
  unfold sgV
  have z0 : w1.cell? ⟨w.heap.size, 0, none⟩ = some (.string ⟨#[]⟩) := HK1.out.cell 0
  have z1 : w1.cell? ⟨w.heap.size, 1, none⟩ = some (.int .i64 0) := HK1.out.cell 1
  have f0 : w1.frozen? ⟨w.heap.size, 0, none⟩ = false := HK1.out.frozen 0
  have f1 : w1.frozen? ⟨w.heap.size, 1, none⟩ = false := HK1.out.frozen 1
  by_cases hd12 : 12 < d
  · have hd' : (12 : Int) < (d : Int) := by omega
    rw [if_pos hd12] at HM
    go_wp2_with fail
    obtain ⟨W, hW⟩ : ∃ W, W = w1.alloc (.cells #[.string s.1, .int .i64 s.2] 119) := ⟨_, rfl⟩
    have HBL : Hid (Below w1.heap.size w1 W) := by rw [hW]; exact below_alloc (Below.refl _ _) _
    have HBK : Hid (Blk W w1.heap.size 119 #[.string s.1, .int .i64 s.2]) := by rw [hW]; exact blk_new rfl
    rw [← hW]
    clear hW z0 z1 f0 f1
    refine (refuse_any W R r1 s.2 5 (HR1.out.below HBL.out)).mono ?_
    rintro e w2 ⟨rfl, h2, hg2⟩
    have HK2 := hidIn ((HK1.out.below HBL.out HK1.out.lt).grew hg2 HRN.out)
    have HS2 := hidIn (HBK.out.grew hg2 (by have := HR1.out.lt; omega))
    have HG2 : Hid (Grew R none w w2) := HG1.out.tr ((Grew.of_below HBL.out).tr hg2)
    have HR2 := hidIn h2
    have c0 : w2.cell? ⟨w1.heap.size, 0, none⟩ = some (.string s.1) := HS2.out.cell 0
    have c1 : w2.cell? ⟨w1.heap.size, 1, none⟩ = some (.int .i64 s.2) := HS2.out.cell 1
    have z0 : w2.cell? ⟨w.heap.size, 0, none⟩ = some (.string ⟨#[]⟩) := HK2.out.cell 0
    have z1 : w2.cell? ⟨w.heap.size, 1, none⟩ = some (.int .i64 0) := HK2.out.cell 1
    have f0 : w2.frozen? ⟨w.heap.size, 0, none⟩ = false := HK2.out.frozen 0
    have f1 : w2.frozen? ⟨w.heap.size, 1, none⟩ = false := HK2.out.frozen 1
    clear h2 hg2
    go_wp2_with fail
    refine bodyPost_ret (results_cell_row rfl _ _ w.heap.size 119 #[.string s.1, .int .i64 s.2] (0, 0) _ rfl ((HK2.out.set 0 _).set 1 _) Try.underlying119 rfl infoS) rfl ?_
    refine ⟨by rw [HSE.out]; rfl, ?_, (HG2.out.setNew (Nat.le_refl _) 0 _).setNew (Nat.le_refl _) 1 _⟩
    rw [HM.out]
    exact (HR2.out.set HLT0.out 0 _).set HLT0.out 1 _
  · have hd' : ¬ (12 : Int) < (d : Int) := by omega
    rw [if_neg hd12] at HM
    go_upto_region 4 with fail
    obtain ⟨W, hW⟩ : ∃ W, W = w1.alloc (.cells #[.string s.1, .int .i64 s.2] 119) := ⟨_, rfl⟩
    have HBL : Hid (Below w1.heap.size w1 W) := by rw [hW]; exact below_alloc (Below.refl _ _) _
    have HBK : Hid (Blk W w1.heap.size 119 #[.string s.1, .int .i64 s.2]) := by rw [hW]; exact blk_new rfl
    rw [← hW]
    clear hW z0 z1 f0 f1
    have HK2 := hidIn (HK1.out.below HBL.out HK1.out.lt)
    have HG2 : Hid (Grew R none w W) := HG1.out.tr (Grew.of_below HBL.out)
    have HR2 := hidIn (HR1.out.below HBL.out)
    have c0 : W.cell? ⟨w1.heap.size, 0, none⟩ = some (.string s.1) := HBK.out.cell 0
    have c1 : W.cell? ⟨w1.heap.size, 1, none⟩ = some (.int .i64 s.2) := HBK.out.cell 1
    have z0 : W.cell? ⟨w.heap.size, 0, none⟩ = some (.string ⟨#[]⟩) := HK2.out.cell 0
    have z1 : W.cell? ⟨w.heap.size, 1, none⟩ = some (.int .i64 0) := HK2.out.cell 1
    have f0 : W.frozen? ⟨w.heap.size, 0, none⟩ = false := HK2.out.frozen 0
    have f1 : W.frozen? ⟨w.heap.size, 1, none⟩ = false := HK2.out.frozen 1
    go_wp2_with fail
    refine bodyPost_ret (results_cell_row rfl _ _ w.heap.size 119 #[.string s.1, .int .i64 s.2] (0, 0) _ rfl ((HK2.out.set 0 _).set 1 _) Try.underlying119 rfl infoS) rfl ?_
    refine ⟨by rw [HSE.out]; rfl, ?_, (HG2.out.setNew (Nat.le_refl _) 0 _).setNew (Nat.le_refl _) 1 _⟩
    rw [HM.out]
    exact (HR2.out.set HLT0.out 0 _).set HLT0.out 1 _

end Go.Proofs.Ytbppkklfjmpgiaa
