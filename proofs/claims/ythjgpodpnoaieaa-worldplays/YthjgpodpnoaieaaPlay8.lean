/- Both worlds in memory, one beside the other; the statement's play: both answer alike, and know the same then. -/
import Derived.Test.YthjgpodpnoaieaaA7
namespace Go.Proofs.Ythjgpodpnoaieaa.Wd
open Go.RowKit Go.Maps
set_option linter.unusedVariables false

theorem RIn.gr {w w' : World} {B r M : Nat} {K : KW} {vF vC : Value} (h : RIn w B r K vF vC) (hg : Gr M w w') (hM : ∃ es cl, w.heap[M]? = some (.map es cl)) : RIn w' B r K vF vC := by
  obtain ⟨es, cl, hm⟩ := hM
  have hr : r ≠ M := by
    rintro rfl
    have := h.blk
    rw [hm] at this
    cases this
  have hgb : w.grownBy w' (some M) := ⟨hg.os, hg.tape, hg.output, hg.size, fun k hk hne => hg.block k hk (fun e => hne (by rw [e]))⟩
  refine ⟨(hg.block r (Array.getElem?_eq_some_iff.1 h.blk).1 hr).trans h.blk, h.rf.kept hgb ?_, h.rc.kept hgb ?_, h.hr⟩
  · right
    intro e
    obtain ⟨cs, hc⟩ := row_block h.rf e
    rw [hm] at hc
    cases hc
  · right
    intro e
    obtain ⟨cs, hc⟩ := row_block h.rc e
    rw [hm] at hc
    cases hc
theorem RT.cells {B r : Nat} {w w' : World} (h : RT B r w w') {k : Nat} {cs : Array Value} {t : TypeId} (hk : w.heap[k]? = some (.cells cs t)) (hr : k ≠ r) (h1 : t ≠ 67) (h2 : t ≠ 69) : w'.heap[k]? = some (.cells cs t) := by
  rw [h.kept k (Array.getElem?_eq_some_iff.1 hk).1 hr (fun cs' e => ?_) (fun cs' e => ?_)]
  · exact hk
  · rw [hk] at e; injection e with e; injection e with _ e; exact h1 e
  · rw [hk] at e; injection e with e; injection e with _ e; exact h2 e
theorem RT.map {B r : Nat} {w w' : World} (h : RT B r w w') {k : Nat} {es : Array MapEntry} {cl : Nat} (hk : w.heap[k]? = some (.map es cl)) (hr : k ≠ r) : w'.heap[k]? = w.heap[k]? :=
  h.kept k (Array.getElem?_eq_some_iff.1 hk).1 hr (fun cs e => by rw [hk] at e; cases e) (fun cs e => by rw [hk] at e; cases e)
theorem In.rt {w0 W W' : World} {p f c r : Nat} {K Kr : KW} {vF vC : Value} (h : In w0 W p f c K) (hr : RIn W w0.heap.size r Kr vF vC) (ht : RT w0.heap.size r W W') : In w0 W' p f c K := by
  have hpr : p ≠ r := by
    rintro rfl
    have := h.kin.blk
    rw [hr.blk] at this
    injection this with e
    injection e with _ e
    exact absurd e (by decide)
  obtain ⟨es1, c1, m1, l1⟩ := h.kin.fix
  obtain ⟨es2, c2, m2, l2⟩ := h.kin.ch
  have hfr : f ≠ r := by
    rintro rfl
    rw [hr.blk] at m1
    cases m1
  have hcr : c ≠ r := by
    rintro rfl
    rw [hr.blk] at m2
    cases m2
  refine ⟨h.kin.same ?_ (ht.map m1 hfr) (ht.map m2 hcr), h.below.trans ht.below, h.hp, h.hf, h.hc⟩
  rw [ht.cells h.kin.blk hpr (by decide) (by decide), h.kin.blk]

/-- Both worlds in memory, and something that comes to be known. -/
structure Pst (w0 W : World) (p f c r : Nat) (Kc Kr : KW) (b : Nat) (a : Ac) : Prop where
  i : In w0 W p f c Kc
  rr : ∃ vF vC, RIn W w0.heap.size r Kr vF vC
  ab : W.heap[b]? = some (.cells a.cs 45)
theorem Pst.step {w0 W W' : World} {p f c r : Nat} {Kc Kr : KW} {b : Nat} {a : Ac} (h : Pst w0 W p f c r Kc Kr b a) (hb : Below W.heap.size W W') : Pst w0 W' p f c r Kc Kr b a := by
  obtain ⟨vF, vC, hr⟩ := h.rr
  exact ⟨h.i.step hb, ⟨vF, vC, hr.below hb⟩, (hb.block b (Array.getElem?_eq_some_iff.1 h.ab).1).trans h.ab⟩
theorem Pst.drew {w0 W : World} {p f c r : Nat} {Kc Kr : KW} {b : Nat} {a : Ac} (h : Pst w0 W p f c r Kc Kr b a) : Pst w0 W.drew p f c r Kc Kr b a := h.step (Below.refl _ _).drew
theorem Pst.gr {w0 W W' : World} {p f c r M : Nat} {Kc Kc' Kr : KW} {b : Nat} {a : Ac} (h : Pst w0 W p f c r Kc Kr b a) (hk : KIn W' p f c Kc') (hg : Gr M W W') (hM : w0.heap.size ≤ M) (hm : ∃ es cl, W.heap[M]? = some (.map es cl)) : Pst w0 W' p f c r Kc' Kr b a := by
  obtain ⟨vF, vC, hr⟩ := h.rr
  refine ⟨h.i.gr hk hg hM, ⟨vF, vC, hr.gr hg hm⟩, ?_⟩
  rw [hg.block b (Array.getElem?_eq_some_iff.1 h.ab).1 (fun e => ?_)]
  · exact h.ab
  · obtain ⟨es, cl, hm⟩ := hm
    have := h.ab
    rw [e, hm] at this
    cases this
theorem Pst.rt {w0 W W' : World} {p f c r : Nat} {Kc Kr Kr' : KW} {b : Nat} {a : Ac} (h : Pst w0 W p f c r Kc Kr b a) (hk : ∃ vF vC, RIn W' w0.heap.size r Kr' vF vC) (ht : RT w0.heap.size r W W') : Pst w0 W' p f c r Kc Kr' b a := by
  obtain ⟨vF, vC, hr⟩ := h.rr
  refine ⟨h.i.rt hr ht, hk, ht.cells h.ab ?_ (by decide) (by decide)⟩
  rintro rfl
  have := h.ab
  rw [hr.blk] at this
  injection this with e
  injection e with _ e
  exact absurd e (by decide)

section
variable {w0 W : World} {p f c r : Nat} {Kc Kr : KW} {b : Nat} {a : Ac}
theorem Pst.abx (h : Pst w0 W p f c r Kc Kr b a) {x : Bool} (hx : a.ch = x) : W.heap[b]? = some (.cells #[.bool x, .int .i64 a.A, .int .i64 a.B, .int .i64 a.D, .int .i64 a.V, .string a.W] 45) := by
  have := h.ab
  unfold Ac.cs at this
  rw [hx] at this
  exact this
theorem p_name (h : Pst w0 W p f c r Kc Kr b a) {x : Bool} (hx : a.ch = x) (ok : a.Ok) (n : Int) (hn : I64 n) :
    Calls Try.prog 17 #[.agg #[.bool x, .int .i64 a.A, .int .i64 a.B, .int .i64 a.D, .int .i64 a.V, .string a.W], .int .i64 n] W fun e w' => e = .returned (.string (nameA a n)) ∧ Pst w0 w' p f c r Kc Kr b a := by
  subst hx
  exact (name8_any a ok n hn W).mono fun e w' h1 => ⟨h1.1, h.step h1.2⟩
theorem p_day (h : Pst w0 W p f c r Kc Kr b a) {x : Bool} (hx : a.ch = x) (ok : a.Ok) :
    Calls Try.prog 26 #[.agg #[.bool x, .int .i64 a.A, .int .i64 a.B, .int .i64 a.D, .int .i64 a.V, .string a.W]] W fun e w' => e = .returned (.int .i64 (dayA a)) ∧ Pst w0 w' p f c r Kc Kr b a := by
  subst hx
  exact (day8_any a ok W).mono fun e w' h1 => ⟨h1.1, h.step h1.2⟩
theorem Pst.mapF (h : Pst w0 W p f c r Kc Kr b a) : ∃ es cl, W.heap[f]? = some (.map es cl) := by
  obtain ⟨es, cl, hm, _⟩ := h.i.kin.fix
  exact ⟨es, cl, hm⟩
theorem Pst.mapC (h : Pst w0 W p f c r Kc Kr b a) : ∃ es cl, W.heap[c]? = some (.map es cl) := by
  obtain ⟨es, cl, hm, _⟩ := h.i.kin.ch
  exact ⟨es, cl, hm⟩
theorem p_fix (h : Pst w0 W p f c r Kc Kr b a) (s : ByteArray) (d v : Int) (hk : fixOk (s, d)) :
    Calls Try.prog 9 #[.pointer (some ⟨p, 0, none⟩), .string s, .int .i64 d, .int .i64 v] W fun e w' => e = .returned (.int .i64 (fixE Kc s d v)) ∧ Pst w0 w' p f c r (fixN Kc s d v) Kr b a :=
  (fix_any W p f c Kc h.i.kin s d v hk).mono fun e w' h1 => ⟨h1.1, h.gr h1.2.1 h1.2.2 h.i.hf h.mapF⟩
theorem p_ch (h : Pst w0 W p f c r Kc Kr b a) (s t : ByteArray) (q d : Int) (hk : chOk (s, t)) :
    Calls Try.prog 10 #[.pointer (some ⟨p, 0, none⟩), .string s, .string t, .int .i64 q, .int .i64 d] W fun e w' => e = .returned (.int .i64 (chE Kc s t q d)) ∧ Pst w0 w' p f c r (chN Kc s t q d) Kr b a :=
  (ch_any W p f c Kc h.i.kin s t q d hk).mono fun e w' h1 => ⟨h1.1, h.gr h1.2.1 h1.2.2 h.i.hc h.mapC⟩
theorem p_rfix (h : Pst w0 W p f c r Kc Kr b a) (s : ByteArray) (d v : Int) (hs : s.size ≤ 1000000) (hl : Kr.F.length ≤ 1000) :
    Calls Try.prog 28 #[.pointer (some ⟨r, 0, none⟩), .string s, .int .i64 d, .int .i64 v] W fun e w' => e = .returned (.int .i64 (fixE Kr s d v)) ∧ Pst w0 w' p f c r Kc (fixN Kr s d v) b a := by
  obtain ⟨vF, vC, hr⟩ := h.rr
  exact (refFix_any W _ r Kr vF vC hr h.i.below.size s d v hs hl).mono fun e w' h1 => ⟨h1.1, h.rt h1.2.1 h1.2.2⟩
theorem p_rch (h : Pst w0 W p f c r Kc Kr b a) (s t : ByteArray) (q d : Int) (hs : s.size ≤ 1000000) (ht : t.size ≤ 1000000) (hl : Kr.C.length ≤ 1000) :
    Calls Try.prog 27 #[.pointer (some ⟨r, 0, none⟩), .string s, .string t, .int .i64 q, .int .i64 d] W fun e w' => e = .returned (.int .i64 (chE Kr s t q d)) ∧ Pst w0 w' p f c r Kc (chN Kr s t q d) b a := by
  obtain ⟨vF, vC, hr⟩ := h.rr
  exact (refCh_any W _ r Kr vF vC hr h.i.below.size s t q d hs ht hl).mono fun e w' h1 => ⟨h1.1, h.rt h1.2.1 h1.2.2⟩
end
/-- What is known after something came to be known. -/
def actN (K : KW) (a : Ac) : KW := if a.ch = true then chN K (nameA a a.A) (nameA a a.B) (a.V % 3) (dayA a) else fixN K (nameA a a.A) (dayA a) a.V
theorem dayA_I64 (a : Ac) (ok : a.Ok) : I64 (dayA a) := by
  have := ok.hD
  unfold I64 at *
  unfold dayA
  split <;> omega
theorem nameOk (a : Ac) (n d : Int) (hd : I64 d) : fixOk (nameA a n, d) := ⟨by have := nameA_size a n; unfold maxLen; show (nameA a n).size ≤ _; omega, hd.1, hd.2⟩
theorem nameOk2 (a : Ac) (n m : Int) : chOk (nameA a n, nameA a m) := ⟨by have := nameA_size a n; unfold maxLen; show (nameA a n).size ≤ _; omega, by have := nameA_size a m; unfold maxLen; show (nameA a m).size ≤ _; omega⟩
theorem self_eq (e : Int) : (e == e) = true := by simp

set_option maxHeartbeats 4000000 in
set_option maxRecDepth 100000 in
theorem play_any (w0 W : World) (p f c r : Nat) (K : KW) (hi : In w0 W p f c K) (hr : ∃ vF vC, RIn W w0.heap.size r K vF vC) (a : Ac) (ok : a.Ok) (hF : K.F.length ≤ 1000) (hC : K.C.length ≤ 1000) :
    Calls Try.prog 16 #[.pointer (some ⟨p, 0, none⟩), .pointer (some ⟨r, 0, none⟩), .agg a.cs] W fun e w' => e = .returned (.bool true) ∧ In w0 w' p f c (actN K a) ∧ ∃ vF vC, RIn w' w0.heap.size r (actN K a) vF vC := by
  have HP : Hid (Pst w0 (W.alloc (.cells a.cs 45)) p f c r K K W.heap.size a) := by
    obtain ⟨vF, vC, hr⟩ := hr
    exact ⟨hi.step (below_alloc (Below.refl _ _) _), ⟨vF, vC, hr.below (below_alloc (Below.refl _ _) _)⟩, blk_new _ _⟩
  clear hi hr
  have HOK := hidInW ok
  have HDI := hidInW (dayA_I64 a ok)
  obtain ⟨v1, v2⟩ := ok.hV
  clear ok
  obtain ⟨x, hx⟩ : ∃ x, a.ch = x := ⟨_, rfl⟩
  have HX := hidInW hx
  unfold Ac.cs at HP ⊢
  rw [hx] at HP ⊢
  clear hx
  have HPd : Hid (Pst w0 (W.alloc (.cells #[.bool x, .int .i64 a.A, .int .i64 a.B, .int .i64 a.D, .int .i64 a.V, .string a.W] 45)).drew p f c r K K W.heap.size a) := HP.out.drew
  clear HP
  go_enter Try.func16, Try.ntmps16
  cases x with
  | true =>
    have HA : Hid (actN K a = chN K (nameA a a.A) (nameA a a.B) (a.V % 3) (dayA a)) := by show actN K a = _; unfold actN; rw [if_pos HX.out]
    go_wp2_with fail
    refine calls_same (within_any a.V 3 _ (by omega) (by omega) v1 v2) ?_
    go_upto_region 3 with fail
    generalize W.alloc (.cells #[.bool true, .int .i64 a.A, .int .i64 a.B, .int .i64 a.D, .int .i64 a.V, .string a.W] 45) = W2 at *
    generalize W.heap.size = b at *
    have HP0 := hidInW HPd.out
    clear HPd
    refine Mx.wp_region_mix (fun w' => w'.heap[b]? = some (.cells #[.bool true, .int .i64 a.A, .int .i64 a.B, .int .i64 a.D, .int .i64 a.V, .string a.W] 45)) [(0, false), (1, false), (2, false), (3, false), (5, false), (6, false), (7, false), (9, false), (10, false), (13, false), (14, false), (15, false), (16, false), (18, false), (19, false), (20, false), (22, false), (23, false), (4, true), (8, true), (11, true), (12, true), (17, true), (21, true), (24, true), (25, true), (26, true), (27, true)] (by kernel_rfl) (by kernel_rfl) (HP0.out.abx HX.out) ?_ (by kernel_rfl)
    simp only [List.map_cons, List.map_nil, List.getD_cons_zero, List.getD_cons_succ]
    generalize hops : (#[_, _, _, _, _, _, _, _, _, _, _, _, _, _, _, _, _, _, _, _, _, _, _, _, _, _, _, _] : Array Oper) = ops
    clear hops
    refine Mx.m_pure (.pointer (some ⟨p, 0, none⟩)) (Mx.wanted_none rfl) (fun w' hw' => ?_) ?_
    · go_simp
    simp only [Act.put, List.setIfInBounds_toArray, List.set_cons_zero, List.set_cons_succ]
    refine Mx.m_pure (.agg #[.bool true, .int .i64 a.A, .int .i64 a.B, .int .i64 a.D, .int .i64 a.V, .string a.W]) (Mx.wanted_none rfl) (fun w' hw' => ?_) ?_
    · have x0 := cell_blk hw' (i := 0) rfl
      have x1 := cell_blk hw' (i := 1) rfl
      have x2 := cell_blk hw' (i := 2) rfl
      have x3 := cell_blk hw' (i := 3) rfl
      have x4 := cell_blk hw' (i := 4) rfl
      have x5 := cell_blk hw' (i := 5) rfl
      clear hw'
      go_simp
    simp only [Act.put, List.setIfInBounds_toArray, List.set_cons_zero, List.set_cons_succ]
    refine Mx.m_pure (.pointer (some ⟨b, 1, none⟩)) (Mx.wanted_none rfl) (fun w' hw' => ?_) ?_
    · go_simp
    simp only [Act.put, List.setIfInBounds_toArray, List.set_cons_zero, List.set_cons_succ]
    refine Mx.m_pure (.int .i64 a.A) (Mx.wanted_none rfl) (fun w' hw' => ?_) ?_
    · have x0 := cell_blk hw' (i := 0) rfl
      have x1 := cell_blk hw' (i := 1) rfl
      have x2 := cell_blk hw' (i := 2) rfl
      have x3 := cell_blk hw' (i := 3) rfl
      have x4 := cell_blk hw' (i := 4) rfl
      have x5 := cell_blk hw' (i := 5) rfl
      clear hw'
      go_simp
    simp only [Act.put, List.setIfInBounds_toArray, List.set_cons_zero, List.set_cons_succ]
    refine Mx.m_pure (.agg #[.bool true, .int .i64 a.A, .int .i64 a.B, .int .i64 a.D, .int .i64 a.V, .string a.W]) (Mx.wanted_none rfl) (fun w' hw' => ?_) ?_
    · have x0 := cell_blk hw' (i := 0) rfl
      have x1 := cell_blk hw' (i := 1) rfl
      have x2 := cell_blk hw' (i := 2) rfl
      have x3 := cell_blk hw' (i := 3) rfl
      have x4 := cell_blk hw' (i := 4) rfl
      have x5 := cell_blk hw' (i := 5) rfl
      clear hw'
      go_simp
    simp only [Act.put, List.setIfInBounds_toArray, List.set_cons_zero, List.set_cons_succ]
    refine Mx.m_pure (.pointer (some ⟨b, 2, none⟩)) (Mx.wanted_none rfl) (fun w' hw' => ?_) ?_
    · go_simp
    simp only [Act.put, List.setIfInBounds_toArray, List.set_cons_zero, List.set_cons_succ]
    refine Mx.m_pure (.int .i64 a.B) (Mx.wanted_none rfl) (fun w' hw' => ?_) ?_
    · have x0 := cell_blk hw' (i := 0) rfl
      have x1 := cell_blk hw' (i := 1) rfl
      have x2 := cell_blk hw' (i := 2) rfl
      have x3 := cell_blk hw' (i := 3) rfl
      have x4 := cell_blk hw' (i := 4) rfl
      have x5 := cell_blk hw' (i := 5) rfl
      clear hw'
      go_simp
    simp only [Act.put, List.setIfInBounds_toArray, List.set_cons_zero, List.set_cons_succ]
    refine Mx.m_pure (.int .i64 (a.V % 3)) (Mx.wanted_none rfl) (fun w' hw' => ?_) ?_
    · go_simp
    simp only [Act.put, List.setIfInBounds_toArray, List.set_cons_zero, List.set_cons_succ]
    refine Mx.m_pure (.agg #[.bool true, .int .i64 a.A, .int .i64 a.B, .int .i64 a.D, .int .i64 a.V, .string a.W]) (Mx.wanted_none rfl) (fun w' hw' => ?_) ?_
    · have x0 := cell_blk hw' (i := 0) rfl
      have x1 := cell_blk hw' (i := 1) rfl
      have x2 := cell_blk hw' (i := 2) rfl
      have x3 := cell_blk hw' (i := 3) rfl
      have x4 := cell_blk hw' (i := 4) rfl
      have x5 := cell_blk hw' (i := 5) rfl
      clear hw'
      go_simp
    simp only [Act.put, List.setIfInBounds_toArray, List.set_cons_zero, List.set_cons_succ]
    refine Mx.m_pure (.pointer (some ⟨r, 0, none⟩)) (Mx.wanted_none rfl) (fun w' hw' => ?_) ?_
    · go_simp
    simp only [Act.put, List.setIfInBounds_toArray, List.set_cons_zero, List.set_cons_succ]
    refine Mx.m_pure (.agg #[.bool true, .int .i64 a.A, .int .i64 a.B, .int .i64 a.D, .int .i64 a.V, .string a.W]) (Mx.wanted_none rfl) (fun w' hw' => ?_) ?_
    · have x0 := cell_blk hw' (i := 0) rfl
      have x1 := cell_blk hw' (i := 1) rfl
      have x2 := cell_blk hw' (i := 2) rfl
      have x3 := cell_blk hw' (i := 3) rfl
      have x4 := cell_blk hw' (i := 4) rfl
      have x5 := cell_blk hw' (i := 5) rfl
      clear hw'
      go_simp
    simp only [Act.put, List.setIfInBounds_toArray, List.set_cons_zero, List.set_cons_succ]
    refine Mx.m_pure (.pointer (some ⟨b, 1, none⟩)) (Mx.wanted_none rfl) (fun w' hw' => ?_) ?_
    · go_simp
    simp only [Act.put, List.setIfInBounds_toArray, List.set_cons_zero, List.set_cons_succ]
    refine Mx.m_pure (.int .i64 a.A) (Mx.wanted_none rfl) (fun w' hw' => ?_) ?_
    · have x0 := cell_blk hw' (i := 0) rfl
      have x1 := cell_blk hw' (i := 1) rfl
      have x2 := cell_blk hw' (i := 2) rfl
      have x3 := cell_blk hw' (i := 3) rfl
      have x4 := cell_blk hw' (i := 4) rfl
      have x5 := cell_blk hw' (i := 5) rfl
      clear hw'
      go_simp
    simp only [Act.put, List.setIfInBounds_toArray, List.set_cons_zero, List.set_cons_succ]
    refine Mx.m_pure (.agg #[.bool true, .int .i64 a.A, .int .i64 a.B, .int .i64 a.D, .int .i64 a.V, .string a.W]) (Mx.wanted_none rfl) (fun w' hw' => ?_) ?_
    · have x0 := cell_blk hw' (i := 0) rfl
      have x1 := cell_blk hw' (i := 1) rfl
      have x2 := cell_blk hw' (i := 2) rfl
      have x3 := cell_blk hw' (i := 3) rfl
      have x4 := cell_blk hw' (i := 4) rfl
      have x5 := cell_blk hw' (i := 5) rfl
      clear hw'
      go_simp
    simp only [Act.put, List.setIfInBounds_toArray, List.set_cons_zero, List.set_cons_succ]
    refine Mx.m_pure (.pointer (some ⟨b, 2, none⟩)) (Mx.wanted_none rfl) (fun w' hw' => ?_) ?_
    · go_simp
    simp only [Act.put, List.setIfInBounds_toArray, List.set_cons_zero, List.set_cons_succ]
    refine Mx.m_pure (.int .i64 a.B) (Mx.wanted_none rfl) (fun w' hw' => ?_) ?_
    · have x0 := cell_blk hw' (i := 0) rfl
      have x1 := cell_blk hw' (i := 1) rfl
      have x2 := cell_blk hw' (i := 2) rfl
      have x3 := cell_blk hw' (i := 3) rfl
      have x4 := cell_blk hw' (i := 4) rfl
      have x5 := cell_blk hw' (i := 5) rfl
      clear hw'
      go_simp
    simp only [Act.put, List.setIfInBounds_toArray, List.set_cons_zero, List.set_cons_succ]
    refine Mx.m_pure (.int .i64 (a.V % 3)) (Mx.wanted_none rfl) (fun w' hw' => ?_) ?_
    · go_simp
    simp only [Act.put, List.setIfInBounds_toArray, List.set_cons_zero, List.set_cons_succ]
    refine Mx.m_pure (.agg #[.bool true, .int .i64 a.A, .int .i64 a.B, .int .i64 a.D, .int .i64 a.V, .string a.W]) (Mx.wanted_none rfl) (fun w' hw' => ?_) ?_
    · have x0 := cell_blk hw' (i := 0) rfl
      have x1 := cell_blk hw' (i := 1) rfl
      have x2 := cell_blk hw' (i := 2) rfl
      have x3 := cell_blk hw' (i := 3) rfl
      have x4 := cell_blk hw' (i := 4) rfl
      have x5 := cell_blk hw' (i := 5) rfl
      clear hw'
      go_simp
    simp only [Act.put, List.setIfInBounds_toArray, List.set_cons_zero, List.set_cons_succ]
    refine Mx.m_call 17 #[.agg #[.bool true, .int .i64 a.A, .int .i64 a.B, .int .i64 a.D, .int .i64 a.V, .string a.W], .int .i64 a.A] (Mx.wanted_none rfl) ?_ ?_
    · go_simp
    refine (p_name HP0.out HX.out HOK.out a.A HOK.out.hA).mono ?_
    rintro e w1 ⟨rfl, hs1⟩
    have HP1 := hidInW hs1
    clear hs1 HP0
    refine ⟨_, rfl, HP1.out.abx HX.out, ?_⟩
    simp only [Act.put, List.setIfInBounds_toArray, List.set_cons_zero, List.set_cons_succ]
    refine Mx.m_call 17 #[.agg #[.bool true, .int .i64 a.A, .int .i64 a.B, .int .i64 a.D, .int .i64 a.V, .string a.W], .int .i64 a.B] (Mx.wanted_none rfl) ?_ ?_
    · go_simp
    refine (p_name HP1.out HX.out HOK.out a.B HOK.out.hB).mono ?_
    rintro e w2 ⟨rfl, hs2⟩
    have HP2 := hidInW hs2
    clear hs2 HP1
    refine ⟨_, rfl, HP2.out.abx HX.out, ?_⟩
    simp only [Act.put, List.setIfInBounds_toArray, List.set_cons_zero, List.set_cons_succ]
    refine Mx.m_call 26 #[.agg #[.bool true, .int .i64 a.A, .int .i64 a.B, .int .i64 a.D, .int .i64 a.V, .string a.W]] (Mx.wanted_none rfl) ?_ ?_
    · go_simp
    refine (p_day HP2.out HX.out HOK.out).mono ?_
    rintro e w3 ⟨rfl, hs3⟩
    have HP3 := hidInW hs3
    clear hs3 HP2
    refine ⟨_, rfl, HP3.out.abx HX.out, ?_⟩
    simp only [Act.put, List.setIfInBounds_toArray, List.set_cons_zero, List.set_cons_succ]
    refine Mx.m_call 10 #[.pointer (some ⟨p, 0, none⟩), .string (nameA a a.A), .string (nameA a a.B), .int .i64 (a.V % 3), .int .i64 (dayA a)] (Mx.wanted_none rfl) ?_ ?_
    · go_simp
    refine (p_ch HP3.out (nameA a a.A) (nameA a a.B) (a.V % 3) (dayA a) (nameOk2 a a.A a.B)).mono ?_
    rintro e w4 ⟨rfl, hs4⟩
    have HP4 := hidInW hs4
    clear hs4 HP3
    refine ⟨_, rfl, HP4.out.abx HX.out, ?_⟩
    simp only [Act.put, List.setIfInBounds_toArray, List.set_cons_zero, List.set_cons_succ]
    refine Mx.m_call 17 #[.agg #[.bool true, .int .i64 a.A, .int .i64 a.B, .int .i64 a.D, .int .i64 a.V, .string a.W], .int .i64 a.A] (Mx.wanted_none rfl) ?_ ?_
    · go_simp
    refine (p_name HP4.out HX.out HOK.out a.A HOK.out.hA).mono ?_
    rintro e w5 ⟨rfl, hs5⟩
    have HP5 := hidInW hs5
    clear hs5 HP4
    refine ⟨_, rfl, HP5.out.abx HX.out, ?_⟩
    simp only [Act.put, List.setIfInBounds_toArray, List.set_cons_zero, List.set_cons_succ]
    refine Mx.m_call 17 #[.agg #[.bool true, .int .i64 a.A, .int .i64 a.B, .int .i64 a.D, .int .i64 a.V, .string a.W], .int .i64 a.B] (Mx.wanted_none rfl) ?_ ?_
    · go_simp
    refine (p_name HP5.out HX.out HOK.out a.B HOK.out.hB).mono ?_
    rintro e w6 ⟨rfl, hs6⟩
    have HP6 := hidInW hs6
    clear hs6 HP5
    refine ⟨_, rfl, HP6.out.abx HX.out, ?_⟩
    simp only [Act.put, List.setIfInBounds_toArray, List.set_cons_zero, List.set_cons_succ]
    refine Mx.m_call 26 #[.agg #[.bool true, .int .i64 a.A, .int .i64 a.B, .int .i64 a.D, .int .i64 a.V, .string a.W]] (Mx.wanted_none rfl) ?_ ?_
    · go_simp
    refine (p_day HP6.out HX.out HOK.out).mono ?_
    rintro e w7 ⟨rfl, hs7⟩
    have HP7 := hidInW hs7
    clear hs7 HP6
    refine ⟨_, rfl, HP7.out.abx HX.out, ?_⟩
    simp only [Act.put, List.setIfInBounds_toArray, List.set_cons_zero, List.set_cons_succ]
    refine Mx.m_call 27 #[.pointer (some ⟨r, 0, none⟩), .string (nameA a a.A), .string (nameA a a.B), .int .i64 (a.V % 3), .int .i64 (dayA a)] (Mx.wanted_none rfl) ?_ ?_
    · go_simp
    refine (p_rch HP7.out (nameA a a.A) (nameA a a.B) (a.V % 3) (dayA a) (by have := nameA_size a a.A; omega) (by have := nameA_size a a.B; omega) hC).mono ?_
    rintro e w8 ⟨rfl, hs8⟩
    have HP8 := hidInW hs8
    clear hs8 HP7
    refine ⟨_, rfl, HP8.out.abx HX.out, ?_⟩
    simp only [Act.put, List.setIfInBounds_toArray, List.set_cons_zero, List.set_cons_succ]
    refine Mx.m_run (.bool true) (Mx.wanted_none rfl) ?_ (HP8.out.abx HX.out) ?_
    · go_simp
    simp only [Act.put, List.setIfInBounds_toArray, List.set_cons_zero, List.set_cons_succ]
    refine Mx.m_run (.bool true) (Mx.wanted_none rfl) ?_ (HP8.out.abx HX.out) ?_
    · go_simp
    simp only [Act.put, List.setIfInBounds_toArray, List.set_cons_zero, List.set_cons_succ]
    refine Mx.m_nil ?_
    intro hfin
    go_wp2_with fail
    go_ret
    exact ⟨rfl, HA.out ▸ HP8.out.i, HA.out ▸ HP8.out.rr⟩
  | false =>
    have HA : Hid (actN K a = fixN K (nameA a a.A) (dayA a) a.V) := by show actN K a = _; unfold actN; rw [HX.out]; rfl
    go_upto_region 4 with fail
    generalize W.alloc (.cells #[.bool false, .int .i64 a.A, .int .i64 a.B, .int .i64 a.D, .int .i64 a.V, .string a.W] 45) = W2 at *
    generalize W.heap.size = b at *
    have HP0 := hidInW HPd.out
    clear HPd
    refine Mx.wp_region_mix (fun w' => w'.heap[b]? = some (.cells #[.bool false, .int .i64 a.A, .int .i64 a.B, .int .i64 a.D, .int .i64 a.V, .string a.W] 45)) [(0, false), (1, false), (2, false), (3, false), (5, false), (7, false), (8, false), (10, false), (11, false), (12, false), (13, false), (15, false), (17, false), (18, false), (4, true), (6, true), (9, true), (14, true), (16, true), (19, true), (20, true), (21, true)] (by kernel_rfl) (by kernel_rfl) (HP0.out.abx HX.out) ?_ (by kernel_rfl)
    simp only [List.map_cons, List.map_nil, List.getD_cons_zero, List.getD_cons_succ]
    generalize hops : (#[_, _, _, _, _, _, _, _, _, _, _, _, _, _, _, _, _, _, _, _, _, _] : Array Oper) = ops
    clear hops
    refine Mx.m_pure (.pointer (some ⟨p, 0, none⟩)) (Mx.wanted_none rfl) (fun w' hw' => ?_) ?_
    · go_simp
    simp only [Act.put, List.setIfInBounds_toArray, List.set_cons_zero, List.set_cons_succ]
    refine Mx.m_pure (.agg #[.bool false, .int .i64 a.A, .int .i64 a.B, .int .i64 a.D, .int .i64 a.V, .string a.W]) (Mx.wanted_none rfl) (fun w' hw' => ?_) ?_
    · have x0 := cell_blk hw' (i := 0) rfl
      have x1 := cell_blk hw' (i := 1) rfl
      have x2 := cell_blk hw' (i := 2) rfl
      have x3 := cell_blk hw' (i := 3) rfl
      have x4 := cell_blk hw' (i := 4) rfl
      have x5 := cell_blk hw' (i := 5) rfl
      clear hw'
      go_simp
    simp only [Act.put, List.setIfInBounds_toArray, List.set_cons_zero, List.set_cons_succ]
    refine Mx.m_pure (.pointer (some ⟨b, 1, none⟩)) (Mx.wanted_none rfl) (fun w' hw' => ?_) ?_
    · go_simp
    simp only [Act.put, List.setIfInBounds_toArray, List.set_cons_zero, List.set_cons_succ]
    refine Mx.m_pure (.int .i64 a.A) (Mx.wanted_none rfl) (fun w' hw' => ?_) ?_
    · have x0 := cell_blk hw' (i := 0) rfl
      have x1 := cell_blk hw' (i := 1) rfl
      have x2 := cell_blk hw' (i := 2) rfl
      have x3 := cell_blk hw' (i := 3) rfl
      have x4 := cell_blk hw' (i := 4) rfl
      have x5 := cell_blk hw' (i := 5) rfl
      clear hw'
      go_simp
    simp only [Act.put, List.setIfInBounds_toArray, List.set_cons_zero, List.set_cons_succ]
    refine Mx.m_pure (.agg #[.bool false, .int .i64 a.A, .int .i64 a.B, .int .i64 a.D, .int .i64 a.V, .string a.W]) (Mx.wanted_none rfl) (fun w' hw' => ?_) ?_
    · have x0 := cell_blk hw' (i := 0) rfl
      have x1 := cell_blk hw' (i := 1) rfl
      have x2 := cell_blk hw' (i := 2) rfl
      have x3 := cell_blk hw' (i := 3) rfl
      have x4 := cell_blk hw' (i := 4) rfl
      have x5 := cell_blk hw' (i := 5) rfl
      clear hw'
      go_simp
    simp only [Act.put, List.setIfInBounds_toArray, List.set_cons_zero, List.set_cons_succ]
    refine Mx.m_pure (.pointer (some ⟨b, 4, none⟩)) (Mx.wanted_none rfl) (fun w' hw' => ?_) ?_
    · go_simp
    simp only [Act.put, List.setIfInBounds_toArray, List.set_cons_zero, List.set_cons_succ]
    refine Mx.m_pure (.int .i64 a.V) (Mx.wanted_none rfl) (fun w' hw' => ?_) ?_
    · have x0 := cell_blk hw' (i := 0) rfl
      have x1 := cell_blk hw' (i := 1) rfl
      have x2 := cell_blk hw' (i := 2) rfl
      have x3 := cell_blk hw' (i := 3) rfl
      have x4 := cell_blk hw' (i := 4) rfl
      have x5 := cell_blk hw' (i := 5) rfl
      clear hw'
      go_simp
    simp only [Act.put, List.setIfInBounds_toArray, List.set_cons_zero, List.set_cons_succ]
    refine Mx.m_pure (.pointer (some ⟨r, 0, none⟩)) (Mx.wanted_none rfl) (fun w' hw' => ?_) ?_
    · go_simp
    simp only [Act.put, List.setIfInBounds_toArray, List.set_cons_zero, List.set_cons_succ]
    refine Mx.m_pure (.agg #[.bool false, .int .i64 a.A, .int .i64 a.B, .int .i64 a.D, .int .i64 a.V, .string a.W]) (Mx.wanted_none rfl) (fun w' hw' => ?_) ?_
    · have x0 := cell_blk hw' (i := 0) rfl
      have x1 := cell_blk hw' (i := 1) rfl
      have x2 := cell_blk hw' (i := 2) rfl
      have x3 := cell_blk hw' (i := 3) rfl
      have x4 := cell_blk hw' (i := 4) rfl
      have x5 := cell_blk hw' (i := 5) rfl
      clear hw'
      go_simp
    simp only [Act.put, List.setIfInBounds_toArray, List.set_cons_zero, List.set_cons_succ]
    refine Mx.m_pure (.pointer (some ⟨b, 1, none⟩)) (Mx.wanted_none rfl) (fun w' hw' => ?_) ?_
    · go_simp
    simp only [Act.put, List.setIfInBounds_toArray, List.set_cons_zero, List.set_cons_succ]
    refine Mx.m_pure (.int .i64 a.A) (Mx.wanted_none rfl) (fun w' hw' => ?_) ?_
    · have x0 := cell_blk hw' (i := 0) rfl
      have x1 := cell_blk hw' (i := 1) rfl
      have x2 := cell_blk hw' (i := 2) rfl
      have x3 := cell_blk hw' (i := 3) rfl
      have x4 := cell_blk hw' (i := 4) rfl
      have x5 := cell_blk hw' (i := 5) rfl
      clear hw'
      go_simp
    simp only [Act.put, List.setIfInBounds_toArray, List.set_cons_zero, List.set_cons_succ]
    refine Mx.m_pure (.agg #[.bool false, .int .i64 a.A, .int .i64 a.B, .int .i64 a.D, .int .i64 a.V, .string a.W]) (Mx.wanted_none rfl) (fun w' hw' => ?_) ?_
    · have x0 := cell_blk hw' (i := 0) rfl
      have x1 := cell_blk hw' (i := 1) rfl
      have x2 := cell_blk hw' (i := 2) rfl
      have x3 := cell_blk hw' (i := 3) rfl
      have x4 := cell_blk hw' (i := 4) rfl
      have x5 := cell_blk hw' (i := 5) rfl
      clear hw'
      go_simp
    simp only [Act.put, List.setIfInBounds_toArray, List.set_cons_zero, List.set_cons_succ]
    refine Mx.m_pure (.pointer (some ⟨b, 4, none⟩)) (Mx.wanted_none rfl) (fun w' hw' => ?_) ?_
    · go_simp
    simp only [Act.put, List.setIfInBounds_toArray, List.set_cons_zero, List.set_cons_succ]
    refine Mx.m_pure (.int .i64 a.V) (Mx.wanted_none rfl) (fun w' hw' => ?_) ?_
    · have x0 := cell_blk hw' (i := 0) rfl
      have x1 := cell_blk hw' (i := 1) rfl
      have x2 := cell_blk hw' (i := 2) rfl
      have x3 := cell_blk hw' (i := 3) rfl
      have x4 := cell_blk hw' (i := 4) rfl
      have x5 := cell_blk hw' (i := 5) rfl
      clear hw'
      go_simp
    simp only [Act.put, List.setIfInBounds_toArray, List.set_cons_zero, List.set_cons_succ]
    refine Mx.m_call 17 #[.agg #[.bool false, .int .i64 a.A, .int .i64 a.B, .int .i64 a.D, .int .i64 a.V, .string a.W], .int .i64 a.A] (Mx.wanted_none rfl) ?_ ?_
    · go_simp
    refine (p_name HP0.out HX.out HOK.out a.A HOK.out.hA).mono ?_
    rintro e w1 ⟨rfl, hs1⟩
    have HP1 := hidInW hs1
    clear hs1 HP0
    refine ⟨_, rfl, HP1.out.abx HX.out, ?_⟩
    simp only [Act.put, List.setIfInBounds_toArray, List.set_cons_zero, List.set_cons_succ]
    refine Mx.m_call 26 #[.agg #[.bool false, .int .i64 a.A, .int .i64 a.B, .int .i64 a.D, .int .i64 a.V, .string a.W]] (Mx.wanted_none rfl) ?_ ?_
    · go_simp
    refine (p_day HP1.out HX.out HOK.out).mono ?_
    rintro e w2 ⟨rfl, hs2⟩
    have HP2 := hidInW hs2
    clear hs2 HP1
    refine ⟨_, rfl, HP2.out.abx HX.out, ?_⟩
    simp only [Act.put, List.setIfInBounds_toArray, List.set_cons_zero, List.set_cons_succ]
    refine Mx.m_call 9 #[.pointer (some ⟨p, 0, none⟩), .string (nameA a a.A), .int .i64 (dayA a), .int .i64 a.V] (Mx.wanted_none rfl) ?_ ?_
    · go_simp
    refine (p_fix HP2.out (nameA a a.A) (dayA a) a.V (nameOk a a.A (dayA a) HDI.out)).mono ?_
    rintro e w3 ⟨rfl, hs3⟩
    have HP3 := hidInW hs3
    clear hs3 HP2
    refine ⟨_, rfl, HP3.out.abx HX.out, ?_⟩
    simp only [Act.put, List.setIfInBounds_toArray, List.set_cons_zero, List.set_cons_succ]
    refine Mx.m_call 17 #[.agg #[.bool false, .int .i64 a.A, .int .i64 a.B, .int .i64 a.D, .int .i64 a.V, .string a.W], .int .i64 a.A] (Mx.wanted_none rfl) ?_ ?_
    · go_simp
    refine (p_name HP3.out HX.out HOK.out a.A HOK.out.hA).mono ?_
    rintro e w4 ⟨rfl, hs4⟩
    have HP4 := hidInW hs4
    clear hs4 HP3
    refine ⟨_, rfl, HP4.out.abx HX.out, ?_⟩
    simp only [Act.put, List.setIfInBounds_toArray, List.set_cons_zero, List.set_cons_succ]
    refine Mx.m_call 26 #[.agg #[.bool false, .int .i64 a.A, .int .i64 a.B, .int .i64 a.D, .int .i64 a.V, .string a.W]] (Mx.wanted_none rfl) ?_ ?_
    · go_simp
    refine (p_day HP4.out HX.out HOK.out).mono ?_
    rintro e w5 ⟨rfl, hs5⟩
    have HP5 := hidInW hs5
    clear hs5 HP4
    refine ⟨_, rfl, HP5.out.abx HX.out, ?_⟩
    simp only [Act.put, List.setIfInBounds_toArray, List.set_cons_zero, List.set_cons_succ]
    refine Mx.m_call 28 #[.pointer (some ⟨r, 0, none⟩), .string (nameA a a.A), .int .i64 (dayA a), .int .i64 a.V] (Mx.wanted_none rfl) ?_ ?_
    · go_simp
    refine (p_rfix HP5.out (nameA a a.A) (dayA a) a.V (by have := nameA_size a a.A; omega) hF).mono ?_
    rintro e w6 ⟨rfl, hs6⟩
    have HP6 := hidInW hs6
    clear hs6 HP5
    refine ⟨_, rfl, HP6.out.abx HX.out, ?_⟩
    simp only [Act.put, List.setIfInBounds_toArray, List.set_cons_zero, List.set_cons_succ]
    refine Mx.m_run (.bool true) (Mx.wanted_none rfl) ?_ (HP6.out.abx HX.out) ?_
    · go_simp
    simp only [Act.put, List.setIfInBounds_toArray, List.set_cons_zero, List.set_cons_succ]
    refine Mx.m_run (.bool true) (Mx.wanted_none rfl) ?_ (HP6.out.abx HX.out) ?_
    · go_simp
    simp only [Act.put, List.setIfInBounds_toArray, List.set_cons_zero, List.set_cons_succ]
    refine Mx.m_nil ?_
    intro hfin
    go_wp2_with fail
    go_ret
    exact ⟨rfl, HA.out ▸ HP6.out.i, HA.out ▸ HP6.out.rr⟩

end Go.Proofs.Ythjgpodpnoaieaa.Wd
