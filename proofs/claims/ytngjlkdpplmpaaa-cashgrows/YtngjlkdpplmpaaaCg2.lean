/- The document's own world in memory: two lists behind a pointer; Fixed and Chosen. -/
import Derived.Test.YtngjlkdpplmpaaaCg1
import Derived.OwnWalk
import Derived.Test.YtngjlkdpplmpaaaRefN
import Derived.Test.YtngjlkdpplmpaaaGrowL
import Derived.Test.YtngjlkdpplmpaaaMaker
import Derived.Test.YtngjlkdpplmpaaaMakerObs
import Derived.Test.YtngjlkdpplmpaaaRefO
import Derived.Test.YtngjlkdpplmpaaaRefSame
namespace Go.Proofs.Ytngjlkdpplmpaaa.Wd
open Go.RowKit Go.Maps
set_option linter.unusedVariables false

def rF (F : List ((ByteArray × Int) × Int)) : List Value := F.flatMap fun q => [.string q.1.1, .int .i64 q.1.2, .int .i64 q.2]
def rC (C : List ((ByteArray × ByteArray) × (Int × Int))) : List Value := C.flatMap fun q => [.string q.1.1, .string q.1.2, .int .i64 q.2.1, .int .i64 q.2.2]
theorem rF_app (a b : List ((ByteArray × Int) × Int)) : rF (a ++ b) = rF a ++ rF b := by simp [rF]
theorem rC_app (a b : List ((ByteArray × ByteArray) × (Int × Int))) : rC (a ++ b) = rC a ++ rC b := by simp [rC]
theorem rF_at : ∀ (F : List ((ByteArray × Int) × Int)) (i : Nat) (h : i < F.length), (rF F)[i * 3]? = some (.string F[i].1.1) ∧ (rF F)[i * 3 + 1]? = some (.int .i64 F[i].1.2) ∧ (rF F)[i * 3 + 2]? = some (.int .i64 F[i].2)
  | [], i, h => by simp at h
  | q :: F, 0, _ => by simp [rF]
  | q :: F, i + 1, h => by
    have ih := rF_at F i (by simpa using h)
    have e : rF (q :: F) = [.string q.1.1, .int .i64 q.1.2, .int .i64 q.2] ++ rF F := by simp [rF]
    rw [e, show (i + 1) * 3 = 3 + i * 3 by omega, show 3 + i * 3 + 1 = 3 + (i * 3 + 1) by omega, show 3 + i * 3 + 2 = 3 + (i * 3 + 2) by omega]
    rw [List.getElem?_append_right (by simp), List.getElem?_append_right (by simp), List.getElem?_append_right (by simp)]
    simpa using ih
theorem rC_at : ∀ (F : List ((ByteArray × ByteArray) × (Int × Int))) (i : Nat) (h : i < F.length), (rC F)[i * 4]? = some (.string F[i].1.1) ∧ (rC F)[i * 4 + 1]? = some (.string F[i].1.2) ∧ (rC F)[i * 4 + 2]? = some (.int .i64 F[i].2.1) ∧ (rC F)[i * 4 + 3]? = some (.int .i64 F[i].2.2)
  | [], i, h => by simp at h
  | q :: F, 0, _ => by simp [rC]
  | q :: F, i + 1, h => by
    have ih := rC_at F i (by simpa using h)
    have e : rC (q :: F) = [.string q.1.1, .string q.1.2, .int .i64 q.2.1, .int .i64 q.2.2] ++ rC F := by simp [rC]
    rw [e, show (i + 1) * 4 = 4 + i * 4 by omega, show 4 + i * 4 + 1 = 4 + (i * 4 + 1) by omega, show 4 + i * 4 + 2 = 4 + (i * 4 + 2) by omega, show 4 + i * 4 + 3 = 4 + (i * 4 + 3) by omega]
    rw [List.getElem?_append_right (by simp), List.getElem?_append_right (by simp), List.getElem?_append_right (by simp), List.getElem?_append_right (by simp)]
    simpa using ih

/-- The document's world in memory, from block B on. -/
structure RIn (w : World) (B r : Nat) (K : KW) (vF vC : Value) : Prop where
  blk : w.heap[r]? = some (.cells #[vF, vC] 109)
  rf : w.ownsRow B 180 3 vF K.F.length (rF K.F)
  rc : w.ownsRow B 148 4 vC K.C.length (rC K.C)
  hr : B ≤ r
theorem row_shape {w : World} {B : Nat} {e : TypeId} {size n : Nat} {v : Value} {xs : List Value} (h : w.ownsRow B e size v n xs) : ∃ ao cap, v = .slice ao n cap := by
  rcases h.2 with ⟨rfl, h0⟩ | ⟨g, cap, cur, rfl, _⟩
  · subst h0; exact ⟨_, _, rfl⟩
  · exact ⟨_, _, rfl⟩
theorem row_cells {w : World} {B : Nat} {e : TypeId} {size n : Nat} {v : Value} {xs : List Value} (h : w.ownsRow B e size v n xs) (hn : 0 < n) : ∃ g cap, v = .slice (some ⟨g, 0, none⟩) n cap ∧ g < w.heap.size ∧ ∀ j u, xs[j]? = some u → w.cell? ⟨g, j, none⟩ = some u := by
  have hc := fun g hg => h.cells (g := g) hg
  have hlt := h.lt
  rcases h.2 with ⟨rfl, h0⟩ | ⟨g, cap, cur, rfl, _⟩
  · omega
  · refine ⟨g, cap, rfl, (hlt g rfl).2, fun j u hu => ?_⟩
    have := hc g rfl j u hu
    rw [Addr.add_lit, Nat.zero_add] at this
    exact this

theorem toList_loop (b : ByteArray) : ∀ n i r, b.size - i = n → ByteArray.toList.loop b i r = r.reverse ++ b.data.toList.drop i := by
  have hs : b.data.toList.length = b.size := by simp
  intro n
  induction n with
  | zero =>
    intro i r h
    rw [ByteArray.toList.loop, if_neg (by omega), List.drop_eq_nil_of_le (by omega)]
    simp
  | succ n ih =>
    intro i r h
    have hi : i < b.size := by omega
    rw [ByteArray.toList.loop, if_pos hi, ih (i + 1) _ (by omega), List.drop_eq_getElem_cons (by omega : i < b.data.toList.length)]
    have hg : b.get! i = b.data.toList[i]'(by omega) := by
      cases b with
      | mk d => simp [ByteArray.get!]; exact getElem!_pos d i hi
    simp [hg]
theorem bytes_inj {a b : ByteArray} (h : a.toList = b.toList) : a = b := by
  unfold ByteArray.toList at h
  rw [toList_loop a _ 0 [] rfl, toList_loop b _ 0 [] rfl] at h
  simp at h
  cases a; cases b
  simp at h
  rw [h]
theorem find_first {α β : Type} [DecidableEq α] : ∀ (l : List (α × β)) (p : α) (i : Nat) (q : α × β), l[i]? = some q → q.1 = p → (∀ j (hj : j < l.length), j < i → l[j].1 ≠ p) → (l.find? fun q => decide (q.1 = p)).map (·.2) = some q.2
  | [], p, i, q, h, _, _ => by simp at h
  | x :: l, p, 0, q, h, hq, _ => by
    simp at h
    subst h
    simp [hq]
  | x :: l, p, i + 1, q, h, hq, hn => by
    have h0 := hn 0 (by simp) (by omega)
    simp only [List.getElem_cons_zero] at h0
    rw [List.find?_cons_of_neg (by simpa using h0)]
    refine find_first l p i q (by simpa using h) hq (fun j hj hji => ?_)
    have := hn (j + 1) (by simpa using hj) (by omega)
    simpa using this
theorem hidInW {p : Prop} (h : p) : Hid p := h
set_option maxHeartbeats 2000000 in
set_option maxRecDepth 100000 in
theorem refFixed_any (w : World) (B r : Nat) (K : KW) (vF vC : Value) (h : RIn w B r K vF vC) (s : ByteArray) (d : Int) (hlen : K.F.length ≤ 1000000) :
    Calls Try.prog 87 #[.pointer (some ⟨r, 0, none⟩), .string s, .int .i64 d] w fun e w' => e = .returned (.tuple #[.int .i64 ((K.fixed (s, d)).getD 0), .bool (K.fixed (s, d)).isSome]) ∧ Below w.heap.size w w' := by
  have c0 : w.cell? ⟨r, 0, none⟩ = some vF := cell_blk h.blk rfl
  obtain ⟨ao, cap, rfl⟩ := row_shape h.rf
  have HR : Hid (w.ownsRow B 180 3 (.slice ao K.F.length cap) K.F.length (rF K.F)) := h.rf
  have HK : Hid (K.fixed (s, d) = (K.F.find? fun q => decide (q.1 = (s, d))).map (·.2)) := rfl
  clear h
  generalize hF : K.F = F at *
  go_enter Try.func87, Try.ntmps87
  go_wp2_with fail
  go_loopw [15] (fun s15 wr => ∃ i : Nat, i ≤ F.length ∧ s15 = .int .i64 i ∧ Below w.heap.size w wr ∧ ∀ j (hj : j < F.length), j < i → F[j].1 ≠ (s, d)) (fun s15 _ => F.length - (intOf s15).toNat)
  case atStart => exact ⟨0, by omega, rfl, Below.refl _ _, fun j _ hj => absurd hj (by omega)⟩
  case round =>
    obtain ⟨i, hi, rfl, hb, hno⟩ := hrel
    have HB := hidInW hb
    have HNO := hidInW hno
    clear hb hno
    by_cases hil : i < F.length
    · have a1 : (i : Int) < (F.length : Int) := by omega
      obtain ⟨g, cap', hv, hg, hcl⟩ := row_cells HR.out (by omega)
      simp only [Value.slice.injEq] at hv
      obtain ⟨rfl, _, _⟩ := hv
      obtain ⟨q0, q1, q2⟩ := rF_at F i hil
      have d0 : wr.cell? ⟨g, i * 3, none⟩ = some (.string F[i].1.1) := (HB.out.cell (p := ⟨g, i * 3, none⟩) hg).trans (hcl _ _ q0)
      have d1 : wr.cell? ⟨g, i * 3 + 1, none⟩ = some (.int .i64 F[i].1.2) := (HB.out.cell (p := ⟨g, i * 3 + 1, none⟩) hg).trans (hcl _ _ q1)
      have d2 : wr.cell? ⟨g, i * 3 + 2, none⟩ = some (.int .i64 F[i].2) := (HB.out.cell (p := ⟨g, i * 3 + 2, none⟩) hg).trans (hcl _ _ q2)
      clear hcl q0 q1 q2
      generalize hq : F[i] = q at *
      have hqi : F[i]? = some q := by rw [List.getElem?_eq_getElem hil, hq]
      by_cases e0 : q.1.1.toList = s.toList
      · have e1 : (q.1.1.toList == s.toList) = true := by rw [beq_iff_eq]; exact e0
        have HE0 := hidInW e0
        clear e0
        cases e2 : (q.1.2 == d) with
        | false =>
          go_wp2_with fail
          go_roundw
          case rel =>
            refine ⟨i + 1, by omega, by go_num, below_alloc HB.out _, fun j hj hji => ?_⟩
            by_cases hje : j = i
            · subst hje
              rw [hq]
              intro e
              rw [e] at e2
              simp at e2
            · exact HNO.out j hj (by omega)
          case measure => simp [intOf]; omega
        | true =>
          go_wp2_with fail
          go_ret2
          have hqe : q.1 = (s, d) := Prod.ext (bytes_inj HE0.out) (by simpa using e2)
          have hfd := find_first F (s, d) i q hqi hqe (fun j hj hji => HNO.out j hj hji)
          refine ⟨?_, below_alloc HB.out _⟩
          rw [HK.out, hfd]
          rfl
      · have e1 : (q.1.1.toList == s.toList) = false := by rw [beq_eq_false_iff_ne]; exact e0
        have HE0 := hidInW e0
        clear e0
        go_wp2_with fail
        go_roundw
        case rel =>
          refine ⟨i + 1, by omega, by go_num, below_alloc HB.out _, fun j hj hji => ?_⟩
          by_cases hje : j = i
          · subst hje
            rw [hq]
            intro e
            have := HE0.out
            rw [e] at this
            exact this rfl
          · exact HNO.out j hj (by omega)
        case measure => simp [intOf]; omega
    · have a1 : ¬ (i : Int) < (F.length : Int) := by omega
      go_wp2_with fail
      go_ret2
      refine ⟨?_, HB.out⟩
      have hn : (F.find? fun q => decide (q.1 = (s, d))).map (·.2) = none := by
        rw [find_none]
        intro q hq
        obtain ⟨j, hj, rfl⟩ := List.getElem_of_mem hq
        exact HNO.out j hj (by omega)
      rw [HK.out, hn]
      rfl

set_option maxHeartbeats 2000000 in
set_option maxRecDepth 100000 in
theorem refChosen_any (w : World) (B r : Nat) (K : KW) (vF vC : Value) (h : RIn w B r K vF vC) (s d : ByteArray) (hlen : K.C.length ≤ 1000000) :
    Calls Try.prog 60 #[.pointer (some ⟨r, 0, none⟩), .string s, .string d] w fun e w' => e = .returned (.tuple #[.int .i64 ((K.chosen (s, d)).getD (0, 0)).1, .int .i64 ((K.chosen (s, d)).getD (0, 0)).2, .bool (K.chosen (s, d)).isSome]) ∧ Below w.heap.size w w' := by
  have c0 : w.cell? ⟨r, 1, none⟩ = some vC := cell_blk h.blk rfl
  obtain ⟨ao, cap, rfl⟩ := row_shape h.rc
  have HR : Hid (w.ownsRow B 148 4 (.slice ao K.C.length cap) K.C.length (rC K.C)) := h.rc
  have HK : Hid (K.chosen (s, d) = (K.C.find? fun q => decide (q.1 = (s, d))).map (·.2)) := rfl
  clear h
  generalize hF : K.C = F at *
  go_enter Try.func60, Try.ntmps60
  go_wp2_with fail
  go_loopw [16] (fun s15 wr => ∃ i : Nat, i ≤ F.length ∧ s15 = .int .i64 i ∧ Below w.heap.size w wr ∧ ∀ j (hj : j < F.length), j < i → F[j].1 ≠ (s, d)) (fun s15 _ => F.length - (intOf s15).toNat)
  case atStart => exact ⟨0, by omega, rfl, Below.refl _ _, fun j _ hj => absurd hj (by omega)⟩
  case round =>
    obtain ⟨i, hi, rfl, hb, hno⟩ := hrel
    have HB := hidInW hb
    have HNO := hidInW hno
    clear hb hno
    by_cases hil : i < F.length
    · have a1 : (i : Int) < (F.length : Int) := by omega
      obtain ⟨g, cap', hv, hg, hcl⟩ := row_cells HR.out (by omega)
      simp only [Value.slice.injEq] at hv
      obtain ⟨rfl, _, _⟩ := hv
      obtain ⟨q0, q1, q2, q3⟩ := rC_at F i hil
      have d0 : wr.cell? ⟨g, i * 4, none⟩ = some (.string F[i].1.1) := (HB.out.cell (p := ⟨g, i * 4, none⟩) hg).trans (hcl _ _ q0)
      have d1 : wr.cell? ⟨g, i * 4 + 1, none⟩ = some (.string F[i].1.2) := (HB.out.cell (p := ⟨g, i * 4 + 1, none⟩) hg).trans (hcl _ _ q1)
      have d2 : wr.cell? ⟨g, i * 4 + 2, none⟩ = some (.int .i64 F[i].2.1) := (HB.out.cell (p := ⟨g, i * 4 + 2, none⟩) hg).trans (hcl _ _ q2)
      have d3 : wr.cell? ⟨g, i * 4 + 3, none⟩ = some (.int .i64 F[i].2.2) := (HB.out.cell (p := ⟨g, i * 4 + 3, none⟩) hg).trans (hcl _ _ q3)
      clear hcl q0 q1 q2 q3
      generalize hq : F[i] = q at *
      have hqi : F[i]? = some q := by rw [List.getElem?_eq_getElem hil, hq]
      by_cases e0 : q.1.1.toList = s.toList
      · have e1 : (q.1.1.toList == s.toList) = true := by rw [beq_iff_eq]; exact e0
        have HE0 := hidInW e0
        clear e0
        by_cases e3 : q.1.2.toList = d.toList
        rotate_left
        · have e2 : (q.1.2.toList == d.toList) = false := by rw [beq_eq_false_iff_ne]; exact e3
          have HE3 := hidInW e3
          clear e3
          go_wp2_with fail
          go_roundw
          case rel =>
            refine ⟨i + 1, by omega, by go_num, below_alloc HB.out _, fun j hj hji => ?_⟩
            by_cases hje : j = i
            · subst hje
              rw [hq]
              intro e
              have := HE3.out
              rw [e] at this
              exact this rfl
            · exact HNO.out j hj (by omega)
          case measure => simp [intOf]; omega
        · have e2 : (q.1.2.toList == d.toList) = true := by rw [beq_iff_eq]; exact e3
          have HE3 := hidInW e3
          clear e3
          go_wp2_with fail
          go_region
          go_wp2_with fail
          go_ret3
          have hqe : q.1 = (s, d) := Prod.ext (bytes_inj HE0.out) (bytes_inj HE3.out)
          have hfd := find_first F (s, d) i q hqi hqe (fun j hj hji => HNO.out j hj hji)
          refine ⟨?_, (below_alloc HB.out _).drew⟩
          rw [HK.out, hfd]
          rfl
      · have e1 : (q.1.1.toList == s.toList) = false := by rw [beq_eq_false_iff_ne]; exact e0
        have HE0 := hidInW e0
        clear e0
        go_wp2_with fail
        go_roundw
        case rel =>
          refine ⟨i + 1, by omega, by go_num, below_alloc HB.out _, fun j hj hji => ?_⟩
          by_cases hje : j = i
          · subst hje
            rw [hq]
            intro e
            have := HE0.out
            rw [e] at this
            exact this rfl
          · exact HNO.out j hj (by omega)
        case measure => simp [intOf]; omega
    · have a1 : ¬ (i : Int) < (F.length : Int) := by omega
      go_wp2_with fail
      go_ret3
      refine ⟨?_, HB.out⟩
      have hn : (F.find? fun q => decide (q.1 = (s, d))).map (·.2) = none := by
        rw [find_none]
        intro q hq
        obtain ⟨j, hj, rfl⟩ := List.getElem_of_mem hq
        exact HNO.out j hj (by omega)
      rw [HK.out, hn]
      rfl

end Go.Proofs.Ytngjlkdpplmpaaa.Wd
namespace Go.Proofs.Ytngjlkdpplmpaaa.Wd
open Go.RowKit Go.Maps
set_option linter.unusedVariables false

/-- What the document's world may turn: its own block, and rows of fixings and of choices, from block B on. -/
structure RT (B r : Nat) (w w' : World) : Prop where
  below : Below B w w'
  kept : ∀ k, k < w.heap.size → k ≠ r → (∀ cs, w.heap[k]? ≠ some (.cells cs 180)) → (∀ cs, w.heap[k]? ≠ some (.cells cs 148)) → w'.heap[k]? = w.heap[k]?
theorem RT.of_below {B r : Nat} {w w' : World} (h : Below w.heap.size w w') (hB : B ≤ w.heap.size) : RT B r w w' := ⟨h.mono hB, fun k hk _ _ _ => h.block k hk⟩
theorem RT.after {B r : Nat} {w w1 w2 : World} (h : RT B r w1 w2) (hb : Below w.heap.size w w1) (hB : B ≤ w.heap.size) : RT B r w w2 :=
  ⟨(hb.mono hB).trans h.below, fun k hk hkr h1 h2 => by
    have e := hb.block k hk
    exact (h.kept k (Nat.lt_of_lt_of_le hk hb.size) hkr (by rw [e]; exact h1) (by rw [e]; exact h2)).trans e⟩
theorem RIn.below {w w' : World} {B r : Nat} {K : KW} {vF vC : Value} (h : RIn w B r K vF vC) (hb : Below w.heap.size w w') : RIn w' B r K vF vC := by
  have hg : w.grownBy w' none := ⟨hb.os, hb.tape, hb.output, hb.size, fun k hk _ => hb.block k hk⟩
  refine ⟨(hb.block r (Array.getElem?_eq_some_iff.1 h.blk).1).trans h.blk, h.rf.kept hg ?_, h.rc.kept hg ?_, h.hr⟩
  · cases hv : vF.ownBlock <;> simp
  · cases hv : vC.ownBlock <;> simp
/-- A row's block holds elements of its type. -/
theorem row_block {w : World} {B : Nat} {e : TypeId} {size n : Nat} {v : Value} {xs : List Value} (h : w.ownsRow B e size v n xs) {k : Nat} (hk : v.ownBlock = some k) : ∃ cs, w.heap[k]? = some (.cells cs e) := by
  rcases h.2 with ⟨rfl, _⟩ | ⟨g, cap, cur, rfl, hb, hg, _⟩
  · simp [Value.ownBlock] at hk
  · simp [Value.ownBlock] at hk
    subst hk
    exact ⟨cur, hg⟩
theorem RIn.neF {w : World} {B r : Nat} {K : KW} {vF vC : Value} (h : RIn w B r K vF vC) : vF.ownBlock ≠ some r := by
  intro e
  obtain ⟨cs, hc⟩ := row_block h.rf e
  have := h.blk
  rw [hc] at this
  cases this
theorem RIn.neC {w : World} {B r : Nat} {K : KW} {vF vC : Value} (h : RIn w B r K vF vC) : vC.ownBlock ≠ some r := by
  intro e
  obtain ⟨cs, hc⟩ := row_block h.rc e
  have := h.blk
  rw [hc] at this
  cases this
theorem RIn.neFC {w : World} {B r : Nat} {K : KW} {vF vC : Value} (h : RIn w B r K vF vC) : vC.ownBlock = none ∨ vC.ownBlock ≠ vF.ownBlock := by
  cases hc : vC.ownBlock with
  | none => exact .inl rfl
  | some k =>
    right
    intro e
    obtain ⟨cs, h1⟩ := row_block h.rc hc
    obtain ⟨cs', h2⟩ := row_block h.rf e.symm
    rw [h1] at h2
    cases h2
theorem RIn.cell0 {w : World} {B r : Nat} {K : KW} {vF vC : Value} (h : RIn w B r K vF vC) : w.cell? ⟨r, 0, none⟩ = some vF := cell_blk h.blk rfl
theorem RIn.cell1 {w : World} {B r : Nat} {K : KW} {vF vC : Value} (h : RIn w B r K vF vC) : w.cell? ⟨r, 1, none⟩ = some vC := cell_blk h.blk rfl
/-- What a fixing more leaves. -/
theorem RIn.addF {w w1 : World} {B r : Nat} {K : KW} {vF vC v' : Value} (h : RIn w B r K vF vC) (hB : B ≤ w.heap.size) (q : (ByteArray × Int) × Int)
    (hown : w1.ownsRow B 180 3 v' (K.F.length + 1) (rF K.F ++ [.string q.1.1, .int .i64 q.1.2, .int .i64 q.2])) (hg : w.grownBy w1 vF.ownBlock) :
    RIn (w1.setCell ⟨r, 0, none⟩ v') B r ⟨K.F ++ [q], K.C⟩ v' vC ∧ RT B r w (w1.setCell ⟨r, 0, none⟩ v') := by
  have hr : r < w.heap.size := (Array.getElem?_eq_some_iff.1 h.blk).1
  have hb1 : w1.heap[r]? = some (.cells #[vF, vC] 109) := (hg.block r hr (fun e => h.neF e.symm)).trans h.blk
  have hne' : v'.ownBlock ≠ some r := by
    intro e
    obtain ⟨cs, hc⟩ := row_block hown e
    rw [hc] at hb1
    cases hb1
  have hrc : w1.ownsRow B 148 4 vC K.C.length (rC K.C) := h.rc.kept hg h.neFC
  refine ⟨⟨heap_setCell_same w1 r 0 _ _ _ hb1, ?_, ?_, h.hr⟩, ⟨?_, ?_⟩⟩
  · have := ownsRow_setCell_other hown (a := ⟨r, 0, none⟩) (by exact hne') v'
    rw [rF_app]
    simpa [rF] using this
  · exact ownsRow_setCell_other hrc (a := ⟨r, 0, none⟩) (by exact h.neC) v'
  · have hb : Below B w w1 := ⟨hg.os, hg.tape, hg.output, hg.size, fun k hk => hg.block k (by omega) (fun e => by have := (h.rf.lt k e.symm).1; omega)⟩
    exact hb.setCell h.hr v'
  · intro k hk hkr h1 h2
    rw [heap_setCell_other w1 ⟨r, 0, none⟩ k _ hkr]
    refine hg.block k hk (fun e => ?_)
    obtain ⟨cs, hc⟩ := row_block h.rf e.symm
    exact h1 cs hc
theorem RIn.addC {w w1 : World} {B r : Nat} {K : KW} {vF vC v' : Value} (h : RIn w B r K vF vC) (hB : B ≤ w.heap.size) (q : (ByteArray × ByteArray) × (Int × Int))
    (hown : w1.ownsRow B 148 4 v' (K.C.length + 1) (rC K.C ++ [.string q.1.1, .string q.1.2, .int .i64 q.2.1, .int .i64 q.2.2])) (hg : w.grownBy w1 vC.ownBlock) :
    RIn (w1.setCell ⟨r, 1, none⟩ v') B r ⟨K.F, K.C ++ [q]⟩ vF v' ∧ RT B r w (w1.setCell ⟨r, 1, none⟩ v') := by
  have hr : r < w.heap.size := (Array.getElem?_eq_some_iff.1 h.blk).1
  have hb1 : w1.heap[r]? = some (.cells #[vF, vC] 109) := (hg.block r hr (fun e => h.neC e.symm)).trans h.blk
  have hne' : v'.ownBlock ≠ some r := by
    intro e
    obtain ⟨cs, hc⟩ := row_block hown e
    rw [hc] at hb1
    cases hb1
  have hrf : w1.ownsRow B 180 3 vF K.F.length (rF K.F) := h.rf.kept hg (by
    rcases h.neFC with e | e
    · cases hv : vF.ownBlock with
      | none => exact .inl rfl
      | some k => right; rw [e]; simp
    · exact .inr (fun x => e x.symm))
  refine ⟨⟨heap_setCell_same w1 r 1 _ _ _ hb1, ?_, ?_, h.hr⟩, ⟨?_, ?_⟩⟩
  · exact ownsRow_setCell_other hrf (a := ⟨r, 1, none⟩) (by exact h.neF) v'
  · have := ownsRow_setCell_other hown (a := ⟨r, 1, none⟩) (by exact hne') v'
    rw [rC_app]
    simpa [rC] using this
  · have hb : Below B w w1 := ⟨hg.os, hg.tape, hg.output, hg.size, fun k hk => hg.block k (by omega) (fun e => by have := (h.rc.lt k e.symm).1; omega)⟩
    exact hb.setCell h.hr v'
  · intro k hk hkr h1 h2
    rw [heap_setCell_other w1 ⟨r, 1, none⟩ k _ hkr]
    refine hg.block k hk (fun e => ?_)
    obtain ⟨cs, hc⟩ := row_block h.rc e.symm
    exact h2 cs hc

end Go.Proofs.Ytngjlkdpplmpaaa.Wd
namespace Go.Proofs.Ytngjlkdpplmpaaa.Ca
open Go.RowKit Wd Cn Vl
set_option linter.unusedVariables false

def Fl.cells (x : Fl) : List Value := [.int .i64 x.day, .string x.cur, .int .i64 x.amt]
def Wt.cells (y : Wt) : List Value := [.bool y.ch, .string y.name, .string y.label, .int .i64 y.day, .int .i64 y.side]
def Wt.val (y : Wt) : Value := .agg #[.bool y.ch, .string y.name, .string y.label, .int .i64 y.day, .int .i64 y.side]
def rowFl (l : List Fl) : List Value := l.flatMap Fl.cells
def rowWt (l : List Wt) : List Value := l.flatMap Wt.cells
theorem rowFl_app (a b : List Fl) : rowFl (a ++ b) = rowFl a ++ rowFl b := by simp [rowFl]
theorem rowWt_app (a b : List Wt) : rowWt (a ++ b) = rowWt a ++ rowWt b := by simp [rowWt]
theorem rowFl_at : ∀ (F : List Fl) (i : Nat) (x : Fl), F[i]? = some x → (rowFl F)[i * 3]? = some (.int .i64 x.day) ∧ (rowFl F)[i * 3 + 1]? = some (.string x.cur) ∧ (rowFl F)[i * 3 + 2]? = some (.int .i64 x.amt)
  | [], i, x, h => by simp at h
  | q :: F, 0, x, h => by simp at h; subst h; simp [rowFl, Fl.cells]
  | q :: F, i + 1, x, h => by
    have ih := rowFl_at F i x (by simpa using h)
    have e : rowFl (q :: F) = Fl.cells q ++ rowFl F := by simp [rowFl]
    rw [e, show (i + 1) * 3 = 3 + i * 3 by omega, show 3 + i * 3 + 1 = 3 + (i * 3 + 1) by omega, show 3 + i * 3 + 2 = 3 + (i * 3 + 2) by omega]
    rw [List.getElem?_append_right (by simp [Fl.cells]), List.getElem?_append_right (by simp [Fl.cells]), List.getElem?_append_right (by simp [Fl.cells])]
    simpa [Fl.cells] using ih
theorem rowWt_at : ∀ (F : List Wt) (i : Nat) (x : Wt), F[i]? = some x → (rowWt F)[i * 5]? = some (.bool x.ch) ∧ (rowWt F)[i * 5 + 1]? = some (.string x.name) ∧ (rowWt F)[i * 5 + 2]? = some (.string x.label) ∧ (rowWt F)[i * 5 + 3]? = some (.int .i64 x.day) ∧ (rowWt F)[i * 5 + 4]? = some (.int .i64 x.side)
  | [], i, x, h => by simp at h
  | q :: F, 0, x, h => by simp at h; subst h; simp [rowWt, Wt.cells]
  | q :: F, i + 1, x, h => by
    have ih := rowWt_at F i x (by simpa using h)
    have e : rowWt (q :: F) = Wt.cells q ++ rowWt F := by simp [rowWt]
    rw [e, show (i + 1) * 5 = 5 + i * 5 by omega, show 5 + i * 5 + 1 = 5 + (i * 5 + 1) by omega, show 5 + i * 5 + 2 = 5 + (i * 5 + 2) by omega, show 5 + i * 5 + 3 = 5 + (i * 5 + 3) by omega, show 5 + i * 5 + 4 = 5 + (i * 5 + 4) by omega]
    rw [List.getElem?_append_right (by simp [Wt.cells]), List.getElem?_append_right (by simp [Wt.cells]), List.getElem?_append_right (by simp [Wt.cells]), List.getElem?_append_right (by simp [Wt.cells]), List.getElem?_append_right (by simp [Wt.cells])]
    simpa [Wt.cells] using ih

/-- Cells of a block, the third of which is the payments', the fourth the waits'. -/
structure Two (mk : Value → Value → Array Value) : Prop where
  g2 : ∀ x y, (mk x y)[2]? = some x
  g3 : ∀ x y, (mk x y)[3]? = some y
  s2 : ∀ x y v, (mk x y).setIfInBounds 2 v = mk v y
  s3 : ∀ x y v, (mk x y).setIfInBounds 3 v = mk x v
/-- What a walk keeps, in memory, from block B on. -/
structure AIn (w : World) (B a : Nat) (T : TypeId) (mk : Value → Value → Array Value) (F : List Fl) (W : List Wt) (vF vW : Value) : Prop where
  blk : w.heap[a]? = some (.cells (mk vF vW) T)
  rf : w.ownsRow B 46 3 vF F.length (rowFl F)
  rw' : w.ownsRow B 43 5 vW W.length (rowWt W)
  ha : B ≤ a
theorem AIn.below {w w' : World} {B a : Nat} {T : TypeId} {mk : Value → Value → Array Value} {F : List Fl} {W : List Wt} {vF vW : Value} (h : AIn w B a T mk F W vF vW) (hb : Below w.heap.size w w') : AIn w' B a T mk F W vF vW := by
  have hg : w.grownBy w' none := ⟨hb.os, hb.tape, hb.output, hb.size, fun k hk _ => hb.block k hk⟩
  refine ⟨(hb.block a (Array.getElem?_eq_some_iff.1 h.blk).1).trans h.blk, h.rf.kept hg ?_, h.rw'.kept hg ?_, h.ha⟩
  · cases hv : vF.ownBlock <;> simp
  · cases hv : vW.ownBlock <;> simp
section
variable {w : World} {B a : Nat} {T : TypeId} {mk : Value → Value → Array Value} {F : List Fl} {W : List Wt} {vF vW : Value}
theorem AIn.neF (h : AIn w B a T mk F W vF vW) (hT : T ≠ 46) : vF.ownBlock ≠ some a := by
  intro e
  obtain ⟨cs, hc⟩ := row_block h.rf e
  have := h.blk
  rw [hc] at this
  injection this with e
  injection e with _ e
  exact hT e.symm
theorem AIn.neW (h : AIn w B a T mk F W vF vW) (hT : T ≠ 43) : vW.ownBlock ≠ some a := by
  intro e
  obtain ⟨cs, hc⟩ := row_block h.rw' e
  have := h.blk
  rw [hc] at this
  injection this with e
  injection e with _ e
  exact hT e.symm
theorem AIn.neFW (h : AIn w B a T mk F W vF vW) : vW.ownBlock = none ∨ vW.ownBlock ≠ vF.ownBlock := by
  cases hc : vW.ownBlock with
  | none => exact .inl rfl
  | some k =>
    right
    intro e
    obtain ⟨cs, h1⟩ := row_block h.rw' hc
    obtain ⟨cs', h2⟩ := row_block h.rf e.symm
    rw [h1] at h2
    cases h2
theorem AIn.cell2 (h : AIn w B a T mk F W vF vW) (hm : Two mk) : w.cell? ⟨a, 2, none⟩ = some vF := cell_blk h.blk (hm.g2 _ _)
theorem AIn.cell3 (h : AIn w B a T mk F W vF vW) (hm : Two mk) : w.cell? ⟨a, 3, none⟩ = some vW := cell_blk h.blk (hm.g3 _ _)
/-- A payment more. -/
theorem AIn.addF {w1 : World} {v' : Value} (h : AIn w B a T mk F W vF vW) (hm : Two mk) (hT1 : T ≠ 46) (hT2 : T ≠ 43) (hB : B ≤ w.heap.size) (x : Fl)
    (hown : w1.ownsRow B 46 3 v' (F.length + 1) (rowFl F ++ x.cells)) (hg : w.grownBy w1 vF.ownBlock) :
    AIn (w1.setCell ⟨a, 2, none⟩ v') B a T mk (F ++ [x]) W v' vW ∧ Below B w (w1.setCell ⟨a, 2, none⟩ v') := by
  have hr : a < w.heap.size := (Array.getElem?_eq_some_iff.1 h.blk).1
  have hb1 : w1.heap[a]? = some (.cells (mk vF vW) T) := (hg.block a hr (fun e => h.neF hT1 e.symm)).trans h.blk
  have hne' : v'.ownBlock ≠ some a := by
    intro e
    obtain ⟨cs, hc⟩ := row_block hown e
    rw [hc] at hb1
    injection hb1 with e
    injection e with _ e
    exact hT1 e.symm
  have hrc : w1.ownsRow B 43 5 vW W.length (rowWt W) := h.rw'.kept hg h.neFW
  refine ⟨⟨?_, ?_, ?_, h.ha⟩, ?_⟩
  · have := heap_setCell_same w1 a 2 _ _ v' hb1
    rw [hm.s2] at this
    exact this
  · have := ownsRow_setCell_other hown (a := ⟨a, 2, none⟩) (by exact hne') v'
    rw [rowFl_app]
    simpa [rowFl] using this
  · exact ownsRow_setCell_other hrc (a := ⟨a, 2, none⟩) (by exact h.neW hT2) v'
  · have hb : Below B w w1 := ⟨hg.os, hg.tape, hg.output, hg.size, fun k hk => hg.block k (by omega) (fun e => by have := (h.rf.lt k e.symm).1; omega)⟩
    exact hb.setCell h.ha v'
/-- A wait more. -/
theorem AIn.addW {w1 : World} {v' : Value} (h : AIn w B a T mk F W vF vW) (hm : Two mk) (hT1 : T ≠ 46) (hT2 : T ≠ 43) (hB : B ≤ w.heap.size) (y : Wt)
    (hown : w1.ownsRow B 43 5 v' (W.length + 1) (rowWt W ++ y.cells)) (hg : w.grownBy w1 vW.ownBlock) :
    AIn (w1.setCell ⟨a, 3, none⟩ v') B a T mk F (W ++ [y]) vF v' ∧ Below B w (w1.setCell ⟨a, 3, none⟩ v') := by
  have hr : a < w.heap.size := (Array.getElem?_eq_some_iff.1 h.blk).1
  have hb1 : w1.heap[a]? = some (.cells (mk vF vW) T) := (hg.block a hr (fun e => h.neW hT2 e.symm)).trans h.blk
  have hne' : v'.ownBlock ≠ some a := by
    intro e
    obtain ⟨cs, hc⟩ := row_block hown e
    rw [hc] at hb1
    injection hb1 with e
    injection e with _ e
    exact hT2 e.symm
  have hrf : w1.ownsRow B 46 3 vF F.length (rowFl F) := h.rf.kept hg (by
    rcases h.neFW with e | e
    · cases hv : vF.ownBlock with
      | none => exact .inl rfl
      | some k => right; rw [e]; simp
    · exact .inr (fun x => e x.symm))
  refine ⟨⟨?_, ?_, ?_, h.ha⟩, ?_⟩
  · have := heap_setCell_same w1 a 3 _ _ v' hb1
    rw [hm.s3] at this
    exact this
  · exact ownsRow_setCell_other hrf (a := ⟨a, 3, none⟩) (by exact h.neF hT1) v'
  · have := ownsRow_setCell_other hown (a := ⟨a, 3, none⟩) (by exact hne') v'
    rw [rowWt_app]
    simpa [rowWt] using this
  · have hb : Below B w w1 := ⟨hg.os, hg.tape, hg.output, hg.size, fun k hk => hg.block k (by omega) (fun e => by have := (h.rw'.lt k e.symm).1; omega)⟩
    exact hb.setCell h.ha v'
end
/-- What a walk may turn: its block, rows of payments and of waits; all else stays. -/
structure Kept (a : Nat) (w w' : World) : Prop where
  size : w.heap.size ≤ w'.heap.size
  kept : ∀ k, k < w.heap.size → k ≠ a → (∀ cs, w.heap[k]? ≠ some (.cells cs 46)) → (∀ cs, w.heap[k]? ≠ some (.cells cs 43)) → w'.heap[k]? = w.heap[k]?
theorem Kept.of_below {a : Nat} {w w' : World} (h : Below w.heap.size w w') : Kept a w w' := ⟨h.size, fun k hk _ _ _ => h.block k hk⟩
theorem Kept.trans {a : Nat} {u v w : World} (h : Kept a u v) (g : Kept a v w) : Kept a u w := by
  refine ⟨Nat.le_trans h.size g.size, fun k hk hka h1 h2 => ?_⟩
  have e := h.kept k hk hka h1 h2
  exact (g.kept k (Nat.lt_of_lt_of_le hk h.size) hka (by rw [e]; exact h1) (by rw [e]; exact h2)).trans e
theorem Kept.cells {a : Nat} {w w' : World} (h : Kept a w w') {k : Nat} {cs : Array Value} {t : TypeId} (hk : w.heap[k]? = some (.cells cs t)) (hr : k ≠ a) (h1 : t ≠ 46) (h2 : t ≠ 43) : w'.heap[k]? = some (.cells cs t) := by
  rw [h.kept k (Array.getElem?_eq_some_iff.1 hk).1 hr (fun cs' e => ?_) (fun cs' e => ?_)]
  · exact hk
  · rw [hk] at e; injection e with e; injection e with _ e; exact h1 e
  · rw [hk] at e; injection e with e; injection e with _ e; exact h2 e
/-- A row of another kind stays. -/
theorem Kept.row {a : Nat} {w w' : World} (h : Kept a w w') {B : Nat} {e : TypeId} {size n : Nat} {v : Value} {xs : List Value} (hr : w.ownsRow B e size v n xs) (hna : v.ownBlock ≠ some a) (h1 : e ≠ 46) (h2 : e ≠ 43) : w'.ownsRow B e size v n xs := by
  refine ⟨hr.1, ?_⟩
  rcases hr.2 with hn | ⟨g, cap, cur, rfl, hb, hg, rest⟩
  · exact .inl hn
  · exact .inr ⟨g, cap, cur, rfl, hb, h.cells hg (fun e => hna (by simp [Value.ownBlock, e])) h1 h2, rest⟩
/-- Behind a store into the walk's block, when a row has grown. -/
theorem Kept.grown {a i : Nat} {w w1 : World} {B : Nat} {e : TypeId} {size n : Nat} {v x : Value} {xs : List Value} (hr : w.ownsRow B e size v n xs) (he : e = 46 ∨ e = 43) (hg : w.grownBy w1 v.ownBlock) : Kept a w (w1.setCell ⟨a, i, none⟩ x) := by
  refine ⟨by simpa using hg.size, fun k hk hka h1 h2 => ?_⟩
  rw [heap_setCell_other w1 ⟨a, i, none⟩ k _ hka]
  refine hg.block k hk (fun e' => ?_)
  obtain ⟨cs, hc⟩ := row_block hr e'.symm
  rcases he with rfl | rfl
  · exact h1 cs hc
  · exact h2 cs hc
/-- What a walk keeps, and what was there when it began. -/
def St (w0 w : World) (a : Nat) (T : TypeId) (mk : Value → Value → Array Value) (F : List Fl) (W : List Wt) : Prop := (∃ vF vW, AIn w w0.heap.size a T mk F W vF vW) ∧ Below w0.heap.size w0 w
theorem St.step {w0 w w' : World} {a : Nat} {T : TypeId} {mk : Value → Value → Array Value} {F : List Fl} {W : List Wt} (h : St w0 w a T mk F W) (hb : Below w.heap.size w w') : St w0 w' a T mk F W := by
  obtain ⟨⟨vF, vW, h1⟩, h2⟩ := h
  exact ⟨⟨vF, vW, h1.below hb⟩, h2.trans (hb.mono h2.size)⟩
theorem St.at_row {w0 w : World} {a : Nat} {T : TypeId} {mk : Value → Value → Array Value} {F : List Fl} {W : List Wt} (h : St w0 w a T mk F W) {B : Nat} {e : TypeId} {size n : Nat} {v : Value} {xs : List Value} (hr : w.ownsRow B e size v n xs) (he : e ≠ T) : v.ownBlock ≠ some a := by
  obtain ⟨⟨vF, vW, h1⟩, _⟩ := h
  intro e'
  obtain ⟨cs, hc⟩ := row_block hr e'
  rw [h1.blk] at hc
  injection hc with e1
  injection e1 with _ e1
  exact he e1.symm
theorem St.at_cells {w0 w : World} {a : Nat} {T : TypeId} {mk : Value → Value → Array Value} {F : List Fl} {W : List Wt} (h : St w0 w a T mk F W) {k : Nat} {cs : Array Value} {t : TypeId} (hk : w.heap[k]? = some (.cells cs t)) (he : t ≠ T) : k ≠ a := by
  obtain ⟨⟨vF, vW, h1⟩, _⟩ := h
  rintro rfl
  rw [h1.blk] at hk
  injection hk with e1
  injection e1 with _ e1
  exact he e1.symm
theorem hidC {p : Prop} (h : p) : Hid p := h

end Go.Proofs.Ytngjlkdpplmpaaa.Ca
namespace Go.Proofs.Ytngjlkdpplmpaaa.Ca
open Go.RowKit Wd Cn Vl
set_option linter.unusedVariables false

/-- Waits in memory. -/
def HasWts (w : World) (ao : Option Addr) (l : List Wt) : Prop := ∀ i x, l[i]? = some x → ∃ g, ao = some ⟨g, 0, none⟩ ∧ g < w.heap.size ∧ w.cell? ⟨g, i * 5, none⟩ = some (.bool x.ch) ∧ w.cell? ⟨g, i * 5 + 1, none⟩ = some (.string x.name) ∧ w.cell? ⟨g, i * 5 + 2, none⟩ = some (.string x.label) ∧ w.cell? ⟨g, i * 5 + 3, none⟩ = some (.int .i64 x.day) ∧ w.cell? ⟨g, i * 5 + 4, none⟩ = some (.int .i64 x.side)
theorem HasWts.below {w w' : World} {ao : Option Addr} {l : List Wt} (h : HasWts w ao l) (hb : Below w.heap.size w w') : HasWts w' ao l := by
  intro i x hx
  obtain ⟨g, e, hg, h0, h1, h2, h3, h4⟩ := h i x hx
  have hc := fun o => hb.cell (p := ⟨g, o, none⟩) hg
  exact ⟨g, e, Nat.lt_of_lt_of_le hg hb.size, (hc _).trans h0, (hc _).trans h1, (hc _).trans h2, (hc _).trans h3, (hc _).trans h4⟩
theorem own_wts {w : World} {B : Nat} {v : Value} {l : List Wt} (h : w.ownsRow B 43 5 v l.length (rowWt l)) : ∃ ao cap, v = .slice ao l.length cap ∧ HasWts w ao l := by
  obtain ⟨ao, cap, rfl⟩ := row_shape h
  refine ⟨ao, cap, rfl, fun i x hx => ?_⟩
  have hi := (List.getElem?_eq_some_iff.1 hx).1
  obtain ⟨g, cap', e, hg, hc⟩ := row_cells h (by omega)
  injection e with e1 _ _
  obtain ⟨h0, h1, h2, h3, h4⟩ := rowWt_at l i x hx
  exact ⟨g, e1, hg, hc _ _ h0, hc _ _ h1, hc _ _ h2, hc _ _ h3, hc _ _ h4⟩

set_option maxHeartbeats 4000000 in
set_option maxRecDepth 100000 in
theorem index_any (w : World) (ao : Option Addr) (cap : Nat) (l : List Wt) (h : HasWts w ao l) (hl : l.length ≤ 1000000) (y : Wt) :
    Calls Try.prog 101 #[.slice ao l.length cap, y.val] w fun e w' => ∃ n : Int, e = .returned (.int .i64 n) ∧ (0 ≤ n ↔ y ∈ l) ∧ Below w.heap.size w w' := by
  have HH := hidC h
  clear h
  obtain ⟨c, nm, lb, d, s⟩ := y
  unfold Wt.val
  go_enter Try.func101, Try.ntmps101
  go_wp2_with fail
  go_loopw [8] (fun s8 wr => ∃ i : Nat, i ≤ l.length ∧ s8 = .int .i64 i ∧ Hid (∀ j, j < i → l[j]? ≠ some ⟨c, nm, lb, d, s⟩) ∧ Below w.heap.size w wr ∧ wr.heap[w.heap.size]? = some (.cells #[.bool c, .string nm, .string lb, .int .i64 d, .int .i64 s] 43)) (fun s8 _ => l.length - (intOf s8).toNat)
  case atStart => exact ⟨0, by omega, rfl, (fun j hj => absurd hj (by omega)), below_alloc (Below.refl _ _) _, heap_alloc_new _ _⟩
  case round =>
    obtain ⟨i, hi, rfl, HNO, hb, hblk⟩ := hrel
    have HB := hidC hb
    have HK := hidC hblk
    clear hb hblk
    by_cases hlt : i < l.length
    · have hlt' : (i : Int) < (l.length : Int) := by omega
      obtain ⟨x, hx⟩ : ∃ x, l[i]? = some x := ⟨_, List.getElem?_eq_getElem hlt⟩
      obtain ⟨g, rfl, hg, d0, d1, d2, d3, d4⟩ := (HH.out.below HB.out) i x hx
      have b0 := cell_of_row _ _ 0 _ _ _ HK.out
      have b1 := cell_of_row _ _ 1 _ _ _ HK.out
      have b2 := cell_of_row _ _ 2 _ _ _ HK.out
      have b3 := cell_of_row _ _ 3 _ _ _ HK.out
      have b4 := cell_of_row _ _ 4 _ _ _ HK.out
      rw [show (#[.bool c, .string nm, .string lb, .int .i64 d, .int .i64 s] : Array Value)[0]? = some (.bool c) from rfl] at b0
      rw [show (#[.bool c, .string nm, .string lb, .int .i64 d, .int .i64 s] : Array Value)[1]? = some (.string nm) from rfl] at b1
      rw [show (#[.bool c, .string nm, .string lb, .int .i64 d, .int .i64 s] : Array Value)[2]? = some (.string lb) from rfl] at b2
      rw [show (#[.bool c, .string nm, .string lb, .int .i64 d, .int .i64 s] : Array Value)[3]? = some (.int .i64 d) from rfl] at b3
      rw [show (#[.bool c, .string nm, .string lb, .int .i64 d, .int .i64 s] : Array Value)[4]? = some (.int .i64 s) from rfl] at b4
      have HX := hidC hx
      clear hx hg
      obtain ⟨xc, xn, xl, xd, xs⟩ := x
      simp only at d0 d1 d2 d3 d4
      by_cases he : c = xc ∧ nm = xn ∧ lb = xl ∧ d = xd ∧ s = xs
      · obtain ⟨rfl, rfl, rfl, rfl, rfl⟩ := he
        have e1 : (nm.toList == nm.toList) = true := beq_self_eq_true _
        have e2 : (lb.toList == lb.toList) = true := beq_self_eq_true _
        go_wp2_with fail
        go_region
        go_wp2_with fail
        all_goals go_ret
        all_goals exact ⟨_, rfl, ⟨fun _ => List.mem_of_getElem? HX.out, fun _ => by omega⟩, HB.out.drew⟩
      · have HNE := hidC he
        have HNO' : Hid (∀ j, j < i + 1 → l[j]? ≠ some ⟨c, nm, lb, d, s⟩) := fun j hj e => by
          rcases (by omega : j < i ∨ j = i) with h | h
          · exact HNO.out j h e
          · subst h
            rw [HX.out] at e
            injection e with e
            injection e with h0 h1 h2 h3 h4
            exact HNE.out ⟨h0.symm, h1.symm, h2.symm, h3.symm, h4.symm⟩
        have ways : (c = true ∧ xc = false) ∨ (c = false ∧ xc = true) ∨ (c = xc ∧ (nm.toList == xn.toList) = false) ∨ (c = xc ∧ (nm.toList == xn.toList) = true ∧ (lb.toList == xl.toList) = false) ∨ (c = xc ∧ (nm.toList == xn.toList) = true ∧ (lb.toList == xl.toList) = true ∧ (d == xd) = false) ∨ (c = xc ∧ (nm.toList == xn.toList) = true ∧ (lb.toList == xl.toList) = true ∧ (d == xd) = true ∧ (s == xs) = false) := by
          by_cases g0 : c = xc
          · by_cases g1 : nm = xn
            · by_cases g2 : lb = xl
              · by_cases g3 : d = xd
                · have g4 : s ≠ xs := fun g4 => he ⟨g0, g1, g2, g3, g4⟩
                  exact .inr (.inr (.inr (.inr (.inr ⟨g0, by rw [g1]; exact beq_self_eq_true _, by rw [g2]; exact beq_self_eq_true _, by simpa using g3, by simpa using g4⟩))))
                · exact .inr (.inr (.inr (.inr (.inl ⟨g0, by rw [g1]; exact beq_self_eq_true _, by rw [g2]; exact beq_self_eq_true _, by simpa using g3⟩))))
              · exact .inr (.inr (.inr (.inl ⟨g0, by rw [g1]; exact beq_self_eq_true _, beq_eq_false_iff_ne.2 fun e => g2 (bytes_inj e)⟩)))
            · exact .inr (.inr (.inl ⟨g0, beq_eq_false_iff_ne.2 fun e => g1 (bytes_inj e)⟩))
          · cases c <;> cases xc <;> simp at g0 ⊢
        clear he
        rcases ways with ⟨rfl, rfl⟩ | ⟨rfl, rfl⟩ | ⟨rfl, f1⟩ | ⟨rfl, f1, f2⟩ | ⟨rfl, f1, f2, f3⟩ | ⟨rfl, f1, f2, f3, f4⟩
        all_goals
          go_wp2_with fail
          go_region
          go_wp2_with fail
          all_goals go_roundw
          case rel => exact ⟨i + 1, by omega, by go_num, HNO', HB.out.drew, HK.out⟩
          case measure => simp [intOf] <;> omega
    · have hle : i = l.length := by omega
      subst hle
      go_wp2_with fail
      go_ret
      refine ⟨-1, rfl, ⟨fun h => absurd h (by omega), fun h => ?_⟩, HB.out⟩
      obtain ⟨j, hj⟩ := List.mem_iff_getElem?.1 h
      exact absurd hj (HNO.out j (List.getElem?_eq_some_iff.1 hj).1)

set_option maxHeartbeats 1000000 in
theorem contains_any (w : World) (ao : Option Addr) (cap : Nat) (l : List Wt) (h : HasWts w ao l) (hl : l.length ≤ 1000000) (y : Wt) :
    Calls Try.prog 95 #[.slice ao l.length cap, y.val] w fun e w' => e = .returned (.bool (decide (y ∈ l))) ∧ Below w.heap.size w w' := by
  have HI : Hid (∀ W : World, Below w.heap.size w W → Calls Try.prog 101 #[.slice ao l.length cap, .agg #[.bool y.ch, .string y.name, .string y.label, .int .i64 y.day, .int .i64 y.side]] W fun e w' => ∃ n : Int, e = .returned (.int .i64 n) ∧ (0 ≤ n ↔ y ∈ l) ∧ Below W.heap.size W w') := fun W hW => index_any W ao cap l (h.below hW) hl y
  clear h
  have HB := hidC (below_alloc (Below.refl w.heap.size w) (.cells #[.bool y.ch, .string y.name, .string y.label, .int .i64 y.day, .int .i64 y.side] 43))
  unfold Wt.val
  go_enter Try.func95, Try.ntmps95
  go_wp2_with fail
  refine (HI.out _ HB.out).mono ?_
  rintro e w1 ⟨n, rfl, hn, hb⟩
  have HN := hidC hn
  have HB1 := hidC (HB.out.trans (hb.mono HB.out.size))
  clear hb hn
  go_wp2_with fail
  go_ret
  exact ⟨ret_bool (decide_eq_decide.2 HN.out), HB1.out⟩

set_option maxHeartbeats 400000 in
theorem holder_any (k : Int) (w : World) : Calls Try.prog 79 #[.int .i64 k] w fun e w' => e = .returned (.int .i64 (side k)) ∧ w' = w := by
  by_cases h : 0 < k
  · have HS : Hid (side k = 0) := by unfold Hid side; rw [if_pos h]
    go_enter Try.func79, Try.ntmps79
    go_wp2_with fail
    go_ret
    rw [HS.out]
    exact ⟨rfl, rfl⟩
  · have HS : Hid (side k = 1) := by unfold Hid side; rw [if_neg h]
    go_enter Try.func79, Try.ntmps79
    go_wp2_with fail
    go_ret
    rw [HS.out]
    exact ⟨rfl, rfl⟩

end Go.Proofs.Ytngjlkdpplmpaaa.Ca
namespace Go.Proofs.Ytngjlkdpplmpaaa.Wd
open Go.RowKit Go.Maps
set_option linter.unusedVariables false

theorem infoFx : (Try.prog.info? 180).map (fun i => (i.zero, i.size, i.bytes)) = some (some (.agg #[.string ByteArray.empty, .int .i64 0, .int .i64 0]), 3, 32) := by kernel_rfl
theorem infoCh : (Try.prog.info? 148).map (fun i => (i.zero, i.size, i.bytes)) = some (some (.agg #[.string ByteArray.empty, .string ByteArray.empty, .int .i64 0, .int .i64 0]), 4, 48) := by kernel_rfl
theorem cells_new (w : World) (cs : Array Value) (t : TypeId) : ∀ j u, cs.toList[j]? = some u → (w.alloc (.cells cs t)).cell? ((⟨w.heap.size, 0, none⟩ : Addr).add j) = some u := by
  intro j u hu
  rw [Addr.add_lit, Nat.zero_add]
  exact cell_blk (blk_new _ _) (by simpa using hu)
theorem dayB_iff (d : Int) : dayB d = true ↔ 0 ≤ d ∧ d ≤ 10000 := by simp [dayB]

set_option maxHeartbeats 1000000 in
theorem refFix_bad (w : World) (r : Nat) (s : ByteArray) (d v : Int) (hs : s.size ≤ 1000000) (hb : (nameGo 0 (runesOf s) && dayB d && vB v) = false) :
    Calls Try.prog 58 #[.pointer (some ⟨r, 0, none⟩), .string s, .int .i64 d, .int .i64 v] w fun e w' => e = .returned (.int .i64 1) ∧ Below w.heap.size w w' := by
  have HN := hidInW (refName_any s w (by omega))
  cases hn : nameGo 0 (runesOf s) with
  | false =>
    rw [hn] at HN
    go_enter Try.func58, Try.ntmps58
    go_wp2_with fail
    refine HN.out.mono ?_
    rintro e w1 ⟨rfl, hb1⟩
    go_wp2_with fail
    go_ret
    exact ⟨rfl, hb1⟩
  | true =>
    rw [hn] at HN hb
    by_cases h1 : d < 0
    · go_enter Try.func58, Try.ntmps58
      go_wp2_with fail
      refine HN.out.mono ?_
      rintro e w1 ⟨rfl, hb1⟩
      go_wp2_with fail
      go_ret
      exact ⟨rfl, hb1⟩
    · by_cases h2 : 10000 < d
      · go_enter Try.func58, Try.ntmps58
        go_wp2_with fail
        refine HN.out.mono ?_
        rintro e w1 ⟨rfl, hb1⟩
        go_wp2_with fail
        go_ret
        exact ⟨rfl, hb1⟩
      · have hd : dayB d = true := (dayB_iff d).2 ⟨by omega, by omega⟩
        rw [hd] at hb
        have hv : vB v = false := by simpa using hb
        go_enter Try.func58, Try.ntmps58
        go_wp2_with fail
        refine HN.out.mono ?_
        rintro e w1 ⟨rfl, hb1⟩
        go_wp2_with (go_at_call 86; refine (refValid_any _ _).mono ?_; rintro e w' ⟨rfl, rfl⟩)
        go_ret
        exact ⟨rfl, hb1⟩

set_option maxHeartbeats 2000000 in
set_option maxRecDepth 100000 in
theorem refFix_ok (w : World) (B r : Nat) (K : KW) (vF vC : Value) (h : RIn w B r K vF vC) (hB : B ≤ w.heap.size) (s : ByteArray) (d v : Int) (hs : s.size ≤ 1000000) (hlen : K.F.length ≤ 1000) (hb : (nameGo 0 (runesOf s) && dayB d && vB v) = true) :
    Calls Try.prog 58 #[.pointer (some ⟨r, 0, none⟩), .string s, .int .i64 d, .int .i64 v] w fun e w' => e = .returned (.int .i64 (fixE K s d v)) ∧ (∃ vF', RIn w' B r (fixN K s d v) vF' vC) ∧ RT B r w w' := by
  have HE : Hid (fixE K s d v = if (K.fixed (s, d)).isSome = true then 4 else if 32 ≤ K.F.length then 5 else 0) := by
    show fixE K s d v = _
    unfold fixE
    rw [hb]
    rfl
  simp only [Bool.and_eq_true] at hb
  obtain ⟨⟨hn, hd⟩, hv⟩ := hb
  obtain ⟨hd1, hd2⟩ := (dayB_iff d).1 hd
  have HN := hidInW (refName_any s w (by omega))
  rw [hn] at HN
  have HR0 := hidInW h
  clear h hd hn
  go_enter Try.func58, Try.ntmps58
  go_wp2_with fail
  refine HN.out.mono ?_
  rintro e w1 ⟨rfl, hb1⟩
  have HB1 := hidInW hb1
  have HR1 := hidInW (HR0.out.below hb1)
  clear hb1
  go_wp2_with (go_at_call 86; refine calls_same (refValid_any _ _) ?_)
  refine (refFixed_any w1 B r K vF vC HR1.out s d (by omega)).mono ?_
  rintro e w2 ⟨rfl, hb2⟩
  have HB2 := hidInW (HB1.out.trans (hb2.mono HB1.out.size))
  have HR2 := hidInW (HR1.out.below hb2)
  clear hb2 HR1 HB1 HN
  cases hf : K.fixed (s, d) with
  | some x =>
    have he : fixE K s d v = 4 := by rw [HE.out, hf]; rfl
    go_wp2_with fail
    go_ret
    refine ⟨by rw [he]; rfl, ⟨vF, ?_⟩, RT.of_below HB2.out hB⟩
    rw [fixN, if_neg (by omega)]
    exact HR2.out
  | none =>
    have c0 := HR2.out.cell0
    obtain ⟨ao, cap, hvF⟩ := row_shape HR2.out.rf
    rw [hvF] at c0
    by_cases h32 : 32 ≤ K.F.length
    · have he : fixE K s d v = 5 := by rw [HE.out, hf]; simp [h32]
      have h32' : (32 : Int) ≤ (K.F.length : Int) := by omega
      go_wp2_with fail
      go_ret
      refine ⟨by rw [he]; rfl, ⟨vF, ?_⟩, RT.of_below HB2.out hB⟩
      rw [fixN, if_neg (by omega)]
      exact HR2.out
    · have he : fixE K s d v = 0 := by rw [HE.out, hf]; simp [h32]
      have h32' : ¬ (32 : Int) ≤ (K.F.length : Int) := by omega
      have hBw : B ≤ w2.heap.size := Nat.le_trans hB HB2.out.size
      obtain ⟨i0, hi, hz⟩ := Option.map_eq_some_iff.1 infoFx
      simp only [Prod.mk.injEq] at hz
      obtain ⟨hz0, hz1, hz2⟩ := hz
      have HRA := hidInW (HR2.out.below (below_alloc (Below.refl _ _) (.cells #[.string s, .int .i64 d, .int .i64 v] 180)))
      have HBA := hidInW (below_alloc HB2.out (.cells #[.string s, .int .i64 d, .int .i64 v] 180))
      have HNW := hidInW (cells_new w2 #[.string s, .int .i64 d, .int .i64 v] 180)
      have hsz : B ≤ (w2.alloc (.cells #[.string s, .int .i64 d, .int .i64 v] 180)).heap.size := by rw [size_alloc]; omega
      subst hvF
      generalize hwa : w2.alloc (.cells #[.string s, .int .i64 d, .int .i64 v] 180) = wa at *
      have HST : Hid (∀ (v' : Value) (w3 : World), w3.ownsRow B 180 3 v' (K.F.length + 1) (rF K.F ++ [.string s, .int .i64 d, .int .i64 v]) → wa.grownBy w3 (Value.slice ao K.F.length cap).ownBlock → w3.cell? ⟨r, 0, none⟩ = some (.slice ao K.F.length cap) ∧ w3.frozen? ⟨r, 0, none⟩ = false) := fun v' w3 hown hg => by
        have hr : r < wa.heap.size := (Array.getElem?_eq_some_iff.1 HRA.out.blk).1
        have hb1 : w3.heap[r]? = some (.cells #[.slice ao K.F.length cap, vC] 109) := (hg.block r hr (fun e => HRA.out.neF e.symm)).trans HRA.out.blk
        exact ⟨cell_blk hb1 rfl, frozen_of_row w3 r 0 _ _ hb1⟩
      go_wp2_with (at_builtin; refine wpList_append_own _ rfl _ _ 106 rfl B 180 i0 (.agg #[.string ByteArray.empty, .int .i64 0, .int .i64 0]) 3 32 Try.underlying106 hi hz0 hz1 hz2 rfl (by decide) _ _ _ rfl HRA.out.rf ⟨w2.heap.size, 0, none⟩ 1 1 [.string s, .int .i64 d, .int .i64 v] rfl rfl HNW.out (by intro u hu; simp at hu; rcases hu with rfl | rfl | rfl <;> rfl) (by unfold maxLen; omega) (by omega) hsz ?_; intro v' w3 hown' hgrow _; have hst := HST.out v' w3 hown' hgrow; obtain ⟨st1, st2⟩ := hst; obtain ⟨ao2, cap2, hv2⟩ := row_shape hown'; subst hv2)
      go_ret
      obtain ⟨k1, k2⟩ := HRA.out.addF hsz ((s, d), v) hown' hgrow
      refine ⟨by rw [he]; rfl, ⟨.slice ao2 (K.F.length + 1) cap2, ?_⟩, ?_⟩
      · rw [fixN, if_pos he]
        exact k1
      · exact k2.after HBA.out hB

set_option maxHeartbeats 1000000 in
theorem refCh_bad (w : World) (r : Nat) (s t : ByteArray) (q d : Int) (hs : s.size ≤ 1000000) (ht : t.size ≤ 1000000) (hb : (nameGo 0 (runesOf s) && nameGo 0 (runesOf t) && pickB q && dayB d) = false) :
    Calls Try.prog 37 #[.pointer (some ⟨r, 0, none⟩), .string s, .string t, .int .i64 q, .int .i64 d] w fun e w' => e = .returned (.int .i64 1) ∧ Below w.heap.size w w' := by
  have HN := hidInW (refName_any s w (by omega))
  have HM := hidInW (fun w => refName_any t w (by omega))
  cases hn : nameGo 0 (runesOf s) with
  | false =>
    rw [hn] at HN
    go_enter Try.func37, Try.ntmps37
    go_wp2_with fail
    refine HN.out.mono ?_
    rintro e w1 ⟨rfl, hb1⟩
    go_wp2_with fail
    go_ret
    exact ⟨rfl, hb1⟩
  | true =>
    rw [hn] at HN hb
    cases hm : nameGo 0 (runesOf t) with
    | false =>
      rw [hm] at HM
      go_enter Try.func37, Try.ntmps37
      go_wp2_with fail
      refine HN.out.mono ?_
      rintro e w1 ⟨rfl, hb1⟩
      go_wp2_with fail
      refine (HM.out w1).mono ?_
      rintro e w2 ⟨rfl, hb2⟩
      go_wp2_with fail
      go_ret
      exact ⟨rfl, hb1.trans (hb2.mono hb1.size)⟩
    | true =>
      rw [hm] at HM hb
      have hw : q < 0 ∨ (0 ≤ q ∧ 1 < q) ∨ (0 ≤ q ∧ q ≤ 1 ∧ d < 0) ∨ (0 ≤ q ∧ q ≤ 1 ∧ 0 ≤ d ∧ 10000 < d) := by
        by_cases g1 : q < 0
        · exact .inl g1
        · by_cases g2 : 1 < q
          · exact .inr (.inl ⟨by omega, g2⟩)
          · by_cases g3 : d < 0
            · exact .inr (.inr (.inl ⟨by omega, by omega, g3⟩))
            · by_cases g4 : 10000 < d
              · exact .inr (.inr (.inr ⟨by omega, by omega, by omega, g4⟩))
              · exfalso
                have h1 : dayB d = true := (dayB_iff d).2 ⟨by omega, by omega⟩
                have h2 : pickB q = true := by simp [pickB]; omega
                rw [h1, h2] at hb
                cases hb
      clear hb
      rcases hw with g1 | ⟨g0, g1⟩ | ⟨g0, g1, g2⟩ | ⟨g0, g1, g2, g3⟩
      all_goals
        go_enter Try.func37, Try.ntmps37
        go_wp2_with fail
        refine HN.out.mono ?_
        rintro e w1 ⟨rfl, hb1⟩
        go_wp2_with fail
        refine (HM.out w1).mono ?_
        rintro e w2 ⟨rfl, hb2⟩
        go_wp2_with fail
        go_ret
        exact ⟨rfl, hb1.trans (hb2.mono hb1.size)⟩

set_option maxHeartbeats 2000000 in
set_option maxRecDepth 100000 in
theorem refCh_ok (w : World) (B r : Nat) (K : KW) (vF vC : Value) (h : RIn w B r K vF vC) (hB : B ≤ w.heap.size) (s t : ByteArray) (q d : Int) (hs : s.size ≤ 1000000) (ht : t.size ≤ 1000000) (hlen : K.C.length ≤ 1000) (hb : (nameGo 0 (runesOf s) && nameGo 0 (runesOf t) && pickB q && dayB d) = true) :
    Calls Try.prog 37 #[.pointer (some ⟨r, 0, none⟩), .string s, .string t, .int .i64 q, .int .i64 d] w fun e w' => e = .returned (.int .i64 (chE K s t q d)) ∧ (∃ vC', RIn w' B r (chN K s t q d) vF vC') ∧ RT B r w w' := by
  have HE : Hid (chE K s t q d = if (K.chosen (s, t)).isSome = true then 4 else 0) := by
    show chE K s t q d = _
    unfold chE
    rw [hb]
    rfl
  simp only [Bool.and_eq_true] at hb
  obtain ⟨⟨⟨hn, hm⟩, hq⟩, hd⟩ := hb
  obtain ⟨hd1, hd2⟩ := (dayB_iff d).1 hd
  have hq1 : 0 ≤ q ∧ q ≤ 1 := by simp [pickB] at hq; omega
  obtain ⟨hq1, hq2⟩ := hq1
  have HM := hidInW (fun w => refName_any t w (by omega))
  rw [hm] at HM
  have HN := hidInW (refName_any s w (by omega))
  rw [hn] at HN
  have HR0 := hidInW h
  clear h hd hn hm hq
  go_enter Try.func37, Try.ntmps37
  go_wp2_with fail
  refine HN.out.mono ?_
  rintro e w1 ⟨rfl, hb1⟩
  have HB1 := hidInW hb1
  have HR1 := hidInW (HR0.out.below hb1)
  clear hb1
  go_wp2_with fail
  refine (HM.out w1).mono ?_
  rintro e w1b ⟨rfl, hb1b⟩
  have HB1b := hidInW (HB1.out.trans (hb1b.mono HB1.out.size))
  have HR1b := hidInW (HR1.out.below hb1b)
  clear hb1b HR1 HB1 HM
  go_wp2_with fail
  refine (refChosen_any w1b B r K vF vC HR1b.out s t (by omega)).mono ?_
  rintro e w2 ⟨rfl, hb2⟩
  have HB2 := hidInW (HB1b.out.trans (hb2.mono HB1b.out.size))
  have HR2 := hidInW (HR1b.out.below hb2)
  clear hb2 HR1b HB1b HN
  cases hf : K.chosen (s, t) with
  | some x =>
    have he : chE K s t q d = 4 := by rw [HE.out, hf]; rfl
    go_wp2_with fail
    go_ret
    refine ⟨by rw [he]; rfl, ⟨vC, ?_⟩, RT.of_below HB2.out hB⟩
    rw [chN, if_neg (by omega)]
    exact HR2.out
  | none =>
    have c0 := HR2.out.cell1
    obtain ⟨ao, cap, hvC⟩ := row_shape HR2.out.rc
    rw [hvC] at c0
    · have he : chE K s t q d = 0 := by rw [HE.out, hf]; rfl
      have hBw : B ≤ w2.heap.size := Nat.le_trans hB HB2.out.size
      obtain ⟨i0, hi, hz⟩ := Option.map_eq_some_iff.1 infoCh
      simp only [Prod.mk.injEq] at hz
      obtain ⟨hz0, hz1, hz2⟩ := hz
      have HRA := hidInW (HR2.out.below (below_alloc (Below.refl _ _) (.cells #[.string s, .string t, .int .i64 q, .int .i64 d] 148)))
      have HBA := hidInW (below_alloc HB2.out (.cells #[.string s, .string t, .int .i64 q, .int .i64 d] 148))
      have HNW := hidInW (cells_new w2 #[.string s, .string t, .int .i64 q, .int .i64 d] 148)
      have hsz : B ≤ (w2.alloc (.cells #[.string s, .string t, .int .i64 q, .int .i64 d] 148)).heap.size := by rw [size_alloc]; omega
      subst hvC
      generalize hwa : w2.alloc (.cells #[.string s, .string t, .int .i64 q, .int .i64 d] 148) = wa at *
      have HST : Hid (∀ (v' : Value) (w3 : World), w3.ownsRow B 148 4 v' (K.C.length + 1) (rC K.C ++ [.string s, .string t, .int .i64 q, .int .i64 d]) → wa.grownBy w3 (Value.slice ao K.C.length cap).ownBlock → w3.cell? ⟨r, 1, none⟩ = some (.slice ao K.C.length cap) ∧ w3.frozen? ⟨r, 1, none⟩ = false) := fun v' w3 hown hg => by
        have hr : r < wa.heap.size := (Array.getElem?_eq_some_iff.1 HRA.out.blk).1
        have hb1 : w3.heap[r]? = some (.cells #[vF, .slice ao K.C.length cap] 109) := (hg.block r hr (fun e => HRA.out.neC e.symm)).trans HRA.out.blk
        exact ⟨cell_blk hb1 rfl, frozen_of_row w3 r 1 _ _ hb1⟩
      go_wp2_with (at_builtin; refine wpList_append_own _ rfl _ _ 107 rfl B 148 i0 (.agg #[.string ByteArray.empty, .string ByteArray.empty, .int .i64 0, .int .i64 0]) 4 48 Try.underlying107 hi hz0 hz1 hz2 rfl (by decide) _ _ _ rfl HRA.out.rc ⟨w2.heap.size, 0, none⟩ 1 1 [.string s, .string t, .int .i64 q, .int .i64 d] rfl rfl HNW.out (by intro u hu; simp at hu; rcases hu with rfl | rfl | rfl | rfl <;> rfl) (by unfold maxLen; omega) (by omega) hsz ?_; intro v' w3 hown' hgrow _; have hst := HST.out v' w3 hown' hgrow; obtain ⟨st1, st2⟩ := hst; obtain ⟨ao2, cap2, hv2⟩ := row_shape hown'; subst hv2)
      go_ret
      obtain ⟨k1, k2⟩ := HRA.out.addC hsz ((s, t), (q, d)) hown' hgrow
      refine ⟨by rw [he]; rfl, ⟨.slice ao2 (K.C.length + 1) cap2, ?_⟩, ?_⟩
      · rw [chN, if_pos he]
        exact k1
      · exact k2.after HBA.out hB

theorem refFix_any (w : World) (B r : Nat) (K : KW) (vF vC : Value) (h : RIn w B r K vF vC) (hB : B ≤ w.heap.size) (s : ByteArray) (d v : Int) (hs : s.size ≤ 1000000) (hlen : K.F.length ≤ 1000) :
    Calls Try.prog 58 #[.pointer (some ⟨r, 0, none⟩), .string s, .int .i64 d, .int .i64 v] w fun e w' => e = .returned (.int .i64 (fixE K s d v)) ∧ (∃ vF' vC', RIn w' B r (fixN K s d v) vF' vC') ∧ RT B r w w' := by
  cases hb : (nameGo 0 (runesOf s) && dayB d && vB v)
  · have he : fixE K s d v = 1 := by unfold fixE; rw [hb]; rfl
    refine (refFix_bad w r s d v hs hb).mono ?_
    rintro e w' ⟨rfl, hB'⟩
    refine ⟨by rw [he], ⟨vF, vC, ?_⟩, RT.of_below hB' hB⟩
    rw [fixN, if_neg (by omega)]
    exact h.below hB'
  · refine (refFix_ok w B r K vF vC h hB s d v hs hlen hb).mono ?_
    rintro e w' ⟨h1, ⟨vF', h2⟩, h3⟩
    exact ⟨h1, ⟨vF', vC, h2⟩, h3⟩
theorem refCh_any (w : World) (B r : Nat) (K : KW) (vF vC : Value) (h : RIn w B r K vF vC) (hB : B ≤ w.heap.size) (s t : ByteArray) (q d : Int) (hs : s.size ≤ 1000000) (ht : t.size ≤ 1000000) (hlen : K.C.length ≤ 1000) :
    Calls Try.prog 37 #[.pointer (some ⟨r, 0, none⟩), .string s, .string t, .int .i64 q, .int .i64 d] w fun e w' => e = .returned (.int .i64 (chE K s t q d)) ∧ (∃ vF' vC', RIn w' B r (chN K s t q d) vF' vC') ∧ RT B r w w' := by
  cases hb : (nameGo 0 (runesOf s) && nameGo 0 (runesOf t) && pickB q && dayB d)
  · have he : chE K s t q d = 1 := by unfold chE; rw [hb]; rfl
    refine (refCh_bad w r s t q d hs ht hb).mono ?_
    rintro e w' ⟨rfl, hB'⟩
    refine ⟨by rw [he], ⟨vF, vC, ?_⟩, RT.of_below hB' hB⟩
    rw [chN, if_neg (by omega)]
    exact h.below hB'
  · refine (refCh_ok w B r K vF vC h hB s t q d hs ht hlen hb).mono ?_
    rintro e w' ⟨h1, ⟨vC', h2⟩, h3⟩
    exact ⟨h1, ⟨vF, vC', h2⟩, h3⟩

end Go.Proofs.Ytngjlkdpplmpaaa.Wd
namespace Go.Proofs.Ytngjlkdpplmpaaa.Mx
open Go.RowKit
set_option linter.unusedVariables false

section
variable {P : Program} {ops : Array Oper} {md : Region.Mode} {C : World → Prop}
def wpAny3 (P : Program) (md : Region.Mode) (ops : Array Oper) (C : World → Prop) (C2 : World → Prop) (jj : Nat) (Q : Act → World → Prop) : Nat → Array Bool → Act → World → Prop
  | 0, listed, a, w => (C w ∧ (listed.getD jj false = true → C2 w)) ∧ Region.ready md ops listed = [] ∧ Q a w
  | fuel + 1, listed, a, w => (C w ∧ (listed.getD jj false = true → C2 w)) ∧ Region.ready md ops listed ≠ [] ∧ ∀ i ∈ Region.ready md ops listed, ∀ o, ops[i]? = some o →
      (Region.wanted o (yielded ops a.tmps) = true ∧ stepK P o a w (fun u w' => wpAny3 P md ops C C2 jj Q fuel (listed.setIfInBounds i true) (a.put o.dst u) w')) ∨
      (Region.wanted o (yielded ops a.tmps) = false ∧ wpAny3 P md ops C C2 jj Q fuel (listed.setIfInBounds i true) (a.put o.dst undef) w)
theorem any_of_3 {C2 : World → Prop} {jj : Nat} {Q : Act → World → Prop} {Q' : Exit → Act → World → Prop} (hQ : ∀ a w, Q a w → Q' .normal a w) : ∀ (fuel : Nat) (listed : Array Bool) (a : Act) (w : World), wpAny3 P md ops C C2 jj Q fuel listed a w → wpAny P md ops Q' fuel listed a w
  | 0, _, _, _, h => ⟨h.2.1, hQ _ _ h.2.2⟩
  | fuel + 1, listed, a, w, h => ⟨fun h0 => absurd h0 h.2.1, fun i hi => by
      obtain ⟨_, o, ho, _⟩ := mem_ready.1 hi
      unfold wpOp
      simp only [ho]
      rcases h.2.2 i hi o ho with ⟨h1, h2⟩ | ⟨h1, h2⟩
      · rw [if_pos h1]
        exact .inl (wp_of_stepK (stepK_mono (fun u w' hk => any_of_3 hQ fuel _ _ w' hk) h2))
      · rw [if_neg (by rw [h1]; decide)]
        exact any_of_3 hQ fuel _ _ w h2⟩
theorem first3 {C2 : World → Prop} {jj : Nat} {Q : Act → World → Prop} {i : Nat} {oi : Oper} {u : Value} (hi : ops[i]? = some oi) (hsel : ∀ (j : Nat) (o : Oper) cs b, ops[j]? = some o → o.op ≠ .select cs b) :
    ∀ (fuel : Nat) (listed : Array Bool) (a : Act) (w : World),
      (∀ j oj, ops[j]? = some oj → j ≠ i → listed.getD j true = false → (∀ e ∈ oj.after, Region.binds md e = true → e.on ≠ i) → oi.apart ops oj = true) →
      i ∈ Region.ready md ops listed → ((Region.wanted oi (yielded ops a.tmps) = true ∧ ∀ w, C w → (listed.getD jj false = true → C2 w) → stepK P oi a w (fun u' w' => u' = u ∧ w' = w)) ∨ (Region.wanted oi (yielded ops a.tmps) = false ∧ u = undef)) → i ≠ jj →
      wpAny3 P md ops C C2 jj Q fuel (listed.setIfInBounds i true) (a.put oi.dst u) w → wpAny3 P md ops C C2 jj Q (fuel + 1) listed a w := by
  intro fuel
  induction fuel with
  | zero =>
    intro listed a w hfree hr hst hij h
    have hc : C w ∧ (listed.getD jj false = true → C2 w) := ⟨h.1.1, fun x => h.1.2 (by rw [getD_set_ne false hij]; exact x)⟩
    refine ⟨hc, fun h0 => (by rw [h0] at hr; cases hr), fun j hj o ho => ?_⟩
    by_cases hji : j = i
    · subst hji
      rw [hi] at ho
      cases ho
      rcases hst with ⟨hw, hst⟩ | ⟨hw, hu⟩
      · exact .inl ⟨hw, stepK_mono (fun u' w' hu => by rw [hu.1, hu.2]; exact h) (hst w hc.1 hc.2)⟩
      · exact .inr ⟨hw, by rw [← hu]; exact h⟩
    · have := ready_mono hj hji
      rw [h.2.1] at this
      cases this
  | succ fuel ih =>
    intro listed a w hfree hr hst hij h
    have hc : C w ∧ (listed.getD jj false = true → C2 w) := ⟨h.1.1, fun x => h.1.2 (by rw [getD_set_ne false hij]; exact x)⟩
    refine ⟨hc, fun h0 => (by rw [h0] at hr; cases hr), fun j hj oj hoj => ?_⟩
    by_cases hji : j = i
    · subst hji
      rw [hi] at hoj
      cases hoj
      rcases hst with ⟨hw, hst⟩ | ⟨hw, hu⟩
      · exact .inl ⟨hw, stepK_mono (fun u' w' hu => by rw [hu.1, hu.2]; exact h) (hst w hc.1 hc.2)⟩
      · exact .inr ⟨hw, by rw [← hu]; exact h⟩
    · obtain ⟨hjun, oj', hoj', hall⟩ := mem_ready.1 hj
      rw [hoj] at hoj'
      cases hoj'
      have hnot : ∀ e ∈ oj.after, Region.binds md e = true → e.on ≠ i := fun e he hb heq => by
        have h1 := hall e he hb
        have h0 := (mem_ready.1 hr).1
        rw [heq] at h1
        rcases Nat.lt_or_ge i listed.size with h' | h'
        · simp [h'] at h0 h1; rw [h0] at h1; cases h1
        · simp [Array.getElem?_eq_none h'] at h1
      obtain ⟨p1, p2, p3⟩ := Oper.apart_spec (hfree j oj hoj hji hjun hnot)
      have hfree' : ∀ k ok, ops[k]? = some ok → k ≠ i → (listed.setIfInBounds j true).getD k true = false →
          (∀ e ∈ ok.after, Region.binds md e = true → e.on ≠ i) → oi.apart ops ok = true := fun k ok hk hki hun hno => by
        refine hfree k ok hk hki ?_ hno
        by_cases hjk : j = k
        · subst hjk; exact hjun
        · rw [getD_set_ne true hjk] at hun; exact hun
      have next : ∀ (v : Value) (w' : World), wpAny3 P md ops C C2 jj Q fuel ((listed.setIfInBounds i true).setIfInBounds j true) ((a.put oi.dst u).put oj.dst v) w' → wpAny3 P md ops C C2 jj Q (fuel + 1) (listed.setIfInBounds j true) (a.put oj.dst v) w' := fun v w' hk => by
        refine ih (listed.setIfInBounds j true) (a.put oj.dst v) w' hfree' (ready_mono hr (Ne.symm hji)) ?_ hij ?_
        · rw [wanted_put oi a oj.dst v p3]
          rcases hst with ⟨hw, hst⟩ | hst
          · refine .inl ⟨hw, fun w hw hw2 => ?_⟩
            have := hst w hw (fun x => hw2 (getD_set_true x))
            unfold stepK at this ⊢
            rw [execOp_put oi (fun cs b => hsel i oi cs b hi) a oj.dst v p3]
            exact this
          · exact .inr hst
        · rw [Array.setIfInBounds_comm _ _ hji, ← Act.put_comm a u v p2]
          exact hk
      rcases h.2.2 j (ready_mono hj hji) oj hoj with ⟨h1, h2⟩ | ⟨h1, h2⟩
      · refine .inl ⟨by rw [wanted_put oj a oi.dst u p1] at h1; exact h1, ?_⟩
        unfold stepK at h2 ⊢
        rw [execOp_put oj (fun cs b => hsel j oj cs b hoj) a oi.dst u p1] at h2
        exact stepK_mono (o := oj) (a := a) (w := w) (fun v w' hk => next v w' hk) h2
      · exact .inr ⟨by rw [wanted_put oj a oi.dst u p1] at h1; exact h1, next undef w h2⟩
/-- In the first phase C is known of each world; from operation jj on C2 as well. -/
def mix3 (P : Program) (ops : Array Oper) (C C2 : World → Prop) (jj : Nat) (Q : Act → World → Prop) : Bool → List (Oper × Nat × Bool) → Act → World → Prop
  | ph, [], a, w => C w → (ph = true → C2 w) → Q a w
  | ph, (o, i, true) :: r, a, w => Region.wanted o (yielded ops a.tmps) = true ∧ stepK P o a w (fun u w' => C w' ∧ ((ph || i == jj) = true → C2 w') ∧ mix3 P ops C C2 jj Q (ph || i == jj) r (a.put o.dst u) w')
  | ph, (o, i, false) :: r, a, w => i ≠ jj ∧ ∃ u, ((Region.wanted o (yielded ops a.tmps) = true ∧ ∀ w, C w → (ph = true → C2 w) → stepK P o a w (fun u' w' => u' = u ∧ w' = w)) ∨ (Region.wanted o (yielded ops a.tmps) = false ∧ u = undef)) ∧ mix3 P ops C C2 jj Q ph r (a.put o.dst u) w
theorem any3_of_mix {C2 : World → Prop} {jj : Nat} {Q : Act → World → Prop} (hs : Region.noSelect ops = true) : ∀ (plan : List (Nat × Bool)) (L : List (Oper × Nat × Bool)) (listed : Array Bool) (ph : Bool) (a : Act) (w : World), plan.map (fun p => (ops[p.1]?, p.1, p.2)) = L.map (fun q => (some q.1, q.2.1, q.2.2)) →
    planB md ops plan listed = true → listed.getD jj false = ph → jj < listed.size → C w → (ph = true → C2 w) → mix3 P ops C C2 jj Q ph L a w → wpAny3 P md ops C C2 jj Q plan.length listed a w
  | [], L, listed, ph, a, w, hL, hB, hp, hz, hC, hC2, h => by
    cases L with
    | nil => exact ⟨⟨hC, fun x => hC2 (by rw [← hp]; exact x)⟩, by simpa [planB] using hB, h hC hC2⟩
    | cons q L => simp at hL
  | (i, al) :: r, L, listed, ph, a, w, hL, hB, hp, hz, hC, hC2, h => by
    cases L with
    | nil => simp at hL
    | cons q L =>
      obtain ⟨o, i', al'⟩ := q
      simp only [List.map_cons, List.cons.injEq, Prod.mk.injEq] at hL
      obtain ⟨⟨ho, rfl, rfl⟩, hL'⟩ := hL
      simp only [planB, Bool.and_eq_true] at hB
      obtain ⟨⟨hr, hf⟩, hB'⟩ := hB
      have hr' : i ∈ Region.ready md ops listed := by simpa using hr
      have hz' : jj < (listed.setIfInBounds i true).size := by simpa using hz
      have hp' : (listed.setIfInBounds i true).getD jj false = (ph || i == jj) := by
        by_cases hij : i = jj
        · subst hij
          simp [hz]
        · rw [getD_set_ne false hij, hp]
          simp [hij]
      cases al with
      | true =>
        simp only [if_true, List.all_eq_true, beq_iff_eq] at hf
        obtain ⟨h1, h2⟩ := h
        refine ⟨⟨hC, fun x => hC2 (by rw [← hp]; exact x)⟩, fun h0 => (by rw [h0] at hr'; cases hr'), fun j hj oj hoj => ?_⟩
        have hji := hf j hj
        subst hji
        rw [ho] at hoj
        cases hoj
        exact .inl ⟨h1, stepK_mono (fun u w' hk => any3_of_mix hs r L _ _ _ w' hL' hB' hp' hz' hk.1 hk.2.1 hk.2.2) h2⟩
      | false =>
        simp only [Bool.false_eq_true, if_false] at hf
        obtain ⟨hij, u, h2, h3⟩ := h
        have hph : (ph || i == jj) = ph := by
          have : (i == jj) = false := by rw [beq_eq_false_iff_ne]; exact hij
          rw [this, Bool.or_false]
        rw [hph] at hp'
        exact first3 ho (Region.noSelect_spec hs) r.length listed a w (Region.free_spec ho hf) hr' (h2.imp (fun hh => ⟨hh.1, fun w hw hw2 => hh.2 w hw (fun x => hw2 (by rw [hp]; exact x))⟩) id) hij (any3_of_mix hs r L _ _ _ w hL' hB' hp' hz' hC hC2 h3)
/-- One walk serves every order, in two phases. -/
theorem wp_region_mix3 {id : Nat} {Q : Exit → Act → World → Prop} {a : Act} {w : World} {l : List Oper} (C C2 : World → Prop) (jj : Nat) (plan : List (Nat × Bool)) (hm : P.follows .mixedOrders = true)
    (hB : (Region.noSelect l.toArray && planB .any l.toArray plan (Array.replicate l.length false) && plan.length == l.length) = true) (hC : C w.drew)
    (h : mix3 P l.toArray C C2 jj (fun a w => Q .normal a w) false (plan.map fun p => (l.getD p.1 default, p.1, p.2)) a w.drew) (hin : (plan.all (fun p => p.1 < l.length) && decide (jj < l.length)) = true) : (Code.region id l.toArray true).wp P Q a w := by
  simp only [Bool.and_eq_true, beq_iff_eq, decide_eq_true_eq] at hB hin
  refine wp_region_any hm (any_of_3 (C := C) (C2 := C2) (jj := jj) (Q := fun a w => Q .normal a w) (fun _ _ h => h) _ _ _ _ ?_)
  have := any3_of_mix (C := C) (C2 := C2) (jj := jj) (md := .any) hB.1.1 plan _ (Array.replicate l.length false) false a w.drew (by
    rw [List.map_map]
    apply List.map_congr_left
    intro p hp
    have hlt : p.1 < l.length := by simpa using List.all_eq_true.1 hin.1 p hp
    simp [List.getD, List.getElem?_eq_getElem hlt]) hB.1.2 (by simp [hin.2]) (by simpa using hin.2) hC (fun x => by cases x) h
  rw [hB.2] at this
  simpa using this
variable {C2 : World → Prop} {jj : Nat} {Q : Act → World → Prop}
theorem q_pure {ph : Bool} {o : Oper} {i : Nat} {r : List (Oper × Nat × Bool)} {a : Act} {w : World} (v : Value) (hij : i ≠ jj) (hw : Region.wanted o (yielded ops a.tmps) = true) (h : ∀ w, C w → (ph = true → C2 w) → (execOp a.eval o).run P w = .ok (.value v) w) (hk : mix3 P ops C C2 jj Q ph r (a.put o.dst v) w) : mix3 P ops C C2 jj Q ph ((o, i, false) :: r) a w :=
  ⟨hij, v, .inl ⟨hw, fun w h1 h2 => by unfold stepK; rw [h w h1 h2]; exact ⟨rfl, rfl⟩⟩, hk⟩
/-- What is left out. -/
theorem q_skip {ph : Bool} {o : Oper} {i : Nat} {r : List (Oper × Nat × Bool)} {a : Act} {w : World} (hij : i ≠ jj) (hw : Region.wanted o (yielded ops a.tmps) = false) (hk : mix3 P ops C C2 jj Q ph r (a.put o.dst undef) w) : mix3 P ops C C2 jj Q ph ((o, i, false) :: r) a w := ⟨hij, undef, .inr ⟨hw, rfl⟩, hk⟩
/-- A call that only reads what stays. -/
theorem q_reads {ph : Bool} {o : Oper} {i : Nat} {r : List (Oper × Nat × Bool)} {a : Act} {w : World} (f : FuncId) (args : Array Value) (v : Value) (hij : i ≠ jj) (hw : Region.wanted o (yielded ops a.tmps) = true) (h : ∀ w, C w → (execOp a.eval o).run P w = .ok (.enter f args) w)
    (hc : ∀ w, C w → (ph = true → C2 w) → Calls P f args w (fun e w' => e = .returned v ∧ w' = w)) (hk : mix3 P ops C C2 jj Q ph r (a.put o.dst v) w) : mix3 P ops C C2 jj Q ph ((o, i, false) :: r) a w :=
  ⟨hij, v, .inl ⟨hw, fun w h1 h2 => by unfold stepK; rw [h w h1]; exact ⟨rfl, (hc w h1 h2).mono fun e w' h3 => ⟨v, h3.1, rfl, h3.2⟩⟩⟩, hk⟩
theorem q_call {ph : Bool} {o : Oper} {i : Nat} {r : List (Oper × Nat × Bool)} {a : Act} {w : World} (f : FuncId) (args : Array Value) (hw : Region.wanted o (yielded ops a.tmps) = true) (h : (execOp a.eval o).run P w = .ok (.enter f args) w)
    (hc : Calls P f args w (fun e w' => ∃ v, e = .returned v ∧ C w' ∧ ((ph || i == jj) = true → C2 w') ∧ mix3 P ops C C2 jj Q (ph || i == jj) r (a.put o.dst v) w')) : mix3 P ops C C2 jj Q ph ((o, i, true) :: r) a w := by
  refine ⟨hw, ?_⟩
  unfold stepK
  rw [h]
  exact ⟨rfl, hc⟩
theorem q_run {ph : Bool} {o : Oper} {i : Nat} {r : List (Oper × Nat × Bool)} {a : Act} {w w' : World} (v : Value) (hw : Region.wanted o (yielded ops a.tmps) = true) (h : (execOp a.eval o).run P w = .ok (.value v) w') (hC : C w') (hC2 : (ph || i == jj) = true → C2 w') (hk : mix3 P ops C C2 jj Q (ph || i == jj) r (a.put o.dst v) w') : mix3 P ops C C2 jj Q ph ((o, i, true) :: r) a w := by
  refine ⟨hw, ?_⟩
  unfold stepK
  rw [h]
  exact ⟨hC, hC2, hk⟩
theorem q_nil {ph : Bool} {a : Act} {w : World} (h : C w → (ph = true → C2 w) → Q a w) : mix3 P ops C C2 jj Q ph [] a w := h
theorem unwanted_met {ops : Array Oper} {a : Act} {o : Oper} (j d : Nat) (want have' : Bool) (hg : o.guard = some (j, want)) (hd : (ops[j]?).bind (·.dst) = some d) (hv : a.tmps[d]? = some (.bool have')) (hne : (have' == want) = false) : Region.wanted o (yielded ops a.tmps) = false := by
  unfold Region.wanted yielded
  rw [hg]
  simp only [hd, Option.bind_some, hv]
  cases want <;> cases have' <;> first | rfl | exact absurd hne (by decide)
end

end Go.Proofs.Ytngjlkdpplmpaaa.Mx
namespace Go.Proofs.Ytngjlkdpplmpaaa.Mx
open Go.RowKit
set_option linter.unusedVariables false

section
variable {P : Program} {ops : Array Oper} {md : Region.Mode} {C : World → Prop}
def wpAny4 (P : Program) (md : Region.Mode) (ops : Array Oper) (C : World → Prop) (jj : Nat) (Q : Act → World → Prop) : Nat → Array Bool → Act → World → Prop
  | 0, listed, a, w => (listed.getD jj false = false → C w) ∧ Region.ready md ops listed = [] ∧ Q a w
  | fuel + 1, listed, a, w => (listed.getD jj false = false → C w) ∧ Region.ready md ops listed ≠ [] ∧ ∀ i ∈ Region.ready md ops listed, ∀ o, ops[i]? = some o →
      (Region.wanted o (yielded ops a.tmps) = true ∧ stepK P o a w (fun u w' => wpAny4 P md ops C jj Q fuel (listed.setIfInBounds i true) (a.put o.dst u) w')) ∨
      (Region.wanted o (yielded ops a.tmps) = false ∧ wpAny4 P md ops C jj Q fuel (listed.setIfInBounds i true) (a.put o.dst undef) w)
theorem any_of_4 {jj : Nat} {Q : Act → World → Prop} {Q' : Exit → Act → World → Prop} (hQ : ∀ a w, Q a w → Q' .normal a w) : ∀ (fuel : Nat) (listed : Array Bool) (a : Act) (w : World), wpAny4 P md ops C jj Q fuel listed a w → wpAny P md ops Q' fuel listed a w
  | 0, _, _, _, h => ⟨h.2.1, hQ _ _ h.2.2⟩
  | fuel + 1, listed, a, w, h => ⟨fun h0 => absurd h0 h.2.1, fun i hi => by
      obtain ⟨_, o, ho, _⟩ := mem_ready.1 hi
      unfold wpOp
      simp only [ho]
      rcases h.2.2 i hi o ho with ⟨h1, h2⟩ | ⟨h1, h2⟩
      · rw [if_pos h1]
        exact .inl (wp_of_stepK (stepK_mono (fun u w' hk => any_of_4 hQ fuel _ _ w' hk) h2))
      · rw [if_neg (by rw [h1]; decide)]
        exact any_of_4 hQ fuel _ _ w h2⟩
theorem first4 {jj : Nat} {Q : Act → World → Prop} {i : Nat} {oi : Oper} {u : Value} (hwt : waitsAll md ops jj = true) (hin : i < jj) (hi : ops[i]? = some oi) (hsel : ∀ (j : Nat) (o : Oper) cs b, ops[j]? = some o → o.op ≠ .select cs b) :
    ∀ (fuel : Nat) (listed : Array Bool) (a : Act) (w : World),
      (∀ j oj, ops[j]? = some oj → j ≠ i → listed.getD j true = false → (∀ e ∈ oj.after, Region.binds md e = true → e.on ≠ i) → oi.apart ops oj = true) →
      i ∈ Region.ready md ops listed → listed.getD jj false = false → ((Region.wanted oi (yielded ops a.tmps) = true ∧ ∀ w, C w → stepK P oi a w (fun u' w' => u' = u ∧ w' = w)) ∨ (Region.wanted oi (yielded ops a.tmps) = false ∧ u = undef)) →
      wpAny4 P md ops C jj Q fuel (listed.setIfInBounds i true) (a.put oi.dst u) w → wpAny4 P md ops C jj Q (fuel + 1) listed a w := by
  have hij : i ≠ jj := by omega
  intro fuel
  induction fuel with
  | zero =>
    intro listed a w hfree hr hlj hst h
    have hc : C w := h.1 (by rw [getD_set_ne false hij]; exact hlj)
    refine ⟨fun _ => hc, fun h0 => (by rw [h0] at hr; cases hr), fun j hj o ho => ?_⟩
    by_cases hji : j = i
    · subst hji
      rw [hi] at ho
      cases ho
      rcases hst with ⟨hw, hst⟩ | ⟨hw, hu⟩
      · exact .inl ⟨hw, stepK_mono (fun u' w' hu => by rw [hu.1, hu.2]; exact h) (hst w hc)⟩
      · exact .inr ⟨hw, by rw [← hu]; exact h⟩
    · have := ready_mono hj hji
      rw [h.2.1] at this
      cases this
  | succ fuel ih =>
    intro listed a w hfree hr hlj hst h
    have hc : C w := h.1 (by rw [getD_set_ne false hij]; exact hlj)
    refine ⟨fun _ => hc, fun h0 => (by rw [h0] at hr; cases hr), fun j hj oj hoj => ?_⟩
    by_cases hji : j = i
    · subst hji
      rw [hi] at hoj
      cases hoj
      rcases hst with ⟨hw, hst⟩ | ⟨hw, hu⟩
      · exact .inl ⟨hw, stepK_mono (fun u' w' hu => by rw [hu.1, hu.2]; exact h) (hst w hc)⟩
      · exact .inr ⟨hw, by rw [← hu]; exact h⟩
    · obtain ⟨hjun, oj', hoj', hall⟩ := mem_ready.1 hj
      rw [hoj] at hoj'
      cases hoj'
      have hjj : j ≠ jj := fun e => last_waits hwt hin (mem_ready.1 hr).1 (e ▸ hj)
      have hnot : ∀ e ∈ oj.after, Region.binds md e = true → e.on ≠ i := fun e he hb heq => by
        have h1 := hall e he hb
        have h0 := (mem_ready.1 hr).1
        rw [heq] at h1
        rcases Nat.lt_or_ge i listed.size with h' | h'
        · simp [h'] at h0 h1; rw [h0] at h1; cases h1
        · simp [Array.getElem?_eq_none h'] at h1
      obtain ⟨p1, p2, p3⟩ := Oper.apart_spec (hfree j oj hoj hji hjun hnot)
      have hfree' : ∀ k ok, ops[k]? = some ok → k ≠ i → (listed.setIfInBounds j true).getD k true = false →
          (∀ e ∈ ok.after, Region.binds md e = true → e.on ≠ i) → oi.apart ops ok = true := fun k ok hk hki hun hno => by
        refine hfree k ok hk hki ?_ hno
        by_cases hjk : j = k
        · subst hjk; exact hjun
        · rw [getD_set_ne true hjk] at hun; exact hun
      have next : ∀ (v : Value) (w' : World), wpAny4 P md ops C jj Q fuel ((listed.setIfInBounds i true).setIfInBounds j true) ((a.put oi.dst u).put oj.dst v) w' → wpAny4 P md ops C jj Q (fuel + 1) (listed.setIfInBounds j true) (a.put oj.dst v) w' := fun v w' hk => by
        refine ih (listed.setIfInBounds j true) (a.put oj.dst v) w' hfree' (ready_mono hr (Ne.symm hji)) (by rw [getD_set_ne false hjj]; exact hlj) ?_ ?_
        · rw [wanted_put oi a oj.dst v p3]
          rcases hst with ⟨hw, hst⟩ | hst
          · refine .inl ⟨hw, fun w hw => ?_⟩
            have := hst w hw
            unfold stepK at this ⊢
            rw [execOp_put oi (fun cs b => hsel i oi cs b hi) a oj.dst v p3]
            exact this
          · exact .inr hst
        · rw [Array.setIfInBounds_comm _ _ hji, ← Act.put_comm a u v p2]
          exact hk
      rcases h.2.2 j (ready_mono hj hji) oj hoj with ⟨h1, h2⟩ | ⟨h1, h2⟩
      · refine .inl ⟨by rw [wanted_put oj a oi.dst u p1] at h1; exact h1, ?_⟩
        unfold stepK at h2 ⊢
        rw [execOp_put oj (fun cs b => hsel j oj cs b hoj) a oi.dst u p1] at h2
        exact stepK_mono (o := oj) (a := a) (w := w) (fun v w' hk => next v w' hk) h2
      · exact .inr ⟨by rw [wanted_put oj a oi.dst u p1] at h1; exact h1, next undef w h2⟩
/-- C is known of each world until operation jj, the last. -/
def mix4 (P : Program) (ops : Array Oper) (C : World → Prop) (jj : Nat) (Q : Act → World → Prop) : List (Oper × Nat × Bool) → Act → World → Prop
  | [], a, w => Q a w
  | (o, i, true) :: r, a, w => Region.wanted o (yielded ops a.tmps) = true ∧ stepK P o a w (fun u w' => (i ≠ jj → C w') ∧ mix4 P ops C jj Q r (a.put o.dst u) w')
  | (o, i, false) :: r, a, w => i < jj ∧ ∃ u, ((Region.wanted o (yielded ops a.tmps) = true ∧ ∀ w, C w → stepK P o a w (fun u' w' => u' = u ∧ w' = w)) ∨ (Region.wanted o (yielded ops a.tmps) = false ∧ u = undef)) ∧ mix4 P ops C jj Q r (a.put o.dst u) w
def lastB (jj : Nat) : List (Nat × Bool) → Bool
  | [] => true
  | (i, _) :: r => (i != jj || r.isEmpty) && lastB jj r
theorem any4_of_mix {jj : Nat} {Q : Act → World → Prop} (hs : Region.noSelect ops = true) (hwt : waitsAll md ops jj = true) : ∀ (plan : List (Nat × Bool)) (L : List (Oper × Nat × Bool)) (listed : Array Bool) (a : Act) (w : World), plan.map (fun p => (ops[p.1]?, p.1, p.2)) = L.map (fun q => (some q.1, q.2.1, q.2.2)) →
    planB md ops plan listed = true → lastB jj plan = true → (listed.getD jj false = true → plan = []) → jj < listed.size → (listed.getD jj false = false → C w) → mix4 P ops C jj Q L a w → wpAny4 P md ops C jj Q plan.length listed a w
  | [], L, listed, a, w, hL, hB, hlb, hp, hz, hC, h => by
    cases L with
    | nil => exact ⟨hC, by simpa [planB] using hB, h⟩
    | cons q L => simp at hL
  | (i, al) :: r, L, listed, a, w, hL, hB, hlb, hp, hz, hC, h => by
    cases L with
    | nil => simp at hL
    | cons q L =>
      obtain ⟨o, i', al'⟩ := q
      simp only [List.map_cons, List.cons.injEq, Prod.mk.injEq] at hL
      obtain ⟨⟨ho, rfl, rfl⟩, hL'⟩ := hL
      simp only [planB, Bool.and_eq_true] at hB
      obtain ⟨⟨hr, hf⟩, hB'⟩ := hB
      have hr' : i ∈ Region.ready md ops listed := by simpa using hr
      have hz' : jj < (listed.setIfInBounds i true).size := by simpa using hz
      have hlj : listed.getD jj false = false := by
        cases hx : listed.getD jj false with
        | false => rfl
        | true => have := hp hx; cases this
      simp only [lastB, Bool.and_eq_true] at hlb
      have hp' : (listed.setIfInBounds i true).getD jj false = true → r = [] := fun hx => by
        by_cases e : i = jj
        · have h1 := hlb.1
          subst e
          simpa using h1
        · rw [getD_set_ne false e, hlj] at hx
          cases hx
      cases al with
      | true =>
        simp only [if_true, List.all_eq_true, beq_iff_eq] at hf
        obtain ⟨h1, h2⟩ := h
        refine ⟨hC, fun h0 => (by rw [h0] at hr'; cases hr'), fun j hj oj hoj => ?_⟩
        have hji := hf j hj
        subst hji
        rw [ho] at hoj
        cases hoj
        refine .inl ⟨h1, stepK_mono (fun u w' hk => any4_of_mix hs hwt r L _ _ w' hL' hB' hlb.2 hp' hz' (fun hx => hk.1 (fun e => ?_)) hk.2) h2⟩
        subst e
        simp [hz] at hx
      | false =>
        simp only [Bool.false_eq_true, if_false] at hf
        obtain ⟨hij, u, h2, h3⟩ := h
        exact first4 hwt hij ho (Region.noSelect_spec hs) r.length listed a w (Region.free_spec ho hf) hr' hlj h2 (any4_of_mix hs hwt r L _ _ w hL' hB' hlb.2 hp' hz' (fun hx => hC hlj) h3)
/-- One walk serves every order; the last operation waits for all others. -/
theorem wp_region_mix4 {id : Nat} {Q : Exit → Act → World → Prop} {a : Act} {w : World} {l : List Oper} (C : World → Prop) (jj : Nat) (plan : List (Nat × Bool)) (hm : P.follows .mixedOrders = true)
    (hB : (Region.noSelect l.toArray && planB .any l.toArray plan (Array.replicate l.length false) && lastB jj plan && waitsAll .any l.toArray jj && plan.length == l.length) = true) (hC : C w.drew)
    (h : mix4 P l.toArray C jj (fun a w => Q .normal a w) (plan.map fun p => (l.getD p.1 default, p.1, p.2)) a w.drew) (hin : (plan.all (fun p => p.1 < l.length) && decide (jj < l.length)) = true) : (Code.region id l.toArray true).wp P Q a w := by
  simp only [Bool.and_eq_true, beq_iff_eq, decide_eq_true_eq] at hB hin
  refine wp_region_any hm (any_of_4 (C := C) (jj := jj) (Q := fun a w => Q .normal a w) (fun _ _ h => h) _ _ _ _ ?_)
  have := any4_of_mix (C := C) (jj := jj) (md := .any) hB.1.1.1.1 hB.1.2 plan _ (Array.replicate l.length false) a w.drew (by
    rw [List.map_map]
    apply List.map_congr_left
    intro p hp
    have hlt : p.1 < l.length := by simpa using List.all_eq_true.1 hin.1 p hp
    simp [List.getD, List.getElem?_eq_getElem hlt]) hB.1.1.1.2 hB.1.1.2 (fun x => by simp [hin.2] at x) (by simpa using hin.2) (fun _ => hC) h
  rw [hB.2] at this
  simpa using this
variable {jj : Nat} {Q : Act → World → Prop}
theorem l_pure {o : Oper} {i : Nat} {r : List (Oper × Nat × Bool)} {a : Act} {w : World} (v : Value) (hij : i < jj) (hw : Region.wanted o (yielded ops a.tmps) = true) (h : ∀ w, C w → (execOp a.eval o).run P w = .ok (.value v) w) (hk : mix4 P ops C jj Q r (a.put o.dst v) w) : mix4 P ops C jj Q ((o, i, false) :: r) a w :=
  ⟨hij, v, .inl ⟨hw, fun w h1 => by unfold stepK; rw [h w h1]; exact ⟨rfl, rfl⟩⟩, hk⟩
/-- What is left out. -/
theorem l_skip {o : Oper} {i : Nat} {r : List (Oper × Nat × Bool)} {a : Act} {w : World} (hij : i < jj) (hw : Region.wanted o (yielded ops a.tmps) = false) (hk : mix4 P ops C jj Q r (a.put o.dst undef) w) : mix4 P ops C jj Q ((o, i, false) :: r) a w := ⟨hij, undef, .inr ⟨hw, rfl⟩, hk⟩
theorem l_call {o : Oper} {i : Nat} {r : List (Oper × Nat × Bool)} {a : Act} {w : World} (f : FuncId) (args : Array Value) (hw : Region.wanted o (yielded ops a.tmps) = true) (h : (execOp a.eval o).run P w = .ok (.enter f args) w)
    (hc : Calls P f args w (fun e w' => ∃ v, e = .returned v ∧ C w' ∧ mix4 P ops C jj Q r (a.put o.dst v) w')) : mix4 P ops C jj Q ((o, i, true) :: r) a w := by
  refine ⟨hw, ?_⟩
  unfold stepK
  rw [h]
  exact ⟨rfl, hc.mono fun e w' ⟨v, h1, h2, h3⟩ => ⟨v, h1, fun _ => h2, h3⟩⟩
theorem l_run {o : Oper} {i : Nat} {r : List (Oper × Nat × Bool)} {a : Act} {w w' : World} (v : Value) (hw : Region.wanted o (yielded ops a.tmps) = true) (h : (execOp a.eval o).run P w = .ok (.value v) w') (hC : C w') (hk : mix4 P ops C jj Q r (a.put o.dst v) w') : mix4 P ops C jj Q ((o, i, true) :: r) a w := by
  refine ⟨hw, ?_⟩
  unfold stepK
  rw [h]
  exact ⟨fun _ => hC, hk⟩
/-- The last one, a store. -/
theorem l_last {o : Oper} {a : Act} {w w' : World} (hw : Region.wanted o (yielded ops a.tmps) = true) (h : (execOp a.eval o).run P w = .ok .skip w') (hk : Q (a.put o.dst undef) w') : mix4 P ops C jj Q [(o, jj, true)] a w := by
  refine ⟨hw, ?_⟩
  unfold stepK
  rw [h]
  exact ⟨fun e => absurd rfl e, hk⟩
theorem unwanted_undef {ops : Array Oper} {a : Act} {o : Oper} (j d : Nat) (want : Bool) (hg : o.guard = some (j, want)) (hd : (ops[j]?).bind (·.dst) = some d) (hv : a.tmps[d]? = some undef) : Region.wanted o (yielded ops a.tmps) = false := by
  unfold Region.wanted yielded
  rw [hg]
  simp only [hd, Option.bind_some, hv]
  cases want <;> rfl
end

end Go.Proofs.Ytngjlkdpplmpaaa.Mx
namespace Go.Proofs.Ytngjlkdpplmpaaa.Mx
open Go.RowKit
set_option linter.unusedVariables false

section
variable {P : Program} {ops : Array Oper} {md : Region.Mode} {C : World → Prop}
/-- Operation n waits for operation i. -/
def waitsOne (md : Region.Mode) (ops : Array Oper) (n i : Nat) : Bool := (ops[n]?).any fun o => o.after.any fun e => Region.binds md e && e.on == i
def waitsP (md : Region.Mode) (ops : Array Oper) (n : Nat) (plan : List (Nat × Bool)) : Bool := plan.all fun p => p.2 || waitsOne md ops n p.1
theorem last_waits1 {n i : Nat} (h : waitsOne md ops n i = true) {listed : Array Bool} (hun : listed.getD i true = false) : n ∉ Region.ready md ops listed := by
  intro hr
  obtain ⟨_, o', ho', hall⟩ := mem_ready.1 hr
  unfold waitsOne at h
  rw [ho', Option.any_some, Array.any_eq_true] at h
  obtain ⟨j, hj, h2⟩ := h
  simp only [Bool.and_eq_true, beq_iff_eq] at h2
  have h1 := hall _ (Array.getElem_mem hj) h2.1
  rw [h2.2] at h1
  rcases Nat.lt_or_ge i listed.size with h' | h'
  · simp [h'] at hun h1; rw [hun] at h1; cases h1
  · simp [Array.getElem?_eq_none h'] at h1
theorem first5 {jj : Nat} {Q : Act → World → Prop} {i : Nat} {oi : Oper} {u : Value} (hwt : waitsOne md ops jj i = true) (hin : i < jj) (hi : ops[i]? = some oi) (hsel : ∀ (j : Nat) (o : Oper) cs b, ops[j]? = some o → o.op ≠ .select cs b) :
    ∀ (fuel : Nat) (listed : Array Bool) (a : Act) (w : World),
      (∀ j oj, ops[j]? = some oj → j ≠ i → listed.getD j true = false → (∀ e ∈ oj.after, Region.binds md e = true → e.on ≠ i) → oi.apart ops oj = true) →
      i ∈ Region.ready md ops listed → listed.getD jj false = false → ((Region.wanted oi (yielded ops a.tmps) = true ∧ ∀ w, C w → stepK P oi a w (fun u' w' => u' = u ∧ w' = w)) ∨ (Region.wanted oi (yielded ops a.tmps) = false ∧ u = undef)) →
      wpAny4 P md ops C jj Q fuel (listed.setIfInBounds i true) (a.put oi.dst u) w → wpAny4 P md ops C jj Q (fuel + 1) listed a w := by
  have hij : i ≠ jj := by omega
  intro fuel
  induction fuel with
  | zero =>
    intro listed a w hfree hr hlj hst h
    have hc : C w := h.1 (by rw [getD_set_ne false hij]; exact hlj)
    refine ⟨fun _ => hc, fun h0 => (by rw [h0] at hr; cases hr), fun j hj o ho => ?_⟩
    by_cases hji : j = i
    · subst hji
      rw [hi] at ho
      cases ho
      rcases hst with ⟨hw, hst⟩ | ⟨hw, hu⟩
      · exact .inl ⟨hw, stepK_mono (fun u' w' hu => by rw [hu.1, hu.2]; exact h) (hst w hc)⟩
      · exact .inr ⟨hw, by rw [← hu]; exact h⟩
    · have := ready_mono hj hji
      rw [h.2.1] at this
      cases this
  | succ fuel ih =>
    intro listed a w hfree hr hlj hst h
    have hc : C w := h.1 (by rw [getD_set_ne false hij]; exact hlj)
    refine ⟨fun _ => hc, fun h0 => (by rw [h0] at hr; cases hr), fun j hj oj hoj => ?_⟩
    by_cases hji : j = i
    · subst hji
      rw [hi] at hoj
      cases hoj
      rcases hst with ⟨hw, hst⟩ | ⟨hw, hu⟩
      · exact .inl ⟨hw, stepK_mono (fun u' w' hu => by rw [hu.1, hu.2]; exact h) (hst w hc)⟩
      · exact .inr ⟨hw, by rw [← hu]; exact h⟩
    · obtain ⟨hjun, oj', hoj', hall⟩ := mem_ready.1 hj
      rw [hoj] at hoj'
      cases hoj'
      have hjj : j ≠ jj := fun e => last_waits1 hwt (mem_ready.1 hr).1 (e ▸ hj)
      have hnot : ∀ e ∈ oj.after, Region.binds md e = true → e.on ≠ i := fun e he hb heq => by
        have h1 := hall e he hb
        have h0 := (mem_ready.1 hr).1
        rw [heq] at h1
        rcases Nat.lt_or_ge i listed.size with h' | h'
        · simp [h'] at h0 h1; rw [h0] at h1; cases h1
        · simp [Array.getElem?_eq_none h'] at h1
      obtain ⟨p1, p2, p3⟩ := Oper.apart_spec (hfree j oj hoj hji hjun hnot)
      have hfree' : ∀ k ok, ops[k]? = some ok → k ≠ i → (listed.setIfInBounds j true).getD k true = false →
          (∀ e ∈ ok.after, Region.binds md e = true → e.on ≠ i) → oi.apart ops ok = true := fun k ok hk hki hun hno => by
        refine hfree k ok hk hki ?_ hno
        by_cases hjk : j = k
        · subst hjk; exact hjun
        · rw [getD_set_ne true hjk] at hun; exact hun
      have next : ∀ (v : Value) (w' : World), wpAny4 P md ops C jj Q fuel ((listed.setIfInBounds i true).setIfInBounds j true) ((a.put oi.dst u).put oj.dst v) w' → wpAny4 P md ops C jj Q (fuel + 1) (listed.setIfInBounds j true) (a.put oj.dst v) w' := fun v w' hk => by
        refine ih (listed.setIfInBounds j true) (a.put oj.dst v) w' hfree' (ready_mono hr (Ne.symm hji)) (by rw [getD_set_ne false hjj]; exact hlj) ?_ ?_
        · rw [wanted_put oi a oj.dst v p3]
          rcases hst with ⟨hw, hst⟩ | hst
          · refine .inl ⟨hw, fun w hw => ?_⟩
            have := hst w hw
            unfold stepK at this ⊢
            rw [execOp_put oi (fun cs b => hsel i oi cs b hi) a oj.dst v p3]
            exact this
          · exact .inr hst
        · rw [Array.setIfInBounds_comm _ _ hji, ← Act.put_comm a u v p2]
          exact hk
      rcases h.2.2 j (ready_mono hj hji) oj hoj with ⟨h1, h2⟩ | ⟨h1, h2⟩
      · refine .inl ⟨by rw [wanted_put oj a oi.dst u p1] at h1; exact h1, ?_⟩
        unfold stepK at h2 ⊢
        rw [execOp_put oj (fun cs b => hsel j oj cs b hoj) a oi.dst u p1] at h2
        exact stepK_mono (o := oj) (a := a) (w := w) (fun v w' hk => next v w' hk) h2
      · exact .inr ⟨by rw [wanted_put oj a oi.dst u p1] at h1; exact h1, next undef w h2⟩
theorem any5_of_mix {jj : Nat} {Q : Act → World → Prop} (hs : Region.noSelect ops = true) : ∀ (plan : List (Nat × Bool)) (L : List (Oper × Nat × Bool)) (listed : Array Bool) (a : Act) (w : World), plan.map (fun p => (ops[p.1]?, p.1, p.2)) = L.map (fun q => (some q.1, q.2.1, q.2.2)) →
    planB md ops plan listed = true → waitsP md ops jj plan = true → lastB jj plan = true → (listed.getD jj false = true → plan = []) → jj < listed.size → (listed.getD jj false = false → C w) → mix4 P ops C jj Q L a w → wpAny4 P md ops C jj Q plan.length listed a w
  | [], L, listed, a, w, hL, hB, hwt, hlb, hp, hz, hC, h => by
    cases L with
    | nil => exact ⟨hC, by simpa [planB] using hB, h⟩
    | cons q L => simp at hL
  | (i, al) :: r, L, listed, a, w, hL, hB, hwt, hlb, hp, hz, hC, h => by
    cases L with
    | nil => simp at hL
    | cons q L =>
      obtain ⟨o, i', al'⟩ := q
      simp only [List.map_cons, List.cons.injEq, Prod.mk.injEq] at hL
      obtain ⟨⟨ho, rfl, rfl⟩, hL'⟩ := hL
      simp only [planB, Bool.and_eq_true] at hB
      obtain ⟨⟨hr, hf⟩, hB'⟩ := hB
      have hr' : i ∈ Region.ready md ops listed := by simpa using hr
      have hz' : jj < (listed.setIfInBounds i true).size := by simpa using hz
      have hlj : listed.getD jj false = false := by
        cases hx : listed.getD jj false with
        | false => rfl
        | true => have := hp hx; cases this
      simp only [lastB, Bool.and_eq_true] at hlb
      simp only [waitsP, List.all_cons, Bool.and_eq_true] at hwt
      have hp' : (listed.setIfInBounds i true).getD jj false = true → r = [] := fun hx => by
        by_cases e : i = jj
        · have h1 := hlb.1
          subst e
          simpa using h1
        · rw [getD_set_ne false e, hlj] at hx
          cases hx
      cases al with
      | true =>
        simp only [if_true, List.all_eq_true, beq_iff_eq] at hf
        obtain ⟨h1, h2⟩ := h
        refine ⟨hC, fun h0 => (by rw [h0] at hr'; cases hr'), fun j hj oj hoj => ?_⟩
        have hji := hf j hj
        subst hji
        rw [ho] at hoj
        cases hoj
        refine .inl ⟨h1, stepK_mono (fun u w' hk => any5_of_mix hs r L _ _ w' hL' hB' hwt.2 hlb.2 hp' hz' (fun hx => hk.1 (fun e => ?_)) hk.2) h2⟩
        subst e
        simp [hz] at hx
      | false =>
        simp only [Bool.false_eq_true, if_false] at hf
        obtain ⟨hij, u, h2, h3⟩ := h
        exact first5 (by simpa using hwt.1) hij ho (Region.noSelect_spec hs) r.length listed a w (Region.free_spec ho hf) hr' hlj h2 (any5_of_mix hs r L _ _ w hL' hB' hwt.2 hlb.2 hp' hz' (fun hx => hC hlj) h3)
/-- One walk serves every order; the last operation waits for all others. -/
theorem wp_region_mix5 {id : Nat} {Q : Exit → Act → World → Prop} {a : Act} {w : World} {l : List Oper} (C : World → Prop) (jj : Nat) (plan : List (Nat × Bool)) (hm : P.follows .mixedOrders = true)
    (hB : (Region.noSelect l.toArray && planB .any l.toArray plan (Array.replicate l.length false) && lastB jj plan && waitsP .any l.toArray jj plan && plan.length == l.length) = true) (hC : C w.drew)
    (h : mix4 P l.toArray C jj (fun a w => Q .normal a w) (plan.map fun p => (l.getD p.1 default, p.1, p.2)) a w.drew) (hin : (plan.all (fun p => p.1 < l.length) && decide (jj < l.length)) = true) : (Code.region id l.toArray true).wp P Q a w := by
  simp only [Bool.and_eq_true, beq_iff_eq, decide_eq_true_eq] at hB hin
  refine wp_region_any hm (any_of_4 (C := C) (jj := jj) (Q := fun a w => Q .normal a w) (fun _ _ h => h) _ _ _ _ ?_)
  have := any5_of_mix (C := C) (jj := jj) (md := .any) hB.1.1.1.1 plan _ (Array.replicate l.length false) a w.drew (by
    rw [List.map_map]
    apply List.map_congr_left
    intro p hp
    have hlt : p.1 < l.length := by simpa using List.all_eq_true.1 hin.1 p hp
    simp [List.getD, List.getElem?_eq_getElem hlt]) hB.1.1.1.2 hB.1.2 hB.1.1.2 (fun x => by simp [hin.2] at x) (by simpa using hin.2) (fun _ => hC) h
  rw [hB.2] at this
  simpa using this
end

end Go.Proofs.Ytngjlkdpplmpaaa.Mx
namespace Go.Proofs.Ytngjlkdpplmpaaa.Ca
open Go.RowKit Wd Cn Vl
set_option linter.unusedVariables false

def mkA (id : ByteArray) (p : Nat) (x y : Value) : Array Value := #[.string id, .pointer (some ⟨p, 0, none⟩), x, y]
theorem twoA (id : ByteArray) (p : Nat) : Two (mkA id p) := ⟨fun _ _ => rfl, fun _ _ => rfl, fun _ _ _ => rfl, fun _ _ _ => rfl⟩
/-- The program's walk in memory. -/
def StA (w0 w : World) (a : Nat) (id : ByteArray) (p : Nat) (F : List Fl) (W : List Wt) : Prop := St w0 w a 91 (mkA id p) F W
theorem infoFl : (Try.prog.info? 46).map (fun i => (i.zero, i.size, i.bytes)) = some (some (.agg #[.int .i64 0, .string ByteArray.empty, .int .i64 0]), 3, 32) := by kernel_rfl
theorem infoWt : (Try.prog.info? 43).map (fun i => (i.zero, i.size, i.bytes)) = some (some (.agg #[.bool false, .string ByteArray.empty, .string ByteArray.empty, .int .i64 0, .int .i64 0]), 5, 56) := by kernel_rfl

/-- A payment more behind the row: what the builtin answers, and what stands behind the store. -/
theorem AIn.pushF {w : World} {B a : Nat} {T : TypeId} {mk : Value → Value → Array Value} {F : List Fl} {W : List Wt} {vF vW : Value} (h : AIn w B a T mk F W vF vW) (hm : Two mk) (hT1 : T ≠ 46) (hT2 : T ≠ 43) (hB : B ≤ w.heap.size) (hl : F.length ≤ 100000) (x : Fl) (ab : Nat) (hc : w.heap[ab]? = some (.cells #[.int .i64 x.day, .string x.cur, .int .i64 x.amt] 46)) (ty : TypeId) :
    ∃ v' w', (Builtin.append_ #[37, 37] ty #[vF, .slice (some ⟨ab, 0, none⟩) 1 1]).run Try.prog w = .ok v' w' ∧ w'.cell? ⟨a, 2, none⟩ = some vF ∧ w'.frozen? ⟨a, 2, none⟩ = false ∧ (∃ ao cap, v' = .slice ao (F.length + 1) cap) ∧ w.grownBy w' vF.ownBlock ∧
      AIn (w'.setCell ⟨a, 2, none⟩ v') B a T mk (F ++ [x]) W v' vW ∧ Below B w (w'.setCell ⟨a, 2, none⟩ v') := by
  obtain ⟨i0, hi, hz⟩ := Option.map_eq_some_iff.1 infoFl
  simp only [Prod.mk.injEq] at hz
  obtain ⟨hz0, hz1, hz2⟩ := hz
  obtain ⟨v', w', hr, ho, hg, _⟩ := run_append_own (P := Try.prog) w B 37 ty 46 i0 (.agg #[.int .i64 0, .string ByteArray.empty, .int .i64 0]) 3 32 Try.underlying37 hi hz0 hz1 hz2 rfl (by decide) vF F.length (rowFl F) h.rf ⟨ab, 0, none⟩ 1 1 x.cells rfl
    (by
      intro j u hj
      rw [Addr.add_lit, Nat.zero_add, cell_of_row _ _ _ _ _ _ hc]
      simpa [Fl.cells] using hj)
    (by
      intro u hu
      simp [Fl.cells] at hu
      rcases hu with rfl | rfl | rfl <;> rfl) (by unfold maxLen; omega) (by omega) hB
  have ha : a < w.heap.size := (Array.getElem?_eq_some_iff.1 h.blk).1
  have hb1 : w'.heap[a]? = some (.cells (mk vF vW) T) := (hg.block a ha (fun e => h.neF hT1 e.symm)).trans h.blk
  obtain ⟨k1, k2⟩ := h.addF hm hT1 hT2 hB x ho hg
  exact ⟨v', w', hr, cell_blk hb1 (hm.g2 _ _), frozen_of_row w' a 2 _ _ hb1, row_shape ho, hg, k1, k2⟩
/-- A wait more behind the row: what the builtin answers, and what stands behind the store. -/
theorem AIn.pushW {w : World} {B a : Nat} {T : TypeId} {mk : Value → Value → Array Value} {F : List Fl} {W : List Wt} {vF vW : Value} (h : AIn w B a T mk F W vF vW) (hm : Two mk) (hT1 : T ≠ 46) (hT2 : T ≠ 43) (hB : B ≤ w.heap.size) (hl : W.length ≤ 100000) (x : Wt) (ab : Nat) (hc : w.heap[ab]? = some (.cells #[.bool x.ch, .string x.name, .string x.label, .int .i64 x.day, .int .i64 x.side] 43)) (ty : TypeId) :
    ∃ v' w', (Builtin.append_ #[38, 38] ty #[vW, .slice (some ⟨ab, 0, none⟩) 1 1]).run Try.prog w = .ok v' w' ∧ w'.cell? ⟨a, 3, none⟩ = some vW ∧ w'.frozen? ⟨a, 3, none⟩ = false ∧ (∃ ao cap, v' = .slice ao (W.length + 1) cap) ∧ w.grownBy w' vW.ownBlock ∧
      AIn (w'.setCell ⟨a, 3, none⟩ v') B a T mk F (W ++ [x]) vF v' ∧ Below B w (w'.setCell ⟨a, 3, none⟩ v') := by
  obtain ⟨i0, hi, hz⟩ := Option.map_eq_some_iff.1 infoWt
  simp only [Prod.mk.injEq] at hz
  obtain ⟨hz0, hz1, hz2⟩ := hz
  obtain ⟨v', w', hr, ho, hg, _⟩ := run_append_own (P := Try.prog) w B 38 ty 43 i0 (.agg #[.bool false, .string ByteArray.empty, .string ByteArray.empty, .int .i64 0, .int .i64 0]) 5 56 Try.underlying38 hi hz0 hz1 hz2 rfl (by decide) vW W.length (rowWt W) h.rw' ⟨ab, 0, none⟩ 1 1 x.cells rfl
    (by
      intro j u hj
      rw [Addr.add_lit, Nat.zero_add, cell_of_row _ _ _ _ _ _ hc]
      simpa [Wt.cells] using hj)
    (by
      intro u hu
      simp [Wt.cells] at hu
      rcases hu with rfl | rfl | rfl | rfl | rfl <;> rfl) (by unfold maxLen; omega) (by omega) hB
  have ha : a < w.heap.size := (Array.getElem?_eq_some_iff.1 h.blk).1
  have hb1 : w'.heap[a]? = some (.cells (mk vF vW) T) := (hg.block a ha (fun e => h.neW hT2 e.symm)).trans h.blk
  obtain ⟨k1, k2⟩ := h.addW hm hT1 hT2 hB x ho hg
  exact ⟨v', w', hr, cell_blk hb1 (hm.g3 _ _), frozen_of_row w' a 3 _ _ hb1, row_shape ho, hg, k1, k2⟩

set_option maxHeartbeats 2000000 in
set_option maxRecDepth 100000 in
theorem wait_any (w0 w : World) (a : Nat) (id : ByteArray) (p : Nat) (F : List Fl) (W : List Wt) (h : StA w0 w a id p F W) (hl : W.length ≤ 100000) (y : Wt) :
    Calls Try.prog 78 #[.pointer (some ⟨a, 0, none⟩), y.val] w fun e w' => e = .returned (.tuple #[]) ∧ StA w0 w' a id p F (putW W y) ∧ Kept a w w' := by
  obtain ⟨⟨vF, vW, hin⟩, hb0⟩ := h
  have HB0 := hidC hb0
  have HR := hidC (hin.below (below_alloc (Below.refl w.heap.size w) (.cells #[.bool y.ch, .string y.name, .string y.label, .int .i64 y.day, .int .i64 y.side] 43)))
  have HBA := hidC (below_alloc (Below.refl w.heap.size w) (.cells #[.bool y.ch, .string y.name, .string y.label, .int .i64 y.day, .int .i64 y.side] 43))
  have HY := hidC (heap_alloc_new w (.cells #[.bool y.ch, .string y.name, .string y.label, .int .i64 y.day, .int .i64 y.side] 43))
  have HLT := hidC (fun k (hk : vW.ownBlock = some k) => (hin.rw'.lt k hk).2)
  clear hin hb0
  obtain ⟨ao, cap, rfl, hw⟩ := own_wts HR.out.rw'
  have HW := hidC hw
  clear hw
  unfold Wt.val
  go_enter Try.func78, Try.ntmps78
  go_wp2_with fail
  generalize w.alloc (.cells #[.bool y.ch, .string y.name, .string y.label, .int .i64 y.day, .int .i64 y.side] 43) = V at *
  have HBV := hidC (below_drew (Below.refl V.heap.size V))
  have HF : Hid (∀ w', Below V.heap.size V w' → w'.cell? ⟨a, 3, none⟩ = some (.slice ao W.length cap) ∧ w'.cell? ⟨w.heap.size, 0, none⟩ = some (.bool y.ch) ∧ w'.cell? ⟨w.heap.size, 1, none⟩ = some (.string y.name) ∧ w'.cell? ⟨w.heap.size, 2, none⟩ = some (.string y.label) ∧ w'.cell? ⟨w.heap.size, 3, none⟩ = some (.int .i64 y.day) ∧ w'.cell? ⟨w.heap.size, 4, none⟩ = some (.int .i64 y.side)) := fun w' hw' => by
    have hb := (hw'.block _ (Array.getElem?_eq_some_iff.1 HY.out).1).trans HY.out
    exact ⟨(HR.out.below hw').cell3 (twoA id p), cell_of_row _ _ 0 _ _ _ hb, cell_of_row _ _ 1 _ _ _ hb, cell_of_row _ _ 2 _ _ _ hb, cell_of_row _ _ 3 _ _ _ hb, cell_of_row _ _ 4 _ _ _ hb⟩
  refine Mx.wp_region_mix (fun w' => Below V.heap.size V w') [(0, false), (1, false), (2, false), (3, false), (4, false), (5, true), (6, false)] (by kernel_rfl) (by kernel_rfl) HBV.out ?_ (by kernel_rfl)
  simp only [List.map_cons, List.map_nil, List.getD_cons_zero, List.getD_cons_succ]
  generalize hops : (#[_, _, _, _, _, _, _] : Array Oper) = ops
  clear hops
  refine Mx.m_pure (.pointer (some ⟨a, 0, none⟩)) (Mx.wanted_none rfl) (fun w' hw' => ?_) ?_
  · go_simp
  simp only [Act.put, List.setIfInBounds_toArray, List.set_cons_zero, List.set_cons_succ]
  refine Mx.m_pure (.pointer (some ⟨a, 0, none⟩)) (Mx.wanted_none rfl) (fun w' hw' => ?_) ?_
  · go_simp
  simp only [Act.put, List.setIfInBounds_toArray, List.set_cons_zero, List.set_cons_succ]
  refine Mx.m_pure (.pointer (some ⟨a, 3, none⟩)) (Mx.wanted_none rfl) (fun w' hw' => ?_) ?_
  · go_simp
  simp only [Act.put, List.setIfInBounds_toArray, List.set_cons_zero, List.set_cons_succ]
  refine Mx.m_pure (.slice ao W.length cap) (Mx.wanted_none rfl) (fun w' hw' => ?_) ?_
  · obtain ⟨q0, q1, q2, q3, q4, q5⟩ := HF.out w' hw'
    go_simp
  simp only [Act.put, List.setIfInBounds_toArray, List.set_cons_zero, List.set_cons_succ]
  refine Mx.m_pure (.agg #[.bool y.ch, .string y.name, .string y.label, .int .i64 y.day, .int .i64 y.side]) (Mx.wanted_none rfl) (fun w' hw' => ?_) ?_
  · obtain ⟨q0, q1, q2, q3, q4, q5⟩ := HF.out w' hw'
    go_simp
  simp only [Act.put, List.setIfInBounds_toArray, List.set_cons_zero, List.set_cons_succ]
  refine Mx.m_call 95 #[.slice ao W.length cap, y.val] (Mx.wanted_none rfl) ?_ ?_
  · unfold Wt.val
    go_simp
  refine (contains_any _ ao cap W (HW.out.below HBV.out) (by omega) y).mono ?_
  rintro e w1 ⟨rfl, hb⟩
  have HV1 := hidC (HBV.out.trans (hb.mono HBV.out.size))
  refine ⟨_, rfl, HV1.out, ?_⟩
  clear hb
  simp only [Act.put, List.setIfInBounds_toArray, List.set_cons_zero, List.set_cons_succ]
  refine Mx.m_pure (.bool (!decide (y ∈ W))) (Mx.wanted_none rfl) (fun w' hw' => ?_) ?_
  · go_simp
  simp only [Act.put, List.setIfInBounds_toArray, List.set_cons_zero, List.set_cons_succ]
  refine Mx.m_nil (fun _ => ?_)
  have HB1 := hidC (HBA.out.trans (HV1.out.mono HBA.out.size))
  by_cases hy : y ∈ W
  · have HP : Hid (putW W y = W) := by unfold Hid putW; rw [if_pos hy]
    rw [decide_eq_true hy]
    clear hy
    go_wp2_with fail
    go_end0
    rw [HP.out]
    exact ⟨rfl, ⟨⟨_, _, HR.out.below HV1.out⟩, HB0.out.trans (HB1.out.mono HB0.out.size)⟩, Kept.of_below HB1.out⟩
  · have HP : Hid (putW W y = W ++ [y]) := by unfold Hid putW; rw [if_neg hy]
    rw [decide_eq_false hy]
    clear hy
    go_wp2_with fail
    have HD := hidC (HV1.out.trans ((below_drew (Below.refl w1.heap.size w1)).mono HV1.out.size))
    have HRD := hidC (HR.out.below HD.out)
    have HYD : Hid (w1.drew.heap[w.heap.size]? = some (.cells #[.bool y.ch, .string y.name, .string y.label, .int .i64 y.day, .int .i64 y.side] 43)) := (HD.out.block _ (Array.getElem?_eq_some_iff.1 HY.out).1).trans HY.out
    have HB2 : Hid (Below w.heap.size w w1.drew) := HBA.out.trans (HD.out.mono HBA.out.size)
    have HFC : Hid (∀ w' : World, (w'.cell? ⟨a, 3, none⟩ = some (.slice ao W.length cap) ∧ w'.heap[w.heap.size]? = some (.cells #[.bool y.ch, .string y.name, .string y.label, .int .i64 y.day, .int .i64 y.side] 43)) → w'.cell? ⟨a, 3, none⟩ = some (.slice ao W.length cap) ∧ w'.cell? ⟨w.heap.size, 0, none⟩ = some (.bool y.ch) ∧ w'.cell? ⟨w.heap.size, 1, none⟩ = some (.string y.name) ∧ w'.cell? ⟨w.heap.size, 2, none⟩ = some (.string y.label) ∧ w'.cell? ⟨w.heap.size, 3, none⟩ = some (.int .i64 y.day) ∧ w'.cell? ⟨w.heap.size, 4, none⟩ = some (.int .i64 y.side)) := fun w' hw' =>
      ⟨hw'.1, cell_of_row _ _ 0 _ _ _ hw'.2, cell_of_row _ _ 1 _ _ _ hw'.2, cell_of_row _ _ 2 _ _ _ hw'.2, cell_of_row _ _ 3 _ _ _ hw'.2, cell_of_row _ _ 4 _ _ _ hw'.2⟩
    refine Mx.wp_region_mix5 (fun w' => w'.cell? ⟨a, 3, none⟩ = some (.slice ao W.length cap) ∧ w'.heap[w.heap.size]? = some (.cells #[.bool y.ch, .string y.name, .string y.label, .int .i64 y.day, .int .i64 y.side] 43)) 10 [(0, false), (1, false), (2, false), (3, false), (4, false), (5, false), (6, true), (7, true), (8, true), (9, true), (10, true)] (by kernel_rfl) (by kernel_rfl) ⟨HRD.out.cell3 (twoA id p), HYD.out⟩ ?_ (by kernel_rfl)
    simp only [List.map_cons, List.map_nil, List.getD_cons_zero, List.getD_cons_succ]
    generalize hops : (#[_, _, _, _, _, _, _, _, _, _, _] : Array Oper) = ops
    clear hops
    refine Mx.l_pure (.pointer (some ⟨a, 0, none⟩)) (by decide) (Mx.wanted_none rfl) (fun w' hw' => ?_) ?_
    · go_simp
    simp only [Act.put, List.setIfInBounds_toArray, List.set_cons_zero, List.set_cons_succ]
    refine Mx.l_pure (.pointer (some ⟨a, 0, none⟩)) (by decide) (Mx.wanted_none rfl) (fun w' hw' => ?_) ?_
    · go_simp
    simp only [Act.put, List.setIfInBounds_toArray, List.set_cons_zero, List.set_cons_succ]
    refine Mx.l_pure (.pointer (some ⟨a, 0, none⟩)) (by decide) (Mx.wanted_none rfl) (fun w' hw' => ?_) ?_
    · go_simp
    simp only [Act.put, List.setIfInBounds_toArray, List.set_cons_zero, List.set_cons_succ]
    refine Mx.l_pure (.pointer (some ⟨a, 3, none⟩)) (by decide) (Mx.wanted_none rfl) (fun w' hw' => ?_) ?_
    · go_simp
    simp only [Act.put, List.setIfInBounds_toArray, List.set_cons_zero, List.set_cons_succ]
    refine Mx.l_pure (.slice ao W.length cap) (by decide) (Mx.wanted_none rfl) (fun w' hw' => ?_) ?_
    · obtain ⟨q0, q1, q2, q3, q4, q5⟩ := HFC.out w' hw'
      go_simp
    simp only [Act.put, List.setIfInBounds_toArray, List.set_cons_zero, List.set_cons_succ]
    refine Mx.l_pure (.agg #[.bool y.ch, .string y.name, .string y.label, .int .i64 y.day, .int .i64 y.side]) (by decide) (Mx.wanted_none rfl) (fun w' hw' => ?_) ?_
    · obtain ⟨q0, q1, q2, q3, q4, q5⟩ := HFC.out w' hw'
      go_simp
    simp only [Act.put, List.setIfInBounds_toArray, List.set_cons_zero, List.set_cons_succ]
    generalize hX : w1.drew = X at *
    clear hX
    have HB3 := hidC (below_alloc (Below.refl X.heap.size X) (.cells #[.bool y.ch, .string y.name, .string y.label, .int .i64 y.day, .int .i64 y.side] 43))
    have HRA := hidC (HRD.out.below HB3.out)
    have HYA : Hid ((X.alloc (.cells #[.bool y.ch, .string y.name, .string y.label, .int .i64 y.day, .int .i64 y.side] 43)).heap[w.heap.size]? = some (.cells #[.bool y.ch, .string y.name, .string y.label, .int .i64 y.day, .int .i64 y.side] 43)) := (HB3.out.block _ (Array.getElem?_eq_some_iff.1 HYD.out).1).trans HYD.out
    refine Mx.l_run (.slice (some ⟨X.heap.size, 0, none⟩) 1 1) (Mx.wanted_none rfl) (w' := X.alloc (.cells #[.bool y.ch, .string y.name, .string y.label, .int .i64 y.day, .int .i64 y.side] 43)) ?_ ⟨HRA.out.cell3 (twoA id p), HYA.out⟩ ?_
    · go_simp
    simp only [Act.put, List.setIfInBounds_toArray, List.set_cons_zero, List.set_cons_succ]
    have hB0 : w0.heap.size ≤ (X.alloc (.cells #[.bool y.ch, .string y.name, .string y.label, .int .i64 y.day, .int .i64 y.side] 43)).heap.size := Nat.le_trans HB0.out.size (Nat.le_trans HB2.out.size HB3.out.size)
    obtain ⟨v', w4, hrun, hc3, hf3, ⟨ao2, cap2, hv'⟩, hg, k1, k2⟩ := HRA.out.pushW (twoA id p) (by decide) (by decide) hB0 hl y X.heap.size (heap_alloc_new _ _) 38
    have HK1 := hidC k1
    have HK2 := hidC k2
    have HKP : Hid (Kept a (X.alloc (.cells #[.bool y.ch, .string y.name, .string y.label, .int .i64 y.day, .int .i64 y.side] 43)) (w4.setCell ⟨a, 3, none⟩ v')) := Kept.grown HRA.out.rw' (.inr rfl) hg
    have HY4 : Hid (w4.heap[w.heap.size]? = some (.cells #[.bool y.ch, .string y.name, .string y.label, .int .i64 y.day, .int .i64 y.side] 43)) := (hg.block _ (Array.getElem?_eq_some_iff.1 HYA.out).1 (fun e => by have := HLT.out _ e.symm; omega)).trans HYA.out
    clear hg k1 k2
    generalize X.alloc (.cells #[.bool y.ch, .string y.name, .string y.label, .int .i64 y.day, .int .i64 y.side] 43) = w3 at *
    refine Mx.l_run v' (Mx.wanted_none rfl) (w' := w4) ?_ ⟨hc3, HY4.out⟩ ?_
    · simp [execOp, resolve, invoke, builtin, Act.eval, hrun]
    clear hrun
    subst hv'
    simp only [Act.put, List.setIfInBounds_toArray, List.set_cons_zero, List.set_cons_succ]
    refine Mx.l_run (.pointer (some ⟨a, 0, none⟩)) (Mx.wanted_none rfl) (w' := w4) ?_ ⟨hc3, HY4.out⟩ ?_
    · go_simp
    simp only [Act.put, List.setIfInBounds_toArray, List.set_cons_zero, List.set_cons_succ]
    refine Mx.l_run (.pointer (some ⟨a, 3, none⟩)) (Mx.wanted_none rfl) (w' := w4) ?_ ⟨hc3, HY4.out⟩ ?_
    · go_simp
    simp only [Act.put, List.setIfInBounds_toArray, List.set_cons_zero, List.set_cons_succ]
    refine Mx.l_last (w' := w4.setCell ⟨a, 3, none⟩ (.slice ao2 (W.length + 1) cap2)) (Mx.wanted_none rfl) ?_ ?_
    · go_simp
    simp only [Act.put]
    generalize w4.setCell ⟨a, 3, none⟩ (.slice ao2 (W.length + 1) cap2) = w5 at *
    clear hc3 hf3
    go_wp2_with fail
    go_end0
    rw [HP.out]
    have h1 : Below w.heap.size w w3 := HB2.out.trans (HB3.out.mono HB2.out.size)
    exact ⟨rfl, ⟨⟨_, _, HK1.out⟩, (HB0.out.trans (h1.mono HB0.out.size)).trans HK2.out⟩, (Kept.of_below h1).trans HKP.out⟩

end Go.Proofs.Ytngjlkdpplmpaaa.Ca
namespace Go.Proofs.Ytngjlkdpplmpaaa.Ca
open Go.RowKit Wd Cn Vl
set_option linter.unusedVariables false

/-- What a walk knows: the program's world in memory, what is known, the contract's name. -/
structure Env (w0 : World) (p f c : Nat) (K : KW) (id : ByteArray) : Prop where
  kin : KIn w0 p f c K
  vals : KW.Vals K
  chs : KW.Chs K
  idl : id.size ≤ 1000000
def numW (K : KW) (d : Int) (o : O) : List Wt := if (rk K d o).e ≠ 0 then [] else if (rk K d o).known = true then [] else waitN K d o
theorem addW_snoc (W ys : List Wt) (y : Wt) : addW W (ys ++ [y]) = putW (addW W ys) y := by rw [addW_app]; rfl
theorem chk_sz {o : O} (h : chk o = 0) : formB o = true ∧ o.nodes ≤ 60 := by
  unfold chk at h
  split at h
  · rename_i h1
    split at h
    · cases h
    · exact ⟨h1, by omega⟩
  · cases h

set_option maxHeartbeats 2000000 in
set_option maxRecDepth 100000 in
theorem number_any {w0 : World} {p f c : Nat} {K : KW} {id : ByteArray} (hE : Env w0 p f c K id) (w : World) (a : Nat) (F : List Fl) (W : List Wt) (h : StA w0 w a id p F W) (hl : W.length ≤ 60000) (o : O) (hok : o.Ok) (hc : chk o = 0) (d : Int) (hd : dayOk d) :
    Calls Try.prog 80 #[.pointer (some ⟨a, 0, none⟩), o.val, .int .i64 d] w fun e w' => e = ofE (rk K d o) ∧ StA w0 w' a id p F (addW W (numW K d o)) ∧ Kept a w w' := by
  obtain ⟨hf, hnd⟩ := chk_sz hc
  have HK := hidC hE.kin
  have HG := hidC (rk_good hE.vals d o hf)
  have HS := hidC h
  obtain ⟨⟨vF, vW, hin⟩, hb0⟩ := h
  have HB0 := hidC hb0
  have c1 : w.cell? ⟨a, 1, none⟩ = some (.pointer (some ⟨p, 0, none⟩)) := cell_blk hin.blk rfl
  have HC1 : Hid (∀ w', Below w.heap.size w w' → w'.cell? ⟨a, 1, none⟩ = some (.pointer (some ⟨p, 0, none⟩))) := fun w' hw' => cell_blk (hin.below hw').blk rfl
  have HOF : Hid (ofR K d o = rk K d o) := Vl.ofR_ok hc
  have HNE : Hid (needR K d o = lackN K d o.names) := by unfold Hid needR; rw [if_pos hc]
  have HLEN := hidC (lackN_len K d o)
  have HOK := hidC hok
  clear hin hb0 hE
  go_enter Try.func80, Try.ntmps80
  go_wp2_with fail
  refine (of_any o hok (by omega) w p f c K d (HK.out.below HB0.out) hd).mono ?_
  rintro e w1 ⟨rfl, hb1⟩
  have HB1 := hidC hb1
  have HS1 := hidC (HS.out.step hb1)
  have c1' := HC1.out w1 hb1
  rw [HOF.out]
  unfold ofE
  clear hb1 c1 hok
  by_cases he : (rk K d o).e = 0
  · by_cases hk : (rk K d o).known = true
    · have HN : Hid (numW K d o = []) := by unfold Hid numW; rw [if_neg (by simpa using he), if_pos hk]
      have HX : Hid (ofE (rk K d o) = Ending.returned (.tuple #[.int .i64 (rk K d o).n, .bool true, .int .i64 0])) := by unfold Hid ofE; rw [he, hk]
      rw [he, hk]
      generalize (rk K d o).n = n at *
      go_wp2_with fail
      go_ret3
      rw [HX.out, HN.out]
      exact ⟨rfl, HS1.out, Kept.of_below HB1.out⟩
    · have HN : Hid (numW K d o = waitN K d o) := by unfold Hid numW; rw [if_neg (by simpa using he), if_neg hk]
      have hk' : (rk K d o).known = false := by simpa using hk
      have hn0 := HG.out.unk hk'
      have HX : Hid (ofE (rk K d o) = Ending.returned (.tuple #[.int .i64 0, .bool false, .int .i64 0])) := by unfold Hid ofE; rw [he, hk', hn0]
      rw [he, hk', hn0]
      clear he hk hk' hn0 HG
      go_wp2_with fail
      refine (needs_any o HOK.out (by omega) w1 p f c K d ((HK.out.below HB0.out).below HB1.out) hd).mono ?_
      rintro e w2 ⟨v2, rfl, hown, hb2⟩
      rw [HNE.out] at hown
      have HS2 := hidC (HS1.out.step hb2)
      have HKP2 := hidC (Kept.of_below (a := a) (HB1.out.trans (hb2.mono HB1.out.size)))
      obtain ⟨ao, cap, rfl⟩ := row_shape hown
      have HOWN := hidC hown
      have hll : (lackN K d o.names).length ≤ 60 := by
        have := HLEN.out
        unfold waitN at this
        rw [List.length_map] at this
        omega
      clear hown hb2 c1'
      have HN2 : Hid (numW K d o = (lackN K d o.names).map (nameW d)) := HN.out
      clear HN
      generalize lackN K d o.names = l at *
      go_wp2_with fail
      go_loopw [38] (fun s38 wr => ∃ i : Nat, i ≤ l.length ∧ s38 = .int .i64 i ∧ StA w0 wr a id p F (addW W ((l.take i).map (nameW d))) ∧ Kept a w wr ∧ wr.ownsRow w1.heap.size 9 1 (.slice ao l.length cap) l.length (strCells l)) (fun s38 _ => l.length - (intOf s38).toNat)
      case atStart => exact ⟨0, by omega, rfl, HS2.out, HKP2.out, HOWN.out⟩
      case round =>
        obtain ⟨i, hi, rfl, hs, hkp, hrow⟩ := hrel
        have HSR := hidC hs
        have HKR := hidC hkp
        have HROW := hidC hrow
        clear hs hkp hrow
        by_cases hlt : i < l.length
        · have hlt' : (i : Int) < (l.length : Int) := by omega
          obtain ⟨ao', cap', he, hcl, _⟩ := own_str HROW.out
          simp only [Value.slice.injEq] at he
          obtain ⟨rfl, -, -⟩ := he
          obtain ⟨g, rfl, hg, hcell⟩ := hcl i hlt
          have HT : Hid (addW W ((l.take (i + 1)).map (nameW d)) = putW (addW W ((l.take i).map (nameW d))) (nameW d l[i])) := by
            unfold Hid
            rw [take_more l i l[i] (List.getElem?_eq_getElem hlt), List.map_append]
            exact addW_snoc _ _ _
          have hal : (addW W ((l.take i).map (nameW d))).length ≤ 100000 := by
            have h1 := addW_len ((l.take i).map (nameW d)) W
            rw [List.length_map, List.length_take] at h1
            omega
          clear hcl
          generalize l[i] = s at *
          generalize addW W ((l.take i).map (nameW d)) = W' at *
          have HWT := hidC (wait_any w0 wr a id p F W' HSR.out hal (nameW d s))
          unfold nameW Wt.val at HWT
          simp only at HWT
          go_wp2_with fail
          refine HWT.out.mono ?_
          rintro e w4 ⟨rfl, hs4, hk4⟩
          have HS4 : Hid (StA w0 w4 a id p F (putW W' (nameW d s))) := hs4
          have HK4 := hidC (HKR.out.trans hk4)
          have HR4 := hidC (hk4.row HROW.out (HSR.out.at_row HROW.out (by decide)) (by decide) (by decide))
          clear hs4 hk4 hcell
          go_wp2_with fail
          go_roundw
          case rel => exact ⟨i + 1, by omega, by go_num, by rw [HT.out]; exact HS4.out, HK4.out, HR4.out⟩
          case measure => simp [intOf] <;> omega
        · have hle : i = l.length := by omega
          subst hle
          rw [List.take_length] at HSR
          go_wp2_with fail
          go_ret3
          rw [HX.out, HN2.out]
          exact ⟨rfl, HSR.out, HKR.out⟩
  · have HN : Hid (numW K d o = []) := by unfold Hid numW; rw [if_pos he]
    have hk' := (HG.out.err he).2
    have he' : ((rk K d o).e != 0) = true := by simpa using he
    have HX : Hid (ofE (rk K d o) = Ending.returned (.tuple #[.int .i64 (rk K d o).n, .bool false, .int .i64 (rk K d o).e])) := by unfold Hid ofE; rw [hk']
    rw [hk']
    generalize (rk K d o).n = n at *
    generalize (rk K d o).e = e6 at *
    go_wp2_with fail
    go_ret3
    rw [HX.out, HN.out]
    exact ⟨rfl, HS1.out, Kept.of_below HB1.out⟩

end Go.Proofs.Ytngjlkdpplmpaaa.Ca
namespace Go.Proofs.Ytngjlkdpplmpaaa.Ca
open Go.RowKit Wd Cn Vl
set_option linter.unusedVariables false

/-- What a call of the walk does at a contract's value: its error, what it met. -/
def ThF (g : FuncId) (w0 : World) (a : Nat) (id : ByteArray) (p : Nat) (v : Value) (r : Int → Int → Ck) (n : Nat) : Prop := ∀ (w : World) (F : List Fl) (W : List Wt) (d k : Int), StA w0 w a id p F W → 0 ≤ d → d ≤ 10000 → vB k = true → k ≠ 0 → F.length + n ≤ 50000 → W.length + n ≤ 50000 →
  Calls Try.prog g #[.pointer (some ⟨a, 0, none⟩), v, .int .i64 d, .int .i64 k] w fun e w' => e = .returned (.int .i64 (r d k).e) ∧ StA w0 w' a id p (F ++ (r d k).f) (addW W (r d k).w) ∧ Kept a w w'
def ThC (w0 : World) (a : Nat) (id : ByteArray) (p : Nat) (K : KW) (c : C) : Prop := ThF 26 w0 a id p c.val (ck K id c) c.weight
theorem form_val (c : C) (h : formC c = true) : ∃ t x, c.val = .iface t x := by
  cases c <;> first | exact ⟨_, _, rfl⟩ | simp [formC] at h
theorem assert_one {P : Program} {t : TypeId} {u : TypeDesc} (hu : P.underlying t = some u) (hn : ∀ m, u ≠ .interface m) (v : Value) (xT : TypeId) (w : World) :
    (Instr.typeAssert (.iface t v) xT t false).run P w = .ok v w := by
  cases u <;> first | (exfalso; exact hn _ rfl) | simp [Instr.typeAssert, run_underlying hu]
theorem isIf1 (v : Value) (xT : TypeId) (w : World) : (Instr.typeAssert (.iface 54 v) xT 54 false).run Try.prog w = .ok v w := assert_one Try.underlying54 (by intro m h; cases h) v xT w
theorem negR_ok {k : Int} (h : vB k = true) : negR k = (-k, true) := by unfold negR; rw [if_pos h]
theorem vB_i64 {k : Int} (h : vB k = true) : -1000000000000 ≤ k ∧ k ≤ 1000000000000 := (vB_iff k).1 h

set_option maxHeartbeats 2000000 in
set_option maxRecDepth 100000 in
theorem th_zero (w0 : World) (a : Nat) (id : ByteArray) (p : Nat) (K : KW) : ThC w0 a id p K .zero := by
  intro w F W d k hs hd1 hd2 hv hk hlf hlw
  have HS := hidC hs
  have h0 := fun v xT w => isZero v xT w
  have HQ : Hid (ck K id .zero d k = ⟨[], [], 0⟩) := rfl
  clear hs
  unfold C.val
  go_enter Try.func26, Try.ntmps26
  go_wp2_with fail
  go_ret
  rw [HQ.out, List.append_nil]
  exact ⟨rfl, HS.out.step (below_alloc (Below.refl _ _) _), Kept.of_below (below_alloc (Below.refl _ _) _)⟩

set_option maxHeartbeats 2000000 in
set_option maxRecDepth 100000 in
theorem th_one (w0 : World) (a : Nat) (id : ByteArray) (p : Nat) (K : KW) (s : ByteArray) : ThC w0 a id p K (.one s) := by
  intro w F W d k hs hd1 hd2 hv hk hlf hlw
  have HS := hidC hs
  have h0 := fun v xT w => notZero 24 v xT w (by decide)
  have h1 := fun v xT w => isOne v xT w
  have HQ : Hid (ck K id (.one s) d k = ⟨[⟨d, s, k⟩], [], 0⟩) := rfl
  obtain ⟨⟨vF, vW, hin⟩, hb0⟩ := hs
  have HB0 := hidC hb0
  have HB1 := hidC (below_drew (below_alloc (Below.refl w.heap.size w) (.cells #[.string s] 24)))
  have HR := hidC (hin.below HB1.out)
  have HX : Hid ((w.alloc (.cells #[.string s] 24)).drew.heap[w.heap.size]? = some (.cells #[.string s] 24)) := heap_alloc_new _ _
  obtain ⟨ao, cap, hvF⟩ := row_shape hin.rf
  have hFl : F.length ≤ 100000 := by omega
  have HHK := hidC (And.intro hv hk)
  clear hin hb0 hv hk
  subst hvF
  unfold C.val
  go_enter Try.func26, Try.ntmps26
  go_wp2_with fail
  generalize w.alloc (.cells #[.string s] 24) = V at *
  have HFC : Hid (∀ w' : World, (w'.cell? ⟨a, 2, none⟩ = some (.slice ao F.length cap) ∧ w'.heap[w.heap.size]? = some (.cells #[.string s] 24)) → w'.cell? ⟨a, 2, none⟩ = some (.slice ao F.length cap) ∧ w'.cell? ⟨w.heap.size, 0, none⟩ = some (.string s)) := fun w' hw' =>
    ⟨hw'.1, cell_of_row _ _ 0 _ _ _ hw'.2⟩
  refine Mx.wp_region_mix5 (fun w' => w'.cell? ⟨a, 2, none⟩ = some (.slice ao F.length cap) ∧ w'.heap[w.heap.size]? = some (.cells #[.string s] 24)) 14 [(0, false), (1, false), (2, false), (3, false), (4, false), (5, false), (6, false), (7, false), (8, false), (9, false), (10, true), (11, true), (12, true), (13, true), (14, true)] (by kernel_rfl) (by kernel_rfl) ⟨HR.out.cell2 (twoA id p), HX.out⟩ ?_ (by kernel_rfl)
  simp only [List.map_cons, List.map_nil, List.getD_cons_zero, List.getD_cons_succ]
  generalize hops : (#[_, _, _, _, _, _, _, _, _, _, _, _, _, _, _] : Array Oper) = ops
  clear hops
  refine Mx.l_pure (.pointer (some ⟨a, 0, none⟩)) (by decide) (Mx.wanted_none rfl) (fun w' hw' => ?_) ?_
  · go_simp
  simp only [Act.put, List.setIfInBounds_toArray, List.set_cons_zero, List.set_cons_succ]
  refine Mx.l_pure (.pointer (some ⟨a, 0, none⟩)) (by decide) (Mx.wanted_none rfl) (fun w' hw' => ?_) ?_
  · go_simp
  simp only [Act.put, List.setIfInBounds_toArray, List.set_cons_zero, List.set_cons_succ]
  refine Mx.l_pure (.pointer (some ⟨a, 0, none⟩)) (by decide) (Mx.wanted_none rfl) (fun w' hw' => ?_) ?_
  · go_simp
  simp only [Act.put, List.setIfInBounds_toArray, List.set_cons_zero, List.set_cons_succ]
  refine Mx.l_pure (.pointer (some ⟨a, 2, none⟩)) (by decide) (Mx.wanted_none rfl) (fun w' hw' => ?_) ?_
  · go_simp
  simp only [Act.put, List.setIfInBounds_toArray, List.set_cons_zero, List.set_cons_succ]
  refine Mx.l_pure (.slice ao F.length cap) (by decide) (Mx.wanted_none rfl) (fun w' hw' => ?_) ?_
  · obtain ⟨q0, q1⟩ := HFC.out w' hw'
    go_simp
  simp only [Act.put, List.setIfInBounds_toArray, List.set_cons_zero, List.set_cons_succ]
  refine Mx.l_pure (.int .i64 d) (by decide) (Mx.wanted_none rfl) (fun w' hw' => ?_) ?_
  · go_simp
  simp only [Act.put, List.setIfInBounds_toArray, List.set_cons_zero, List.set_cons_succ]
  refine Mx.l_pure (.pointer (some ⟨w.heap.size, 0, none⟩)) (by decide) (Mx.wanted_none rfl) (fun w' hw' => ?_) ?_
  · go_simp
  simp only [Act.put, List.setIfInBounds_toArray, List.set_cons_zero, List.set_cons_succ]
  refine Mx.l_pure (.string s) (by decide) (Mx.wanted_none rfl) (fun w' hw' => ?_) ?_
  · obtain ⟨q0, q1⟩ := HFC.out w' hw'
    go_simp
  simp only [Act.put, List.setIfInBounds_toArray, List.set_cons_zero, List.set_cons_succ]
  refine Mx.l_pure (.int .i64 k) (by decide) (Mx.wanted_none rfl) (fun w' hw' => ?_) ?_
  · go_simp
  simp only [Act.put, List.setIfInBounds_toArray, List.set_cons_zero, List.set_cons_succ]
  refine Mx.l_pure (.agg #[.int .i64 d, .string s, .int .i64 k]) (by decide) (Mx.wanted_none rfl) (fun w' hw' => ?_) ?_
  · go_simp
  simp only [Act.put, List.setIfInBounds_toArray, List.set_cons_zero, List.set_cons_succ]
  generalize hX : V.drew = X at *
  clear hX
  have HB3 := hidC (below_alloc (Below.refl X.heap.size X) (.cells #[.int .i64 d, .string s, .int .i64 k] 46))
  have HRA := hidC (HR.out.below HB3.out)
  have HXA : Hid ((X.alloc (.cells #[.int .i64 d, .string s, .int .i64 k] 46)).heap[w.heap.size]? = some (.cells #[.string s] 24)) := (HB3.out.block _ (Array.getElem?_eq_some_iff.1 HX.out).1).trans HX.out
  refine Mx.l_run (.slice (some ⟨X.heap.size, 0, none⟩) 1 1) (Mx.wanted_none rfl) (w' := X.alloc (.cells #[.int .i64 d, .string s, .int .i64 k] 46)) ?_ ⟨HRA.out.cell2 (twoA id p), HXA.out⟩ ?_
  · go_simp
  simp only [Act.put, List.setIfInBounds_toArray, List.set_cons_zero, List.set_cons_succ]
  have hB0 : w0.heap.size ≤ (X.alloc (.cells #[.int .i64 d, .string s, .int .i64 k] 46)).heap.size := Nat.le_trans HB0.out.size (Nat.le_trans HB1.out.size HB3.out.size)
  obtain ⟨v', w4, hrun, hc3, hf3, ⟨ao2, cap2, hv'⟩, hg, k1, k2⟩ := HRA.out.pushF (twoA id p) (by decide) (by decide) hB0 hFl ⟨d, s, k⟩ X.heap.size (heap_alloc_new _ _) 37
  have HK1 := hidC k1
  have HK2 := hidC k2
  have HKP : Hid (Kept a (X.alloc (.cells #[.int .i64 d, .string s, .int .i64 k] 46)) (w4.setCell ⟨a, 2, none⟩ v')) := Kept.grown HRA.out.rf (.inl rfl) hg
  have HX4 : Hid (w4.heap[w.heap.size]? = some (.cells #[.string s] 24)) := (hg.block _ (Array.getElem?_eq_some_iff.1 HXA.out).1 (fun e => by
    obtain ⟨cs, hc⟩ := row_block HRA.out.rf e.symm
    have := HXA.out
    rw [hc] at this
    injection this with e1
    injection e1 with _ e1
    exact absurd e1 (by decide))).trans HXA.out
  clear hg k1 k2
  generalize X.alloc (.cells #[.int .i64 d, .string s, .int .i64 k] 46) = w3 at *
  refine Mx.l_run v' (Mx.wanted_none rfl) (w' := w4) ?_ ⟨hc3, HX4.out⟩ ?_
  · simp [execOp, resolve, invoke, builtin, Act.eval, hrun]
  clear hrun
  subst hv'
  simp only [Act.put, List.setIfInBounds_toArray, List.set_cons_zero, List.set_cons_succ]
  refine Mx.l_run (.pointer (some ⟨a, 0, none⟩)) (Mx.wanted_none rfl) (w' := w4) ?_ ⟨hc3, HX4.out⟩ ?_
  · go_simp
  simp only [Act.put, List.setIfInBounds_toArray, List.set_cons_zero, List.set_cons_succ]
  refine Mx.l_run (.pointer (some ⟨a, 2, none⟩)) (Mx.wanted_none rfl) (w' := w4) ?_ ⟨hc3, HX4.out⟩ ?_
  · go_simp
  simp only [Act.put, List.setIfInBounds_toArray, List.set_cons_zero, List.set_cons_succ]
  refine Mx.l_last (w' := w4.setCell ⟨a, 2, none⟩ (.slice ao2 (F.length + 1) cap2)) (Mx.wanted_none rfl) ?_ ?_
  · go_simp
  simp only [Act.put]
  generalize w4.setCell ⟨a, 2, none⟩ (.slice ao2 (F.length + 1) cap2) = w5 at *
  clear hc3 hf3
  go_wp2_with fail
  go_ret
  have h1 : Below w.heap.size w w3 := HB1.out.trans (HB3.out.mono HB1.out.size)
  rw [HQ.out]
  exact ⟨rfl, ⟨⟨_, _, HK1.out⟩, (HB0.out.trans (h1.mono HB0.out.size)).trans HK2.out⟩, (Kept.of_below h1).trans HKP.out⟩

set_option maxHeartbeats 2000000 in
set_option maxRecDepth 100000 in
theorem th_give (w0 : World) (a : Nat) (id : ByteArray) (p : Nat) (K : KW) (c : C) (hf : formC c = true) (ih : ThC w0 a id p K c) : ThC w0 a id p K (.give c) := by
  intro w F W d k hs hd1 hd2 hv hk hlf hlw
  have HS := hidC hs
  have h0 := fun v xT w => notZero 34 v xT w (by decide)
  have h1 := fun v xT w => notOne 34 v xT w (by decide)
  have h2 := fun v xT w => isGive v xT w
  have HQ : Hid (ck K id (.give c) d k = ck K id c d (-k)) := rfl
  obtain ⟨t, x, he⟩ := form_val c hf
  unfold ThC at ih
  rw [he] at ih
  have HI := hidC ih
  have hng := negR_ok hv
  have HN : Hid (Calls Try.prog 47 #[.int .i64 k] (w.alloc (.cells #[.iface t x] 34)) fun e w' => e = .returned (.tuple #[.int .i64 (-k), .bool true]) ∧ w' = w.alloc (.cells #[.iface t x] 34)) := by
    have := neg_any k (w.alloc (.cells #[.iface t x] 34))
    rw [hng] at this
    exact this
  have HV := hidC (vB_neg k hv)
  simp only [C.weight] at hlf hlw
  clear hs ih hng hv
  unfold C.val
  rw [he]
  clear he
  go_enter Try.func26, Try.ntmps26
  go_wp2_with fail
  refine calls_same HN.out ?_
  go_wp2_with fail
  refine (HI.out _ F W d (-k) (HS.out.step (below_alloc (Below.refl _ _) _)) hd1 hd2 HV.out (by omega) (by omega) (by omega)).mono ?_
  rintro e w2 ⟨rfl, hs2, hk2⟩
  have HS2 := hidC hs2
  have HK2 := hidC hk2
  clear hs2 hk2
  go_wp2_with fail
  go_ret
  rw [HQ.out]
  exact ⟨rfl, HS2.out, (Kept.of_below (below_alloc (Below.refl _ _) _)).trans HK2.out⟩

set_option maxHeartbeats 2000000 in
set_option maxRecDepth 100000 in
theorem th_when (w0 : World) (a : Nat) (id : ByteArray) (p : Nat) (K : KW) (d' : Int) (c : C) (hf : formC (.when d' c) = true) (ih : ThC w0 a id p K c) : ThC w0 a id p K (.when d' c) := by
  intro w F W d k hs hd1 hd2 hv hk hlf hlw
  have HS := hidC hs
  have h0 := fun v xT w => notZero 56 v xT w (by decide)
  have h1 := fun v xT w => notOne 56 v xT w (by decide)
  have h2 := fun v xT w => notGive 56 v xT w (by decide)
  have h3 := fun v xT w => notAnd 56 v xT w (by decide)
  have h4 := fun v xT w => notOr 56 v xT w (by decide)
  have h5 := fun v xT w => notScale 56 v xT w (by decide)
  have h6 := fun v xT w => isWhen v xT w
  have HQ : Hid (ck K id (.when d' c) d k = ck K id c (Max.max d d') k) := rfl
  simp only [formC, Bool.and_eq_true] at hf
  obtain ⟨g1, g2⟩ := (dayB_iff d').1 hf.1
  obtain ⟨t, x, he⟩ := form_val c hf.2
  unfold ThC at ih
  rw [he] at ih
  have HI := hidC ih
  simp only [C.weight] at hlf hlw
  have HHK := hidC (And.intro hv hk)
  clear hs ih hf hv hk
  unfold C.val
  rw [he]
  clear he
  rcases Int.lt_or_le d d' with hm | hm
  · have HM : Hid (Max.max d d' = d') := by unfold Hid; omega
    rw [HM.out] at HQ
    go_enter Try.func26, Try.ntmps26
    go_wp2_with fail
    refine (HI.out _ F W d' k (HS.out.step (below_alloc (Below.refl _ _) _)) g1 g2 HHK.out.1 HHK.out.2 (by omega) (by omega)).mono ?_
    rintro e w2 ⟨rfl, hs2, hk2⟩
    have HS2 := hidC hs2
    have HK2 := hidC hk2
    clear hs2 hk2
    go_wp2_with fail
    go_ret
    rw [HQ.out]
    exact ⟨rfl, HS2.out, (Kept.of_below (below_alloc (Below.refl _ _) _)).trans HK2.out⟩
  · have HM : Hid (Max.max d d' = d) := by unfold Hid; omega
    rw [HM.out] at HQ
    go_enter Try.func26, Try.ntmps26
    go_wp2_with fail
    refine (HI.out _ F W d k (HS.out.step (below_alloc (Below.refl _ _) _)) hd1 hd2 HHK.out.1 HHK.out.2 (by omega) (by omega)).mono ?_
    rintro e w2 ⟨rfl, hs2, hk2⟩
    have HS2 := hidC hs2
    have HK2 := hidC hk2
    clear hs2 hk2
    go_wp2_with fail
    go_ret
    rw [HQ.out]
    exact ⟨rfl, HS2.out, (Kept.of_below (below_alloc (Below.refl _ _) _)).trans HK2.out⟩

set_option maxHeartbeats 2000000 in
set_option maxRecDepth 100000 in
theorem th_and (w0 : World) (a : Nat) (id : ByteArray) (p : Nat) (K : KW) (l r : C) (hfl : formC l = true) (hfr : formC r = true) (ihl : ThC w0 a id p K l) (ihr : ThC w0 a id p K r) : ThC w0 a id p K (.and l r) := by
  intro w F W d k hs hd1 hd2 hv hk hlf hlw
  have HS := hidC hs
  have h0 := fun v xT w => notZero 64 v xT w (by decide)
  have h1 := fun v xT w => notOne 64 v xT w (by decide)
  have h2 := fun v xT w => notGive 64 v xT w (by decide)
  have h3 := fun v xT w => isAnd v xT w
  have HQ : Hid (ck K id (.and l r) d k = (ck K id l d k).seq (ck K id r d k)) := rfl
  obtain ⟨t, x, he⟩ := form_val l hfl
  obtain ⟨t2, x2, he2⟩ := form_val r hfr
  unfold ThC at ihl ihr
  rw [he] at ihl
  rw [he2] at ihr
  have HL := hidC ihl
  have HR := hidC ihr
  have HLEN := hidC (ck_len K id l d k)
  simp only [C.weight] at hlf hlw
  have HHK := hidC (And.intro hv hk)
  clear hs ihl ihr hfl hfr hv hk
  unfold C.val
  rw [he, he2]
  clear he he2
  go_enter Try.func26, Try.ntmps26
  go_wp2_with fail
  have HBX := hidC (heap_alloc_new w (.cells #[.iface t x, .iface t2 x2] 64))
  have HS1 := hidC (HS.out.step (below_alloc (Below.refl _ _) (.cells #[.iface t x, .iface t2 x2] 64)))
  have HK1 := hidC (Kept.of_below (a := a) (below_alloc (Below.refl w.heap.size w) (.cells #[.iface t x, .iface t2 x2] 64)))
  refine (HL.out _ F W d k HS1.out hd1 hd2 HHK.out.1 HHK.out.2 (by omega) (by omega)).mono ?_
  rintro e w2 ⟨rfl, hs2, hk2⟩
  have hb2 := hk2.cells HBX.out (HS1.out.at_cells HBX.out (by decide)) (by decide) (by decide)
  have c1 : w2.cell? ⟨w.heap.size, 1, none⟩ = some (.iface t2 x2) := cell_of_row _ _ 1 _ _ _ hb2
  have HS2 := hidC hs2
  have HK2 := hidC (HK1.out.trans hk2)
  clear hs2 hk2 hb2
  generalize hA : ck K id l d k = A at *
  by_cases h0 : A.e = 0
  · have HQ2 : Hid (A.seq (ck K id r d k) = ⟨A.f ++ (ck K id r d k).f, A.w ++ (ck K id r d k).w, (ck K id r d k).e⟩) := by unfold Hid Ck.seq; rw [if_neg (by simpa using h0)]
    rw [h0]
    clear h0 hA
    go_wp2_with fail
    refine (HR.out w2 _ _ d k HS2.out hd1 hd2 HHK.out.1 HHK.out.2 (by have := HLEN.out; rw [List.length_append]; omega) (by have := HLEN.out; have := addW_len A.w W; omega)).mono ?_
    rintro e w3 ⟨rfl, hs3, hk3⟩
    have HS3 := hidC hs3
    have HK3 := hidC (HK2.out.trans hk3)
    clear hs3 hk3
    go_wp2_with fail
    go_ret
    rw [HQ.out, HQ2.out]
    simp only
    rw [← List.append_assoc, addW_app]
    exact ⟨rfl, HS3.out, HK3.out⟩
  · have HQ2 : Hid (A.seq (ck K id r d k) = A) := by unfold Hid Ck.seq; rw [if_pos h0]
    have h0' : (A.e != 0) = true := by simpa using h0
    clear hA
    go_wp2_with fail
    go_ret
    rw [HQ.out, HQ2.out]
    exact ⟨rfl, HS2.out, HK2.out⟩

end Go.Proofs.Ytngjlkdpplmpaaa.Ca
namespace Go.Proofs.Ytngjlkdpplmpaaa.Ca
open Go.RowKit Wd Cn Vl
set_option linter.unusedVariables false

set_option maxHeartbeats 2000000 in
set_option maxRecDepth 100000 in
theorem or_any {w0 : World} {p f c : Nat} {K : KW} {id : ByteArray} (hE : Env w0 p f c K id) (a : Nat) (s : ByteArray) (hsz : s.size ≤ 2147483648) (l r : C) (t t2 : TypeId) (x x2 : Value) (hL : ThF 26 w0 a id p (.iface t x) (ck K id l) l.weight) (hR : ThF 26 w0 a id p (.iface t2 x2) (ck K id r) r.weight) :
    ThF 48 w0 a id p (.agg #[.string s, .iface t x, .iface t2 x2]) (ck K id (.or s l r)) (C.or s l r).weight := by
  intro w F W d k hs hd1 hd2 hv hk hlf hlw
  have HE := hidC hE
  have HL := hidC hL
  have HR := hidC hR
  have HB0 := hidC hs.2
  have HBA := hidC (below_alloc (Below.refl w.heap.size w) (.cells #[.string s, .iface t x, .iface t2 x2] 32))
  have HSV := hidC (hs.step HBA.out)
  have HX := hidC (heap_alloc_new w (.cells #[.string s, .iface t x, .iface t2 x2] 32))
  have HNA := hidC (HSV.out.at_cells HX.out (by decide))
  have HHK := hidC (And.intro hv hk)
  simp only [C.weight] at hlf hlw
  clear hs hv hk hE hL hR
  go_enter Try.func48, Try.ntmps48
  go_wp2_with fail
  generalize w.alloc (.cells #[.string s, .iface t x, .iface t2 x2] 32) = V at *
  have HFC : Hid (∀ w' : World, Below V.heap.size V w' → w'.cell? ⟨a, 0, none⟩ = some (.string id) ∧ w'.cell? ⟨a, 1, none⟩ = some (.pointer (some ⟨p, 0, none⟩)) ∧ w'.cell? ⟨w.heap.size, 0, none⟩ = some (.string s)) := fun w' hw' => by
    obtain ⟨⟨vF, vW, hin⟩, _⟩ := HSV.out
    exact ⟨cell_blk (hin.below hw').blk rfl, cell_blk (hin.below hw').blk rfl, cell_of_row _ _ 0 _ _ _ ((hw'.block _ (Array.getElem?_eq_some_iff.1 HX.out).1).trans HX.out)⟩
  have HD := hidC (below_drew (Below.refl V.heap.size V))
  refine Mx.wp_region_mix (fun w' => Below V.heap.size V w') [(0, false), (1, false), (2, false), (3, false), (4, false), (5, false), (6, false), (7, false), (8, false), (9, false), (10, true), (11, false), (12, false), (13, false), (14, false), (15, false), (16, false), (17, false)] (by kernel_rfl) (by kernel_rfl) HD.out ?_ (by kernel_rfl)
  simp only [List.map_cons, List.map_nil, List.getD_cons_zero, List.getD_cons_succ]
  generalize hops : (#[_, _, _, _, _, _, _, _, _, _, _, _, _, _, _, _, _, _] : Array Oper) = ops
  clear hops
  refine Mx.m_pure (.pointer (some ⟨a, 0, none⟩)) (Mx.wanted_none rfl) (fun w' hw' => ?_) ?_
  · go_simp
  simp only [Act.put, List.setIfInBounds_toArray, List.set_cons_zero, List.set_cons_succ]
  refine Mx.m_pure (.pointer (some ⟨a, 0, none⟩)) (Mx.wanted_none rfl) (fun w' hw' => ?_) ?_
  · go_simp
  simp only [Act.put, List.setIfInBounds_toArray, List.set_cons_zero, List.set_cons_succ]
  refine Mx.m_pure (.pointer (some ⟨a, 1, none⟩)) (Mx.wanted_none rfl) (fun w' hw' => ?_) ?_
  · go_simp
  simp only [Act.put, List.setIfInBounds_toArray, List.set_cons_zero, List.set_cons_succ]
  refine Mx.m_pure (.pointer (some ⟨p, 0, none⟩)) (Mx.wanted_none rfl) (fun w' hw' => ?_) ?_
  · obtain ⟨q0, q1, q2⟩ := HFC.out w' hw'
    go_simp
  simp only [Act.put, List.setIfInBounds_toArray, List.set_cons_zero, List.set_cons_succ]
  refine Mx.m_pure (.pointer (some ⟨a, 0, none⟩)) (Mx.wanted_none rfl) (fun w' hw' => ?_) ?_
  · go_simp
  simp only [Act.put, List.setIfInBounds_toArray, List.set_cons_zero, List.set_cons_succ]
  refine Mx.m_pure (.pointer (some ⟨a, 0, none⟩)) (Mx.wanted_none rfl) (fun w' hw' => ?_) ?_
  · go_simp
  simp only [Act.put, List.setIfInBounds_toArray, List.set_cons_zero, List.set_cons_succ]
  refine Mx.m_pure (.pointer (some ⟨a, 0, none⟩)) (Mx.wanted_none rfl) (fun w' hw' => ?_) ?_
  · go_simp
  simp only [Act.put, List.setIfInBounds_toArray, List.set_cons_zero, List.set_cons_succ]
  refine Mx.m_pure (.string id) (Mx.wanted_none rfl) (fun w' hw' => ?_) ?_
  · obtain ⟨q0, q1, q2⟩ := HFC.out w' hw'
    go_simp
  simp only [Act.put, List.setIfInBounds_toArray, List.set_cons_zero, List.set_cons_succ]
  refine Mx.m_pure (.pointer (some ⟨w.heap.size, 0, none⟩)) (Mx.wanted_none rfl) (fun w' hw' => ?_) ?_
  · go_simp
  simp only [Act.put, List.setIfInBounds_toArray, List.set_cons_zero, List.set_cons_succ]
  refine Mx.m_pure (.string s) (Mx.wanted_none rfl) (fun w' hw' => ?_) ?_
  · obtain ⟨q0, q1, q2⟩ := HFC.out w' hw'
    go_simp
  simp only [Act.put, List.setIfInBounds_toArray, List.set_cons_zero, List.set_cons_succ]
  refine Mx.m_call 77 #[.pointer (some ⟨p, 0, none⟩), .string id, .string s] (Mx.wanted_none rfl) ?_ ?_
  · go_simp
  refine (chosen_any _ p f c K (HE.out.kin.below (HSV.out.2.trans (HD.out.mono HSV.out.2.size))) id s ⟨Nat.le_trans HE.out.idl (by decide), Nat.le_trans hsz (by decide)⟩).mono ?_
  rintro e w1 ⟨rfl, hb⟩
  have HV1 := hidC (HD.out.trans (hb.mono HD.out.size))
  refine ⟨_, rfl, HV1.out, ?_⟩
  clear hb
  obtain ⟨o, ho⟩ : ∃ o, K.chosen (id, s) = o := ⟨_, rfl⟩
  rw [ho]
  have HO := hidC ho
  clear ho
  simp only [Act.put, List.setIfInBounds_toArray, List.set_cons_zero, List.set_cons_succ]
  refine Mx.m_pure (.tuple #[.int .i64 (o.getD (0, 0)).1, .int .i64 (o.getD (0, 0)).2, .bool o.isSome]) (Mx.wanted_none rfl) (fun w' hw' => ?_) ?_
  · go_simp
  simp only [Act.put, List.setIfInBounds_toArray, List.set_cons_zero, List.set_cons_succ]
  refine Mx.m_pure (.int .i64 (o.getD (0, 0)).1) (Mx.wanted_none rfl) (fun w' hw' => ?_) ?_
  · go_simp
  simp only [Act.put, List.setIfInBounds_toArray, List.set_cons_zero, List.set_cons_succ]
  refine Mx.m_pure (.int .i64 (o.getD (0, 0)).2) (Mx.wanted_none rfl) (fun w' hw' => ?_) ?_
  · go_simp
  simp only [Act.put, List.setIfInBounds_toArray, List.set_cons_zero, List.set_cons_succ]
  refine Mx.m_pure (.bool o.isSome) (Mx.wanted_none rfl) (fun w' hw' => ?_) ?_
  · go_simp
  simp only [Act.put, List.setIfInBounds_toArray, List.set_cons_zero, List.set_cons_succ]
  refine Mx.m_pure (.int .i64 (o.getD (0, 0)).1) (Mx.wanted_none rfl) (fun w' hw' => ?_) ?_
  · go_simp
  simp only [Act.put, List.setIfInBounds_toArray, List.set_cons_zero, List.set_cons_succ]
  refine Mx.m_pure (.int .i64 (o.getD (0, 0)).2) (Mx.wanted_none rfl) (fun w' hw' => ?_) ?_
  · go_simp
  simp only [Act.put, List.setIfInBounds_toArray, List.set_cons_zero, List.set_cons_succ]
  refine Mx.m_pure (.bool o.isSome) (Mx.wanted_none rfl) (fun w' hw' => ?_) ?_
  · go_simp
  simp only [Act.put, List.setIfInBounds_toArray, List.set_cons_zero, List.set_cons_succ]
  refine Mx.m_nil (fun _ => ?_)
  have HS1 := hidC (HSV.out.step HV1.out)
  have HX1 : Hid (w1.heap[w.heap.size]? = some (.cells #[.string s, .iface t x, .iface t2 x2] 32)) := (HV1.out.block _ (Array.getElem?_eq_some_iff.1 HX.out).1).trans HX.out
  have HK1 := hidC (Kept.of_below (a := a) (HBA.out.trans (HV1.out.mono HBA.out.size)))
  cases o with
  | none =>
    have HQ : Hid (ck K id (.or s l r) d k = ⟨[], [chW d s k], 0⟩) := by unfold Hid; simp only [ck]; rw [HO.out]
    simp only [Option.getD_none, Option.isSome_none]
    go_wp2_with fail
    have HXD : Hid (w1.drew.heap[w.heap.size]? = some (.cells #[.string s, .iface t x, .iface t2 x2] 32)) := HX1.out
    have HSD := hidC (HS1.out.step (below_drew (Below.refl w1.heap.size w1)))
    have HKD := hidC (HK1.out.trans (Kept.of_below (a := a) (below_drew (Below.refl w1.heap.size w1))))
    have HFC2 : Hid (∀ w' : World, w'.heap[w.heap.size]? = some (.cells #[.string s, .iface t x, .iface t2 x2] 32) → w'.cell? ⟨w.heap.size, 0, none⟩ = some (.string s)) := fun w' hw' => cell_of_row _ _ 0 _ _ _ hw'
    refine Mx.wp_region_mix (fun w' => w'.heap[w.heap.size]? = some (.cells #[.string s, .iface t x, .iface t2 x2] 32)) [(0, false), (1, false), (2, false), (3, false), (4, false), (5, true), (6, false), (7, true)] (by kernel_rfl) (by kernel_rfl) HXD.out ?_ (by kernel_rfl)
    simp only [List.map_cons, List.map_nil, List.getD_cons_zero, List.getD_cons_succ]
    generalize hops : (#[_, _, _, _, _, _, _, _] : Array Oper) = ops
    clear hops
    refine Mx.m_pure (.pointer (some ⟨a, 0, none⟩)) (Mx.wanted_none rfl) (fun w' hw' => ?_) ?_
    · go_simp
    simp only [Act.put, List.setIfInBounds_toArray, List.set_cons_zero, List.set_cons_succ]
    refine Mx.m_pure (.pointer (some ⟨w.heap.size, 0, none⟩)) (Mx.wanted_none rfl) (fun w' hw' => ?_) ?_
    · go_simp
    simp only [Act.put, List.setIfInBounds_toArray, List.set_cons_zero, List.set_cons_succ]
    refine Mx.m_pure (.string s) (Mx.wanted_none rfl) (fun w' hw' => ?_) ?_
    · have q0 := HFC2.out w' hw'
      go_simp
    simp only [Act.put, List.setIfInBounds_toArray, List.set_cons_zero, List.set_cons_succ]
    refine Mx.m_pure (.int .i64 d) (Mx.wanted_none rfl) (fun w' hw' => ?_) ?_
    · go_simp
    simp only [Act.put, List.setIfInBounds_toArray, List.set_cons_zero, List.set_cons_succ]
    refine Mx.m_pure (.int .i64 k) (Mx.wanted_none rfl) (fun w' hw' => ?_) ?_
    · go_simp
    simp only [Act.put, List.setIfInBounds_toArray, List.set_cons_zero, List.set_cons_succ]
    refine Mx.m_call 79 #[.int .i64 k] (Mx.wanted_none rfl) ?_ ?_
    · go_simp
    refine (holder_any k _).mono ?_
    rintro e w2 ⟨rfl, rfl⟩
    refine ⟨_, rfl, HXD.out, ?_⟩
    simp only [Act.put, List.setIfInBounds_toArray, List.set_cons_zero, List.set_cons_succ]
    refine Mx.m_pure (.agg #[.bool true, .string ByteArray.empty, .string s, .int .i64 d, .int .i64 (side k)]) (Mx.wanted_none rfl) (fun w' hw' => ?_) ?_
    · go_simp
      rfl
    simp only [Act.put, List.setIfInBounds_toArray, List.set_cons_zero, List.set_cons_succ]
    refine Mx.m_call 78 #[.pointer (some ⟨a, 0, none⟩), (chW d s k).val] (Mx.wanted_none rfl) ?_ ?_
    · unfold chW Wt.val
      go_simp
    refine (wait_any w0 _ a id p F W HSD.out (by omega) (chW d s k)).mono ?_
    rintro e w3 ⟨rfl, hs3, hk3⟩
    have HS3 := hidC hs3
    have HK3 := hidC (HKD.out.trans hk3)
    refine ⟨_, rfl, hk3.cells HXD.out HNA.out (by decide) (by decide), ?_⟩
    clear hs3 hk3
    simp only [Act.put, List.setIfInBounds_toArray, List.set_cons_zero, List.set_cons_succ]
    refine Mx.m_nil (fun _ => ?_)
    go_wp2_with fail
    go_ret
    rw [HQ.out, List.append_nil]
    exact ⟨rfl, HS3.out, HK3.out⟩
  | some q =>
    obtain ⟨q, d'⟩ := q
    obtain ⟨hq, g1, g2⟩ := chs_at HE.out.chs HO.out
    simp only at hq g1 g2
    have c1 : w1.cell? ⟨w.heap.size, 1, none⟩ = some (.iface t x) := cell_of_row _ _ 1 _ _ _ HX1.out
    have c2 : w1.cell? ⟨w.heap.size, 2, none⟩ = some (.iface t2 x2) := cell_of_row _ _ 2 _ _ _ HX1.out
    have HQ : Hid (ck K id (.or s l r) d k = if q = 0 then ck K id l (Max.max d d') k else ck K id r (Max.max d d') k) := by unfold Hid; simp only [ck]; rw [HO.out]
    simp only [Option.getD_some, Option.isSome_some]
    rcases hq with rfl | rfl
    · have HQ2 : Hid (ck K id (.or s l r) d k = ck K id l (Max.max d d') k) := by unfold Hid; rw [HQ.out]; rfl
      rcases Int.lt_or_le d d' with hm | hm
      · have HM : Hid (Max.max d d' = d') := by unfold Hid; omega
        rw [HM.out] at HQ2
        go_wp2_with fail
        refine (HL.out w1 F W d' k HS1.out g1 g2 HHK.out.1 HHK.out.2 (by omega) (by omega)).mono ?_
        rintro e w2 ⟨rfl, hs2, hk2⟩
        have HS2 := hidC hs2
        have HK2 := hidC (HK1.out.trans hk2)
        clear hs2 hk2
        go_wp2_with fail
        go_ret
        rw [HQ2.out]
        exact ⟨rfl, HS2.out, HK2.out⟩
      · have HM : Hid (Max.max d d' = d) := by unfold Hid; omega
        rw [HM.out] at HQ2
        go_wp2_with fail
        refine (HL.out w1 F W d k HS1.out hd1 hd2 HHK.out.1 HHK.out.2 (by omega) (by omega)).mono ?_
        rintro e w2 ⟨rfl, hs2, hk2⟩
        have HS2 := hidC hs2
        have HK2 := hidC (HK1.out.trans hk2)
        clear hs2 hk2
        go_wp2_with fail
        go_ret
        rw [HQ2.out]
        exact ⟨rfl, HS2.out, HK2.out⟩
    · have HQ2 : Hid (ck K id (.or s l r) d k = ck K id r (Max.max d d') k) := by unfold Hid; rw [HQ.out]; rfl
      rcases Int.lt_or_le d d' with hm | hm
      · have HM : Hid (Max.max d d' = d') := by unfold Hid; omega
        rw [HM.out] at HQ2
        go_wp2_with fail
        refine (HR.out w1 F W d' k HS1.out g1 g2 HHK.out.1 HHK.out.2 (by omega) (by omega)).mono ?_
        rintro e w2 ⟨rfl, hs2, hk2⟩
        have HS2 := hidC hs2
        have HK2 := hidC (HK1.out.trans hk2)
        clear hs2 hk2
        go_wp2_with fail
        go_ret
        rw [HQ2.out]
        exact ⟨rfl, HS2.out, HK2.out⟩
      · have HM : Hid (Max.max d d' = d) := by unfold Hid; omega
        rw [HM.out] at HQ2
        go_wp2_with fail
        refine (HR.out w1 F W d k HS1.out hd1 hd2 HHK.out.1 HHK.out.2 (by omega) (by omega)).mono ?_
        rintro e w2 ⟨rfl, hs2, hk2⟩
        have HS2 := hidC hs2
        have HK2 := hidC (HK1.out.trans hk2)
        clear hs2 hk2
        go_wp2_with fail
        go_ret
        rw [HQ2.out]
        exact ⟨rfl, HS2.out, HK2.out⟩

set_option maxHeartbeats 2000000 in
set_option maxRecDepth 100000 in
theorem scale_any {w0 : World} {p f c : Nat} {K : KW} {id : ByteArray} (hE : Env w0 p f c K id) (a : Nat) (o : O) (hok : o.Ok) (hc : chk o = 0) (cc : C) (t : TypeId) (x : Value) (hL : ThF 26 w0 a id p (.iface t x) (ck K id cc) cc.weight) :
    ThF 49 w0 a id p (.agg #[o.val, .iface t x]) (ck K id (.scale o cc)) (C.scale o cc).weight := by
  intro w F W d k hs hd1 hd2 hv hk hlf hlw
  obtain ⟨tn, xn, ho⟩ := Vl.form_iface o (chk_sz hc).1
  have HL := hidC hL
  have HN := hidC (fun (w : World) (h : StA w0 w a id p F W) => number_any hE w a F W h (by omega) o hok hc d ⟨by omega, by omega⟩)
  rw [ho] at HN
  have HG := hidC (rk_good hE.vals d o (chk_sz hc).1)
  rw [ho]
  clear ho
  have HBA := hidC (below_alloc (Below.refl w.heap.size w) (.cells #[.iface tn xn, .iface t x] 30))
  have HSV := hidC (hs.step HBA.out)
  have HX := hidC (heap_alloc_new w (.cells #[.iface tn xn, .iface t x] 30))
  have HNA := hidC (HSV.out.at_cells HX.out (by decide))
  have HKV := hidC (Kept.of_below (a := a) HBA.out)
  have HHK := hidC (And.intro hv hk)
  have HLN := hidC (Nat.le_trans (lackN_len K d o) (chk_sz hc).2)
  have HQ : Hid (ck K id (.scale o cc) d k = if (rk K d o).e ≠ 0 then ⟨[], [], (rk K d o).e⟩ else if (rk K d o).known = true then (if (mulR k (rk K d o).n).2 = true then (if (mulR k (rk K d o).n).1 = 0 then ⟨[], [], 0⟩ else ck K id cc d (mulR k (rk K d o).n).1) else ⟨[], [], 6⟩) else ⟨[], waitN K d o, 0⟩) := rfl
  have HM := hidC (fun (n : Int) (w : World) => mul_any k n w)
  simp only [C.weight] at hlf hlw
  clear hs hv hk hE hL hok hc
  go_enter Try.func49, Try.ntmps49
  go_wp2_with fail
  refine (HN.out _ HSV.out).mono ?_
  rintro e w1 ⟨rfl, hs1, hk1⟩
  have HX1 := hidC (hk1.cells HX.out HNA.out (by decide) (by decide))
  have HS1 := hidC hs1
  have HK1 := hidC (HKV.out.trans hk1)
  clear hs1 hk1
  have c1 : w1.cell? ⟨w.heap.size, 1, none⟩ = some (.iface t x) := cell_of_row _ _ 1 _ _ _ HX1.out
  unfold numW at HS1
  generalize rk K d o = y at *
  obtain ⟨n, known, e⟩ := y
  simp only at HQ HS1
  unfold ofE
  simp only
  by_cases he : e = 0
  · subst he
    rw [if_neg (by simp)] at HQ HS1
    cases known
    · rw [if_neg (by simp)] at HQ HS1
      go_wp2_with fail
      go_ret
      rw [HQ.out, List.append_nil]
      exact ⟨rfl, HS1.out, HK1.out⟩
    · rw [if_pos rfl] at HQ HS1
      have HM1 := hidC (HM.out n w1)
      have HVM0 : Hid ((mulR k n).2 = true → vB (mulR k n).1 = true) := mulR_in k n
      generalize mulR k n = m at *
      obtain ⟨m, ok⟩ := m
      simp only at HQ HM1 HVM0
      cases ok
      · rw [if_neg (by simp)] at HQ
        go_wp2_with fail
        refine calls_same HM1.out ?_
        go_wp2_with fail
        go_ret
        rw [HQ.out, List.append_nil]
        exact ⟨rfl, HS1.out, HK1.out⟩
      · rw [if_pos rfl] at HQ
        by_cases hm : m = 0
        · subst hm
          rw [if_pos rfl] at HQ
          go_wp2_with fail
          refine calls_same HM1.out ?_
          go_wp2_with fail
          go_ret
          rw [HQ.out, List.append_nil]
          exact ⟨rfl, HS1.out, HK1.out⟩
        · rw [if_neg hm] at HQ
          have hm' : (m == 0) = false := by simpa using hm
          go_wp2_with fail
          refine calls_same HM1.out ?_
          go_wp2_with fail
          refine (HL.out w1 F W d m HS1.out hd1 hd2 (HVM0.out trivial) hm (by omega) (by omega)).mono ?_
          rintro e w2 ⟨rfl, hs2, hk2⟩
          have HS2 := hidC hs2
          have HK2 := hidC (HK1.out.trans hk2)
          clear hs2 hk2
          go_wp2_with fail
          go_ret
          rw [HQ.out]
          exact ⟨rfl, HS2.out, HK2.out⟩
  · rw [if_pos he] at HQ HS1
    have hkn := (HG.out.err he).2
    simp only at hkn
    subst hkn
    go_wp2_with fail
    go_ret
    rw [HQ.out, List.append_nil]
    exact ⟨rfl, HS1.out, HK1.out⟩

set_option maxHeartbeats 2000000 in
set_option maxRecDepth 100000 in
theorem if_any {w0 : World} {p f c : Nat} {K : KW} {id : ByteArray} (hE : Env w0 p f c K id) (a : Nat) (o : O) (hok : o.Ok) (hc : chk o = 0) (l r : C) (t t2 : TypeId) (x x2 : Value) (hL : ThF 26 w0 a id p (.iface t x) (ck K id l) l.weight) (hR : ThF 26 w0 a id p (.iface t2 x2) (ck K id r) r.weight) :
    ThF 50 w0 a id p (.agg #[o.val, .iface t x, .iface t2 x2]) (ck K id (.iff o l r)) (C.iff o l r).weight := by
  intro w F W d k hs hd1 hd2 hv hk hlf hlw
  obtain ⟨tn, xn, ho⟩ := Vl.form_iface o (chk_sz hc).1
  have HL := hidC hL
  have HR := hidC hR
  have HN := hidC (fun (w : World) (h : StA w0 w a id p F W) => number_any hE w a F W h (by omega) o hok hc d ⟨by omega, by omega⟩)
  rw [ho] at HN
  have HG := hidC (rk_good hE.vals d o (chk_sz hc).1)
  rw [ho]
  clear ho
  have HBA := hidC (below_alloc (Below.refl w.heap.size w) (.cells #[.iface tn xn, .iface t x, .iface t2 x2] 54))
  have HSV := hidC (hs.step HBA.out)
  have HX := hidC (heap_alloc_new w (.cells #[.iface tn xn, .iface t x, .iface t2 x2] 54))
  have HNA := hidC (HSV.out.at_cells HX.out (by decide))
  have HKV := hidC (Kept.of_below (a := a) HBA.out)
  have HHK := hidC (And.intro hv hk)
  have HQ : Hid (ck K id (.iff o l r) d k = if (rk K d o).e ≠ 0 then ⟨[], [], (rk K d o).e⟩ else if (rk K d o).known = true then (if 0 < (rk K d o).n then ck K id l d k else ck K id r d k) else ⟨[], waitN K d o, 0⟩) := rfl
  simp only [C.weight] at hlf hlw
  clear hs hv hk hE hL hR hok hc
  go_enter Try.func50, Try.ntmps50
  go_wp2_with fail
  refine (HN.out _ HSV.out).mono ?_
  rintro e w1 ⟨rfl, hs1, hk1⟩
  have HX1 := hidC (hk1.cells HX.out HNA.out (by decide) (by decide))
  have HS1 := hidC hs1
  have HK1 := hidC (HKV.out.trans hk1)
  clear hs1 hk1
  have c1 : w1.cell? ⟨w.heap.size, 1, none⟩ = some (.iface t x) := cell_of_row _ _ 1 _ _ _ HX1.out
  have c2 : w1.cell? ⟨w.heap.size, 2, none⟩ = some (.iface t2 x2) := cell_of_row _ _ 2 _ _ _ HX1.out
  unfold numW at HS1
  generalize rk K d o = y at *
  obtain ⟨n, known, e⟩ := y
  simp only at HQ HS1
  unfold ofE
  simp only
  by_cases he : e = 0
  · subst he
    rw [if_neg (by simp)] at HQ HS1
    cases known
    · rw [if_neg (by simp)] at HQ HS1
      go_wp2_with fail
      go_ret
      rw [HQ.out, List.append_nil]
      exact ⟨rfl, HS1.out, HK1.out⟩
    · rw [if_pos rfl] at HQ HS1
      by_cases hn : 0 < n
      · rw [if_pos hn] at HQ
        go_wp2_with fail
        refine (HL.out w1 F W d k HS1.out hd1 hd2 HHK.out.1 HHK.out.2 (by omega) (by omega)).mono ?_
        rintro e w2 ⟨rfl, hs2, hk2⟩
        have HS2 := hidC hs2
        have HK2 := hidC (HK1.out.trans hk2)
        clear hs2 hk2
        go_wp2_with fail
        go_ret
        rw [HQ.out]
        exact ⟨rfl, HS2.out, HK2.out⟩
      · rw [if_neg hn] at HQ
        go_wp2_with fail
        refine (HR.out w1 F W d k HS1.out hd1 hd2 HHK.out.1 HHK.out.2 (by omega) (by omega)).mono ?_
        rintro e w2 ⟨rfl, hs2, hk2⟩
        have HS2 := hidC hs2
        have HK2 := hidC (HK1.out.trans hk2)
        clear hs2 hk2
        go_wp2_with fail
        go_ret
        rw [HQ.out]
        exact ⟨rfl, HS2.out, HK2.out⟩
  · rw [if_pos he] at HQ HS1
    have hkn := (HG.out.err he).2
    simp only at hkn
    subst hkn
    go_wp2_with fail
    go_ret
    rw [HQ.out, List.append_nil]
    exact ⟨rfl, HS1.out, HK1.out⟩

end Go.Proofs.Ytngjlkdpplmpaaa.Ca
namespace Go.Proofs.Ytngjlkdpplmpaaa.Ca
open Go.RowKit Wd Cn Vl
set_option linter.unusedVariables false

set_option maxHeartbeats 2000000 in
set_option maxRecDepth 100000 in
theorem th_or {w0 : World} {p f c : Nat} {K : KW} {id : ByteArray} (hE : Env w0 p f c K id) (a : Nat) (s : ByteArray) (hsz : s.size ≤ 2147483648) (l r : C) (hfl : formC l = true) (hfr : formC r = true) (ihl : ThC w0 a id p K l) (ihr : ThC w0 a id p K r) : ThC w0 a id p K (.or s l r) := by
  intro w F W d k hs hd1 hd2 hv hk hlf hlw
  have HS := hidC hs
  have h0 := fun v xT w => notZero 32 v xT w (by decide)
  have h1 := fun v xT w => notOne 32 v xT w (by decide)
  have h2 := fun v xT w => notGive 32 v xT w (by decide)
  have h3 := fun v xT w => notAnd 32 v xT w (by decide)
  have h4 := fun v xT w => isOr v xT w
  obtain ⟨t, x, he⟩ := form_val l hfl
  obtain ⟨t2, x2, he2⟩ := form_val r hfr
  unfold ThC at ihl ihr
  rw [he] at ihl
  rw [he2] at ihr
  have HC := hidC (or_any hE a s hsz l r t t2 x x2 ihl ihr)
  clear ihl ihr hfl hfr
  have HHK := hidC (And.intro hv hk)
  clear hs hv hk hE
  unfold C.val
  rw [he, he2]
  go_enter Try.func26, Try.ntmps26
  go_wp2_with fail
  refine (HC.out _ F W d k (HS.out.step (below_alloc (Below.refl _ _) _)) hd1 hd2 HHK.out.1 HHK.out.2 hlf hlw).mono ?_
  rintro e w2 ⟨rfl, hs2, hk2⟩
  have HS2 := hidC hs2
  have HK2 := hidC hk2
  clear hs2 hk2
  go_wp2_with fail
  go_ret
  exact ⟨rfl, HS2.out, (Kept.of_below (below_alloc (Below.refl _ _) _)).trans HK2.out⟩

set_option maxHeartbeats 2000000 in
set_option maxRecDepth 100000 in
theorem th_scale {w0 : World} {p f c : Nat} {K : KW} {id : ByteArray} (hE : Env w0 p f c K id) (a : Nat) (o : O) (hok : o.Ok) (hc : chk o = 0) (cc : C) (hf : formC cc = true) (ih : ThC w0 a id p K cc) : ThC w0 a id p K (.scale o cc) := by
  intro w F W d k hs hd1 hd2 hv hk hlf hlw
  have HS := hidC hs
  have h0 := fun v xT w => notZero 30 v xT w (by decide)
  have h1 := fun v xT w => notOne 30 v xT w (by decide)
  have h2 := fun v xT w => notGive 30 v xT w (by decide)
  have h3 := fun v xT w => notAnd 30 v xT w (by decide)
  have h4 := fun v xT w => notOr 30 v xT w (by decide)
  have h5 := fun v xT w => isScale v xT w
  obtain ⟨t, x, he⟩ := form_val cc hf
  obtain ⟨tn, xn, ho⟩ := Vl.form_iface o (chk_sz hc).1
  unfold ThC at ih
  rw [he] at ih
  have HC := hidC (scale_any hE a o hok hc cc t x ih)
  rw [ho] at HC
  clear ih hf hok hc
  have HHK := hidC (And.intro hv hk)
  clear hs hv hk hE
  unfold C.val
  rw [ho, he]
  go_enter Try.func26, Try.ntmps26
  go_wp2_with fail
  refine (HC.out _ F W d k (HS.out.step (below_alloc (Below.refl _ _) _)) hd1 hd2 HHK.out.1 HHK.out.2 hlf hlw).mono ?_
  rintro e w2 ⟨rfl, hs2, hk2⟩
  have HS2 := hidC hs2
  have HK2 := hidC hk2
  clear hs2 hk2
  go_wp2_with fail
  go_ret
  exact ⟨rfl, HS2.out, (Kept.of_below (below_alloc (Below.refl _ _) _)).trans HK2.out⟩

set_option maxHeartbeats 2000000 in
set_option maxRecDepth 100000 in
theorem th_if {w0 : World} {p f c : Nat} {K : KW} {id : ByteArray} (hE : Env w0 p f c K id) (a : Nat) (o : O) (hok : o.Ok) (hc : chk o = 0) (l r : C) (hfl : formC l = true) (hfr : formC r = true) (ihl : ThC w0 a id p K l) (ihr : ThC w0 a id p K r) : ThC w0 a id p K (.iff o l r) := by
  intro w F W d k hs hd1 hd2 hv hk hlf hlw
  have HS := hidC hs
  have h0 := fun v xT w => notZero 54 v xT w (by decide)
  have h1 := fun v xT w => notOne 54 v xT w (by decide)
  have h2 := fun v xT w => notGive 54 v xT w (by decide)
  have h3 := fun v xT w => notAnd 54 v xT w (by decide)
  have h4 := fun v xT w => notOr 54 v xT w (by decide)
  have h5 := fun v xT w => notScale 54 v xT w (by decide)
  have h6 := fun v xT w => notWhen 54 v xT w (by decide)
  have h7 := fun v xT w => isIf1 v xT w
  obtain ⟨t, x, he⟩ := form_val l hfl
  obtain ⟨t2, x2, he2⟩ := form_val r hfr
  unfold ThC at ihl ihr
  rw [he] at ihl
  rw [he2] at ihr
  obtain ⟨tn, xn, ho⟩ := Vl.form_iface o (chk_sz hc).1
  have HC := hidC (if_any hE a o hok hc l r t t2 x x2 ihl ihr)
  rw [ho] at HC
  clear ihl ihr hfl hfr hok hc
  have HHK := hidC (And.intro hv hk)
  clear hs hv hk hE
  unfold C.val
  rw [ho, he, he2]
  go_enter Try.func26, Try.ntmps26
  go_wp2_with fail
  refine (HC.out _ F W d k HS.out hd1 hd2 HHK.out.1 HHK.out.2 hlf hlw).mono ?_
  rintro e w2 ⟨rfl, hs2, hk2⟩
  have HS2 := hidC hs2
  have HK2 := hidC hk2
  clear hs2 hk2
  go_wp2_with fail
  go_ret
  exact ⟨rfl, HS2.out, HK2.out⟩

theorem chk_of {o : O} (h : formB o = true) (hn : o.nodes ≤ 60) (hd : o.depth ≤ 12) : chk o = 0 := by
  unfold chk
  rw [if_pos h, if_neg (by omega)]
theorem through_any {w0 : World} {p f q : Nat} {K : KW} {id : ByteArray} (hE : Env w0 p f q K id) (a : Nat) (c : C) : formC c = true → c.Ok → c.nodes ≤ 60 → c.depth ≤ 12 → ThC w0 a id p K c := by
  induction c with
  | zero => intro _ _ _ _; exact th_zero w0 a id p K
  | one s => intro _ _ _ _; exact th_one w0 a id p K s
  | odd v => intro h; simp [formC] at h
  | give c ih => intro hf hok hn hd; simp only [C.nodes, C.depth] at hn hd; exact th_give w0 a id p K c hf (ih hf hok (by omega) (by omega))
  | when d' c ih =>
    intro hf hok hn hd
    simp only [C.nodes, C.depth] at hn hd
    have h2 := hf
    simp only [formC, Bool.and_eq_true] at h2
    exact th_when w0 a id p K d' c hf (ih h2.2 hok.2 (by omega) (by omega))
  | and l r hl hr =>
    intro hf hok hn hd
    simp only [C.nodes, C.depth] at hn hd
    simp only [formC, Bool.and_eq_true] at hf
    exact th_and w0 a id p K l r hf.1 hf.2 (hl hf.1 hok.1 (by omega) (by omega)) (hr hf.2 hok.2 (by omega) (by omega))
  | or s l r hl hr =>
    intro hf hok hn hd
    simp only [C.nodes, C.depth] at hn hd
    simp only [formC, Bool.and_eq_true] at hf
    exact th_or hE a s hok.1 l r hf.1.2 hf.2 (hl hf.1.2 hok.2.1 (by omega) (by omega)) (hr hf.2 hok.2.2 (by omega) (by omega))
  | scale o c ih =>
    intro hf hok hn hd
    simp only [C.nodes, C.depth] at hn hd
    simp only [formC, Bool.and_eq_true] at hf
    exact th_scale hE a o hok.1 (chk_of hf.1 (by omega) (by omega)) c hf.2 (ih hf.2 hok.2 (by omega) (by omega))
  | iff o l r hl hr =>
    intro hf hok hn hd
    simp only [C.nodes, C.depth] at hn hd
    simp only [formC, Bool.and_eq_true] at hf
    exact th_if hE a o hok.1 (chk_of hf.1.1 (by omega) (by omega)) l r hf.1.2 hf.2 (hl hf.1.2 hok.2.1 (by omega) (by omega)) (hr hf.2 hok.2.2 (by omega) (by omega))
theorem form_weight (c : C) (h : formC c = true) : c.weight = c.nodes := by
  induction c with
  | zero => rfl
  | one s => rfl
  | odd v => simp [formC] at h
  | give c ih => simp only [C.weight, C.nodes]; rw [ih h]
  | when d c ih => simp only [formC, Bool.and_eq_true] at h; simp only [C.weight, C.nodes]; rw [ih h.2]
  | and l r hl hr => simp only [formC, Bool.and_eq_true] at h; simp only [C.weight, C.nodes]; rw [hl h.1, hr h.2]
  | or s l r hl hr => simp only [formC, Bool.and_eq_true] at h; simp only [C.weight, C.nodes]; rw [hl h.1.2, hr h.2]
  | scale o c ih => simp only [formC, Bool.and_eq_true] at h; simp only [C.weight, C.nodes]; rw [ih h.2]
  | iff o l r hl hr => simp only [formC, Bool.and_eq_true] at h; simp only [C.weight, C.nodes]; rw [hl h.1.2, hr h.2]
/-- What a right contract is. -/
theorem chkC_ok {c : C} (h : chkC c = 0) : formC c = true ∧ c.nodes ≤ 60 ∧ c.depth ≤ 12 ∧ twice c.labels = false := by
  unfold chkC at h
  split at h
  · rename_i h1
    split at h
    · cases h
    · rename_i h2
      split at h
      · cases h
      · rename_i h3
        exact ⟨h1, by omega, by omega, by simpa using h3⟩
  · cases h
theorem Env.below {w0 w : World} {p f c : Nat} {K : KW} {id : ByteArray} (h : Env w0 p f c K id) (hb : Below w0.heap.size w0 w) : Env w p f c K id := ⟨h.kin.below hb, h.vals, h.chs, h.idl⟩

/-- What cash.Of answers. -/
def ofK (K : KW) (id : ByteArray) (c : C) (d : Int) : Ck := if chkC c = 0 ∧ 0 ≤ d ∧ d ≤ 10000 then (if (ck K id c d 1).e = 0 then ⟨(ck K id c d 1).f, addW [] (ck K id c d 1).w, 0⟩ else ⟨[], [], (ck K id c d 1).e⟩) else ⟨[], [], 1⟩
def OfPost (w : World) (r : Ck) (e : Ending) (w' : World) : Prop := ∃ vF vW, e = .returned (.tuple #[vF, vW, .int .i64 r.e]) ∧ w'.ownsRow w.heap.size 46 3 vF r.f.length (rowFl r.f) ∧ w'.ownsRow w.heap.size 43 5 vW r.w.length (rowWt r.w) ∧ Below w.heap.size w w'
theorem OfPost.none (w w' : World) (e : Int) (h : Below w.heap.size w w') : OfPost w ⟨[], [], e⟩ (.returned (.tuple #[.slice none 0 0, .slice none 0 0, .int .i64 e])) w' := ⟨_, _, rfl, World.ownsRow_nil _ _ _ _, World.ownsRow_nil _ _ _ _, h⟩

set_option maxHeartbeats 2000000 in
set_option maxRecDepth 100000 in
theorem cash_any (c : C) (hok : c.Ok) (hsz : c.weight ≤ 1000000) (w : World) (p f q : Nat) (K : KW) (id : ByteArray) (hE : Env w p f q K id) (d : Int) (hd : dayOk d) :
    Calls Try.prog 11 #[.string id, c.val, .int .i64 d, .pointer (some ⟨p, 0, none⟩)] w (OfPost w (ofK K id c d)) := by
  have HCH := hidC (checkT_any c hok hsz w)
  have HE := hidC hE
  have HOK := hidC hok
  have hd' := hd
  unfold dayOk at hd'
  clear hE hok hd
  by_cases hc : chkC c = 0
  rotate_left
  · have HQ : Hid (ofK K id c d = ⟨[], [], 1⟩) := by unfold Hid ofK; rw [if_neg (fun h => hc h.1)]
    have hc' : (chkC c != 0) = true := by simpa using hc
    go_enter Try.func11, Try.ntmps11
    go_wp2_with fail
    refine HCH.out.mono ?_
    rintro e w1 ⟨rfl, hb1⟩
    go_wp2_with fail
    go_ret3
    rw [HQ.out]
    exact OfPost.none _ _ _ hb1
  · rw [hc] at HCH
    by_cases hr : 0 ≤ d ∧ d ≤ 10000
    rotate_left
    · have HQ : Hid (ofK K id c d = ⟨[], [], 1⟩) := by unfold Hid ofK; rw [if_neg (fun h => hr h.2)]
      rcases (by omega : d < 0 ∨ (0 ≤ d ∧ 10000 < d)) with h1 | ⟨h1, h2⟩
      all_goals
        clear hr
        go_enter Try.func11, Try.ntmps11
        go_wp2_with fail
        refine HCH.out.mono ?_
        rintro e w1 ⟨rfl, hb1⟩
        go_wp2_with fail
        go_ret3
        rw [HQ.out]
        exact OfPost.none _ _ _ hb1
    · obtain ⟨h1, h2⟩ := hr
      have HQ : Hid (ofK K id c d = if (ck K id c d 1).e = 0 then ⟨(ck K id c d 1).f, addW [] (ck K id c d 1).w, 0⟩ else ⟨[], [], (ck K id c d 1).e⟩) := by unfold Hid ofK; rw [if_pos ⟨hc, h1, h2⟩]
      obtain ⟨k1, k2, k3, k4⟩ := chkC_ok hc
      have hw60 : c.weight ≤ 60 := by rw [form_weight c k1]; exact k2
      have HTH := hidC (fun (w0 : World) (a : Nat) (hE : Env w0 p f q K id) => through_any hE a c k1 HOK.out k2 k3)
      clear k1 k2 k3 k4 hc
      go_enter Try.func11, Try.ntmps11
      go_wp2_with fail
      refine HCH.out.mono ?_
      rintro e w1 ⟨rfl, hb1⟩
      have HB1 := hidC hb1
      clear hb1
      go_wp2_with fail
      have HS0 : Hid (StA w1 (w1.alloc (.cells (mkA id p (.slice none 0 0) (.slice none 0 0)) 91)) w1.heap.size id p [] []) :=
        ⟨⟨_, _, ⟨heap_alloc_new _ _, World.ownsRow_nil _ _ _ _, World.ownsRow_nil _ _ _ _, Nat.le_refl _⟩⟩, below_alloc (Below.refl _ _) _⟩
      unfold mkA at HS0
      refine (HTH.out w1 w1.heap.size (HE.out.below HB1.out) _ [] [] d 1 HS0.out h1 h2 (by rfl) (by omega) (by simp; omega) (by simp; omega)).mono ?_
      rintro e w2 ⟨rfl, hs2, hk2⟩
      rw [List.nil_append] at hs2
      obtain ⟨⟨vF, vW, hin⟩, hb2⟩ := hs2
      have HIN := hidC hin
      have HB2 := hidC (HB1.out.trans (hb2.mono HB1.out.size))
      have c2 := hin.cell2 (twoA id p)
      have c3 := hin.cell3 (twoA id p)
      have HBB := hidC HB1.out.size
      clear hin hb2 hk2
      generalize ck K id c d 1 = x at *
      obtain ⟨xf, xw, xe⟩ := x
      simp only at HQ HIN c2 c3 ⊢
      by_cases he : xe = 0
      · subst he
        rw [if_pos rfl] at HQ
        obtain ⟨ao, cap, rfl⟩ := row_shape HIN.out.rf
        obtain ⟨ao2, cap2, rfl⟩ := row_shape HIN.out.rw'
        go_wp2_with fail
        go_region
        go_wp2_with fail
        go_ret3
        rw [HQ.out]
        exact ⟨_, _, rfl, ownsRow_base HIN.out.rf HBB.out, ownsRow_base HIN.out.rw' HBB.out, HB2.out.drew⟩
      · rw [if_neg he] at HQ
        have he' : (xe != 0) = true := by simpa using he
        go_wp2_with fail
        go_ret3
        rw [HQ.out]
        exact OfPost.none _ _ _ HB2.out

end Go.Proofs.Ytngjlkdpplmpaaa.Ca
namespace Go.Proofs.Ytngjlkdpplmpaaa.Ca
open Go.RowKit Wd Cn Vl
set_option linter.unusedVariables false

/-- Payments in memory. -/
def HasFls (w : World) (ao : Option Addr) (l : List Fl) : Prop := ∀ i x, l[i]? = some x → ∃ g, ao = some ⟨g, 0, none⟩ ∧ g < w.heap.size ∧ w.cell? ⟨g, i * 3, none⟩ = some (.int .i64 x.day) ∧ w.cell? ⟨g, i * 3 + 1, none⟩ = some (.string x.cur) ∧ w.cell? ⟨g, i * 3 + 2, none⟩ = some (.int .i64 x.amt)
theorem HasFls.below {w w' : World} {ao : Option Addr} {l : List Fl} (h : HasFls w ao l) (hb : Below w.heap.size w w') : HasFls w' ao l := by
  intro i x hx
  obtain ⟨g, e, hg, h0, h1, h2⟩ := h i x hx
  have hc := fun o => hb.cell (p := ⟨g, o, none⟩) hg
  exact ⟨g, e, Nat.lt_of_lt_of_le hg hb.size, (hc _).trans h0, (hc _).trans h1, (hc _).trans h2⟩
theorem own_fls {w : World} {B : Nat} {v : Value} {l : List Fl} (h : w.ownsRow B 46 3 v l.length (rowFl l)) : ∃ ao cap, v = .slice ao l.length cap ∧ HasFls w ao l := by
  obtain ⟨ao, cap, rfl⟩ := row_shape h
  refine ⟨ao, cap, rfl, fun i x hx => ?_⟩
  have hi := (List.getElem?_eq_some_iff.1 hx).1
  obtain ⟨g, cap', e, hg, hc⟩ := row_cells h (by omega)
  injection e with e1 _ _
  obtain ⟨h0, h1, h2⟩ := rowFl_at l i x hx
  exact ⟨g, e1, hg, hc _ _ h0, hc _ _ h1, hc _ _ h2⟩
/-- What cash.Of answers, in memory. -/
def OfIn (w : World) (r : Ck) (e : Ending) (w' : World) : Prop := ∃ ao cap bo cap2, e = .returned (.tuple #[.slice ao r.f.length cap, .slice bo r.w.length cap2, .int .i64 r.e]) ∧ HasFls w' ao r.f ∧ HasWts w' bo r.w ∧ Below w.heap.size w w'
theorem cash_at (c : C) (hok : c.Ok) (hsz : c.weight ≤ 1000000) (w : World) (p f q : Nat) (K : KW) (id : ByteArray) (hE : Env w p f q K id) (d : Int) (hd : dayOk d) (r : Ck) (hr : ofK K id c d = r) :
    Calls Try.prog 11 #[.string id, c.val, .int .i64 d, .pointer (some ⟨p, 0, none⟩)] w (OfIn w r) := by
  refine (cash_any c hok hsz w p f q K id hE d hd).mono ?_
  rintro e w' ⟨vF, vW, rfl, h1, h2, hb⟩
  rw [hr] at h1 h2
  obtain ⟨ao, cap, rfl, h3⟩ := own_fls h1
  obtain ⟨bo, cap2, rfl, h4⟩ := own_wts h2
  exact ⟨ao, cap, bo, cap2, by rw [hr], h3, h4, hb⟩
theorem no_vals : KW.Vals ⟨[], []⟩ := fun q hq => by cases hq
theorem no_chs : KW.Chs ⟨[], []⟩ := fun q hq => by cases hq
theorem env_new {w : World} {p f q : Nat} (h : KIn w p f q ⟨[], []⟩) (id : ByteArray) (hid : id.size ≤ 1000000) : Env w p f q ⟨[], []⟩ id := ⟨h, no_vals, no_chs, hid⟩
def usd : ByteArray := ⟨#[117, 115, 100]⟩
theorem ofK_one : ofK ⟨[], []⟩ ⟨#[116]⟩ (.one usd) 3 = ⟨[⟨3, usd, 1⟩], [], 0⟩ := by
  unfold ofK
  rw [if_pos ⟨by rfl, by omega, by omega⟩]
  rfl

set_option maxHeartbeats 1000000 in
theorem wakes10_any (w : World) :
    Calls Try.prog 13 #[] w fun e w' => e = .returned (.bool true) ∧ Below w.heap.size w w' := by
  have HV : Hid ((C.one usd).val = .iface 24 (.agg #[.string ⟨#[117, 115, 100]⟩])) := rfl
  go_enter Try.func13, Try.ntmps13
  go_wp2_with fail
  refine (new_in' w).mono ?_
  rintro e w1 ⟨b, f, c, rfl, hi⟩
  have HI : Hid (In w w1 b f c ⟨[], []⟩) := hi
  clear hi
  go_wp2_with fail
  refine (cash_at (.one usd) (by show usd.size ≤ 2147483648; decide) (by decide) w1 b f c ⟨[], []⟩ ⟨#[116]⟩ (env_new HI.out.kin _ (by decide)) 3 ⟨by omega, by omega⟩ _ ofK_one).mono ?_
  rintro e w2 ⟨ao, cap, bo, cap2, rfl, h1, h2, hb⟩
  obtain ⟨g, rfl, hg, c0, c1, c2⟩ := h1 0 ⟨3, usd, 1⟩ rfl
  have HB := hidC (HI.out.below.trans (hb.mono HI.out.below.size))
  unfold usd at c1
  clear h1 h2 hb
  simp only [List.length_cons, List.length_nil]
  go_wp2_with fail
  go_ret
  exact ⟨rfl, HB.out⟩

def tN : ByteArray := ⟨#[116]⟩
theorem chkC_by {c : C} (h1 : formC c = true) (h2 : c.nodes ≤ 60) (h3 : c.depth ≤ 12) (h4 : twice c.labels = false) : chkC c = 0 := by
  unfold chkC
  rw [if_pos h1, if_neg (by omega), if_neg (by rw [h4]; simp)]
theorem mulR_ok {a b : Int} (h1 : vB a = true) (h2 : vB b = true) (h3 : vB (a * b) = true) : mulR a b = (a * b, true) := by
  unfold mulR
  rw [h1, h2, h3]
  rfl
theorem mulR_no {a b : Int} (h3 : vB (a * b) = false) : mulR a b = (0, false) := by
  unfold mulR
  rw [h3, Bool.and_false]
  rfl

end Go.Proofs.Ytngjlkdpplmpaaa.Ca
namespace Go.Proofs.Ytngjlkdpplmpaaa.Vl
open Go.RowKit Wd Cn
set_option linter.unusedVariables false

theorem rin_gr {w w' : World} {B r M : Nat} {K : KW} {vF vC : Value} (h : RIn w B r K vF vC) (hg : Gr M w w') (hM : ∃ es cl, w.heap[M]? = some (.map es cl)) : RIn w' B r K vF vC := by
  obtain ⟨es, cl, hm⟩ := hM
  have hr : r ≠ M := by
    rintro rfl
    have := h.blk
    rw [hm] at this
    cases this
  have hgb : w.grownBy w' (some M) := ⟨hg.os, hg.tape, hg.output, hg.size, fun k hk hne => hg.block k hk (fun e => hne (by rw [e]))⟩
  refine ⟨(hg.block r (Array.getElem?_eq_some_iff.1 h.blk).1 hr).trans h.blk, h.rf.kept hgb ?_, h.rc.kept hgb ?_, h.hr⟩
  · right
    intro e
    obtain ⟨cs, hc⟩ := row_block h.rf e
    rw [hm] at hc
    cases hc
  · right
    intro e
    obtain ⟨cs, hc⟩ := row_block h.rc e
    rw [hm] at hc
    cases hc
theorem rt_cells {B r : Nat} {w w' : World} (h : RT B r w w') {k : Nat} {cs : Array Value} {t : TypeId} (hk : w.heap[k]? = some (.cells cs t)) (hr : k ≠ r) (h1 : t ≠ 180) (h2 : t ≠ 148) : w'.heap[k]? = some (.cells cs t) := by
  rw [h.kept k (Array.getElem?_eq_some_iff.1 hk).1 hr (fun cs' e => ?_) (fun cs' e => ?_)]
  · exact hk
  · rw [hk] at e; injection e with e; injection e with _ e; exact h1 e
  · rw [hk] at e; injection e with e; injection e with _ e; exact h2 e
theorem rt_map {B r : Nat} {w w' : World} (h : RT B r w w') {k : Nat} {es : Array MapEntry} {cl : Nat} (hk : w.heap[k]? = some (.map es cl)) (hr : k ≠ r) : w'.heap[k]? = w.heap[k]? :=
  h.kept k (Array.getElem?_eq_some_iff.1 hk).1 hr (fun cs e => by rw [hk] at e; cases e) (fun cs e => by rw [hk] at e; cases e)
theorem in_rt {w0 W W' : World} {p f c r B : Nat} {K Kr : KW} {vF vC : Value} (h : In w0 W p f c K) (hr : RIn W B r Kr vF vC) (hB : w0.heap.size ≤ B) (ht : RT B r W W') : In w0 W' p f c K := by
  have hpr : p ≠ r := by
    rintro rfl
    have := h.kin.blk
    rw [hr.blk] at this
    injection this with e
    injection e with _ e
    exact absurd e (by decide)
  obtain ⟨es1, c1, m1, l1⟩ := h.kin.fix
  obtain ⟨es2, c2, m2, l2⟩ := h.kin.ch
  have hfr : f ≠ r := by
    rintro rfl
    rw [hr.blk] at m1
    cases m1
  have hcr : c ≠ r := by
    rintro rfl
    rw [hr.blk] at m2
    cases m2
  refine ⟨h.kin.same ?_ (rt_map ht m1 hfr) (rt_map ht m2 hcr), h.below.trans (ht.below.mono hB), h.hp, h.hf, h.hc⟩
  rw [rt_cells ht h.kin.blk hpr (by decide) (by decide), h.kin.blk]

/-- Both worlds in memory, with what each knows; the one from w0 on, the other from block B on. -/
structure Bo (w0 W : World) (p f c r B : Nat) (Kc Kr : KW) : Prop where
  i : In w0 W p f c Kc
  rr : ∃ vF vC, RIn W B r Kr vF vC
  hB : w0.heap.size ≤ B
  hBW : B ≤ W.heap.size
theorem Bo.step {w0 W W' : World} {p f c r B : Nat} {Kc Kr : KW} (h : Bo w0 W p f c r B Kc Kr) (hb : Below W.heap.size W W') : Bo w0 W' p f c r B Kc Kr := by
  obtain ⟨vF, vC, hr⟩ := h.rr
  exact ⟨h.i.step hb, ⟨vF, vC, hr.below hb⟩, h.hB, Nat.le_trans h.hBW hb.size⟩
theorem Bo.gr {w0 W W' : World} {p f c r B M : Nat} {Kc Kc' Kr : KW} (h : Bo w0 W p f c r B Kc Kr) (hk : KIn W' p f c Kc') (hg : Gr M W W') (hM : w0.heap.size ≤ M) (hm : ∃ es cl, W.heap[M]? = some (.map es cl)) : Bo w0 W' p f c r B Kc' Kr := by
  obtain ⟨vF, vC, hr⟩ := h.rr
  exact ⟨h.i.gr hk hg hM, ⟨vF, vC, rin_gr hr hg hm⟩, h.hB, Nat.le_trans h.hBW hg.size⟩
theorem Bo.rt {w0 W W' : World} {p f c r B : Nat} {Kc Kr Kr' : KW} (h : Bo w0 W p f c r B Kc Kr) (hk : ∃ vF vC, RIn W' B r Kr' vF vC) (ht : RT B r W W') : Bo w0 W' p f c r B Kc Kr' := by
  obtain ⟨vF, vC, hr⟩ := h.rr
  exact ⟨in_rt h.i hr h.hB ht, hk, h.hB, Nat.le_trans h.hBW ht.below.size⟩
theorem Bo.mapF {w0 W : World} {p f c r B : Nat} {Kc Kr : KW} (h : Bo w0 W p f c r B Kc Kr) : ∃ es cl, W.heap[f]? = some (.map es cl) := by
  obtain ⟨es, cl, hm, _⟩ := h.i.kin.fix
  exact ⟨es, cl, hm⟩
/-- What stands beside both stays: what is neither map, nor the document's world, nor a row of it. -/
theorem bo_fix {w0 W : World} {p f c r B : Nat} {Kc Kr : KW} (h : Bo w0 W p f c r B Kc Kr) (s : ByteArray) (d v : Int) (hk : fixOk (s, d)) :
    Calls Try.prog 15 #[.pointer (some ⟨p, 0, none⟩), .string s, .int .i64 d, .int .i64 v] W fun e w' => e = .returned (.int .i64 (fixE Kc s d v)) ∧ Bo w0 w' p f c r B (fixN Kc s d v) Kr ∧ Gr f W w' :=
  (fix_any W p f c Kc h.i.kin s d v hk).mono fun e w' h1 => ⟨h1.1, h.gr h1.2.1 h1.2.2 h.i.hf h.mapF, h1.2.2⟩
theorem bo_rfix {w0 W : World} {p f c r B : Nat} {Kc Kr : KW} (h : Bo w0 W p f c r B Kc Kr) (s : ByteArray) (d v : Int) (hs : s.size ≤ 1000000) (hl : Kr.F.length ≤ 1000) :
    Calls Try.prog 58 #[.pointer (some ⟨r, 0, none⟩), .string s, .int .i64 d, .int .i64 v] W fun e w' => e = .returned (.int .i64 (fixE Kr s d v)) ∧ Bo w0 w' p f c r B Kc (fixN Kr s d v) ∧ RT B r W w' := by
  obtain ⟨vF, vC, hr⟩ := h.rr
  exact (refFix_any W _ r Kr vF vC hr h.hBW s d v hs hl).mono fun e w' h1 => ⟨h1.1, h.rt h1.2.1 h1.2.2, h1.2.2⟩

end Go.Proofs.Ytngjlkdpplmpaaa.Vl
namespace Go.Proofs.Ytngjlkdpplmpaaa.Vl
open Go.RowKit Wd Cn
set_option linter.unusedVariables false

theorem tdiv_range (a b : Int) (hb : 2 ≤ b) (h1 : -9223372036854775808 ≤ a) (h2 : a ≤ 9223372036854775807) : -9223372036854775808 ≤ a.tdiv b ∧ a.tdiv b ≤ 9223372036854775807 := by
  by_cases h : 0 ≤ a
  · have h3 := Int.tdiv_nonneg h (by omega : 0 ≤ b)
    have h4 : a.tdiv b ≤ a := Int.tdiv_le_self b h
    omega
  · have h3 := Int.tdiv_nonneg (by omega : 0 ≤ -a) (by omega : 0 ≤ b)
    have h4 : (-a).tdiv b ≤ -a := Int.tdiv_le_self b (by omega)
    rw [Int.neg_tdiv] at h3 h4
    omega
theorem three_cells (w : World) (m : Nat) (hm : m < 3) : ∃ s : ByteArray, s.size ≤ 5 ∧ (w.alloc (.cells #[.string ⟨#[108, 105, 98, 111, 114]⟩, .string ⟨#[114, 97, 105, 110]⟩, .string ⟨#[195, 182, 108]⟩] 9)).cell? ⟨w.heap.size, m, none⟩ = some (.string s) := by
  rcases (by omega : m = 0 ∨ m = 1 ∨ m = 2) with rfl | rfl | rfl
  · exact ⟨_, by decide, cell_of_row _ _ _ _ _ _ (heap_alloc_new _ _)⟩
  · exact ⟨_, by decide, cell_of_row _ _ _ _ _ _ (heap_alloc_new _ _)⟩
  · exact ⟨_, by decide, cell_of_row _ _ _ _ _ _ (heap_alloc_new _ _)⟩

set_option maxHeartbeats 8000000 in
set_option maxRecDepth 100000 in
theorem known_any (w0 w : World) (p f c r B : Nat) (la : Option Addr) (ll lc : Nat) (lf : Nat → Int) (h : Bo w0 w p f c r B ⟨[], []⟩ ⟨[], []⟩) (hl : HasInts w0 la ll lf) (hll : ll ≤ 9223372036854775807) :
    Calls Try.prog 35 #[.pointer (some ⟨p, 0, none⟩), .pointer (some ⟨r, 0, none⟩), .slice la ll lc] w fun e w' => e = .returned (.tuple #[]) ∧ ∃ K, Bo w0 w' p f c r B K K ∧ KW.Vals K ∧ K.F.length ≤ 12 := by
  have HB := hidV h
  have HL := hidV hl
  clear h hl
  go_enter Try.func35, Try.ntmps35
  go_wp2_with fail
  go_loopw [6] (fun s6 wr => ∃ (i : Nat) (K : KW), s6 = .int .i64 i ∧ i ≤ 12 ∧ i ≤ ll ∧ Bo w0 wr p f c r B K K ∧ KW.Vals K ∧ K.F.length ≤ i) (fun s6 _ => 12 - (intOf s6).toNat)
  case atStart => exact ⟨0, ⟨[], []⟩, rfl, by omega, by omega, HB.out, (fun q hq => by simp at hq), by simp⟩
  case round =>
    obtain ⟨i, K, rfl, hi12, hil, hbo, hvals, hlen⟩ := hrel
    have HBO := hidV hbo
    have HVL := hidV hvals
    have HLN := hidV hlen
    clear hbo hvals hlen
    by_cases hlt : i < ll ∧ i < 12
    · obtain ⟨h1, h2⟩ := hlt
      have h1' : (i : Int) < (ll : Int) := by omega
      have h2' : (i : Int) < 12 := by omega
      obtain ⟨lb, lo, rfl, hlb, hlc, hf1, hf2⟩ := HL.out i h1
      have HLC : Hid (∀ w', Below w0.heap.size w0 w' → w'.cell? ⟨lb, lo + i, none⟩ = some (.int .i64 (lf i))) := fun w' hw' => (hw'.cell (p := ⟨lb, lo + i, none⟩) hlb).trans hlc
      obtain ⟨q1, q2⟩ := tdiv_range (lf i) 8 (by omega) hf1 hf2
      have HW40 := hidV (fun w : World => within_any ((lf i).tdiv 8) 40 w (by omega) (by omega) q1 q2)
      have HW8 := hidV (fun w : World => within_any (lf i) 8 w (by omega) (by omega) hf1 hf2)
      obtain ⟨u, hu⟩ : ∃ u : Nat, (lf i).tdiv 8 % 40 = u := ⟨((lf i).tdiv 8 % 40).toNat, by omega⟩
      have hu40 : u < 40 := by omega
      rw [hu] at HW40
      obtain ⟨d, hd⟩ : ∃ d : Nat, lf i % 8 = d := ⟨(lf i % 8).toNat, by omega⟩
      have hd8 : d < 8 := by omega
      rw [hd] at HW8
      clear hlc hu hd
      obtain ⟨m, hm⟩ : ∃ m : Nat, i % 3 = m := ⟨_, rfl⟩
      have hm3 : m < 3 := by omega
      have htm : Int.tmod (i : Int) 3 = (m : Int) := by rw [← hm]; rw [Int.tmod_eq_emod_of_nonneg (by omega)]; omega
      have hm3' : ¬ ((3 : Int) ≤ (m : Int)) := by omega
      obtain ⟨sn, hsz, hcell⟩ := three_cells wr m hm3
      have HSZ := hidV hsz
      clear hm hsz
      have hb0 := HLC.out wr HBO.out.i.below
      have hb1 : (wr.alloc (.cells #[.string ⟨#[108, 105, 98, 111, 114]⟩, .string ⟨#[114, 97, 105, 110]⟩, .string ⟨#[195, 182, 108]⟩] 9)).cell? ⟨lb, lo + i, none⟩ = some (.int .i64 (lf i)) := HLC.out _ (HBO.out.step (below_alloc (Below.refl _ _) _)).i.below
      have HB1 := hidV (HBO.out.step (below_alloc (Below.refl wr.heap.size wr) (.cells #[.string ⟨#[108, 105, 98, 111, 114]⟩, .string ⟨#[114, 97, 105, 110]⟩, .string ⟨#[195, 182, 108]⟩] 9)))
      have HFK : Hid (fixOk (sn, (d : Int))) := ⟨Nat.le_trans HSZ.out (by decide), by omega, by omega⟩
      have HREM : Hid (Int.tmod (lf i) 29 = 28 ∨ (Int.tmod (lf i) 29 == 28) = false) := by
        by_cases h : Int.tmod (lf i) 29 = 28
        · exact .inl h
        · exact .inr (by simpa using h)
      go_wp2_with fail
      refine calls_same (HW40.out _) ?_
      rcases HREM.out with h29 | h29
      all_goals
        go_wp2_with fail
        refine calls_same (HW8.out _) ?_
        go_wp2_with fail
        generalize wr.alloc (.cells #[.string ⟨#[108, 105, 98, 111, 114]⟩, .string ⟨#[114, 97, 105, 110]⟩, .string ⟨#[195, 182, 108]⟩] 9) = W1 at *
        refine (bo_fix HB1.out sn d _ HFK.out).mono ?_
        rintro e w2 ⟨rfl, hb2, hg2⟩
        have HB2 := hidV hb2
        have hb3 := HLC.out w2 HB2.out.i.below
        clear hb2 hg2 hb0 hb1 hcell
        go_wp2_with fail
        refine calls_same (HW8.out _) ?_
        go_wp2_with fail
        refine (bo_rfix HB2.out sn d _ (Nat.le_trans HSZ.out (by decide)) (by have := HLN.out; omega)).mono ?_
        rintro e w3 ⟨rfl, hb4, hr4⟩
        have HB3 := hidV hb4
        clear hb4 hr4 hb3
        go_wp2_with fail
        go_roundw
        case rel => exact ⟨i + 1, _, by go_num, by omega, by omega, HB3.out, fixN_vals _ _ _ _ HVL.out, Nat.le_trans (fixN_length _ _ _ _) (by have := HLN.out; omega)⟩
        case measure => simp [intOf] <;> omega
    · rcases (by omega : ((i : Int) < (ll : Int) ∧ ¬ (i : Int) < 12) ∨ ¬ (i : Int) < (ll : Int)) with ⟨h1, h3⟩ | h1
      all_goals
        clear hlt
        go_wp2_with fail
        go_end0
        exact ⟨rfl, K, HBO.out, HVL.out, Nat.le_trans HLN.out hi12⟩

end Go.Proofs.Ytngjlkdpplmpaaa.Vl
namespace Go.Proofs.Ytngjlkdpplmpaaa.Vl
open Go.RowKit Wd Cn
set_option linter.unusedVariables false

def RvCalls (o : O) : Prop := ∀ (w : World) (v : Value) (B r : Nat) (K : KW) (vF vC : Value) (d : Int), TIn w 0 (plain o) v → RIn w B r K vF vC → K.F.length ≤ 1000000 → KW.Vals K → dayOk d →
  Calls Try.prog 64 #[v, .int .i64 d, .pointer (some ⟨r, 0, none⟩)] w fun e w' => e = ofE (rk K d o) ∧ Below w.heap.size w w'

set_option maxHeartbeats 1000000 in
set_option maxRecDepth 100000 in
theorem rv_const (n : Int) : RvCalls (.const n) := by
  intro w v B r K vF vC d ht hr hl hv hd
  obtain ⟨a, cap, rfl, h1, h2, h3⟩ := ht
  clear h3 hr hv hl
  have HR : Hid (rk K d (.const n) = ⟨n, true, 0⟩) := rfl
  simp only [plain, T.kind, T.s, T.n, T.k, List.length_nil]
  go_enter Try.func64, Try.ntmps64
  go_wp2_with fail
  go_ret3
  rw [HR.out]
  exact ⟨rfl, below_alloc (Below.refl _ _) _⟩

set_option maxHeartbeats 1000000 in
set_option maxRecDepth 100000 in
theorem rv_fix (s : ByteArray) : RvCalls (.fix s) := by
  intro w v B r K vF vC d ht hr hl hv hd
  obtain ⟨a, cap, rfl, h1, h2, h3⟩ := ht
  have HR : Hid (rk K d (.fix s) = ⟨(K.fixed (s, d)).getD 0, (K.fixed (s, d)).isSome, 0⟩) := rfl
  simp only [plain, T.kind, T.s, T.n, T.k, List.length_nil]
  have HB : Hid (Below w.heap.size w (w.alloc (.cells #[.int .i64 12, .string s, .int .i64 0, .slice a 0 cap] 72))) := below_alloc (Below.refl _ _) _
  have HF := hidV (refFixed_any _ B r K vF vC (hr.below HB.out) s d hl)
  clear h3 hr hv hl
  generalize (K.fixed (s, d)).getD 0 = n at *
  generalize (K.fixed (s, d)).isSome = q at *
  go_enter Try.func64, Try.ntmps64
  go_wp2_with fail
  refine HF.out.mono ?_
  rintro e w1 ⟨rfl, hb⟩
  have HB1 := hidV (HB.out.trans (hb.mono HB.out.size))
  clear hb
  go_wp2_with fail
  go_ret3
  rw [HR.out]
  exact ⟨rfl, HB1.out⟩

set_option maxHeartbeats 2000000 in
set_option maxRecDepth 100000 in
theorem rv_neg (o : O) (hf : formB o = true) (ih : RvCalls o) : RvCalls (.neg o) := by
  intro w v B r K vF vC d ht hr hl hv hd
  obtain ⟨a, cap, rfl, h1, h2, h3⟩ := ht
  have HG := hidV (rk_good hv d o hf)
  have HR : Hid (rk K d (.neg o) = otherR (rk K d o)) := rfl
  simp only [plain, T.kind, T.s, T.n, T.k, List.length_singleton] at h1 h3 ⊢
  have HB : Hid (Below w.heap.size w (w.alloc (.cells #[.int .i64 14, .string ⟨#[]⟩, .int .i64 0, .slice a 1 cap] 72))) := below_alloc (Below.refl _ _) _
  obtain ⟨b, o', ka, ca, rfl, c0, c1, c2, c3, t0⟩ := (h3.below HB.out).cells (j := 0) (t := plain o) rfl
  simp only [Nat.zero_mul, Nat.add_zero] at c0 c1 c2 c3
  have HI := hidV (ih _ _ B r K vF vC d t0 (hr.below HB.out) hl hv hd)
  have HBLK : Hid ((w.alloc (.cells #[.int .i64 14, .string ⟨#[]⟩, .int .i64 0, .slice (some ⟨b, o', none⟩) 1 cap] 72)).heap[w.heap.size]? = some (.cells #[.int .i64 14, .string ⟨#[]⟩, .int .i64 0, .slice (some ⟨b, o', none⟩) 1 cap] 72)) := heap_alloc_new _ _
  clear h3 hr hv hl t0 ih
  generalize rk K d o = x at *
  go_enter Try.func64, Try.ntmps64
  go_wp2_with fail
  refine HI.out.mono ?_
  rintro e w1 ⟨rfl, hb⟩
  have HB1 := hidV (HB.out.trans (hb.mono HB.out.size))
  have HBLK1 := hidV ((hb.block _ (by simp)).trans HBLK.out)
  have k0 : w1.cell? ⟨w.heap.size, 0, none⟩ = some (.int .i64 14) := cell_of_row _ _ _ _ _ _ HBLK1.out
  clear hb c0 c1 c2 c3 HI
  obtain ⟨n, q, e⟩ := x
  unfold ofE
  by_cases he : e = 0
  · subst he
    have HQ : Hid (otherR ⟨n, q, 0⟩ = ⟨-n, q, 0⟩) := by
      unfold Hid otherR
      cases q
      · have := HG.out.unk rfl
        simp only at this
        subst this
        rfl
      · have := HG.out.val rfl
        simp only at this
        simp [negR, this, inR]
    have hn1 : -9223372036854775807 ≤ n ∧ n ≤ 9223372036854775807 := by
      cases q
      · have := HG.out.unk rfl
        simp only at this
        omega
      · have := HG.out.val rfl
        simp only at this
        rw [vB_iff] at this
        omega
    obtain ⟨hn1, hn2⟩ := hn1
    go_wp2_with fail
    go_ret3
    rw [HR.out, HQ.out]
    exact ⟨rfl, HB1.out⟩
  · have he' : (e != 0) = true := by simpa using he
    have HQ : Hid (otherR ⟨n, q, e⟩ = ⟨0, false, e⟩) := by
      unfold Hid otherR
      obtain ⟨h1, h2⟩ := HG.out.err he
      simp only at h1 h2
      subst h1 h2
      simp
    go_wp2_with fail
    go_ret3
    rw [HR.out, HQ.out]
    exact ⟨rfl, HB1.out⟩

set_option maxHeartbeats 4000000 in
set_option maxRecDepth 100000 in
theorem rv_add (l r' : O) (hfl : formB l = true) (hfr : formB r' = true) (ihl : RvCalls l) (ihr : RvCalls r') : RvCalls (.add l r') := by
  intro w v B r K vF vC d ht hr hl hv hd
  obtain ⟨a, cap, rfl, h1, h2, h3⟩ := ht
  have HGL := hidV (rk_good hv d l hfl)
  have HGR := hidV (rk_good hv d r' hfr)
  have HR : Hid (rk K d (.add l r') = bothR (rk K d l) (rk K d r') addR) := rfl
  simp only [plain, T.kind, T.s, T.n, T.k, List.length_cons, List.length_nil] at h1 h3 ⊢
  have HB : Hid (Below w.heap.size w (w.alloc (.cells #[.int .i64 13, .string ⟨#[]⟩, .int .i64 0, .slice a 2 cap] 72))) := below_alloc (Below.refl _ _) _
  obtain ⟨b, o', ka, ca, rfl, c0, c1, c2, c3, t0⟩ := (h3.below HB.out).cells (j := 0) (t := plain l) rfl
  obtain ⟨b', o2, kb, cb, e, d0, d1, d2, d3, t1⟩ := (h3.below HB.out).cells (j := 1) (t := plain r') rfl
  injection e with e
  injection e with e1 e2
  subst e1 e2
  simp only [Nat.zero_mul, Nat.add_zero, Nat.one_mul] at c0 c1 c2 c3 d0 d1 d2 d3
  have HI := hidV (ihl _ _ B r K vF vC d t0 (hr.below HB.out) hl hv hd)
  have HI2 := hidV (fun w' (vv : Value) (hw : Below w.heap.size w w') (h : TIn w' 0 (plain r') vv) => ihr w' vv B r K vF vC d h (hr.below hw) hl hv hd)
  have HBLK : Hid ((w.alloc (.cells #[.int .i64 13, .string ⟨#[]⟩, .int .i64 0, .slice (some ⟨b, o', none⟩) 2 cap] 72)).heap[w.heap.size]? = some (.cells #[.int .i64 13, .string ⟨#[]⟩, .int .i64 0, .slice (some ⟨b, o', none⟩) 2 cap] 72)) := heap_alloc_new _ _
  have HT1 := hidV t1
  have HLT := hidV (World.block_lt_of_cell? _ _ d0)
  have HD : Hid (∀ w', Below (w.alloc (.cells #[.int .i64 13, .string ⟨#[]⟩, .int .i64 0, .slice (some ⟨b, o', none⟩) 2 cap] 72)).heap.size (w.alloc (.cells #[.int .i64 13, .string ⟨#[]⟩, .int .i64 0, .slice (some ⟨b, o', none⟩) 2 cap] 72)) w' → w'.cell? ⟨b, o' + 4, none⟩ = some (.int .i64 (plain r').kind) ∧ w'.cell? ⟨b, o' + 4 + 1, none⟩ = some (.string (plain r').s) ∧ w'.cell? ⟨b, o' + 4 + 2, none⟩ = some (.int .i64 (plain r').n) ∧ w'.cell? ⟨b, o' + 4 + 3, none⟩ = some (.slice kb (plain r').k.length cb)) := fun w' h =>
    ⟨(h.cell (p := ⟨b, o' + 4, none⟩) HLT.out).trans d0, (h.cell (p := ⟨b, o' + 4 + 1, none⟩) HLT.out).trans d1, (h.cell (p := ⟨b, o' + 4 + 2, none⟩) HLT.out).trans d2, (h.cell (p := ⟨b, o' + 4 + 3, none⟩) HLT.out).trans d3⟩
  clear h3 hr hv hl t0 t1 d0 d1 d2 d3 ihl ihr
  generalize rk K d l = x at *
  generalize rk K d r' = y at *
  go_enter Try.func64, Try.ntmps64
  go_wp2_with fail
  refine HI.out.mono ?_
  rintro e w1 ⟨rfl, hb⟩
  have HB1 := hidV (HB.out.trans (hb.mono HB.out.size))
  have HBLK1 := hidV ((hb.block _ (by simp)).trans HBLK.out)
  have k0 : w1.cell? ⟨w.heap.size, 0, none⟩ = some (.int .i64 13) := cell_of_row _ _ _ _ _ _ HBLK1.out
  have k3 : w1.cell? ⟨w.heap.size, 3, none⟩ = some (.slice (some ⟨b, o', none⟩) 2 cap) := cell_of_row _ _ _ _ _ _ HBLK1.out
  obtain ⟨d0, d1, d2, d3⟩ := HD.out w1 hb
  have HT2 := hidV (HT1.out.below hb)
  clear hb c0 c1 c2 c3 HI HD HT1
  obtain ⟨n, q, e⟩ := x
  unfold ofE
  by_cases he : e = 0
  rotate_left
  · have he' : (e != 0) = true := by simpa using he
    have HQ : Hid (bothR ⟨n, q, e⟩ y addR = ⟨0, false, e⟩) := by
      unfold Hid bothR
      obtain ⟨h1, h2⟩ := HGL.out.err he
      simp only at h1 h2
      subst h1 h2
      simp [he]
    go_wp2_with fail
    go_ret3
    rw [HR.out, HQ.out]
    exact ⟨rfl, HB1.out⟩
  subst he
  go_wp2_with fail
  refine (HI2.out w1 _ HB1.out HT2.out).mono ?_
  rintro e w2 ⟨rfl, hb⟩
  have HB2 := hidV (HB1.out.trans (hb.mono HB1.out.size))
  have HBLK2 := hidV ((hb.block _ (Array.getElem?_eq_some_iff.1 HBLK1.out).1).trans HBLK1.out)
  have k0 : w2.cell? ⟨w.heap.size, 0, none⟩ = some (.int .i64 13) := cell_of_row _ _ _ _ _ _ HBLK2.out
  clear hb d0 d1 d2 d3 HI2 HT2 k3
  obtain ⟨m, z, e⟩ := y
  unfold ofE
  by_cases he : e = 0
  rotate_left
  · have he' : (e != 0) = true := by simpa using he
    have HQ : Hid (bothR ⟨n, q, 0⟩ ⟨m, z, e⟩ addR = ⟨0, false, e⟩) := by
      unfold Hid bothR
      obtain ⟨h1, h2⟩ := HGR.out.err he
      simp only at h1 h2
      subst h1 h2
      simp [he]
    go_wp2_with fail
    go_ret3
    rw [HR.out, HQ.out]
    exact ⟨rfl, HB2.out⟩
  subst he
  have HU : Hid ((q = false ∨ z = false) → bothR ⟨n, q, 0⟩ ⟨m, z, 0⟩ addR = ⟨0, false, 0⟩) := by
    intro h
    rcases h with rfl | rfl <;> simp [bothR]
  cases q
  · have HQ := hidV (HU.out (.inl rfl))
    go_wp2_with fail
    go_ret3
    rw [HR.out, HQ.out]
    exact ⟨rfl, HB2.out⟩
  cases z
  · have HQ := hidV (HU.out (.inr rfl))
    go_wp2_with fail
    go_ret3
    rw [HR.out, HQ.out]
    exact ⟨rfl, HB2.out⟩
  have HQ : Hid (bothR ⟨n, true, 0⟩ ⟨m, true, 0⟩ addR = inR (addR n m)) := by unfold Hid; simp [bothR]
  obtain ⟨ok, hok⟩ : ∃ ok, (addR n m).2 = ok := ⟨_, rfl⟩
  have HC := hidV (refAdd_any n m)
  rw [hok] at HC
  have HIN : Hid (inR (addR n m) = if ok = true then ⟨(addR n m).1, true, 0⟩ else ⟨0, false, 6⟩) := by unfold Hid inR; rw [hok]
  clear hok
  generalize (addR n m).1 = y at *
  rcases Int.lt_or_le n m with hnm | hnm
  all_goals
    cases ok
    all_goals
      go_wp2_with fail
      refine calls_same (HC.out _) ?_
      go_wp2_with fail
      go_ret3
      rw [HR.out, HQ.out, HIN.out]
      exact ⟨rfl, HB2.out⟩


set_option maxHeartbeats 4000000 in
set_option maxRecDepth 100000 in
theorem rv_mul (l r' : O) (hfl : formB l = true) (hfr : formB r' = true) (ihl : RvCalls l) (ihr : RvCalls r') : RvCalls (.mul l r') := by
  intro w v B r K vF vC d ht hr hl hv hd
  obtain ⟨a, cap, rfl, h1, h2, h3⟩ := ht
  have HGL := hidV (rk_good hv d l hfl)
  have HGR := hidV (rk_good hv d r' hfr)
  have HR : Hid (rk K d (.mul l r') = bothR (rk K d l) (rk K d r') mulR) := rfl
  simp only [plain, T.kind, T.s, T.n, T.k, List.length_cons, List.length_nil] at h1 h3 ⊢
  have HB : Hid (Below w.heap.size w (w.alloc (.cells #[.int .i64 15, .string ⟨#[]⟩, .int .i64 0, .slice a 2 cap] 72))) := below_alloc (Below.refl _ _) _
  obtain ⟨b, o', ka, ca, rfl, c0, c1, c2, c3, t0⟩ := (h3.below HB.out).cells (j := 0) (t := plain l) rfl
  obtain ⟨b', o2, kb, cb, e, d0, d1, d2, d3, t1⟩ := (h3.below HB.out).cells (j := 1) (t := plain r') rfl
  injection e with e
  injection e with e1 e2
  subst e1 e2
  simp only [Nat.zero_mul, Nat.add_zero, Nat.one_mul] at c0 c1 c2 c3 d0 d1 d2 d3
  have HI := hidV (ihl _ _ B r K vF vC d t0 (hr.below HB.out) hl hv hd)
  have HI2 := hidV (fun w' (vv : Value) (hw : Below w.heap.size w w') (h : TIn w' 0 (plain r') vv) => ihr w' vv B r K vF vC d h (hr.below hw) hl hv hd)
  have HBLK : Hid ((w.alloc (.cells #[.int .i64 15, .string ⟨#[]⟩, .int .i64 0, .slice (some ⟨b, o', none⟩) 2 cap] 72)).heap[w.heap.size]? = some (.cells #[.int .i64 15, .string ⟨#[]⟩, .int .i64 0, .slice (some ⟨b, o', none⟩) 2 cap] 72)) := heap_alloc_new _ _
  have HT1 := hidV t1
  have HLT := hidV (World.block_lt_of_cell? _ _ d0)
  have HD : Hid (∀ w', Below (w.alloc (.cells #[.int .i64 15, .string ⟨#[]⟩, .int .i64 0, .slice (some ⟨b, o', none⟩) 2 cap] 72)).heap.size (w.alloc (.cells #[.int .i64 15, .string ⟨#[]⟩, .int .i64 0, .slice (some ⟨b, o', none⟩) 2 cap] 72)) w' → w'.cell? ⟨b, o' + 4, none⟩ = some (.int .i64 (plain r').kind) ∧ w'.cell? ⟨b, o' + 4 + 1, none⟩ = some (.string (plain r').s) ∧ w'.cell? ⟨b, o' + 4 + 2, none⟩ = some (.int .i64 (plain r').n) ∧ w'.cell? ⟨b, o' + 4 + 3, none⟩ = some (.slice kb (plain r').k.length cb)) := fun w' h =>
    ⟨(h.cell (p := ⟨b, o' + 4, none⟩) HLT.out).trans d0, (h.cell (p := ⟨b, o' + 4 + 1, none⟩) HLT.out).trans d1, (h.cell (p := ⟨b, o' + 4 + 2, none⟩) HLT.out).trans d2, (h.cell (p := ⟨b, o' + 4 + 3, none⟩) HLT.out).trans d3⟩
  clear h3 hr hv hl t0 t1 d0 d1 d2 d3 ihl ihr
  generalize rk K d l = x at *
  generalize rk K d r' = y at *
  go_enter Try.func64, Try.ntmps64
  go_wp2_with fail
  refine HI.out.mono ?_
  rintro e w1 ⟨rfl, hb⟩
  have HB1 := hidV (HB.out.trans (hb.mono HB.out.size))
  have HBLK1 := hidV ((hb.block _ (by simp)).trans HBLK.out)
  have k0 : w1.cell? ⟨w.heap.size, 0, none⟩ = some (.int .i64 15) := cell_of_row _ _ _ _ _ _ HBLK1.out
  have k3 : w1.cell? ⟨w.heap.size, 3, none⟩ = some (.slice (some ⟨b, o', none⟩) 2 cap) := cell_of_row _ _ _ _ _ _ HBLK1.out
  obtain ⟨d0, d1, d2, d3⟩ := HD.out w1 hb
  have HT2 := hidV (HT1.out.below hb)
  clear hb c0 c1 c2 c3 HI HD HT1
  obtain ⟨n, q, e⟩ := x
  unfold ofE
  by_cases he : e = 0
  rotate_left
  · have he' : (e != 0) = true := by simpa using he
    have HQ : Hid (bothR ⟨n, q, e⟩ y mulR = ⟨0, false, e⟩) := by
      unfold Hid bothR
      obtain ⟨h1, h2⟩ := HGL.out.err he
      simp only at h1 h2
      subst h1 h2
      simp [he]
    go_wp2_with fail
    go_ret3
    rw [HR.out, HQ.out]
    exact ⟨rfl, HB1.out⟩
  subst he
  go_wp2_with fail
  refine (HI2.out w1 _ HB1.out HT2.out).mono ?_
  rintro e w2 ⟨rfl, hb⟩
  have HB2 := hidV (HB1.out.trans (hb.mono HB1.out.size))
  have HBLK2 := hidV ((hb.block _ (Array.getElem?_eq_some_iff.1 HBLK1.out).1).trans HBLK1.out)
  have k0 : w2.cell? ⟨w.heap.size, 0, none⟩ = some (.int .i64 15) := cell_of_row _ _ _ _ _ _ HBLK2.out
  clear hb d0 d1 d2 d3 HI2 HT2 k3
  obtain ⟨m, z, e⟩ := y
  unfold ofE
  by_cases he : e = 0
  rotate_left
  · have he' : (e != 0) = true := by simpa using he
    have HQ : Hid (bothR ⟨n, q, 0⟩ ⟨m, z, e⟩ mulR = ⟨0, false, e⟩) := by
      unfold Hid bothR
      obtain ⟨h1, h2⟩ := HGR.out.err he
      simp only at h1 h2
      subst h1 h2
      simp [he]
    go_wp2_with fail
    go_ret3
    rw [HR.out, HQ.out]
    exact ⟨rfl, HB2.out⟩
  subst he
  have HU : Hid ((q = false ∨ z = false) → bothR ⟨n, q, 0⟩ ⟨m, z, 0⟩ mulR = ⟨0, false, 0⟩) := by
    intro h
    rcases h with rfl | rfl <;> simp [bothR]
  cases q
  · have HQ := hidV (HU.out (.inl rfl))
    go_wp2_with fail
    go_ret3
    rw [HR.out, HQ.out]
    exact ⟨rfl, HB2.out⟩
  cases z
  · have HQ := hidV (HU.out (.inr rfl))
    go_wp2_with fail
    go_ret3
    rw [HR.out, HQ.out]
    exact ⟨rfl, HB2.out⟩
  have HQ : Hid (bothR ⟨n, true, 0⟩ ⟨m, true, 0⟩ mulR = inR (mulR n m)) := by unfold Hid; simp [bothR]
  obtain ⟨ok, hok⟩ : ∃ ok, (mulR n m).2 = ok := ⟨_, rfl⟩
  have HC := hidV (refMul_any n m)
  rw [hok] at HC
  have HIN : Hid (inR (mulR n m) = if ok = true then ⟨(mulR n m).1, true, 0⟩ else ⟨0, false, 6⟩) := by unfold Hid inR; rw [hok]
  clear hok
  generalize (mulR n m).1 = y at *
  rcases Int.lt_or_le n m with hnm | hnm
  all_goals
    cases ok
    all_goals
      go_wp2_with fail
      refine calls_same (HC.out _) ?_
      go_wp2_with fail
      go_ret3
      rw [HR.out, HQ.out, HIN.out]
      exact ⟨rfl, HB2.out⟩


set_option maxHeartbeats 4000000 in
set_option maxRecDepth 100000 in
theorem rv_max (l r' : O) (hfl : formB l = true) (hfr : formB r' = true) (ihl : RvCalls l) (ihr : RvCalls r') : RvCalls (.max l r') := by
  intro w v B r K vF vC d ht hr hl hv hd
  obtain ⟨a, cap, rfl, h1, h2, h3⟩ := ht
  have HGL := hidV (rk_good hv d l hfl)
  have HGR := hidV (rk_good hv d r' hfr)
  have HR : Hid (rk K d (.max l r') = bothR (rk K d l) (rk K d r') gtR) := rfl
  simp only [plain, T.kind, T.s, T.n, T.k, List.length_cons, List.length_nil] at h1 h3 ⊢
  have HB : Hid (Below w.heap.size w (w.alloc (.cells #[.int .i64 16, .string ⟨#[]⟩, .int .i64 0, .slice a 2 cap] 72))) := below_alloc (Below.refl _ _) _
  obtain ⟨b, o', ka, ca, rfl, c0, c1, c2, c3, t0⟩ := (h3.below HB.out).cells (j := 0) (t := plain l) rfl
  obtain ⟨b', o2, kb, cb, e, d0, d1, d2, d3, t1⟩ := (h3.below HB.out).cells (j := 1) (t := plain r') rfl
  injection e with e
  injection e with e1 e2
  subst e1 e2
  simp only [Nat.zero_mul, Nat.add_zero, Nat.one_mul] at c0 c1 c2 c3 d0 d1 d2 d3
  have HI := hidV (ihl _ _ B r K vF vC d t0 (hr.below HB.out) hl hv hd)
  have HI2 := hidV (fun w' (vv : Value) (hw : Below w.heap.size w w') (h : TIn w' 0 (plain r') vv) => ihr w' vv B r K vF vC d h (hr.below hw) hl hv hd)
  have HBLK : Hid ((w.alloc (.cells #[.int .i64 16, .string ⟨#[]⟩, .int .i64 0, .slice (some ⟨b, o', none⟩) 2 cap] 72)).heap[w.heap.size]? = some (.cells #[.int .i64 16, .string ⟨#[]⟩, .int .i64 0, .slice (some ⟨b, o', none⟩) 2 cap] 72)) := heap_alloc_new _ _
  have HT1 := hidV t1
  have HLT := hidV (World.block_lt_of_cell? _ _ d0)
  have HD : Hid (∀ w', Below (w.alloc (.cells #[.int .i64 16, .string ⟨#[]⟩, .int .i64 0, .slice (some ⟨b, o', none⟩) 2 cap] 72)).heap.size (w.alloc (.cells #[.int .i64 16, .string ⟨#[]⟩, .int .i64 0, .slice (some ⟨b, o', none⟩) 2 cap] 72)) w' → w'.cell? ⟨b, o' + 4, none⟩ = some (.int .i64 (plain r').kind) ∧ w'.cell? ⟨b, o' + 4 + 1, none⟩ = some (.string (plain r').s) ∧ w'.cell? ⟨b, o' + 4 + 2, none⟩ = some (.int .i64 (plain r').n) ∧ w'.cell? ⟨b, o' + 4 + 3, none⟩ = some (.slice kb (plain r').k.length cb)) := fun w' h =>
    ⟨(h.cell (p := ⟨b, o' + 4, none⟩) HLT.out).trans d0, (h.cell (p := ⟨b, o' + 4 + 1, none⟩) HLT.out).trans d1, (h.cell (p := ⟨b, o' + 4 + 2, none⟩) HLT.out).trans d2, (h.cell (p := ⟨b, o' + 4 + 3, none⟩) HLT.out).trans d3⟩
  clear h3 hr hv hl t0 t1 d0 d1 d2 d3 ihl ihr
  generalize rk K d l = x at *
  generalize rk K d r' = y at *
  go_enter Try.func64, Try.ntmps64
  go_wp2_with fail
  refine HI.out.mono ?_
  rintro e w1 ⟨rfl, hb⟩
  have HB1 := hidV (HB.out.trans (hb.mono HB.out.size))
  have HBLK1 := hidV ((hb.block _ (by simp)).trans HBLK.out)
  have k0 : w1.cell? ⟨w.heap.size, 0, none⟩ = some (.int .i64 16) := cell_of_row _ _ _ _ _ _ HBLK1.out
  have k3 : w1.cell? ⟨w.heap.size, 3, none⟩ = some (.slice (some ⟨b, o', none⟩) 2 cap) := cell_of_row _ _ _ _ _ _ HBLK1.out
  obtain ⟨d0, d1, d2, d3⟩ := HD.out w1 hb
  have HT2 := hidV (HT1.out.below hb)
  clear hb c0 c1 c2 c3 HI HD HT1
  obtain ⟨n, q, e⟩ := x
  unfold ofE
  by_cases he : e = 0
  rotate_left
  · have he' : (e != 0) = true := by simpa using he
    have HQ : Hid (bothR ⟨n, q, e⟩ y gtR = ⟨0, false, e⟩) := by
      unfold Hid bothR
      obtain ⟨h1, h2⟩ := HGL.out.err he
      simp only at h1 h2
      subst h1 h2
      simp [he]
    go_wp2_with fail
    go_ret3
    rw [HR.out, HQ.out]
    exact ⟨rfl, HB1.out⟩
  subst he
  go_wp2_with fail
  refine (HI2.out w1 _ HB1.out HT2.out).mono ?_
  rintro e w2 ⟨rfl, hb⟩
  have HB2 := hidV (HB1.out.trans (hb.mono HB1.out.size))
  have HBLK2 := hidV ((hb.block _ (Array.getElem?_eq_some_iff.1 HBLK1.out).1).trans HBLK1.out)
  have k0 : w2.cell? ⟨w.heap.size, 0, none⟩ = some (.int .i64 16) := cell_of_row _ _ _ _ _ _ HBLK2.out
  clear hb d0 d1 d2 d3 HI2 HT2 k3
  obtain ⟨m, z, e⟩ := y
  unfold ofE
  by_cases he : e = 0
  rotate_left
  · have he' : (e != 0) = true := by simpa using he
    have HQ : Hid (bothR ⟨n, q, 0⟩ ⟨m, z, e⟩ gtR = ⟨0, false, e⟩) := by
      unfold Hid bothR
      obtain ⟨h1, h2⟩ := HGR.out.err he
      simp only at h1 h2
      subst h1 h2
      simp [he]
    go_wp2_with fail
    go_ret3
    rw [HR.out, HQ.out]
    exact ⟨rfl, HB2.out⟩
  subst he
  have HU : Hid ((q = false ∨ z = false) → bothR ⟨n, q, 0⟩ ⟨m, z, 0⟩ gtR = ⟨0, false, 0⟩) := by
    intro h
    rcases h with rfl | rfl <;> simp [bothR]
  cases q
  · have HQ := hidV (HU.out (.inl rfl))
    go_wp2_with fail
    go_ret3
    rw [HR.out, HQ.out]
    exact ⟨rfl, HB2.out⟩
  cases z
  · have HQ := hidV (HU.out (.inr rfl))
    go_wp2_with fail
    go_ret3
    rw [HR.out, HQ.out]
    exact ⟨rfl, HB2.out⟩
  have HQ : Hid (bothR ⟨n, true, 0⟩ ⟨m, true, 0⟩ gtR = inR (gtR n m)) := by unfold Hid; simp [bothR]
  rcases Int.lt_or_le n m with hnm | hnm
  · have HM : Hid (Max.max n m = m) := by unfold Hid; omega
    go_wp2_with fail
    go_ret3
    rw [HR.out, HQ.out]
    refine ⟨?_, HB2.out⟩
    unfold gtR inR
    rw [HM.out]
    rfl
  · have HM : Hid (Max.max n m = n) := by unfold Hid; omega
    go_wp2_with fail
    go_ret3
    rw [HR.out, HQ.out]
    refine ⟨?_, HB2.out⟩
    unfold gtR inR
    rw [HM.out]
    rfl


/-- What the document's Value answers. -/
theorem refValue_any (o : O) : formB o = true → RvCalls o := by
  induction o with
  | const n => exact fun _ => rv_const n
  | fix s => exact fun _ => rv_fix s
  | add l r hl hr => intro hf; simp only [formB, Bool.and_eq_true] at hf; exact rv_add l r hf.1 hf.2 (hl hf.1) (hr hf.2)
  | neg o ho => intro hf; simp only [formB] at hf; exact rv_neg o hf (ho hf)
  | mul l r hl hr => intro hf; simp only [formB, Bool.and_eq_true] at hf; exact rv_mul l r hf.1 hf.2 (hl hf.1) (hr hf.2)
  | max l r hl hr => intro hf; simp only [formB, Bool.and_eq_true] at hf; exact rv_max l r hf.1 hf.2 (hl hf.1) (hr hf.2)
  | odd v => intro hf; simp [formB] at hf

end Go.Proofs.Ytngjlkdpplmpaaa.Vl
namespace Go.Proofs.Ytngjlkdpplmpaaa
open Go.RowKit
set_option linter.unusedVariables false

mutual
/-- The names of a tree's Fixes, in order. -/
def T.nams : T → List ByteArray
  | .mk kind s _ k => if kind = 12 then [s] else namsL k
def namsL : List T → List ByteArray
  | [] => []
  | t :: l => t.nams ++ namsL l
end
theorem namsL_snoc (l : List T) (k : T) : namsL (l ++ [k]) = namsL l ++ k.nams := by
  induction l with
  | nil => simp [namsL]
  | cons a l ih => simp [namsL, ih]
theorem nams_cnt : ∀ t : T, t.nams.length ≤ t.cnt := by
  intro t
  induction t using T.ind with
  | _ kind s n k ih =>
    have h : (namsL k).length ≤ cntL k := by
      induction k with
      | nil => simp [namsL]
      | cons a l ihl =>
        have h1 := ih a (by simp)
        have h2 := ihl (fun t ht => ih t (by simp [ht]))
        simp only [namsL, cntL, List.length_append]
        omega
    unfold T.nams T.cnt
    split
    · simp
    · omega
theorem namsL_cnt (l : List T) : (namsL l).length ≤ cntL l := by
  induction l with
  | nil => simp [namsL]
  | cons a l ih => have := nams_cnt a; simp only [namsL, cntL, List.length_append]; omega
/-- A new list of one text is a row of the call's own. -/
theorem own_one (w : World) (s : ByteArray) : (w.alloc (.cells #[.string s] 9)).ownsRow w.heap.size 9 1 (.slice (some ⟨w.heap.size, 0, none⟩) 1 1) [s].length (strCells [s]) := by
  refine ⟨by simp [strCells], .inr ⟨w.heap.size, 1, #[.string s], rfl, Nat.le_refl _, heap_alloc_new _ _, by simp, by unfold maxLen; omega, by simp, by simp [strCells]⟩⟩

set_option maxHeartbeats 4000000 in
set_option maxRecDepth 100000 in
theorem refNames0_any (t : T) : t.cnt ≤ 999990 → ∀ (w : World) (v : Value), TIn w 0 t v → Calls Try.prog 99 #[v] w fun e w' => ∃ v', e = .returned v' ∧ w'.ownsRow w.heap.size 9 1 v' t.nams.length (strCells t.nams) ∧ Below w.heap.size w w' := by
  induction t using T.ind with
  | _ kind s n k ih =>
  intro hcnt w v hv
  have hkl := len_cap hv
  obtain ⟨a, cap, rfl, hc1, hc2, hK⟩ := hv
  simp only [T.kind, T.s, T.n, T.k] at hc1 hK hkl ⊢
  have hct : (T.mk kind s n k).cnt = cntL k + 1 := by rw [T.cnt]
  rw [hct] at hcnt
  have HIH : Hid (∀ t ∈ k, ∀ (w : World) (v : Value), TIn w 0 t v → Calls Try.prog 99 #[v] w fun e w' => ∃ v', e = .returned v' ∧ w'.ownsRow w.heap.size 9 1 v' t.nams.length (strCells t.nams) ∧ Below w.heap.size w w') := fun t ht => ih t ht (by have := cntL_mem k t ht; omega)
  have HK := hidIn hK
  have HCN := hidIn hcnt
  clear ih hK hct
  by_cases h12 : kind = 12
  · have HL : Hid ((T.mk kind s n k).nams = [s]) := by unfold Hid; rw [T.nams, if_pos h12]
    subst h12
    go_enter Try.func99, Try.ntmps99
    go_wp2_with fail
    go_ret
    refine ⟨_, rfl, ?_, below_alloc (below_alloc (Below.refl _ _) _) _⟩
    rw [HL.out]
    have h := own_one (w.alloc (.cells #[.int .i64 12, .string s, .int .i64 n, .slice a k.length cap] 72)) s
    rw [World.size_alloc] at h
    exact ownsRow_base h (by omega)
  · have HL : Hid ((T.mk kind s n k).nams = namsL k) := by unfold Hid; rw [T.nams, if_neg h12]
    have h12' : (kind == 12) = false := by rw [beq_eq_false_iff_ne]; exact h12
    clear h12
    go_enter Try.func99, Try.ntmps99
    go_wp2_with fail
    obtain ⟨W, hW⟩ : ∃ W, W = w.alloc (.cells #[.int .i64 kind, .string s, .int .i64 n, .slice a k.length cap] 72) := ⟨_, rfl⟩
    have HB : Hid (Below w.heap.size w W) := by rw [hW]; exact below_alloc (Below.refl _ _) _
    have HBK : Hid (W.heap[w.heap.size]? = some (.cells #[.int .i64 kind, .string s, .int .i64 n, .slice a k.length cap] 72 (0, 0))) := by rw [hW]; exact heap_alloc_new _ _
    rw [← hW]
    clear hW
    have HG : Hid (∀ X, Below W.heap.size W X → X.cell? ⟨w.heap.size, 3, none⟩ = some (.slice a k.length cap)) := fun X hX => (cell_of_row _ _ _ _ _ _ ((hX.block _ (Array.getElem?_eq_some_iff.1 HBK.out).1).trans HBK.out)).trans rfl
    have HKW : Hid (KAt W 0 k a 0) := HK.out.below HB.out
    clear HBK HK
    go_loopw [14, 3] (fun s14 s3 wr => ∃ i : Nat, i ≤ k.length ∧ s14 = .int .i64 i ∧ wr.ownsRow W.heap.size 9 1 s3 (namsL (k.take i)).length (strCells (namsL (k.take i))) ∧ Below W.heap.size W wr) (fun s14 _ _ => k.length - (intOf s14).toNat)
    case atStart => exact ⟨0, by omega, rfl, by simp only [List.take_zero, namsL]; exact World.ownsRow_nil _ _ _ _, Below.refl _ _⟩
    case round =>
      obtain ⟨i, hi, rfl, hrow, hbr⟩ := hrel
      have HROW := hidIn hrow
      have HBR := hidIn hbr
      by_cases hlt : i < k.length
      · have hlt' : (i : Int) < (k.length : Int) := by omega
        obtain ⟨t, hti⟩ : ∃ t, k[i]? = some t := ⟨_, List.getElem?_eq_getElem hlt⟩
        obtain ⟨b, o, ka, ca, rfl, c0, c1, c2, c3, ht⟩ := (HKW.out.below hbr).cells hti
        have g3 := HG.out wr hbr
        have HM : Hid (t ∈ k) := List.mem_of_getElem? hti
        have HTI := hidIn ht
        have htk := take_more _ _ _ hti
        have HT3 : Hid (namsL (k.take (i + 1)) = namsL (k.take i) ++ t.nams) := by unfold Hid; rw [htk, namsL_snoc]
        have HLEN : Hid ((namsL (k.take i)).length + t.nams.length ≤ 1000000) := by
          have h1 := nams_cnt t
          have h2 := namsL_cnt (k.take i)
          have h3 := cntL_take k (i + 1)
          rw [htk, cntL_snoc] at h3
          have := HCN.out
          show _ ≤ _
          omega
        clear hti htk ht hrow hbr
        generalize namsL (k.take i) = L at *
        go_wp2_with fail
        refine (HIH.out t HM.out wr _ HTI.out).mono ?_
        rintro e w4 ⟨v4, rfl, hrow4, hb4⟩
        have HB4 := hidIn (HBR.out.trans (hb4.mono HBR.out.size))
        have HROW4 := hidIn (ownsRow_below HROW.out hb4)
        have HNEW := hidIn hrow4
        clear hb4 hrow4 c0 c1 c2 c3 g3 HTI
        go_wp2_with (first
          | (at_builtin; refine wpList_append_rows _ rfl _ _ rfl W.heap.size _ L rfl HROW4.out wr.heap.size _ t.nams rfl HNEW.out HLEN.out HB4.out.size ?_; intro v5 w5 hown5 hgrow5 hloc5)
          | go_in)
        have HB5 : Hid (Below W.heap.size W w5) := HB4.out.grown hgrow5 HB4.out.size (fun j hj => (HROW4.out.lt j hj).1)
        have HOWN5 := hidIn hown5
        clear hown5 hgrow5 hloc5
        go_wp2_with fail
        go_roundw
        case rel => exact ⟨i + 1, by omega, by go_num, by rw [HT3.out]; exact HOWN5.out, HB5.out⟩
        case measure => simp [intOf]; omega
      · have hle : i = k.length := by omega
        subst hle
        have HE : Hid (wr.ownsRow W.heap.size 9 1 u3 (namsL k).length (strCells (namsL k))) := by have h := HROW.out; rw [List.take_length] at h; exact h
        clear hrow HROW hbr
        go_wp2_with fail
        go_ret
        refine ⟨_, rfl, ?_, HB.out.trans (HBR.out.mono HB.out.size)⟩
        rw [HL.out]
        exact ownsRow_base HE.out HB.out.size

end Go.Proofs.Ytngjlkdpplmpaaa
namespace Go.Proofs.Ytngjlkdpplmpaaa
open Go.RowKit
set_option linter.unusedVariables false

/-- A text is among the first of a list. -/
def inFirst (L : List ByteArray) (s : ByteArray) (j : Nat) : Bool := (L.take j).any (fun x => decide (x = s))
theorem inFirst_next (L : List ByteArray) (s : ByteArray) (j : Nat) (x : ByteArray) (h : L[j]? = some x) : inFirst L s (j + 1) = (inFirst L s j || decide (x = s)) := by
  unfold inFirst
  rw [take_more _ _ _ h, List.any_append]
  simp

theorem addAll_le (acc l : List ByteArray) : (addAll acc l).length ≤ acc.length + l.length := by
  induction l generalizing acc with
  | nil => simp [addAll]
  | cons x l ih =>
    have h1 := ih (addN acc x)
    have h2 := addN_length acc x
    have e : addAll acc (x :: l) = addAll (addN acc x) l := rfl
    rw [e]
    simp only [List.length_cons]
    omega

set_option maxHeartbeats 4000000 in
set_option maxRecDepth 100000 in
theorem refNames_any (t : T) (hcnt : t.cnt ≤ 999990) (w : World) (v : Value) (hv : TIn w 0 t v) : Calls Try.prog 91 #[v] w fun e w' => ∃ v', e = .returned v' ∧ w'.ownsRow w.heap.size 9 1 v' (addAll [] t.nams).length (strCells (addAll [] t.nams)) ∧ Below w.heap.size w w' := by
  have HV := hidIn hv
  obtain ⟨a, cap, rfl, hc1, hc2, hK⟩ := hv
  have HLEN : Hid (t.nams.length ≤ 999990) := by have := nams_cnt t; show _ ≤ _; omega
  clear hK
  go_enter Try.func91, Try.ntmps91
  go_wp2_with fail
  obtain ⟨W, hW⟩ : ∃ W, W = w.alloc (.cells #[.int .i64 t.kind, .string t.s, .int .i64 t.n, .slice a t.k.length cap] 72) := ⟨_, rfl⟩
  have HB : Hid (Below w.heap.size w W) := by rw [hW]; exact below_alloc (Below.refl _ _) _
  have HVW := hidIn (HV.out.below HB.out)
  rw [← hW]
  clear hW HV
  refine (refNames0_any t hcnt W _ HVW.out).mono ?_
  rintro e w1 ⟨v1, rfl, hown1, hb1⟩
  have HB1 := hidIn hb1
  have HO1 := hidIn hown1
  clear hb1
  obtain ⟨L, HL⟩ : ∃ L, Hid (t.nams = L) := ⟨_, rfl⟩
  rw [HL.out] at hown1 HLEN HO1
  obtain ⟨sa, sc, rfl, htx, hll, _⟩ := own_txt hown1
  obtain ⟨i0, gi, gz0, gz1, gz2⟩ := info_parts infoStr
  have HTX := hidIn htx
  clear hown1 hcnt htx
  have hLl := HLEN.out
  go_wp2_with fail
  go_loopw [11, 3] (fun s11 s3 wr => ∃ i : Nat, i ≤ L.length ∧ s11 = .int .i64 i ∧ wr.ownsRow w1.heap.size 9 1 s3 (addAll [] (L.take i)).length (strCells (addAll [] (L.take i))) ∧ Below w1.heap.size w1 wr) (fun s11 _ _ => L.length - (intOf s11).toNat)
  case atStart => exact ⟨0, by omega, rfl, by simp only [List.take_zero]; exact World.ownsRow_nil _ _ _ _, Below.refl _ _⟩
  case round =>
    obtain ⟨i, hi, rfl, hrow, hbr⟩ := hrel
    obtain ⟨wA, hwA⟩ : ∃ y, y = wr := ⟨_, rfl⟩
    subst hwA
    have HROW := hidIn hrow
    have HBA := hidIn hbr
    clear hrow
    by_cases hlt : i < L.length
    · have hlt' : (i : Int) < (L.length : Int) := by omega
      obtain ⟨s, hs⟩ : ∃ s, L[i]? = some s := ⟨_, List.getElem?_eq_getElem hlt⟩
      obtain ⟨g, rfl, k0⟩ := (HTX.out.below hbr) i s hs
      have HNX : Hid (addAll [] (L.take (i + 1)) = addN (addAll [] (L.take i)) s) := by unfold Hid; rw [take_more _ _ _ hs, addAll_append]; rfl
      have haln : (addAll [] (L.take i)).length ≤ i := by have := addAll_le [] (L.take i); simp at this; omega
      clear hs hbr
      generalize addAll [] (L.take i) = acc at *
      obtain ⟨ao, ac, rfl, hatx, hal, _⟩ := own_txt HROW.out
      have HATX := hidIn hatx
      clear hatx
      go_wp2_with fail
      go_loopw [17, 6] (fun s17 s6 wr => ∃ j : Nat, j ≤ acc.length ∧ s17 = .int .i64 j ∧ s6 = .bool (inFirst acc s j) ∧ wr = wA) (fun s17 _ _ => acc.length - (intOf s17).toNat)
      case atStart => exact ⟨0, by omega, rfl, by simp [inFirst], rfl⟩
      case round =>
        obtain ⟨j, hj, rfl, rfl, hwr⟩ := hrel
        subst hwr
        by_cases hjl : j < acc.length
        · have hjl' : (j : Int) < (acc.length : Int) := by omega
          obtain ⟨y, hy⟩ : ∃ y, acc[j]? = some y := ⟨_, List.getElem?_eq_getElem hjl⟩
          obtain ⟨g2, rfl, k1⟩ := HATX.out j y hy
          have HJ := hidIn (inFirst_next acc s j y hy)
          clear hy
          cases hin : inFirst acc s j with
          | true =>
            rw [hin] at HJ
            go_wp2_with fail
            go_roundw
            case rel => exact ⟨j + 1, by omega, by go_num, by rw [HJ.out]; rfl, trivial⟩
            case measure => simp [intOf]; omega
          | false =>
            rw [hin] at HJ
            by_cases hys : y = s
            · subst hys
              go_wp2_with fail
              go_roundw
              case rel => exact ⟨j + 1, by omega, by go_num, by rw [HJ.out]; simp, trivial⟩
              case measure => simp [intOf]; omega
            · have hys' : ¬ y.toList = s.toList := fun e => hys (toList_inj e)
              have hys2 : (y.toList == s.toList) = false := by rw [beq_eq_false_iff_ne]; exact hys'
              go_wp2_with fail
              go_roundw
              case rel => exact ⟨j + 1, by omega, by go_num, by rw [HJ.out]; simp [hys], trivial⟩
              case measure => simp [intOf]; omega
        · have hje : j = acc.length := by omega
          subst hje
          have HIN : Hid (inFirst acc s acc.length = inN acc s) := by unfold Hid inFirst inN; rw [List.take_length]
          rw [HIN.out]
          cases hin : inN acc s with
          | true =>
            have HAD : Hid (addN acc s = acc) := by unfold Hid addN; rw [if_pos hin]
            go_wp2_with fail
            go_roundw
            case rel => exact ⟨i + 1, by omega, by go_num, by rw [HNX.out, HAD.out]; exact HROW.out, HBA.out⟩
            case measure => simp [intOf]; omega
          | false =>
            have HAD : Hid (addN acc s = acc ++ [s]) := by unfold Hid addN; rw [if_neg (by rw [hin]; simp)]
            go_wp2_with (first
              | (at_builtin; refine wpList_append_own _ rfl _ _ 67 rfl w1.heap.size 9 i0 (.string ByteArray.empty) 1 16 Try.underlying67 gi gz0 gz1 gz2 rfl (by decide) _ _ _ rfl (HROW.out.alloc _) ⟨_, 0, none⟩ 1 1 [.string s] rfl rfl (cell_one_in rfl _ _) (by intro u hu; simp at hu; subst hu; rfl) (by unfold maxLen; omega) (by omega) (by have := HBA.out.size; simp; omega) ?_; intro v2 w2 hown2 hgrow2 _)
              | go_in)
            go_roundw
            case rel => exact ⟨i + 1, by omega, by go_num, by rw [HNX.out, HAD.out]; simpa [strCells] using hown2, ((HBA.out.alloc HBA.out.size _).grown hgrow2 (by have := HBA.out.size; simp; omega) (fun j hj => (HROW.out.lt j hj).1))⟩
            case measure => simp [intOf]; omega
    · have hle : i = L.length := by omega
      subst hle
      have HE : Hid (wA.ownsRow w1.heap.size 9 1 u3 (addAll [] L).length (strCells (addAll [] L))) := by have h := HROW.out; rw [List.take_length] at h; exact h
      go_wp2_with fail
      go_ret
      rw [HL.out]
      exact ⟨_, rfl, ownsRow_base HE.out (Nat.le_trans HB.out.size HB1.out.size), HB.out.trans ((HB1.out.trans (HBA.out.mono HB1.out.size)).mono HB.out.size)⟩

end Go.Proofs.Ytngjlkdpplmpaaa
namespace Go.Proofs.Ytngjlkdpplmpaaa
open Go.RowKit
set_option linter.unusedVariables false

theorem plain_labs (o : O) : (plain o).labs = [] := by
  induction o <;> simp_all [plain, T.labs, labsL]
theorem plain_cnt (o : O) : (plain o).cnt ≤ 2 * o.nodes + 1 := by
  induction o <;> simp only [plain, T.cnt, cntL, O.nodes] at * <;> omega
theorem plain_sized (o : O) (h : o.Ok) : (plain o).Sized := by
  have he : (⟨#[]⟩ : ByteArray).size ≤ 2147483648 := by decide
  induction o with
  | const n => simp only [plain, T.Sized, SizedL]; exact ⟨he, trivial⟩
  | fix s => simp only [plain, T.Sized, SizedL]; exact ⟨h, trivial⟩
  | odd v => simp only [plain, T.Sized, SizedL]; exact ⟨he, trivial⟩
  | neg o h1 => simp only [plain, T.Sized, SizedL]; exact ⟨he, h1 h, trivial⟩
  | add l r h1 h2 => simp only [plain, T.Sized, SizedL]; exact ⟨he, h1 h.1, h2 h.2, trivial⟩
  | mul l r h1 h2 => simp only [plain, T.Sized, SizedL]; exact ⟨he, h1 h.1, h2 h.2, trivial⟩
  | max l r h1 h2 => simp only [plain, T.Sized, SizedL]; exact ⟨he, h1 h.1, h2 h.2, trivial⟩
theorem plain_form (o : O) : formT (plain o) true = formB o := by
  induction o <;> simp_all [plain, formT, formTL, headOk, partB, formB]

end Go.Proofs.Ytngjlkdpplmpaaa
namespace Go.Proofs.Ytngjlkdpplmpaaa
open Go.RowKit
set_option linter.unusedVariables false

theorem sameTr_mk (kind : Int) (s : ByteArray) (n : Int) (k : List T) (u : T) : sameTr (.mk kind s n k) u = (decide (kind ≠ 0) && (decide (kind = u.kind) && (decide (s = u.s) && (decide (n = u.n) && (decide (k.length = u.k.length) && sameTL k u.k))))) := by rw [sameTr]
theorem plain_same (a : O) : ∀ b, sameTr (plain a) (plain b) = sameO a b := by
  induction a with
  | const n => intro b; cases b <;> simp [plain, sameTr_mk, sameTL, sameO, T.kind, T.s, T.n, T.k] <;> (first | rfl | congr)
  | fix s => intro b; cases b <;> simp [plain, sameTr_mk, sameTL, sameO, T.kind, T.s, T.n, T.k] <;> (first | rfl | congr)
  | odd v => intro b; cases b <;> simp [plain, sameTr_mk, sameTL, sameO, T.kind, T.s, T.n, T.k]
  | neg o ih => intro b; cases b <;> simp [plain, sameTr_mk, sameTL, sameO, T.kind, T.s, T.n, T.k, ih]
  | add l r h1 h2 => intro b; cases b <;> simp [plain, sameTr_mk, sameTL, sameO, T.kind, T.s, T.n, T.k, h1, h2]
  | mul l r h1 h2 => intro b; cases b <;> simp [plain, sameTr_mk, sameTL, sameO, T.kind, T.s, T.n, T.k, h1, h2]
  | max l r h1 h2 => intro b; cases b <;> simp [plain, sameTr_mk, sameTL, sameO, T.kind, T.s, T.n, T.k, h1, h2]
theorem sameO_comm (a : O) : ∀ b, sameO a b = sameO b a := by
  induction a with
  | const n => intro b; cases b <;> simp [sameO, eq_comm]
  | fix s => intro b; cases b <;> simp [sameO, eq_comm]
  | odd v => intro b; cases b <;> simp [sameO]
  | neg o ih => intro b; cases b <;> simp [sameO, ih]
  | add l r h1 h2 => intro b; cases b <;> simp [sameO, h1, h2]
  | mul l r h1 h2 => intro b; cases b <;> simp [sameO, h1, h2]
  | max l r h1 h2 => intro b; cases b <;> simp [sameO, h1, h2]
theorem plain_nams (o : O) : (plain o).nams = o.all := by
  induction o <;> simp_all [plain, T.nams, namsL, O.all]
theorem plain_names (o : O) : addAll [] (plain o).nams = o.names := by rw [plain_nams]; rfl
theorem plain_chk (o : O) : chkT (plain o) true = chk o := by
  unfold chkT chk
  rw [plain_form, plain_nodes, plain_depth, plain_labs]
  simp [twice]
theorem plain_back (o : O) : plain (obsOf (plain o)) = plain o := by
  induction o with
  | const n => rfl
  | fix s => rfl
  | odd v => rfl
  | neg o ih => simp [plain, obsOf, obsL, ih]
  | add l r h1 h2 => simp [plain, obsOf, obsL, h1, h2]
  | mul l r h1 h2 => simp [plain, obsOf, obsL, h1, h2]
  | max l r h1 h2 => simp [plain, obsOf, obsL, h1, h2]

end Go.Proofs.Ytngjlkdpplmpaaa
namespace Go.Proofs.Ytngjlkdpplmpaaa.Vl
open Go.RowKit Wd Cn
set_option linter.unusedVariables false

set_option maxHeartbeats 2000000 in
set_option maxRecDepth 100000 in
theorem refNeeds_any (o : O) (hcnt : (plain o).cnt ≤ 999990) (hnodes : o.nodes ≤ 1000000) (w : World) (v : Value) (ht : TIn w 0 (plain o) v) (B r : Nat) (K : KW) (vF vC : Value) (hr : RIn w B r K vF vC) (hl : K.F.length ≤ 1000000) (d : Int) :
    Calls Try.prog 65 #[v, .int .i64 d, .pointer (some ⟨r, 0, none⟩)] w fun e w' => ∃ v', e = .returned v' ∧ w'.ownsRow w.heap.size 9 1 v' (lackN K d o.names).length (strCells (lackN K d o.names)) ∧ Below w.heap.size w w' := by
  obtain ⟨i0, gi, gz0, gz1, gz2⟩ := info_parts infoStr
  have HT := hidV ht
  obtain ⟨a, cap0, rfl, h1, h2, h3⟩ := ht
  have HB : Hid (Below w.heap.size w (w.alloc (.cells #[.int .i64 (plain o).kind, .string (plain o).s, .int .i64 (plain o).n, .slice a (plain o).k.length cap0] 72))) := below_alloc (Below.refl _ _) _
  have HN := hidV (refNames_any (plain o) hcnt _ _ (HT.out.below HB.out))
  rw [plain_names] at HN
  have HR := hidV (hr.below HB.out)
  have hnl := names_length o
  obtain ⟨l, hle⟩ : ∃ l, o.names = l := ⟨_, rfl⟩
  have HNE := hidV hle
  rw [hle] at HN hnl
  clear h3 hr HT hle
  go_enter Try.func65, Try.ntmps65
  go_wp2_with fail
  refine HN.out.mono ?_
  rintro e w2 ⟨v2, rfl, hown, hb2⟩
  obtain ⟨ao, cap, rfl, hcl, hll⟩ := own_str hown
  have HC := hidV hcl
  have HB2 : Hid (Below w.heap.size w w2) := HB.out.trans (hb2.mono HB.out.size)
  have HR2 := hidV (HR.out.below hb2)
  have hn1 : l.length ≤ 1000000 := by omega
  clear hcl hown hb2 hnl hnodes HN HR HB
  go_wp2_with fail
  go_loopw [15, 7] (fun s15 s7 wr => ∃ i : Nat, i ≤ l.length ∧ s15 = .int .i64 i ∧ wr.ownsRow w2.heap.size 9 1 s7 (lackN K d (l.take i)).length (strCells (lackN K d (l.take i))) ∧ Below w2.heap.size w2 wr) (fun s15 _ _ => l.length - (intOf s15).toNat)
  case atStart => exact ⟨0, by omega, rfl, World.ownsRow_nil _ _ _ _, Below.refl _ _⟩
  case round =>
    obtain ⟨i, hi, rfl, hrow, hbr⟩ := hrel
    have HBR := hidV hbr
    have HROW := hidV hrow
    clear hbr hrow
    by_cases hlt : i < l.length
    · have hlt' : (i : Int) < (l.length : Int) := by omega
      obtain ⟨g, rfl, hg, hc⟩ := HC.out i hlt
      have hcr : wr.cell? ⟨g, i, none⟩ = some (.string l[i]) := (HBR.out.cell (p := ⟨g, i, none⟩) hg).trans hc
      have HT : Hid (lackN K d (l.take (i + 1)) = if (K.fixed (l[i], d)).isSome = true then lackN K d (l.take i) else lackN K d (l.take i) ++ [l[i]]) := by
        unfold Hid
        rw [take_more l i l[i] (List.getElem?_eq_getElem hlt), lackN_snoc]
      have hal : (lackN K d (l.take i)).length ≤ 1000000 := by
        have h1 := lackN_length K d (l.take i)
        have h3 : (l.take i).length ≤ l.length := by rw [List.length_take]; omega
        omega
      clear hc
      generalize l[i] = s at *
      generalize lackN K d (l.take i) = ac at *
      have HF := hidV (refFixed_any wr B r K vF vC (HR2.out.below HBR.out) s d hl)
      go_wp2_with fail
      refine HF.out.mono ?_
      rintro e w3 ⟨rfl, hb3⟩
      have HBR3 := hidV (HBR.out.trans (hb3.mono HBR.out.size))
      have hrow := HROW.out.kept (grown_of_below hb3 none) (by cases hv : u7.ownBlock <;> simp)
      have HROW3 := hidV hrow
      clear hb3 HF
      cases hf : (K.fixed (s, d)).isSome
      · have HT2 : Hid (lackN K d (l.take (i + 1)) = ac ++ [s]) := by unfold Hid; rw [HT.out, if_neg (by rw [hf]; simp)]
        clear HT hf
        go_wp2_with (first
          | (at_builtin; refine wpList_append_own _ rfl _ _ 67 rfl w2.heap.size 9 i0 (.string ByteArray.empty) 1 16 Try.underlying67 gi gz0 gz1 gz2 rfl (by decide) _ _ _ rfl ((hidV hrow).out.alloc _) ⟨w3.heap.size, 0, none⟩ 1 1 [.string s] rfl rfl (cell_one_at w3 _ _) (by intro u hu; simp at hu; subst hu; rfl) (by unfold maxLen; omega) (by omega) (by have := HBR3.out.size; simp; omega) ?_; intro v4 w4 hown4 hgrow4 _)
          | go_in)
        have HR4 : Hid (w4.ownsRow w2.heap.size 9 1 v4 (ac ++ [s]).length (strCells (ac ++ [s]))) := by simpa [strCells, Hid] using hown4
        have HB4 : Hid (Below w2.heap.size w2 w4) := (HBR3.out.alloc HBR3.out.size _).grown hgrow4 (by have := HBR3.out.size; simp; omega) (fun j hj => (HROW3.out.lt j hj).1)
        clear hown4 hgrow4 hrow HROW
        go_wp2_with fail
        go_roundw
        case rel => exact ⟨i + 1, by omega, by go_num, by rw [HT2.out]; exact HR4.out, HB4.out⟩
        case measure => simp [intOf]; omega
      · have HT2 : Hid (lackN K d (l.take (i + 1)) = ac) := by unfold Hid; rw [HT.out, if_pos hf]
        clear HT hf hrow
        go_wp2_with fail
        go_roundw
        case rel => exact ⟨i + 1, by omega, by go_num, by rw [HT2.out]; exact HROW3.out, HBR3.out⟩
        case measure => simp [intOf]; omega
    · have hle : i = l.length := by omega
      subst hle
      have HR4 : Hid (wr.ownsRow w2.heap.size 9 1 u7 (lackN K d l).length (strCells (lackN K d l))) := by have h := HROW.out; rw [List.take_length] at h; exact h
      clear HROW
      go_wp2_with fail
      go_ret
      rw [HNE.out]
      refine ⟨_, rfl, ?_, HB2.out.trans (HBR.out.mono HB2.out.size)⟩
      have h := HR4.out
      refine ⟨h.1, ?_⟩
      rcases h.2 with h | ⟨g, cap, cur, h1, h2, h3⟩
      · exact .inl h
      · exact .inr ⟨g, cap, cur, h1, Nat.le_trans HB2.out.size h2, h3⟩

end Go.Proofs.Ytngjlkdpplmpaaa.Vl
namespace Go.Proofs.Ytngjlkdpplmpaaa
open Go.RowKit
set_option linter.unusedVariables false

/-- What becomes of a tree that is spoilt itself. -/
def spoilHead (q : Nat) (v : Int) (s : ByteArray) (t : T) : T :=
  if q = 0 then .mk 0 ⟨#[]⟩ 0 [] else if q = 1 then .mk t.kind (cutTo s 20) t.n t.k else if q = 2 then .mk t.kind t.s v t.k
  else if q = 3 then (if 11 ≤ t.kind then .mk 1 ⟨#[]⟩ 0 [] else .mk 11 ⟨#[]⟩ 1 []) else t
mutual
/-- A tree that is spoilt at a place, and what is left of the place's number. -/
def spoilT (q : Nat) (v : Int) (s : ByteArray) : T → Int → T × Int
  | .mk kind s0 n k, a => if a = 0 then (spoilHead q v s (.mk kind s0 n k), -1) else (.mk kind s0 n (spoilL q v s k (a - 1)).1, (spoilL q v s k (a - 1)).2)
def spoilL (q : Nat) (v : Int) (s : ByteArray) : List T → Int → List T × Int
  | [], a => ([], a)
  | t :: l, a => if 0 ≤ a then ((spoilT q v s t a).1 :: (spoilL q v s l (spoilT q v s t a).2).1, (spoilL q v s l (spoilT q v s t a).2).2) else (t :: l, a)
end
theorem spoilL_snoc (q : Nat) (v : Int) (s : ByteArray) (t : T) (l : List T) : ∀ a : Int, spoilL q v s (l ++ [t]) a = if 0 ≤ (spoilL q v s l a).2 then ((spoilL q v s l a).1 ++ [(spoilT q v s t (spoilL q v s l a).2).1], (spoilT q v s t (spoilL q v s l a).2).2) else ((spoilL q v s l a).1 ++ [t], (spoilL q v s l a).2) := by
  induction l with
  | nil => intro a; simp only [List.nil_append, spoilL]; by_cases h : 0 ≤ a <;> simp [h]
  | cons x l ih =>
    intro a
    simp only [List.cons_append, spoilL]
    by_cases h : 0 ≤ a
    · simp only [if_pos h]
      rw [ih]
      split <;> rfl
    · simp only [if_neg h, List.cons_append]
theorem spoilL_len (q : Nat) (v : Int) (s : ByteArray) (l : List T) : ∀ a, (spoilL q v s l a).1.length = l.length := by
  induction l with
  | nil => intro a; simp [spoilL]
  | cons x l ih => intro a; simp only [spoilL]; split <;> simp [ih]
theorem spoilT_bd (q : Nat) (v : Int) (s : ByteArray) (t : T) : ∀ a, 0 ≤ a → -1 ≤ (spoilT q v s t a).2 ∧ (spoilT q v s t a).2 ≤ a := by
  induction t using T.ind with
  | _ kind s0 n k ih =>
    have hL : ∀ a, -1 ≤ a → -1 ≤ (spoilL q v s k a).2 ∧ (spoilL q v s k a).2 ≤ a := by
      induction k with
      | nil => intro a h; simp only [spoilL]; omega
      | cons x l ihl =>
        intro a h
        simp only [spoilL]
        split
        · rename_i h0
          have h1 := ih x (by simp) a h0
          have h2 := ihl (fun t ht => ih t (by simp [ht])) (spoilT q v s x a).2 h1.1
          simp only
          omega
        · simp only; omega
    intro a h
    unfold spoilT
    split
    · simp only; omega
    · have := hL (a - 1) (by omega)
      simp only
      omega
theorem spoilL_bd (q : Nat) (v : Int) (s : ByteArray) (l : List T) : ∀ a, -1 ≤ a → -1 ≤ (spoilL q v s l a).2 ∧ (spoilL q v s l a).2 ≤ a := by
  induction l with
  | nil => intro a h; simp only [spoilL]; omega
  | cons x l ihl =>
    intro a h
    simp only [spoilL]
    split
    · rename_i h0
      have h1 := spoilT_bd q v s x a h0
      have h2 := ihl (spoilT q v s x a).2 h1.1
      simp only
      omega
    · simp only; omega
theorem head_kind (q : Nat) (v : Int) (s : ByteArray) (t : T) : (spoilHead q v s t).kind = t.kind ∧ (spoilHead q v s t).k = t.k ∨ ((spoilHead q v s t).kind = 0 ∨ (spoilHead q v s t).kind = 1 ∨ (spoilHead q v s t).kind = 11) ∧ (spoilHead q v s t).k = [] := by
  unfold spoilHead
  split
  · exact .inr ⟨.inl rfl, rfl⟩
  · split
    · exact .inl ⟨rfl, rfl⟩
    · split
      · exact .inl ⟨rfl, rfl⟩
      · split
        · split
          · exact .inr ⟨.inr (.inl rfl), rfl⟩
          · exact .inr ⟨.inr (.inr rfl), rfl⟩
        · exact .inl ⟨rfl, rfl⟩
theorem head_s (q : Nat) (v : Int) (s : ByteArray) (t : T) (h : t.s.size ≤ 2147483648) : (spoilHead q v s t).s.size ≤ 2147483648 := by
  have he : (⟨#[]⟩ : ByteArray).size ≤ 2147483648 := by decide
  unfold spoilHead
  split
  · exact he
  · split
    · have := cutTo_size s 20
      show (cutTo s 20).size ≤ _
      omega
    · split
      · exact h
      · split
        · split
          · exact he
          · exact he
        · exact h
theorem head_n (q : Nat) (v : Int) (s : ByteArray) (t : T) (hv : -9223372036854775808 ≤ v ∧ v ≤ 9223372036854775807) (h : -9223372036854775808 ≤ t.n ∧ t.n ≤ 9223372036854775807) : -9223372036854775808 ≤ (spoilHead q v s t).n ∧ (spoilHead q v s t).n ≤ 9223372036854775807 := by
  unfold spoilHead
  split
  · exact ⟨by decide, by decide⟩
  · split
    · exact h
    · split
      · exact hv
      · split
        · split
          · exact ⟨by decide, by decide⟩
          · exact ⟨by decide, by decide⟩
        · exact h
theorem shaped_iff (t : T) : t.Shaped ↔ (t.kind = 13 ∨ t.kind = 15 ∨ t.kind = 16 → t.k.length = 2) ∧ (t.kind = 14 → t.k.length = 1) ∧ (t.kind = 13 ∨ t.kind = 14 ∨ t.kind = 15 ∨ t.kind = 16 ∨ t.k = []) ∧ -9223372036854775808 ≤ t.n ∧ t.n ≤ 9223372036854775807 ∧ t.s.size ≤ 2147483648 ∧ ShapedL t.k := by
  cases t
  unfold T.Shaped
  exact Iff.rfl
theorem shapedL_of : ∀ {l : List T}, (∀ t ∈ l, t.Shaped) → ShapedL l := by
  intro l
  induction l with
  | nil => intro _; unfold ShapedL; trivial
  | cons x l ih => intro h; unfold ShapedL; exact ⟨h x (by simp), ih (fun t ht => h t (by simp [ht]))⟩
theorem spoilL_all {P : T → Prop} (q : Nat) (v : Int) (s : ByteArray) (l : List T) (h : ∀ t ∈ l, P t ∧ ∀ a, P (spoilT q v s t a).1) : ∀ a, ∀ t ∈ (spoilL q v s l a).1, P t := by
  induction l with
  | nil => intro a t ht; simp [spoilL] at ht
  | cons x l ih =>
    intro a t ht
    simp only [spoilL] at ht
    split at ht
    · simp only [List.mem_cons] at ht
      rcases ht with rfl | ht
      · exact (h x (by simp)).2 a
      · exact ih (fun t ht => h t (by simp [ht])) _ t ht
    · exact (h t ht).1
theorem spoil_shaped (q : Nat) (v : Int) (s : ByteArray) (hv : -9223372036854775808 ≤ v ∧ v ≤ 9223372036854775807) (t : T) : t.Shaped → ∀ a, (spoilT q v s t a).1.Shaped := by
  induction t using T.ind with
  | _ kind s0 n k ih =>
    intro h a
    have h' := (shaped_iff _).1 h
    obtain ⟨h2, h1, h3, hn1, hn2, hs, hk⟩ := h'
    unfold spoilT
    split
    · rw [shaped_iff]
      simp only
      have hs' := head_s q v s (.mk kind s0 n k) hs
      have hn' := head_n q v s (.mk kind s0 n k) hv ⟨hn1, hn2⟩
      rcases head_kind q v s (.mk kind s0 n k) with ⟨e1, e2⟩ | ⟨e1, e2⟩
      · rw [e1, e2]; exact ⟨h2, h1, h3, hn'.1, hn'.2, hs', hk⟩
      · rw [e2]; exact ⟨fun h => by omega, fun h => by omega, .inr (.inr (.inr (.inr rfl))), hn'.1, hn'.2, hs', by unfold ShapedL; trivial⟩
    · rw [shaped_iff]
      have hl := spoilL_len q v s k (a - 1)
      simp only [T.kind, T.k, T.s, T.n] at *
      refine ⟨fun h => by rw [hl]; exact h2 h, fun h => by rw [hl]; exact h1 h, ?_, hn1, hn2, hs, shapedL_of (spoilL_all q v s k (fun t ht => ⟨shapedL_mem hk t ht, ih t ht (shapedL_mem hk t ht)⟩) _)⟩
      rcases h3 with h | h | h | h | h
      · exact .inl h
      · exact .inr (.inl h)
      · exact .inr (.inr (.inl h))
      · exact .inr (.inr (.inr (.inl h)))
      · refine .inr (.inr (.inr (.inr ?_)))
        subst h
        simp [spoilL]
theorem head_cnt (q : Nat) (v : Int) (s : ByteArray) (t : T) : (spoilHead q v s t).cnt ≤ t.cnt := by
  have h1 : 1 ≤ t.cnt := by cases t; unfold T.cnt; omega
  unfold spoilHead
  split
  · simp [T.cnt, cntL]; exact h1
  · split
    · cases t; simp [T.cnt, T.k]
    · split
      · cases t; simp [T.cnt, T.k]
      · split
        · split
          · simp [T.cnt, cntL]; exact h1
          · simp [T.cnt, cntL]; exact h1
        · exact Nat.le_refl _
theorem spoil_cnt (q : Nat) (v : Int) (s : ByteArray) (t : T) : ∀ a, (spoilT q v s t a).1.cnt ≤ t.cnt := by
  induction t using T.ind with
  | _ kind s0 n k ih =>
    have hL : ∀ a, cntL (spoilL q v s k a).1 ≤ cntL k := by
      induction k with
      | nil => intro a; simp [spoilL]
      | cons x l ihl =>
        intro a
        simp only [spoilL]
        split
        · have h1 := ih x (by simp) a
          have h2 := ihl (fun t ht => ih t (by simp [ht])) (spoilT q v s x a).2
          simp only [cntL]
          omega
        · exact Nat.le_refl _
    intro a
    unfold spoilT
    split
    · exact head_cnt q v s _
    · have := hL (a - 1)
      simp only [T.cnt]
      omega
theorem obsL_len (l : List T) : (obsL l).length = l.length := by
  induction l with
  | nil => rfl
  | cons x l ih => simp [obsL, ih]
theorem obsOf_nodes (t : T) : (obsOf t).nodes ≤ t.cnt := by
  induction t using T.ind with
  | _ kind s n k ih =>
    unfold obsOf T.cnt
    split
    · simp [O.nodes]
    · split
      · simp [O.nodes]
      · match k, ih with
        | [], _ => simp [obsL, O.nodes]
        | [a], ih =>
          have h1 := ih a (by simp)
          simp only [obsL, cntL]
          split
          · simp only [O.nodes]; omega
          · simp [O.nodes]
        | [a, b], ih =>
          have h1 := ih a (by simp)
          have h2 := ih b (by simp)
          simp only [obsL, cntL]
          split
          · simp only [O.nodes]; omega
          · split
            · simp only [O.nodes]; omega
            · split
              · simp only [O.nodes]; omega
              · simp [O.nodes]
        | a :: b :: c :: l, _ => simp [obsL, O.nodes]

end Go.Proofs.Ytngjlkdpplmpaaa
