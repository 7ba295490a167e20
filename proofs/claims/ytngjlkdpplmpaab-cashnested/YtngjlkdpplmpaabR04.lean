/- The document's own world in memory: two lists behind a pointer; Fixed and Chosen. -/
import Derived.Test.YtngjlkdpplmpaabKl
import Derived.OwnWalk
namespace Go.Proofs.Ytngjlkdpplmpaab.Wd
open Go.RowKit Go.Maps
set_option linter.unusedVariables false

def rF (F : List ((ByteArray × Int) × Int)) : List Value := F.flatMap fun q => [.string q.1.1, .int .i64 q.1.2, .int .i64 q.2]
def rC (C : List ((ByteArray × ByteArray) × (Int × Int))) : List Value := C.flatMap fun q => [.string q.1.1, .string q.1.2, .int .i64 q.2.1, .int .i64 q.2.2]
theorem rF_app (a b : List ((ByteArray × Int) × Int)) : rF (a ++ b) = rF a ++ rF b := by simp [rF]
theorem rC_app (a b : List ((ByteArray × ByteArray) × (Int × Int))) : rC (a ++ b) = rC a ++ rC b := by simp [rC]
theorem rF_at : ∀ (F : List ((ByteArray × Int) × Int)) (i : Nat) (h : i < F.length), (rF F)[i * 3]? = some (.string F[i].1.1) ∧ (rF F)[i * 3 + 1]? = some (.int .i64 F[i].1.2) ∧ (rF F)[i * 3 + 2]? = some (.int .i64 F[i].2)
  | [], i, h => by simp at h
  | q :: F, 0, _ => by simp [rF]
  | q :: F, i + 1, h => by
    have ih := rF_at F i (by simpa using h)
    have e : rF (q :: F) = [.string q.1.1, .int .i64 q.1.2, .int .i64 q.2] ++ rF F := by simp [rF]
    rw [e, show (i + 1) * 3 = 3 + i * 3 by omega, show 3 + i * 3 + 1 = 3 + (i * 3 + 1) by omega, show 3 + i * 3 + 2 = 3 + (i * 3 + 2) by omega]
    rw [List.getElem?_append_right (by simp), List.getElem?_append_right (by simp), List.getElem?_append_right (by simp)]
    simpa using ih
theorem rC_at : ∀ (F : List ((ByteArray × ByteArray) × (Int × Int))) (i : Nat) (h : i < F.length), (rC F)[i * 4]? = some (.string F[i].1.1) ∧ (rC F)[i * 4 + 1]? = some (.string F[i].1.2) ∧ (rC F)[i * 4 + 2]? = some (.int .i64 F[i].2.1) ∧ (rC F)[i * 4 + 3]? = some (.int .i64 F[i].2.2)
  | [], i, h => by simp at h
  | q :: F, 0, _ => by simp [rC]
  | q :: F, i + 1, h => by
    have ih := rC_at F i (by simpa using h)
    have e : rC (q :: F) = [.string q.1.1, .string q.1.2, .int .i64 q.2.1, .int .i64 q.2.2] ++ rC F := by simp [rC]
    rw [e, show (i + 1) * 4 = 4 + i * 4 by omega, show 4 + i * 4 + 1 = 4 + (i * 4 + 1) by omega, show 4 + i * 4 + 2 = 4 + (i * 4 + 2) by omega, show 4 + i * 4 + 3 = 4 + (i * 4 + 3) by omega]
    rw [List.getElem?_append_right (by simp), List.getElem?_append_right (by simp), List.getElem?_append_right (by simp), List.getElem?_append_right (by simp)]
    simpa using ih

/-- The document's world in memory, from block B on. -/
structure RIn (w : World) (B r : Nat) (K : KW) (vF vC : Value) : Prop where
  blk : w.heap[r]? = some (.cells #[vF, vC] 84)
  rf : w.ownsRow B 150 3 vF K.F.length (rF K.F)
  rc : w.ownsRow B 125 4 vC K.C.length (rC K.C)
  hr : B ≤ r
theorem row_shape {w : World} {B : Nat} {e : TypeId} {size n : Nat} {v : Value} {xs : List Value} (h : w.ownsRow B e size v n xs) : ∃ ao cap, v = .slice ao n cap := by
  rcases h.2 with ⟨rfl, h0⟩ | ⟨g, cap, cur, rfl, _⟩
  · subst h0; exact ⟨_, _, rfl⟩
  · exact ⟨_, _, rfl⟩
theorem row_cells {w : World} {B : Nat} {e : TypeId} {size n : Nat} {v : Value} {xs : List Value} (h : w.ownsRow B e size v n xs) (hn : 0 < n) : ∃ g cap, v = .slice (some ⟨g, 0, none⟩) n cap ∧ g < w.heap.size ∧ ∀ j u, xs[j]? = some u → w.cell? ⟨g, j, none⟩ = some u := by
  have hc := fun g hg => h.cells (g := g) hg
  have hlt := h.lt
  rcases h.2 with ⟨rfl, h0⟩ | ⟨g, cap, cur, rfl, _⟩
  · omega
  · refine ⟨g, cap, rfl, (hlt g rfl).2, fun j u hu => ?_⟩
    have := hc g rfl j u hu
    rw [Addr.add_lit, Nat.zero_add] at this
    exact this

theorem toList_loop (b : ByteArray) : ∀ n i r, b.size - i = n → ByteArray.toList.loop b i r = r.reverse ++ b.data.toList.drop i := by
  have hs : b.data.toList.length = b.size := by simp
  intro n
  induction n with
  | zero =>
    intro i r h
    rw [ByteArray.toList.loop, if_neg (by omega), List.drop_eq_nil_of_le (by omega)]
    simp
  | succ n ih =>
    intro i r h
    have hi : i < b.size := by omega
    rw [ByteArray.toList.loop, if_pos hi, ih (i + 1) _ (by omega), List.drop_eq_getElem_cons (by omega : i < b.data.toList.length)]
    have hg : b.get! i = b.data.toList[i]'(by omega) := by
      cases b with
      | mk d => simp [ByteArray.get!]; exact getElem!_pos d i hi
    simp [hg]
theorem bytes_inj {a b : ByteArray} (h : a.toList = b.toList) : a = b := by
  unfold ByteArray.toList at h
  rw [toList_loop a _ 0 [] rfl, toList_loop b _ 0 [] rfl] at h
  simp at h
  cases a; cases b
  simp at h
  rw [h]
theorem find_first {α β : Type} [DecidableEq α] : ∀ (l : List (α × β)) (p : α) (i : Nat) (q : α × β), l[i]? = some q → q.1 = p → (∀ j (hj : j < l.length), j < i → l[j].1 ≠ p) → (l.find? fun q => decide (q.1 = p)).map (·.2) = some q.2
  | [], p, i, q, h, _, _ => by simp at h
  | x :: l, p, 0, q, h, hq, _ => by
    simp at h
    subst h
    simp [hq]
  | x :: l, p, i + 1, q, h, hq, hn => by
    have h0 := hn 0 (by simp) (by omega)
    simp only [List.getElem_cons_zero] at h0
    rw [List.find?_cons_of_neg (by simpa using h0)]
    refine find_first l p i q (by simpa using h) hq (fun j hj hji => ?_)
    have := hn (j + 1) (by simpa using hj) (by omega)
    simpa using this
theorem hidInW {p : Prop} (h : p) : Hid p := h
set_option maxHeartbeats 2000000 in
set_option maxRecDepth 100000 in
theorem refFixed_any (w : World) (B r : Nat) (K : KW) (vF vC : Value) (h : RIn w B r K vF vC) (s : ByteArray) (d : Int) (hlen : K.F.length ≤ 1000000) :
    Calls Try.prog 62 #[.pointer (some ⟨r, 0, none⟩), .string s, .int .i64 d] w fun e w' => e = .returned (.tuple #[.int .i64 ((K.fixed (s, d)).getD 0), .bool (K.fixed (s, d)).isSome]) ∧ Below w.heap.size w w' := by
  have c0 : w.cell? ⟨r, 0, none⟩ = some vF := cell_blk h.blk rfl
  obtain ⟨ao, cap, rfl⟩ := row_shape h.rf
  have HR : Hid (w.ownsRow B 150 3 (.slice ao K.F.length cap) K.F.length (rF K.F)) := h.rf
  have HK : Hid (K.fixed (s, d) = (K.F.find? fun q => decide (q.1 = (s, d))).map (·.2)) := rfl
  clear h
  generalize hF : K.F = F at *
  go_enter Try.func62, Try.ntmps62
  go_wp2_with fail
  go_loopw [15] (fun s15 wr => ∃ i : Nat, i ≤ F.length ∧ s15 = .int .i64 i ∧ Below w.heap.size w wr ∧ ∀ j (hj : j < F.length), j < i → F[j].1 ≠ (s, d)) (fun s15 _ => F.length - (intOf s15).toNat)
  case atStart => exact ⟨0, by omega, rfl, Below.refl _ _, fun j _ hj => absurd hj (by omega)⟩
  case round =>
    obtain ⟨i, hi, rfl, hb, hno⟩ := hrel
    have HB := hidInW hb
    have HNO := hidInW hno
    clear hb hno
    by_cases hil : i < F.length
    · have a1 : (i : Int) < (F.length : Int) := by omega
      obtain ⟨g, cap', hv, hg, hcl⟩ := row_cells HR.out (by omega)
      simp only [Value.slice.injEq] at hv
      obtain ⟨rfl, _, _⟩ := hv
      obtain ⟨q0, q1, q2⟩ := rF_at F i hil
      have d0 : wr.cell? ⟨g, i * 3, none⟩ = some (.string F[i].1.1) := (HB.out.cell (p := ⟨g, i * 3, none⟩) hg).trans (hcl _ _ q0)
      have d1 : wr.cell? ⟨g, i * 3 + 1, none⟩ = some (.int .i64 F[i].1.2) := (HB.out.cell (p := ⟨g, i * 3 + 1, none⟩) hg).trans (hcl _ _ q1)
      have d2 : wr.cell? ⟨g, i * 3 + 2, none⟩ = some (.int .i64 F[i].2) := (HB.out.cell (p := ⟨g, i * 3 + 2, none⟩) hg).trans (hcl _ _ q2)
      clear hcl q0 q1 q2
      generalize hq : F[i] = q at *
      have hqi : F[i]? = some q := by rw [List.getElem?_eq_getElem hil, hq]
      by_cases e0 : q.1.1.toList = s.toList
      · have e1 : (q.1.1.toList == s.toList) = true := by rw [beq_iff_eq]; exact e0
        have HE0 := hidInW e0
        clear e0
        cases e2 : (q.1.2 == d) with
        | false =>
          go_wp2_with fail
          go_roundw
          case rel =>
            refine ⟨i + 1, by omega, by go_num, below_alloc HB.out _, fun j hj hji => ?_⟩
            by_cases hje : j = i
            · subst hje
              rw [hq]
              intro e
              rw [e] at e2
              simp at e2
            · exact HNO.out j hj (by omega)
          case measure => simp [intOf]; omega
        | true =>
          go_wp2_with fail
          go_ret2
          have hqe : q.1 = (s, d) := Prod.ext (bytes_inj HE0.out) (by simpa using e2)
          have hfd := find_first F (s, d) i q hqi hqe (fun j hj hji => HNO.out j hj hji)
          refine ⟨?_, below_alloc HB.out _⟩
          rw [HK.out, hfd]
          rfl
      · have e1 : (q.1.1.toList == s.toList) = false := by rw [beq_eq_false_iff_ne]; exact e0
        have HE0 := hidInW e0
        clear e0
        go_wp2_with fail
        go_roundw
        case rel =>
          refine ⟨i + 1, by omega, by go_num, below_alloc HB.out _, fun j hj hji => ?_⟩
          by_cases hje : j = i
          · subst hje
            rw [hq]
            intro e
            have := HE0.out
            rw [e] at this
            exact this rfl
          · exact HNO.out j hj (by omega)
        case measure => simp [intOf]; omega
    · have a1 : ¬ (i : Int) < (F.length : Int) := by omega
      go_wp2_with fail
      go_ret2
      refine ⟨?_, HB.out⟩
      have hn : (F.find? fun q => decide (q.1 = (s, d))).map (·.2) = none := by
        rw [find_none]
        intro q hq
        obtain ⟨j, hj, rfl⟩ := List.getElem_of_mem hq
        exact HNO.out j hj (by omega)
      rw [HK.out, hn]
      rfl

set_option maxHeartbeats 2000000 in
set_option maxRecDepth 100000 in
theorem refChosen_any (w : World) (B r : Nat) (K : KW) (vF vC : Value) (h : RIn w B r K vF vC) (s d : ByteArray) (hlen : K.C.length ≤ 1000000) :
    Calls Try.prog 40 #[.pointer (some ⟨r, 0, none⟩), .string s, .string d] w fun e w' => e = .returned (.tuple #[.int .i64 ((K.chosen (s, d)).getD (0, 0)).1, .int .i64 ((K.chosen (s, d)).getD (0, 0)).2, .bool (K.chosen (s, d)).isSome]) ∧ Below w.heap.size w w' := by
  have c0 : w.cell? ⟨r, 1, none⟩ = some vC := cell_blk h.blk rfl
  obtain ⟨ao, cap, rfl⟩ := row_shape h.rc
  have HR : Hid (w.ownsRow B 125 4 (.slice ao K.C.length cap) K.C.length (rC K.C)) := h.rc
  have HK : Hid (K.chosen (s, d) = (K.C.find? fun q => decide (q.1 = (s, d))).map (·.2)) := rfl
  clear h
  generalize hF : K.C = F at *
  go_enter Try.func40, Try.ntmps40
  go_wp2_with fail
  go_loopw [16] (fun s15 wr => ∃ i : Nat, i ≤ F.length ∧ s15 = .int .i64 i ∧ Below w.heap.size w wr ∧ ∀ j (hj : j < F.length), j < i → F[j].1 ≠ (s, d)) (fun s15 _ => F.length - (intOf s15).toNat)
  case atStart => exact ⟨0, by omega, rfl, Below.refl _ _, fun j _ hj => absurd hj (by omega)⟩
  case round =>
    obtain ⟨i, hi, rfl, hb, hno⟩ := hrel
    have HB := hidInW hb
    have HNO := hidInW hno
    clear hb hno
    by_cases hil : i < F.length
    · have a1 : (i : Int) < (F.length : Int) := by omega
      obtain ⟨g, cap', hv, hg, hcl⟩ := row_cells HR.out (by omega)
      simp only [Value.slice.injEq] at hv
      obtain ⟨rfl, _, _⟩ := hv
      obtain ⟨q0, q1, q2, q3⟩ := rC_at F i hil
      have d0 : wr.cell? ⟨g, i * 4, none⟩ = some (.string F[i].1.1) := (HB.out.cell (p := ⟨g, i * 4, none⟩) hg).trans (hcl _ _ q0)
      have d1 : wr.cell? ⟨g, i * 4 + 1, none⟩ = some (.string F[i].1.2) := (HB.out.cell (p := ⟨g, i * 4 + 1, none⟩) hg).trans (hcl _ _ q1)
      have d2 : wr.cell? ⟨g, i * 4 + 2, none⟩ = some (.int .i64 F[i].2.1) := (HB.out.cell (p := ⟨g, i * 4 + 2, none⟩) hg).trans (hcl _ _ q2)
      have d3 : wr.cell? ⟨g, i * 4 + 3, none⟩ = some (.int .i64 F[i].2.2) := (HB.out.cell (p := ⟨g, i * 4 + 3, none⟩) hg).trans (hcl _ _ q3)
      clear hcl q0 q1 q2 q3
      generalize hq : F[i] = q at *
      have hqi : F[i]? = some q := by rw [List.getElem?_eq_getElem hil, hq]
      by_cases e0 : q.1.1.toList = s.toList
      · have e1 : (q.1.1.toList == s.toList) = true := by rw [beq_iff_eq]; exact e0
        have HE0 := hidInW e0
        clear e0
        by_cases e3 : q.1.2.toList = d.toList
        rotate_left
        · have e2 : (q.1.2.toList == d.toList) = false := by rw [beq_eq_false_iff_ne]; exact e3
          have HE3 := hidInW e3
          clear e3
          go_wp2_with fail
          go_roundw
          case rel =>
            refine ⟨i + 1, by omega, by go_num, below_alloc HB.out _, fun j hj hji => ?_⟩
            by_cases hje : j = i
            · subst hje
              rw [hq]
              intro e
              have := HE3.out
              rw [e] at this
              exact this rfl
            · exact HNO.out j hj (by omega)
          case measure => simp [intOf]; omega
        · have e2 : (q.1.2.toList == d.toList) = true := by rw [beq_iff_eq]; exact e3
          have HE3 := hidInW e3
          clear e3
          go_wp2_with fail
          go_region
          go_wp2_with fail
          go_ret3
          have hqe : q.1 = (s, d) := Prod.ext (bytes_inj HE0.out) (bytes_inj HE3.out)
          have hfd := find_first F (s, d) i q hqi hqe (fun j hj hji => HNO.out j hj hji)
          refine ⟨?_, (below_alloc HB.out _).drew⟩
          rw [HK.out, hfd]
          rfl
      · have e1 : (q.1.1.toList == s.toList) = false := by rw [beq_eq_false_iff_ne]; exact e0
        have HE0 := hidInW e0
        clear e0
        go_wp2_with fail
        go_roundw
        case rel =>
          refine ⟨i + 1, by omega, by go_num, below_alloc HB.out _, fun j hj hji => ?_⟩
          by_cases hje : j = i
          · subst hje
            rw [hq]
            intro e
            have := HE0.out
            rw [e] at this
            exact this rfl
          · exact HNO.out j hj (by omega)
        case measure => simp [intOf]; omega
    · have a1 : ¬ (i : Int) < (F.length : Int) := by omega
      go_wp2_with fail
      go_ret3
      refine ⟨?_, HB.out⟩
      have hn : (F.find? fun q => decide (q.1 = (s, d))).map (·.2) = none := by
        rw [find_none]
        intro q hq
        obtain ⟨j, hj, rfl⟩ := List.getElem_of_mem hq
        exact HNO.out j hj (by omega)
      rw [HK.out, hn]
      rfl

end Go.Proofs.Ytngjlkdpplmpaab.Wd
