/- What read.Term and read.Obs answer, of whatever text. -/
import Derived.Test.YtbppkklfjmpgiaaReadT
namespace Go.Proofs.Ytbppkklfjmpgiaa
open Go.RowKit
set_option linter.unusedVariables false

theorem enc_size (r : Int) : (Utf8.encode r).size ≤ 4 := by
  unfold Utf8.encode
  generalize (if Utf8.valid r = true then r.toNat else Utf8.runeError) = c
  simp only []
  split
  · show 1 ≤ 4; omega
  · split
    · show 2 ≤ 4; omega
    · split
      · show 3 ≤ 4; omega
      · show 4 ≤ 4; omega
theorem runesB_size (l : List Int) : (runesBytes l).size ≤ 4 * l.length := by
  have key : ∀ (l : List Int) (a : ByteArray), (l.foldl (fun r n => r ++ Utf8.encode n) a).size ≤ a.size + 4 * l.length := by
    intro l
    induction l with
    | nil => intro a; simp
    | cons x l ih =>
      intro a
      have h := ih (a ++ Utf8.encode x)
      have h2 := enc_size x
      rw [ByteArray.size_append] at h
      simp only [List.foldl_cons, List.length_cons]
      omega
  have h := key l ByteArray.empty
  simpa [runesBytes] using h
theorem endR_small (l : List Rn.Sg) (run : List Int) (e : Int) (N : Nat) (hl : ∀ x ∈ l, x.1.size ≤ 4 * N + 4) (hr : run.length ≤ N) : ∀ x ∈ Rn.endR l run e, x.1.size ≤ 4 * N + 4 := by
  unfold Rn.endR
  split
  · exact hl
  · intro x hx
    rcases List.mem_append.1 hx with h | h
    · exact hl x h
    · rw [List.mem_singleton] at h
      subst h
      have := runesB_size run
      show (runesBytes run).size ≤ _
      omega
theorem cut_small (rs : List Int) : ∀ (l : List Rn.Sg) (run : List Int) (p N : Nat), (∀ x ∈ l, x.1.size ≤ 4 * N + 4) → run.length + rs.length ≤ N → ∀ x ∈ Rn.cutGo l run p rs, x.1.size ≤ 4 * N + 4 := by
  induction rs with
  | nil => intro l run p N hl hr; exact endR_small l run _ N hl (by simpa using hr)
  | cons r rs ih =>
    intro l run p N hl hr
    simp only [List.length_cons] at hr
    unfold Rn.cutGo
    split
    · exact ih l (run ++ [r]) (p + 1) N hl (by simp; omega)
    · split
      · refine ih _ [] (p + 1) N ?_ (by simp; omega)
        intro x hx
        rcases List.mem_append.1 hx with h | h
        · exact endR_small l run _ N hl (by omega) x h
        · rw [List.mem_singleton] at h
          subst h
          have := enc_size r
          show (Utf8.encode r).size ≤ _
          omega
      · exact ih _ [] (p + 1) N (endR_small l run _ N hl (by omega)) (by simp; omega)
theorem sg_small (s : ByteArray) (hs : s.size ≤ 1000) : ∀ x ∈ Rn.sgOf s, x.1.size ≤ 2147483648 := by
  intro x hx
  have h1 := rest_length s 0
  have h2 := cut_small (runesOf s) [] [] 0 (runesOf s).length (by simp) (by simp) x hx
  have h3 : (runesOf s).length ≤ s.size := by unfold runesOf; omega
  omega
theorem sg_cell {w : World} {B : Nat} {e : TypeId} {v : Value} {l : List Rn.Sg} (h : w.ownsRow B e 2 v l.length (Rn.sgCells l)) : ∃ ao cap, v = .slice ao l.length cap ∧ l.length ≤ cap ∧ cap ≤ 9223372036854775807 ∧ ∀ k x, l[k]? = some x → ∃ g, ao = some ⟨g, 0, none⟩ ∧ g < w.heap.size ∧ w.cell? ⟨g, k * 2, none⟩ = some (.string x.1) ∧ w.cell? ⟨g, k * 2 + 1, none⟩ = some (.int .i64 x.2) := by
  have hcs : ∀ (l : List Rn.Sg) k x, l[k]? = some x → (Rn.sgCells l)[k * 2]? = some (.string x.1) ∧ (Rn.sgCells l)[k * 2 + 1]? = some (.int .i64 x.2) := by
    intro l
    induction l with
    | nil => intro k x hk; simp at hk
    | cons a l ih =>
      intro k x hk
      have e : Rn.sgCells (a :: l) = .string a.1 :: .int .i64 a.2 :: Rn.sgCells l := by simp [Rn.sgCells]
      rw [e]
      cases k with
      | zero => simp at hk; subst hk; exact ⟨rfl, rfl⟩
      | succ k =>
        have := ih k x (by simpa using hk)
        rw [show (k + 1) * 2 = k * 2 + 1 + 1 by omega]
        simpa using this
  have h' := h
  rcases h.2 with ⟨rfl, h0⟩ | ⟨g, cap, cur, rfl, hb, hg, hnc, hcm, _⟩
  · exact ⟨none, 0, by rw [h0], by omega, by omega, fun k x hk => by
      have := (List.getElem?_eq_some_iff.1 hk).1
      omega⟩
  · refine ⟨some ⟨g, 0, none⟩, cap, rfl, hnc, by unfold maxLen at hcm; omega, fun k x hk => ?_⟩
    have hlt := (List.getElem?_eq_some_iff.1 hk).1
    exact ⟨g, rfl, (Array.getElem?_eq_some_iff.1 hg).1, by rw [h'.cellAt _ (by omega)]; exact (hcs l k x hk).1, by rw [h'.cellAt _ (by omega)]; exact (hcs l k x hk).2⟩

theorem decode_fits (s : ByteArray) (i : Nat) (h : i < s.size) : i + (Utf8.decode s i).2 ≤ s.size := by
  unfold Utf8.decode
  simp only []
  split
  · show i + 1 ≤ _; omega
  · split
    · rename_i hc
      simp only [Bool.and_eq_true, decide_eq_true_eq, beq_iff_eq] at hc
      split
      · show i + 2 ≤ _; omega
      · show i + 1 ≤ _; omega
    · split
      · rename_i hc
        simp only [Bool.and_eq_true, decide_eq_true_eq, beq_iff_eq] at hc
        split
        · show i + 3 ≤ _; omega
        · show i + 1 ≤ _; omega
      · split
        · rename_i hc
          simp only [Bool.and_eq_true, decide_eq_true_eq, beq_iff_eq] at hc
          split
          · show i + 4 ≤ _; omega
          · show i + 1 ≤ _; omega
        · show i + 1 ≤ _; omega
set_option maxHeartbeats 1000000 in
set_option maxRecDepth 100000 in
theorem count_any (s : ByteArray) (w : World) (hs : s.size ≤ 1000) :
    Calls Try.prog 38 #[.string s] w fun e w' => e = .returned (.int .i64 ((runesOf s).length : Int)) ∧ ∃ pos, w' = w.iter s pos := by
  go_enter Try.func38, Try.ntmps38
  go_wp2
  go_loopw [3] (fun n w' => ∃ (pos p : Nat), p ≤ pos ∧ pos ≤ s.size ∧ w' = w.iter s pos ∧ n = .int .i64 p ∧ p + (rest s pos).length = (runesOf s).length) (fun _ w' => s.size - w'.iterPos w.heap.size)
  case atStart => exact ⟨0, 0, by omega, by omega, rfl, rfl, by show 0 + (rest s 0).length = (rest s 0).length; omega⟩
  case round =>
    obtain ⟨pos, p, hpp, hps, rfl, rfl, hc⟩ := hrel
    by_cases hp : pos < s.size
    · have hwd := width_pos s pos hp
      have hst := rest_step s pos hp
      have hle := decode_fits s pos hp
      have HC : Hid (p + 1 + (rest s (pos + (Utf8.decode s pos).2)).length = (runesOf s).length) := by rw [← hc, hst]; show _ = _; simp; omega
      clear hc hst
      have hnx : ∀ ty, (Instr.next (.pointer (some ⟨w.heap.size, 0, none⟩)) true ty).run Try.prog (w.iter s pos) = _ := fun ty => run_next_any w s pos ty hp
      generalize hr : ((Utf8.decode s pos).1 : Int) = r at *
      generalize hwi : (Utf8.decode s pos).2 = wi at *
      clear hr hwi
      go_wp2_with fail
      go_roundw
      case rel => exact ⟨pos + wi, p + 1, by omega, by omega, rfl, by go_num, HC.out⟩
      case measure => simp; omega
    · have hnx : ∀ ty, (Instr.next (.pointer (some ⟨w.heap.size, 0, none⟩)) true ty).run Try.prog (w.iter s pos) = _ := fun ty => run_next_end w s pos ty hp
      rw [rest_end s pos hp] at hc
      have HC2 : Hid (p = (runesOf s).length) := hc
      clear hc
      go_wp2
      go_ret
      refine ⟨ret_int ?_, _, rfl⟩
      rw [← HC2.out]
/-- A reader, opened on a text. -/
def openR (s : ByteArray) : RS :=
  if 1000 < s.size then ⟨[], 0, 0, 5⟩ else if Rn.badOf s ≠ 0 then ⟨[], 0, (Rn.badOf s : Int), 2⟩ else ⟨Rn.sgOf s, ((runesOf s).length : Int) + 1, 0, 0⟩
theorem rin_none {w : World} {R : Nat} {p a e : Int} (hb : Blk w R 88 #[.slice none 0 0, .int .i64 p, .int .i64 a, .int .i64 e]) : RIn w R ⟨[], p, a, e⟩ :=
  ⟨none, 0, hb, by simp, by omega, fun j x hj => by simp at hj⟩

set_option maxHeartbeats 2000000 in
set_option maxRecDepth 100000 in
theorem ropen_any (s : ByteArray) (w : World) (hs : s.size ≤ 140737488351232) :
    Calls Try.prog 21 #[.string s] w fun e w' => ∃ R, e = .returned (.pointer (some ⟨R, 0, none⟩)) ∧ w.heap.size ≤ R ∧ RIn w' R (openR s) ∧ Below w.heap.size w w' := by
  go_enter Try.func21, Try.ntmps21
  by_cases h1 : 1000 < s.size
  · have h1' : (1000 : Int) < (s.size : Int) := by omega
    have HO : Hid (openR s = ⟨[], 0, 0, 5⟩) := by show _ = _; unfold openR; rw [if_pos h1]
    go_wp2_with fail
    go_ret
    exact ⟨_, rfl, Nat.le_refl _, by rw [HO.out]; exact rin_none (blk_new rfl), below_alloc (Below.refl _ _) _⟩
  · have h1' : ¬ (1000 : Int) < (s.size : Int) := by omega
    by_cases h2 : Rn.badOf s = 0
    · have HO : Hid (openR s = ⟨Rn.sgOf s, ((runesOf s).length : Int) + 1, 0, 0⟩) := by show _ = _; unfold openR; rw [if_neg h1, if_neg (by simpa using h2)]
      have HSM := hidIn (sg_small s (by omega))
      have HRL : Hid ((runesOf s).length ≤ 1000) := by have := rest_length s 0; show (rest s 0).length ≤ _; omega
      go_wp2_with fail
      refine (Rn.signs_ok s w (by omega) h2).mono ?_
      rintro e w1 ⟨v, rfl, hown, hb1⟩
      obtain ⟨ao, cap, rfl, hc1, hc2, hcs⟩ := sg_cell hown
      have HCS := hidIn hcs
      have HB1 := hidIn hb1
      have HCC : Hid ((Rn.sgOf s).length ≤ cap ∧ cap ≤ 9223372036854775807) := ⟨hc1, hc2⟩
      clear hown hcs hb1 hc1 hc2
      go_wp2_with fail
      refine (count_any s w1 (by omega)).mono ?_
      rintro e w2 ⟨rfl, pos, rfl⟩
      have HB2 := hidIn (below_iter w1 s pos)
      have hrl := HRL.out
      generalize w1.iter s pos = w2 at *
      go_wp2_with fail
      go_ret
      refine ⟨_, rfl, Nat.le_trans HB1.out.size HB2.out.size, ?_, below_alloc (HB1.out.trans (HB2.out.mono HB1.out.size)) _⟩
      rw [HO.out]
      refine ⟨ao, cap, blk_new rfl, HCC.out.1, HCC.out.2, ?_⟩
      intro j x hj
      obtain ⟨g, rfl, hg, q0, q1⟩ := HCS.out j x hj
      have hb3 := below_alloc HB2.out (.cells #[.slice (some ⟨g, 0, none⟩) (Rn.sgOf s).length cap, .int .i64 (((runesOf s).length : Int) + 1), .int .i64 0, .int .i64 0] 88)
      refine ⟨g, 0, rfl, Nat.lt_of_lt_of_le hg HB2.out.size, by simp; have := HB2.out.size; omega, ?_, ?_, HSM.out x (List.mem_of_getElem? hj)⟩
      · rw [Nat.zero_add]; exact (hb3.cell (p := ⟨g, j * 2, none⟩) hg).trans q0
      · rw [Nat.zero_add]; exact (hb3.cell (p := ⟨g, j * 2 + 1, none⟩) hg).trans q1
    · have HO : Hid (openR s = ⟨[], 0, (Rn.badOf s : Int), 2⟩) := by show _ = _; unfold openR; rw [if_neg h1, if_pos h2]
      go_wp2_with fail
      refine (Rn.signs_bad s w (by unfold maxLen; omega) h2).mono ?_
      rintro e w1 ⟨rfl, hb1⟩
      have h2' : ((Rn.badOf s : Nat) : Int) ≠ 0 := by omega
      have h2n : (((Rn.badOf s : Nat) : Int) == 0) = false := beq_eq_false_iff_ne.2 h2'
      have HB1 := hidIn hb1
      clear hb1 h2
      generalize hbd : Rn.badOf s = bd at *
      go_wp2_with fail
      go_ret
      exact ⟨_, rfl, HB1.out.size, by rw [HO.out]; exact rin_none (blk_new rfl), below_alloc HB1.out _⟩

end Go.Proofs.Ytbppkklfjmpgiaa
