/- The document's own answers on texts: their runes, names and numbers. -/
import Derived.Test.YtpopboanflnphaaWakes
import Derived.Test.YtpopboanflnphaaUtf
namespace Go.Proofs.Ytpopboanflnphaa
open Go.RowKit
set_option linter.unusedVariables false

/-! ### runes -/
def RInv (K : Nat) (w : World) (s : ByteArray) (pos : Nat) (run : List Int) (u : Value) (wr : World) : Prop :=
  wr.heap[K]? = some (.stringIter s pos) ∧ wr.ownsRow (K + 1) 21 1 u run.length (runCells run) ∧ Below K w wr ∧ K + 1 ≤ wr.heap.size

theorem RInv.iter {K : Nat} {w : World} {s : ByteArray} {pos : Nat} {run : List Int} {u : Value} {wr : World} (h : RInv K w s pos run u wr) (pos' : Nat) : RInv K w s pos' run u (wr.iterAt K s pos') := by
  obtain ⟨h1, h3, h4, h5⟩ := h
  exact ⟨Lib.iterAt_heap wr K s pos pos' h1, ownsRow_iterAt h3 (by omega) s pos', Lib.below_iterAt h4 (Nat.le_refl _) s pos', by rw [Lib.iterAt_size]; exact h5⟩
theorem RInv.alloc {K : Nat} {w : World} {s : ByteArray} {pos : Nat} {run : List Int} {u : Value} {wr : World} (h : RInv K w s pos run u wr) (o : Obj) : RInv K w s pos run u (wr.alloc o) := by
  obtain ⟨h1, h3, h4, h5⟩ := h
  exact ⟨(heap_alloc_old wr o (by omega)).trans h1, h3.alloc o, h4.alloc (by omega) o, by simp; omega⟩
theorem RInv.run {K : Nat} {w : World} {s : ByteArray} {pos : Nat} {run run' : List Int} {u u' : Value} {wr w1 : World} (h : RInv K w s pos run u wr)
    (hu' : w1.ownsRow (K + 1) 21 1 u' run'.length (runCells run')) (hg : wr.grownBy w1 u.ownBlock) : RInv K w s pos run' u' w1 := by
  obtain ⟨h1, h3, h4, h5⟩ := h
  exact ⟨iter_kept h1 h3 (by omega) hg, hu', below_kept h4 h5 h3 (by omega) hg, by have := hg.size; omega⟩

theorem ownsRow_lower {w : World} {B B' : Nat} {e : TypeId} {size : Nat} {v : Value} {n : Nat} {xs : List Value} (h : w.ownsRow B e size v n xs) (hB : B' ≤ B) : w.ownsRow B' e size v n xs := by
  refine ⟨h.1, ?_⟩
  rcases h.2 with h | ⟨g, cap, cur, h1, h2, h3⟩
  · exact .inl h
  · exact .inr ⟨g, cap, cur, h1, by omega, h3⟩

set_option maxHeartbeats 1000000 in
set_option maxRecDepth 100000 in
theorem refRunes_any (s : ByteArray) (w : World) (hs : s.size ≤ 2147483648) :
    Calls Try.prog 27 #[.string s] w fun e w' => ∃ v, e = .returned v ∧ w'.ownsRow w.heap.size 21 1 v (runesOf s).length (runCells (runesOf s)) ∧ Below w.heap.size w w' := by
  obtain ⟨i1, gi, gz0, gz1, gz2⟩ := info_parts Try.info21
  go_enter Try.func27, Try.ntmps27
  go_wp2
  go_loopw [3] (fun u wr => ∃ (pos : Nat) (run : List Int), RInv w.heap.size w s pos run u wr ∧ run.length + (rest s pos).length ≤ s.size ∧ run ++ rest s pos = runesOf s) (fun _ w' => s.size - w'.iterPos w.heap.size)
  case atStart =>
    refine ⟨0, [], ⟨?_, World.ownsRow_nil _ _ _ _, below_iter _ _ _, ?_⟩, by have := rest_length s 0; simpa using this, rfl⟩
    · exact World.iter_heap w s 0
    · simp [World.iter]
  case round =>
    obtain ⟨pos, run, hinv, hps, hc⟩ := hrel
    by_cases hp : pos < s.size
    · have hwd := width_pos s pos hp
      have hst := rest_step s pos hp
      rw [hst] at hps hc
      simp only [List.length_cons] at hps
      have HC : Hid (run ++ (((Utf8.decode s pos).1 : Int) :: rest s (pos + (Utf8.decode s pos).2)) = runesOf s) := hc
      have HS : Hid (run.length + ((rest s (pos + (Utf8.decode s pos).2)).length + 1) ≤ s.size) := hps
      have hp1 : run.length + 1 ≤ s.size := by omega
      obtain ⟨wr2, hw2⟩ : ∃ x, x = wr.iterAt w.heap.size s (pos + (Utf8.decode s pos).2) := ⟨_, rfl⟩
      have hnx : ∀ ty, (Instr.next (.pointer (some ⟨w.heap.size, 0, none⟩)) true ty).run Try.prog wr = .ok (.tuple #[.bool true, .int .i64 pos, .int .i32 (Utf8.decode s pos).1]) wr2 := fun ty => by rw [hw2]; exact Lib.run_next_any_at wr w.heap.size s pos ty hinv.1 hp
      have hinv2 := hinv.iter (pos + (Utf8.decode s pos).2)
      rw [← hw2] at hinv2
      have hpos : Hid (wr.iterPos w.heap.size = pos) := iterPos_of hinv.1
      clear hc hst hps hw2 hinv
      generalize hr : ((Utf8.decode s pos).1 : Int) = r at *
      generalize hwi : (Utf8.decode s pos).2 = wi at *
      clear hr hwi
      go_wp2_with (at_builtin; refine wpList_append_own _ rfl _ _ 48 rfl (w.heap.size + 1) 21 i1 (.int .i32 0) 1 4 Try.underlying48 gi gz0 gz1 gz2 rfl (by decide) _ _ _ rfl (hinv2.2.1.alloc _) ⟨wr2.heap.size, 0, none⟩ 1 1 [.int .i32 r] rfl rfl (cell_one_at wr2 _ _) (by intro u hu; simp at hu; subst hu; rfl) (by unfold maxLen; omega) (by omega) (by have := hinv2.2.2.2; simp; omega) ?_; intro u' w1 hown' hgrow _)
      have hown2 : w1.ownsRow (w.heap.size + 1) 21 1 u' (run ++ [r]).length (runCells (run ++ [r])) := by simpa [runCells] using hown'
      have hinv3 := (hinv2.alloc _).run hown2 hgrow
      go_roundw
      case rel => exact ⟨pos + wi, run ++ [r], hinv3, by have := HS.out; simp; omega, by rw [← HC.out]; simp⟩
      case measure => have := iterPos_of hinv3.1; have := hpos.out; omega
    · have hnx : ∀ ty, (Instr.next (.pointer (some ⟨w.heap.size, 0, none⟩)) true ty).run Try.prog wr = _ := fun ty => Lib.run_next_end_at wr w.heap.size s pos ty hinv.1 hp
      rw [rest_end s pos hp, List.append_nil] at hc
      subst hc
      go_wp2
      go_ret
      exact ⟨_, rfl, ownsRow_lower hinv.2.1 (by omega), hinv.2.2.1⟩

/-! ### names -/
def fname (rs : List Int) : Bool := rs.all letB && !(rs.headD 0 |> digB) && decide (1 ≤ rs.length) && decide (rs.length ≤ 12)

theorem nameGo_tail (rs : List Int) : ∀ c : Nat, 1 ≤ c → c ≤ 12 → nameGo c rs = (rs.all letB && decide (c + rs.length ≤ 12)) := by
  induction rs with
  | nil => intro c h1 h2; simp [nameGo]; omega
  | cons r rs ih =>
    intro c h1 h2
    cases hl : letB r
    · rw [nameGo_no _ _ _ (by simp [hl])]; simp [hl]
    · by_cases h12 : c = 12
      · subst h12
        rw [nameGo_no _ _ _ (by simp)]
        simp
      · rw [nameGo_yes c r rs hl (by simp; omega) (by simpa using h12), ih (c + 1) (by omega) (by omega)]
        simp only [List.all_cons, hl, Bool.true_and, List.length_cons]
        congr 1
        rw [Bool.eq_iff_iff]; simp; omega

theorem nameGo_fname (rs : List Int) : nameGo 0 rs = fname rs := by
  cases rs with
  | nil => simp [nameGo, fname]
  | cons r rs =>
    cases hl : letB r
    · rw [nameGo_no _ _ _ (by simp [hl])]; simp [fname, hl]
    · cases hd : digB r
      · rw [nameGo_yes 0 r rs hl (by simp [hd]) (by rfl), nameGo_tail rs 1 (by omega) (by omega)]
        simp only [fname, List.all_cons, hl, Bool.true_and, List.headD_cons, hd, Bool.not_false, Bool.and_true, List.length_cons]
        simp
        congr 1
        rw [Bool.eq_iff_iff]; simp; omega
      · rw [nameGo_no _ _ _ (by simp [hd])]; simp [fname, hd]

end Go.Proofs.Ytpopboanflnphaa
