/- Same of lists of signs; and what the statement RunesJoin builds, in plain mathematics. -/
import Derived.Test.YtpopboanflnphaaTellWalk
import Derived.Test.YtpopboanflnphaaBadWalk
namespace Go.Proofs.Ytpopboanflnphaa
open Go.RowKit
set_option linter.unusedVariables false

set_option maxHeartbeats 1000000 in
set_option maxRecDepth 100000 in
theorem same_any (l : List Sg) (v v' : Value) (B B' : Nat) (w : World) (hown : w.ownsRow B 28 2 v l.length (sgCells l)) (hown' : w.ownsRow B' 28 2 v' l.length (sgCells l)) :
    Calls Try.prog 12 #[v, v'] w fun e w' => e = .returned (.bool true) ∧ Below w.heap.size w w' := by
  obtain ⟨ao, cap, hv⟩ := row_shape hown
  obtain ⟨ao', cap', hv'⟩ := row_shape hown'
  have hc := sg_cell hown
  have hc' := sg_cell hown'
  subst hv hv'
  have HC : Hid (∀ k (hk : k < l.length), ∃ g g', ao = some ⟨g, 0, none⟩ ∧ ao' = some ⟨g', 0, none⟩ ∧ g < w.heap.size ∧ g' < w.heap.size ∧ w.cell? ⟨g, k * 2, none⟩ = some (.string l[k].1) ∧ w.cell? ⟨g, k * 2 + 1, none⟩ = some (.int .i64 l[k].2) ∧ w.cell? ⟨g', k * 2, none⟩ = some (.string l[k].1) ∧ w.cell? ⟨g', k * 2 + 1, none⟩ = some (.int .i64 l[k].2)) := by
    intro k hk
    obtain ⟨g, c1, e1, gl, e2, e3⟩ := hc k hk
    obtain ⟨g', c1', e1', gl', e2', e3'⟩ := hc' k hk
    injection e1 with f1
    injection e1' with f1'
    exact ⟨g, g', f1, f1', gl, gl', e2, e3, e2', e3'⟩
  have hll : l.length ≤ 9223372036854775807 := by
    rcases hown.2 with ⟨_, h⟩ | ⟨_, _, _, _, _, _, h1, h2, _⟩
    · omega
    · unfold maxLen at h2; omega
  clear hc hc' hown hown'
  go_enter Try.func12, Try.ntmps12
  go_wp2_with fail
  go_loopw [5] (fun i wr => ∃ k : Nat, k ≤ l.length ∧ i = .int .i64 k ∧ Below w.heap.size w wr) (fun i _ => l.length - (intOf i).toNat)
  case atStart => exact ⟨0, by omega, rfl, Below.refl _ _⟩
  case round =>
    obtain ⟨k, hk, rfl, hbr⟩ := hrel
    by_cases hlt : k < l.length
    · have hlt' : (k : Int) < (l.length : Int) := by omega
      obtain ⟨g, g', f1, f2, gl, gl', c1, c2, c3, c4⟩ := HC.out k hlt
      subst f1 f2
      rw [← hbr.cell (p := ⟨g, k * 2, none⟩) gl] at c1
      rw [← hbr.cell (p := ⟨g, k * 2 + 1, none⟩) gl] at c2
      rw [← hbr.cell (p := ⟨g', k * 2, none⟩) gl'] at c3
      rw [← hbr.cell (p := ⟨g', k * 2 + 1, none⟩) gl'] at c4
      generalize l[k].1 = tx at *
      generalize l[k].2 = pl at *
      go_wp2_with fail
      go_quiet (fail)
      go_wp2_with fail
      go_roundw
      case rel => exact ⟨k + 1, by omega, by go_num, below_drewN hbr _⟩
      case measure => simp [intOf]; omega
    · have hkl : ¬ (k : Int) < (l.length : Int) := by omega
      go_wp2_with fail
      go_ret
      exact ⟨rfl, hbr⟩

/-! ### what is joined -/
def JInv (RS : List Int) (want : List Sg) : Prop := (∀ r ∈ RS, Utf8.valid r = true ∧ okR r = true) ∧ ∀ tail, cutGo [] [] 0 (RS ++ tail) = cutGo want [] RS.length tail

theorem cutGo_blanks (want : List Sg) (k : Nat) : ∀ (p : Nat) (tail : List Int), cutGo want [] p (List.replicate k 32 ++ tail) = cutGo want [] (p + k) tail := by
  induction k with
  | zero => intro p tail; rfl
  | succ k ih =>
    intro p tail
    rw [List.replicate_succ, List.cons_append, cutGo_skip _ _ _ _ _ (by decide) (by decide), show endR want [] ((p + 1 : Nat) : Int) = want from by simp [endR], ih]
    rw [show p + 1 + k = p + (k + 1) by omega]
theorem cutGo_word (want : List Sg) (ws : List Int) : ∀ (run : List Int) (p : Nat) (tail : List Int), (∀ r ∈ ws, joinB r = true) → cutGo want run p (ws ++ tail) = cutGo want (run ++ ws) (p + ws.length) tail := by
  induction ws with
  | nil => intro run p tail _; simp
  | cons r ws ih =>
    intro run p tail h
    rw [List.cons_append, cutGo_join _ _ _ _ _ (h r (by simp)), ih _ _ _ (fun x hx => h x (by simp [hx]))]
    simp only [List.append_assoc, List.length_cons, List.cons_append, List.nil_append]
    rw [show p + 1 + ws.length = p + (ws.length + 1) by omega]

theorem join_step (RS : List Int) (want : List Sg) (q : Nat) (W : List Int) (m : Int) (h : JInv RS want) (hne : W ≠ []) (hW : ∀ r ∈ W, Utf8.valid r = true ∧ letB r = true) (hm : m = 40 ∨ m = 41 ∨ m = 44) :
    JInv (((RS ++ List.replicate q 32) ++ W) ++ [m]) (want ++ [(runesBytes W, ((RS.length + q : Nat) : Int) + 1)] ++ [(Utf8.encode m, ((RS.length + q + W.length : Nat) : Int) + 1)]) := by
  have hmk : markB m = true ∧ joinB m = false ∧ Utf8.valid m = true := by rcases hm with rfl | rfl | rfl <;> decide
  constructor
  · intro r hr
    simp only [List.mem_append, List.mem_replicate, List.mem_singleton] at hr
    rcases hr with ((h1 | h1) | h1) | h1
    · exact h.1 r h1
    · rw [h1.2]; decide
    · exact ⟨(hW r h1).1, okR_let r (hW r h1).2⟩
    · rw [h1]; exact ⟨hmk.2.2, by simp [okR, hmk.1]⟩
  · intro tail
    rw [List.append_assoc, List.append_assoc, List.append_assoc, h.2, cutGo_blanks, cutGo_word _ _ _ _ _ (fun r hr => by simp [joinB, (hW r hr).2]), List.nil_append, List.singleton_append, cutGo_mark _ _ _ _ _ hmk.2.1 hmk.1]
    unfold endR
    rw [if_neg hne]
    congr 1
    · congr 1
      · congr 3
        omega
    · simp; omega

theorem join_end (RS : List Int) (want : List Sg) (h : JInv RS want) : badOf (runesBytes RS ++ ⟨#[32, 32]⟩) = 0 ∧ sgOf (runesBytes RS ++ ⟨#[32, 32]⟩) = want := by
  have e : runesOf (runesBytes RS ++ ⟨#[32, 32]⟩) = RS ++ [32, 32] := by
    rw [runesOf_bytes RS _ (fun r hr => (h.1 r hr).1)]
    congr 1
  constructor
  · unfold badOf
    rw [e, badGo_ok RS 0 _ (fun r hr => (h.1 r hr).2)]
    rfl
  · unfold sgOf
    rw [e, h.2]
    rfl

end Go.Proofs.Ytpopboanflnphaa
