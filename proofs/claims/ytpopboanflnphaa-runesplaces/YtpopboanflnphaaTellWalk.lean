/- The walk of the statement RunesTell. -/
import Derived.Test.YtpopboanflnphaaRefD
import Derived.Test.YtpopboanflnphaaWord
namespace Go.Proofs.Ytpopboanflnphaa
open Go.RowKit
set_option linter.unusedVariables false

theorem sg_cell {w : World} {B : Nat} {e : TypeId} {v : Value} {l : List Sg} (h : w.ownsRow B e 2 v l.length (sgCells l)) : ∀ k (hk : k < l.length), ∃ g cap, v = .slice (some ⟨g, 0, none⟩) l.length cap ∧ g < w.heap.size ∧ w.cell? ⟨g, k * 2, none⟩ = some (.string l[k].1) ∧ w.cell? ⟨g, k * 2 + 1, none⟩ = some (.int .i64 l[k].2) := by
  intro k hk
  have hcs : ∀ (l : List Sg) k (hk : k < l.length), (sgCells l)[k * 2]? = some (.string l[k].1) ∧ (sgCells l)[k * 2 + 1]? = some (.int .i64 l[k].2) := by
    intro l
    induction l with
    | nil => intro k hk; simp at hk
    | cons a l ih =>
      intro k hk
      have e : sgCells (a :: l) = .string a.1 :: .int .i64 a.2 :: sgCells l := by simp [sgCells]
      rw [e]
      cases k with
      | zero => exact ⟨rfl, rfl⟩
      | succ k =>
        have := ih k (by simpa using hk)
        rw [show (k + 1) * 2 = k * 2 + 1 + 1 by omega]
        simpa using this
  rcases h.2 with ⟨_, h0⟩ | ⟨g, cap, cur, rfl, _⟩
  · omega
  · exact ⟨g, cap, rfl, (h.lt g rfl).2, by rw [h.cellAt _ (by omega)]; exact (hcs l k hk).1, by rw [h.cellAt _ (by omega)]; exact (hcs l k hk).2⟩

theorem own_below {w w' : World} {B : Nat} {e : TypeId} {size n : Nat} {v : Value} {xs : List Value} (h : w.ownsRow B e size v n xs) (hb : Below w.heap.size w w') : w'.ownsRow B e size v n xs := by
  refine ⟨h.1, ?_⟩
  rcases h.2 with hn | ⟨g, cap, cur, h1, h2, hg, rest⟩
  · exact .inl hn
  · exact .inr ⟨g, cap, cur, h1, h2, by rw [hb.block g (Array.getElem?_eq_some_iff.1 hg).1]; exact hg, rest⟩

set_option maxHeartbeats 2000000 in
set_option maxRecDepth 100000 in
theorem tell_walk (s t : ByteArray) (r : Int) (w : World) (hs : s.size ≤ 140737488351232) (ht : t.size ≤ 140737488351232) (h1 : -9223372036854775808 ≤ r) (h2 : r ≤ 9223372036854775807) :
    Calls Try.prog 5 #[.string s, .string t, .int .i64 r] w fun e w' => e = .returned (.bool true) ∧ Below w.heap.size w w' := by
  go_enter Try.func5, Try.ntmps5
  go_wp2_with fail
  refine calls_same (text_any s 60 w (by unfold maxLen; omega) (by omega)) ?_
  go_wp2_with fail
  refine calls_same (text_any t 20 w (by unfold maxLen; omega) (by omega)) ?_
  have hs1 := cutTo_size s 60
  have ht1 := cutTo_size t 20
  generalize cutTo s 60 = S at *
  generalize cutTo t 20 = T at *
  clear hs ht
  go_upto_if 25 with fail
  go_cut [7] (fun s7 wx => wx = w ∧ ∃ K : Int, s7 = .int .i32 K)
  case first =>
    by_cases h3 : r.tmod 3 = 2
    · have e3 : (r.tmod 3 != 2) = false := by rw [h3]; rfl
      go_wp2_with (go_at_call 9; refine calls_same (within_any r 768 _ (by omega) (by omega) h1 h2) ?_)
      go_meet
      case rel => exact ⟨rfl, _, rfl⟩
    · have e3 : (r.tmod 3 != 2) = true := by rw [bne_iff_ne]; exact h3
      go_wp2_with (go_at_call 9; refine calls_same (within_any r 768 _ (by omega) (by omega) h1 h2) ?_)
      go_meet
      case rel => exact ⟨rfl, _, rfl⟩
  case rest =>
    obtain ⟨rfl, K, rfl⟩ := hcut
    go_wp2_with fail
    refine (number_any T _ (by unfold maxLen; omega)).mono ?_
    rintro e w1 ⟨rfl, hb1⟩
    go_wp2_with fail
    refine calls_same (refNumber_any T _ (by unfold maxLen; omega)) ?_
    generalize numOf T.data.toList = N
    obtain ⟨n, ok⟩ := N
    go_wp2_with fail
    refine calls_same (let_any K _) ?_
    go_wp2_with fail
    refine calls_same (refLet_any K _) ?_
    go_wp2_with fail
    refine (name_any T _).mono ?_
    rintro e w2 ⟨rfl, pos, rfl⟩
    go_wp2_with fail
    refine (refName_any T _ (by omega)).mono ?_
    rintro e w3 ⟨rfl, hb3⟩
    have hbA : Below wc.heap.size wc w3 := (hb1.trans ((below_iter w1 T pos).mono hb1.size)).trans (hb3.mono (by have := hb1.size; simp [World.iter]; omega))
    clear hb1 hb3
    by_cases hbad : badOf S = 0
    · have hrl : refL S = sgOf S := by unfold refL; rw [if_pos hbad]
      go_wp2_with fail
      refine (signs_ok S _ (by omega) hbad).mono ?_
      rintro e w4 ⟨v, rfl, hown, hb4⟩
      go_wp2_with fail
      refine (refSigns_any S _ (by omega)).mono ?_
      rintro e w5 ⟨v', rfl, hown', hb5⟩
      rw [hbad]
      rw [hrl] at hown'
      have hown5 := own_below hown hb5
      have hbB := (hbA.trans (hb4.mono hbA.size)).trans (hb5.mono (by have := hbA.size; have := hb4.size; omega))
      clear hown hb4 hb5 hbA hrl
      generalize sgOf S = l at *
      obtain ⟨ao, cap, hv⟩ := row_shape hown5
      obtain ⟨ao', cap', hv'⟩ := row_shape hown'
      have hc := sg_cell hown5
      have hc' := sg_cell hown'
      subst hv hv'
      have HC : Hid (∀ k (hk : k < l.length), ∃ g g', ao = some ⟨g, 0, none⟩ ∧ ao' = some ⟨g', 0, none⟩ ∧ g < w5.heap.size ∧ g' < w5.heap.size ∧ w5.cell? ⟨g, k * 2, none⟩ = some (.string l[k].1) ∧ w5.cell? ⟨g, k * 2 + 1, none⟩ = some (.int .i64 l[k].2) ∧ w5.cell? ⟨g', k * 2, none⟩ = some (.string l[k].1) ∧ w5.cell? ⟨g', k * 2 + 1, none⟩ = some (.int .i64 l[k].2)) := by
        intro k hk
        obtain ⟨g, c1, e1, gl, e2, e3⟩ := hc k hk
        obtain ⟨g', c1', e1', gl', e2', e3'⟩ := hc' k hk
        injection e1 with f1
        injection e1' with f1'
        exact ⟨g, g', f1, f1', gl, gl', e2, e3, e2', e3'⟩
      have hll : l.length ≤ 9223372036854775807 := by
        rcases hown5.2 with ⟨_, h⟩ | ⟨_, _, _, _, _, _, h1, h2, _⟩
        · omega
        · unfold maxLen at h2; omega
      clear hc hc' hown5 hown'
      go_wp2_with fail
      go_loopw [83] (fun i wr => ∃ k : Nat, k ≤ l.length ∧ i = .int .i64 k ∧ Below w5.heap.size w5 wr) (fun i _ => l.length - (intOf i).toNat)
      case atStart => exact ⟨0, by omega, rfl, Below.refl _ _⟩
      case round =>
        obtain ⟨k, hk, rfl, hbr⟩ := hrel
        by_cases hlt : k < l.length
        · have hlt' : (k : Int) < (l.length : Int) := by omega
          obtain ⟨g, g', f1, f2, gl, gl', c1, c2, c3, c4⟩ := HC.out k hlt
          subst f1 f2
          rw [← hbr.cell (p := ⟨g, k * 2, none⟩) gl] at c1
          rw [← hbr.cell (p := ⟨g, k * 2 + 1, none⟩) gl] at c2
          rw [← hbr.cell (p := ⟨g', k * 2, none⟩) gl'] at c3
          rw [← hbr.cell (p := ⟨g', k * 2 + 1, none⟩) gl'] at c4
          generalize l[k].1 = tx at *
          generalize l[k].2 = pl at *
          go_wp2_with fail
          go_quiet (fail)
          go_wp2_with fail
          go_roundw
          case rel => exact ⟨k + 1, by omega, by go_num, below_drewN hbr _⟩
          case measure => simp [intOf]; omega
        · have hkl : ¬ (k : Int) < (l.length : Int) := by omega
          go_wp2_with fail
          refine (wakes_any _).mono ?_
          rintro e w6 ⟨rfl, hb6⟩
          go_wp2_with fail
          go_ret
          exact ⟨rfl, hbB.trans ((hbr.trans (hb6.mono hbr.size)).mono hbB.size)⟩
    · have hrl : refL S = [] := by unfold refL; rw [if_neg hbad]
      go_wp2_with fail
      refine (signs_bad S _ (by unfold maxLen; omega) hbad).mono ?_
      rintro e w4 ⟨rfl, hb4⟩
      go_wp2_with fail
      refine (refSigns_any S _ (by omega)).mono ?_
      rintro e w5 ⟨v', rfl, hown', hb5⟩
      rw [hrl] at hown'
      have hbB := (hbA.trans (hb4.mono hbA.size)).trans (hb5.mono (by have := hbA.size; have := hb4.size; omega))
      obtain ⟨ao', cap', hv'⟩ := row_shape hown'
      subst hv'
      clear hb4 hb5 hbA hrl hown'
      have HB : Hid (badOf S ≠ 0) := hbad
      clear hbad
      generalize badOf S = bd at *
      go_wp2_with fail
      refine wp_loop_rounds 1 ?_
      rw [rounds_succ]
      go_wp2_with fail
      refine (wakes_any _).mono ?_
      rintro e w6 ⟨rfl, hb6⟩
      go_wp2_with fail
      go_ret
      exact ⟨rfl, hbB.trans (hb6.mono hbB.size)⟩

end Go.Proofs.Ytpopboanflnphaa
