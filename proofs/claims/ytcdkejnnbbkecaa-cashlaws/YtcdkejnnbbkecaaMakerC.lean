/- The contract that a plan makes, whole. -/
import Derived.Test.YtcdkejnnbbkecaaMakerC1
import Derived.Test.YtcdkejnnbbkecaaMakerC2
import Derived.Test.YtcdkejnnbbkecaaMakerC4
import Derived.Test.YtcdkejnnbbkecaaMakerC5
import Derived.Test.YtcdkejnnbbkecaaMakerC6
import Derived.Test.YtcdkejnnbbkecaaTermSize
namespace Go.Proofs.Ytcdkejnnbbkecaa
open Go.RowKit
set_option linter.unusedVariables false

/-- How far a contract goes. -/
def rC : Nat → Nat
  | 0 => 40
  | d + 1 => 4 * rC d + 40
theorem rC_pos : ∀ d, 40 ≤ rC d
  | 0 => Nat.le_refl _
  | d + 1 => by have := rC_pos d; simp only [rC]; omega
theorem rC_le (d : Nat) (h : d ≤ 5) : rC d ≤ 60000 := by
  have : d = 0 ∨ d = 1 ∨ d = 2 ∨ d = 3 ∨ d = 4 ∨ d = 5 := by omega
  rcases this with rfl | rfl | rfl | rfl | rfl | rfl <;> decide
theorem reach_min (d : Nat) : reach (min d 2) ≤ 11 := by
  have : min d 2 = 0 ∨ min d 2 = 1 ∨ min d 2 = 2 := by omega
  rcases this with h | h | h <;> rw [h] <;> decide
theorem conO_reach (p : Pl) : ∀ d i left label, (conO p d i left label).2.1 ≤ i + rC d ∧ left - rC d ≤ (conO p d i left label).2.2.1 ∧ (conO p d i left label).2.2.1 ≤ left ∧ (conO p d i left label).2.2.2 ≤ label + rC d := by
  intro d
  induction d with
  | zero =>
    intro i left label
    unfold conO
    simp only [rC]
    split <;> simp only <;> omega
  | succ d ih =>
    intro i left label
    have hr := rC_pos d
    have h1 := ih (i + 1) (left - 1) label
    have h2 := ih (conO p d (i + 1) (left - 1) label).2.1 (conO p d (i + 1) (left - 1) label).2.2.1 (conO p d (i + 1) (left - 1) label).2.2.2
    have h3 := ih (i + 2) (left - 1) (label + 1)
    have h4 := ih (conO p d (i + 2) (left - 1) (label + 1)).2.1 (conO p d (i + 2) (left - 1) (label + 1)).2.2.1 (conO p d (i + 2) (left - 1) (label + 1)).2.2.2
    have h5 := ih (i + 2) (left - 1) label
    have ho := numO_reach p (min d 2) (i + 1) (left - 1)
    have hm := reach_min d
    have h6 := ih (numO p (min d 2) (i + 1) (left - 1)).2.1 (numO p (min d 2) (i + 1) (left - 1)).2.2 label
    have h7 := ih (conO p d (numO p (min d 2) (i + 1) (left - 1)).2.1 (numO p (min d 2) (i + 1) (left - 1)).2.2 label).2.1 (conO p d (numO p (min d 2) (i + 1) (left - 1)).2.1 (numO p (min d 2) (i + 1) (left - 1)).2.2 label).2.2.1 (conO p d (numO p (min d 2) (i + 1) (left - 1)).2.1 (numO p (min d 2) (i + 1) (left - 1)).2.2 label).2.2.2
    unfold conO
    simp only [rC]
    split
    · simp only; omega
    · split
      · simp only; omega
      · split
        · simp only; omega
        · split
          · simp only; omega
          · split
            · simp only; omega
            · split
              · simp only; omega
              · split
                · simp only; omega
                · simp only; omega

theorem mterm_any (w0 : World) (M : Nat) (p : Pl) : ∀ d, d ≤ 5 → LessC w0 M p d (rC d) := by
  intro d
  induction d with
  | zero =>
    intro _ w i left label h hi hl1 hl2 hlb
    have hk := kT_zero p i left
    simp only [rC] at hi hl1 hlb
    exact mterm_leaf w0 w M p 0 i left label h (by omega) (by omega) hl2 (by omega) hk _ rfl
  | succ d ih =>
    intro hd w i left label h hi hl1 hl2 hlb
    have hr := rC_pos d
    have hr2 := rC_le d (by omega)
    have ih' := ih (by omega)
    have hb1 := conO_reach p d
    simp only [rC] at hi hl1 hlb
    have hk := kT_lt p (d + 1) i left
    by_cases h2 : kT p (d + 1) i left ≤ 2
    · have := mterm_leaf w0 w M p (d + 1) i left label h (by omega) (by omega) hl2 (by omega) h2 _ rfl
      have e : conO p (d + 1) i left label = if kT p (d + 1) i left ≤ 1 then (.one (curOf p (i + 1)), i + 2, left - 1, label) else (.zero, i + 1, left - 1, label) := by
        rw [conO]
        split
        · rfl
        · rw [if_pos (by omega)]
      rw [e]
      exact this
    · by_cases h4 : kT p (d + 1) i left ≤ 4
      · exact mterm_give w0 w M p d i left label (rC d) ih' h (by omega) (by omega) (by omega) hl2 (by omega) (by omega) hb1 (by omega) _ rfl
      by_cases h6 : kT p (d + 1) i left ≤ 6
      · exact mterm_and w0 w M p d i left label (rC d) ih' h (by omega) (by omega) (by omega) hl2 (by omega) (by omega) hb1 (by omega) _ rfl
      by_cases h8 : kT p (d + 1) i left ≤ 8
      · exact mterm_or w0 w M p d i left label (rC d) ih' h (by omega) (by omega) (by omega) hl2 (by omega) (by omega) hb1 (by omega) _ rfl
      by_cases h10 : kT p (d + 1) i left ≤ 10
      · exact mterm_scale w0 w M p d i left label (rC d) ih' h (by omega) (by omega) (by omega) hl2 (by omega) (by omega) hb1 (by omega) _ rfl
      by_cases h11 : kT p (d + 1) i left = 11
      · exact mterm_when w0 w M p d i left label (rC d) ih' h (by omega) (by omega) (by omega) hl2 (by omega) (by omega) hb1 h11 _ rfl
      · exact mterm_iff w0 w M p d i left label (rC d) ih' h (by omega) (by omega) (by omega) hl2 (by omega) (by omega) hb1 (by omega) _ rfl

/-- A contract in which nothing is none. -/
def C.whole : C → Prop
  | .zero => True
  | .one s => s.size ≤ 2147483648
  | .give c => c.whole
  | .and l r => l.whole ∧ r.whole
  | .or s l r => s.size ≤ 2147483648 ∧ l.whole ∧ r.whole
  | .scale o c => o.whole ∧ c.whole
  | .when d c => (-9223372036854775808 ≤ d ∧ d ≤ 9223372036854775807) ∧ c.whole
  | .iff o l r => o.whole ∧ l.whole ∧ r.whole
  | .odd _ => False
theorem cwhole_ok (c : C) (h : c.whole) : c.Ok := by
  induction c with
  | zero => trivial
  | one s => exact h
  | give c h1 => exact h1 h
  | and l r h1 h2 => exact ⟨h1 h.1, h2 h.2⟩
  | or s l r h1 h2 => exact ⟨h.1, h1 h.2.1, h2 h.2.2⟩
  | scale o c h1 => exact ⟨whole_ok o h.1, h1 h.2⟩
  | when d c h1 => exact ⟨h.1, h1 h.2⟩
  | iff o l r h1 h2 => exact ⟨whole_ok o h.1, h1 h.2.1, h2 h.2.2⟩
  | odd v => exact absurd h id
theorem conO_whole (p : Pl) : ∀ d i left label, (conO p d i left label).1.whole ∧ (conO p d i left label).1.weight + 10 ≤ 20 * 2 ^ d := by
  have hn : ∀ d i left, (numO p (min d 2) i left).1.whole ∧ (numO p (min d 2) i left).1.nodes ≤ 7 := fun d i left => by
    have h := numO_whole p (min d 2) i left
    refine ⟨h.1, ?_⟩
    have h2 : 2 ^ (min d 2 + 1) ≤ 8 := by
      have : min d 2 = 0 ∨ min d 2 = 1 ∨ min d 2 = 2 := by omega
      rcases this with e | e | e <;> rw [e] <;> decide
    have := h.2.1
    omega
  intro d
  induction d with
  | zero =>
    intro i left label
    unfold conO
    split
    · exact ⟨by show (curOf p (i + 1)).size ≤ _; have := curOf_size p (i + 1); omega, by simp [C.weight]⟩
    · exact ⟨trivial, by simp [C.weight]⟩
  | succ d ih =>
    intro i left label
    have hp : 1 ≤ 2 ^ d := Nat.one_le_two_pow
    have hp2 : 2 ^ (d + 1) = 2 * 2 ^ d := by rw [Nat.pow_succ]; omega
    have h1 := ih (i + 1) (left - 1) label
    have h2 := ih (conO p d (i + 1) (left - 1) label).2.1 (conO p d (i + 1) (left - 1) label).2.2.1 (conO p d (i + 1) (left - 1) label).2.2.2
    have h3 := ih (i + 2) (left - 1) (label + 1)
    have h4 := ih (conO p d (i + 2) (left - 1) (label + 1)).2.1 (conO p d (i + 2) (left - 1) (label + 1)).2.2.1 (conO p d (i + 2) (left - 1) (label + 1)).2.2.2
    have h5 := ih (i + 2) (left - 1) label
    have ho := hn d (i + 1) (left - 1)
    have h6 := ih (numO p (min d 2) (i + 1) (left - 1)).2.1 (numO p (min d 2) (i + 1) (left - 1)).2.2 label
    have h7 := ih (conO p d (numO p (min d 2) (i + 1) (left - 1)).2.1 (numO p (min d 2) (i + 1) (left - 1)).2.2 label).2.1 (conO p d (numO p (min d 2) (i + 1) (left - 1)).2.1 (numO p (min d 2) (i + 1) (left - 1)).2.2 label).2.2.1 (conO p d (numO p (min d 2) (i + 1) (left - 1)).2.1 (numO p (min d 2) (i + 1) (left - 1)).2.2 label).2.2.2
    unfold conO
    rw [hp2]
    split
    · exact ⟨by show (curOf p (i + 1)).size ≤ _; have := curOf_size p (i + 1); omega, by simp only [C.weight]; omega⟩
    · split
      · exact ⟨trivial, by simp only [C.weight]; omega⟩
      · split
        · exact ⟨h1.1, by simp only [C.weight]; omega⟩
        · split
          · exact ⟨⟨h1.1, h2.1⟩, by simp only [C.weight]; omega⟩
          · split
            · refine ⟨⟨?_, h3.1, h4.1⟩, by simp only [C.weight]; omega⟩
              split
              · decide
              · have := chT_size (label + 1); omega
            · split
              · exact ⟨⟨ho.1, h6.1⟩, by simp only [C.weight]; omega⟩
              · split
                · exact ⟨⟨⟨by omega, by omega⟩, h5.1⟩, by simp only [C.weight]; omega⟩
                · exact ⟨⟨ho.1, h6.1, h7.1⟩, by simp only [C.weight]; omega⟩
/-- The contract of a plan. -/
def conP (p : Pl) : C := (conO p 5 0 24 0).1
theorem conP_whole (p : Pl) : (conP p).whole := (conO_whole p 5 0 24 0).1
theorem conP_weight (p : Pl) : (conP p).weight ≤ 630 := by have := (conO_whole p 5 0 24 0).2; simp at this; unfold conP; omega

set_option maxHeartbeats 1000000 in
set_option maxRecDepth 100000 in
theorem contract_any (p : Pl) (w : World) (h : PlanIn w p) : Calls Try.prog 16 #[planV p] w fun e w' => ∃ v, e = .returned v ∧ TIn w' w.heap.size (plainC (conP p)) v ∧ Below w.heap.size w w' := by
  unfold planV
  have HP : Hid (PlanIn w p) := h
  clear h
  go_enter Try.func16, Try.ntmps16
  go_wp2_with fail
  obtain ⟨W, hW⟩ : ∃ W, W = ((w.alloc (.cells #[.slice p.na p.nl p.nc, .slice p.wa p.wl p.wc] 25)).alloc (.cells #[.int .i64 0, .string ⟨#[]⟩, .int .i64 0, .slice none 0 0] 30)).alloc (.cells #[.slice p.na p.nl p.nc, .slice p.wa p.wl p.wc, .int .i64 0, .int .i64 24, .int .i64 0] 99) := ⟨_, rfl⟩
  have hWs : W.heap.size = w.heap.size + 3 := by rw [hW]; simp
  have HB : Hid (Below w.heap.size w W) := by rw [hW]; exact below_alloc (below_alloc (below_alloc (Below.refl _ _) _) _) _
  have HMI : Hid (MIn w W (w.heap.size + 1 + 1) p 0 24 (0 : Nat)) := by
    refine ⟨HP.out, by omega, HB.out, ?_⟩
    rw [hW]
    exact blk_new (by simp)
  have HZ : Hid (Blk W (w.heap.size + 1) 30 zeroT) := by
    rw [hW]
    exact (Below.heap_alloc _ _ _ (by simp)).trans (blk_new (by simp))
  rw [← hW]
  clear hW
  have hr5 := rC_le 5 (by omega)
  have HC := mterm_any w (w.heap.size + 1 + 1) p 5 (by omega) W 0 24 0 HMI.out (by omega) (by omega) (by omega) (by omega)
  refine HC.mono ?_
  rintro e w5 ⟨v, rfl, ht5, hm5, hg5⟩
  clear HC
  have ht5' := ht5
  obtain ⟨la, lc, rfl, _, _, _⟩ := ht5'
  have HZ5 : Hid (Blk w5 (w.heap.size + 1) 30 zeroT) := HZ.out.grew hg5 (by omega)
  obtain ⟨⟨z0, z1, z2, z3⟩, f0, f1, f2, f3⟩ := blk_zero HZ5.out
  have HB5 : Hid (Below w.heap.size w w5) := HB.out.trans (hg5.below (by omega) (by omega) (fun k hk => by cases hk))
  have HT5 : Hid (TIn w5 W.heap.size (plainC (conP p)) (.agg #[.int .i64 (plainC (conP p)).kind, .string (plainC (conP p)).s, .int .i64 (plainC (conP p)).n, .slice la (plainC (conP p)).k.length lc])) := ht5
  have HWS : Hid (W.heap.size = w.heap.size + 3) := hWs
  clear ht5 hm5 hg5 HZ HMI hWs HB
  rw [show (conO p 5 0 24 0).1 = conP p from rfl]
  go_wp2_with fail
  refine bodyPost_ret (results_cell_row rfl _ _ (w.heap.size + 1) 30 #[.int .i64 (plainC (conP p)).kind, .string (plainC (conP p)).s, .int .i64 (plainC (conP p)).n, .slice la (plainC (conP p)).k.length lc] (0, 0) _ rfl (set4_blk HZ5.out _ _ _ _) Try.underlying30 rfl infoT) rfl ?_
  have hs := HWS.out
  refine ⟨_, rfl, (HT5.out.set4 (R := w.heap.size + 1) (by omega) _ _ _ _).low (by omega), ?_⟩
  exact (((HB5.out.setCell (Nat.le_succ _) _).setCell (Nat.le_succ _) _).setCell (Nat.le_succ _) _).setCell (Nat.le_succ _) _

end Go.Proofs.Ytcdkejnnbbkecaa
