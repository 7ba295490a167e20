/- The walk of the statement SipNumbers. -/
import Derived.Test.YtfdhpblnjllfiaaSameWalk
namespace Go.Proofs.Ytfdhpblnjllfiaa
open Go.RowKit
set_option linter.unusedVariables false

theorem un_256 (x : BitVec 64) : IntKind.u64.wrap (un x * 256) = un (x * 256#64) := by
  have h : un x * 256 = ((x.toNat * 256 : Nat) : Int) := by unfold un; rw [Int.natCast_mul]; rfl
  rw [h, un_mod]
  congr 1
theorem HasBytes.ext {w : World} {a : Option Addr} {m : Nat} {f g : Nat → BitVec 8} (h : HasBytes w a m f) (e : ∀ i, i < m → f i = g i) : HasBytes w a m g := by
  intro i hi
  obtain ⟨b, o, h1, h2⟩ := h i hi
  exact ⟨b, o, h1, by rw [← e i hi]; exact h2⟩

theorem ownsRow_low {w : World} {B B' : Nat} {e : TypeId} {s : Nat} {v : Value} {n : Nat} {xs : List Value} (h : w.ownsRow B e s v n xs) (hB : B' ≤ B) : w.ownsRow B' e s v n xs := by
  refine ⟨h.1, ?_⟩
  rcases h.2 with h | ⟨g, cap, cur, h1, h2, h3⟩
  · exact .inl h
  · exact .inr ⟨g, cap, cur, h1, by omega, h3⟩

set_option maxHeartbeats 400000 in
set_option maxRecDepth 100000 in
theorem numbers_walk (n : BitVec 64) (ba : Option Addr) (bl bc : Nat) (f : Nat → BitVec 8) (w : World) (hb : HasBytes w ba bl f) (hk : SliceOk ba bl bc) (hl : bl ≤ 140737488351232) :
    Calls Try.prog 4 #[.int .u64 (un n), .slice ba bl bc] w fun e w' => e = .returned (.bool true) ∧ Below w.heap.size w w' := by
  obtain ⟨i1, gi, gz0, gz1, gz2⟩ := info_parts infoByte
  have HB : Hid (HasBytes w ba bl f) := hb
  clear hb hk
  have h256 : ∀ x, IntKind.u64.wrap (un x * 256) = un (x * 256#64) := un_256
  have hadd : ∀ x y, IntKind.u64.wrap (un x + un y) = un (x + y) := un_add
  go_enter Try.func4, Try.ntmps4
  go_wp2_with fail
  refine (bytes_any n w).mono ?_
  rintro e w1 ⟨rfl, hown, hb1⟩
  have HOWN : Hid (w1.ownsRow w.heap.size 5 1 (.slice (some ⟨w.heap.size, 0, none⟩) 8 8) 8 (cellsB (byteAt n) 8)) := hown
  have HBY : Hid (HasBytes w1 (some ⟨w.heap.size, 0, none⟩) 8 (byteAt n)) := own_bytes hown
  have HB1 : Hid (Below w.heap.size w w1) := hb1
  clear hown hb1
  go_wp2_with fail
  go_loop [6, 7] (fun s6 s7 => ∃ (k : Nat), k ≤ 8 ∧ s7 = .int .i64 (7 - k) ∧ s6 = .int .u64 (un (hi (byteAt n) k (8 - k)))) (fun _ s7 => (1 + intOf s7).toNat)
  case atStart => exact ⟨0, by omega, rfl, rfl⟩
  case round =>
    obtain ⟨k, hk, rfl, rfl⟩ := hrel
    by_cases hlt : k < 8
    · obtain ⟨j, hj⟩ : ∃ j, j = 7 - k := ⟨_, rfl⟩
      have hjk : (7 : Int) - (k : Int) = (j : Int) := by omega
      have hc : w1.cell? ⟨w.heap.size, j, none⟩ = some (.int .u8 (ub (byteAt n j))) := (HOWN.out.cellAt j (by omega)).trans (cellsB_get _ _ _ (by omega))
      have HJ : Hid (j = 7 - k) := hj
      have HC : Hid (hi (byteAt n) k (8 - k) * 256#64 + wide (byteAt n j) = hi (byteAt n) (k + 1) (8 - (k + 1))) := by
        unfold Hid
        rw [mul_add_or, hi_step (byteAt n) k hlt, hj]
      have hcv := conv_u8 (byteAt n j)
      have hub := ub_bd (byteAt n j)
      have hj0 : (0 : Int) ≤ (j : Int) := by omega
      have hj8 : (j : Int) < 8 := by omega
      clear hj
      generalize hi (byteAt n) k (8 - k) = X at *
      rw [hjk]
      clear hjk
      go_wp2_with fail
      go_round
      case rel => exact ⟨k + 1, by omega, by have := HJ.out; go_num, by rw [← HC.out]⟩
      case measure => have := HJ.out; simp [intOf]; omega
    · have hlt' : (7 : Int) - (k : Int) < 0 := by omega
      have hkl : k = 8 := by omega
      subst hkl
      rw [show (8 : Nat) - 8 = 0 from rfl, hi_back]
      by_cases h8 : bl = 8
      · subst h8
        go_wp2_with fail
        refine calls_same (numberR_any ba 8 bc f w1 (HB.out.below HB1.out)) ?_
        rw [show numR f 8 = (un (hi f 8 0), true) from rfl]
        go_wp2_with fail
        refine (bytes_any (hi f 8 0) w1).mono ?_
        rintro e w2 ⟨rfl, hown2, hb2⟩
        have HB2 : Hid (Below w1.heap.size w1 w2) := hb2
        have HBW : Hid (Below w.heap.size w w2) := HB1.out.trans (hb2.mono HB1.out.size)
        have HBY2 : Hid (HasBytes w2 (some ⟨w1.heap.size, 0, none⟩) 8 f) := (own_bytes hown2).ext (fun i hi => byteAt_hi f i hi)
        clear hown2 hb2
        go_wp2_with fail
        refine (same_any _ ba 8 8 bc f w2 HBY2.out (HB.out.below HBW.out) (by omega)).mono ?_
        rintro e w3 ⟨rfl, nq, rfl⟩
        go_wp2_with fail
        refine (copy_any (some ⟨w.heap.size, 0, none⟩) 8 8 (byteAt n) _ ((HBY.out.below HB2.out).drewN nq) ⟨(fun h => by cases h), by omega, by omega⟩ (by omega)).mono ?_
        rintro e w4 ⟨v4, rfl, hown4, hb4⟩
        have HB4 : Hid (Below w.heap.size w w4) := (below_drewN HBW.out nq).trans (hb4.mono HBW.out.size)
        clear hb4
        go_wp2_with (at_builtin; refine wpList_append_own _ rfl (.tmp 59) (.tmp 60) 22 rfl w.heap.size 5 i1 (.int .u8 0) 1 1 Try.underlying22 gi gz0 gz1 gz2 rfl (by decide) _ _ _ rfl ((ownsRow_low hown4 HBW.out.size).alloc _) ⟨w4.heap.size, 0, none⟩ 1 1 [.int .u8 0] rfl rfl (cell_one_at w4 _ _) (by intro u hu; simp at hu; subst hu; rfl) (by unfold maxLen; omega) (by omega) (by have := HB4.out.size; simp; omega) ?_; intro v5 w5 hown5 hgrow5 _)
        have hown6 : w5.ownsRow w.heap.size 5 1 v5 9 (cellsB (putB (byteAt n) 8 0) 9) := by
          rw [show (9 : Nat) = 8 + 1 from rfl, cellsB_snoc, cellsB_ext (putB (byteAt n) 8 0) (byteAt n) 8 (fun i hi => by unfold putB; rw [if_neg (by omega)])]
          exact hown5
        have HB5 : Hid (Below w.heap.size w w5) := (HB4.out.alloc HB4.out.size _).grown hgrow5 (by have := HB4.out.size; simp; omega) (fun k hk => ((ownsRow_low hown4 HBW.out.size).lt k hk).1)
        obtain ⟨so, sc, rfl, _, hby5, _⟩ := own_any hown6
        refine calls_same (numberR_any so 9 sc _ w5 hby5) ?_
        rw [show numR (putB (byteAt n) 8 0) 9 = (0, false) from rfl]
        clear hown4 hown5 hown6 hgrow5 hby5
        go_wp2_with fail
        refine (wakes_any _).mono ?_
        rintro e w6 ⟨rfl, hb6⟩
        go_wp2_with fail
        go_ret
        exact ⟨rfl, HB5.out.trans (hb6.mono HB5.out.size)⟩
      · have h8' : ((bl : Int) == 8) = false := by rw [beq_eq_false_iff_ne]; omega
        have HR : Hid (HasBytes w1 ba bl f) := HB.out.below HB1.out
        have HRN : Hid (numR f bl = (0, false)) := by unfold Hid numR; rw [if_neg h8]
        clear h8
        go_wp2_with fail
        refine calls_same (numberR_any ba bl bc f w1 HR.out) ?_
        rw [HRN.out]
        go_wp2_with fail
        have HBW : Hid (Below w.heap.size w w1) := HB1.out
        refine (copy_any (some ⟨w.heap.size, 0, none⟩) 8 8 (byteAt n) _ HBY.out ⟨(fun h => by cases h), by omega, by omega⟩ (by omega)).mono ?_
        rintro e w4 ⟨v4, rfl, hown4, hb4⟩
        have HB4 : Hid (Below w.heap.size w w4) := HBW.out.trans (hb4.mono HBW.out.size)
        clear hb4
        go_wp2_with (at_builtin; refine wpList_append_own _ rfl (.tmp 59) (.tmp 60) 22 rfl w.heap.size 5 i1 (.int .u8 0) 1 1 Try.underlying22 gi gz0 gz1 gz2 rfl (by decide) _ _ _ rfl ((ownsRow_low hown4 HBW.out.size).alloc _) ⟨w4.heap.size, 0, none⟩ 1 1 [.int .u8 0] rfl rfl (cell_one_at w4 _ _) (by intro u hu; simp at hu; subst hu; rfl) (by unfold maxLen; omega) (by omega) (by have := HB4.out.size; simp; omega) ?_; intro v5 w5 hown5 hgrow5 _)
        have hown6 : w5.ownsRow w.heap.size 5 1 v5 9 (cellsB (putB (byteAt n) 8 0) 9) := by
          rw [show (9 : Nat) = 8 + 1 from rfl, cellsB_snoc, cellsB_ext (putB (byteAt n) 8 0) (byteAt n) 8 (fun i hi => by unfold putB; rw [if_neg (by omega)])]
          exact hown5
        have HB5 : Hid (Below w.heap.size w w5) := (HB4.out.alloc HB4.out.size _).grown hgrow5 (by have := HB4.out.size; simp; omega) (fun k hk => ((ownsRow_low hown4 HBW.out.size).lt k hk).1)
        obtain ⟨so, sc, rfl, _, hby5, _⟩ := own_any hown6
        refine calls_same (numberR_any so 9 sc _ w5 hby5) ?_
        rw [show numR (putB (byteAt n) 8 0) 9 = (0, false) from rfl]
        clear hown4 hown5 hown6 hgrow5 hby5
        go_wp2_with fail
        refine (wakes_any _).mono ?_
        rintro e w6 ⟨rfl, hb6⟩
        go_wp2_with fail
        go_ret
        exact ⟨rfl, HB5.out.trans (hb6.mono HB5.out.size)⟩

end Go.Proofs.Ytfdhpblnjllfiaa
