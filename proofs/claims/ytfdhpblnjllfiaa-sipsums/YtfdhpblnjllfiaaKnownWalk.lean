/- The walk of the statement SipKnown. -/
import Derived.Test.YtfdhpblnjllfiaaNumbersWalk
namespace Go.Proofs.Ytfdhpblnjllfiaa
open Go.RowKit
set_option linter.unusedVariables false

/-- The published sums, as cells. -/
def wantA : Array Value := #[.int .u64 8246050544436514353, .int .u64 8428550223375919101, .int .u64 967288799772626778, .int .u64 9612764727700323885, .int .u64 14927063180398135223, .int .u64 1762690195596617357, .int .u64 14684345499771659214, .int .u64 12322412585038238007]
def counted : Nat → BitVec 8 := fun i => byteOf i
theorem known_0 : sipF (upto 16) counted 0 = 8246050544436514353#64 := by decide +kernel
theorem known_1 : sipF (upto 16) counted 1 = 8428550223375919101#64 := by decide +kernel
theorem known_2 : sipF (upto 16) counted 2 = 967288799772626778#64 := by decide +kernel
theorem known_3 : sipF (upto 16) counted 3 = 9612764727700323885#64 := by decide +kernel
theorem known_4 : sipF (upto 16) counted 4 = 14927063180398135223#64 := by decide +kernel
theorem known_5 : sipF (upto 16) counted 5 = 1762690195596617357#64 := by decide +kernel
theorem known_6 : sipF (upto 16) counted 6 = 14684345499771659214#64 := by decide +kernel
theorem known_7 : sipF (upto 16) counted 7 = 12322412585038238007#64 := by decide +kernel
theorem known_any (k : Nat) (h : k < 8) : wantA[k]? = some (.int .u64 (un (sipF (upto 16) counted k))) := by
  have hk : k = 0 ∨ k = 1 ∨ k = 2 ∨ k = 3 ∨ k = 4 ∨ k = 5 ∨ k = 6 ∨ k = 7 := by omega
  rcases hk with rfl | rfl | rfl | rfl | rfl | rfl | rfl | rfl
  · rw [known_0]; rfl
  · rw [known_1]; rfl
  · rw [known_2]; rfl
  · rw [known_3]; rfl
  · rw [known_4]; rfl
  · rw [known_5]; rfl
  · rw [known_6]; rfl
  · rw [known_7]; rfl

theorem below_three {B : Nat} {w a b c d : World} (h : Below B w a) (h1 : Below a.heap.size a b) (h2 : Below b.heap.size b c) (h3 : Below c.heap.size c d) (hB : B ≤ a.heap.size) : Below B w d :=
  h.trans ((h1.mono hB).trans ((h2.mono (Nat.le_trans hB h1.size)).trans (h3.mono (Nat.le_trans hB (Nat.le_trans h1.size h2.size)))))

set_option maxHeartbeats 1000000 in
set_option maxRecDepth 100000 in
theorem known_walk (n : Int) (w : World) (h1 : -9223372036854775808 ≤ n) (h2 : n ≤ 9223372036854775807) :
    Calls Try.prog 6 #[.int .i64 n] w fun e w' => e = .returned (.bool true) ∧ Below w.heap.size w w' := by
  obtain ⟨i1, gi, gz0, gz1, gz2⟩ := info_parts infoByte
  obtain ⟨k, hk⟩ : ∃ k : Nat, n % 8 = k := ⟨(n % 8).toNat, by omega⟩
  have hk8 : k < 8 := by omega
  have hk8' : (k : Int) < 8 := by omega
  have HK : Hid (n % 8 = k) := hk
  have hbw : ∀ n, IntKind.u8.wrap n = ub (byteOf n) := byte_wrap
  clear hk
  go_enter Try.func6, Try.ntmps6
  go_wp2_with fail
  rw [show (#[.int .u64 8246050544436514353, .int .u64 8428550223375919101, .int .u64 967288799772626778, .int .u64 9612764727700323885, .int .u64 14927063180398135223, .int .u64 1762690195596617357, .int .u64 14684345499771659214, .int .u64 12322412585038238007] : Array Value) = wantA from rfl]
  have HW0 : Hid (Blk (w.alloc (.cells wantA 26)) w.heap.size 26 wantA) := Blk.new _ _ _
  have HB0 : Hid (Below w.heap.size w (w.alloc (.cells wantA 26))) := (Below.refl _ _).alloc (Nat.le_refl _) _
  have HS0 : Hid (w.heap.size + 1 = (w.alloc (.cells wantA 26)).heap.size) := by simp [Hid]
  generalize (w.alloc (.cells wantA 26)) = W0 at *
  refine calls_same (within_any n 8 _ (by omega) (by omega) h1 h2) ?_
  rw [HK.out]
  go_wp2_with fail
  go_loopw [5, 6] (fun s5 s6 wr => ∃ i : Nat, i ≤ k ∧ s6 = .int .i64 i ∧ wr.ownsRow (w.heap.size + 1) 5 1 s5 i (cellsB counted i) ∧ Blk wr w.heap.size 26 wantA ∧ Below w.heap.size w wr ∧ w.heap.size + 1 ≤ wr.heap.size) (fun _ s6 _ => k - (intOf s6).toNat)
  case atStart => exact ⟨0, by omega, rfl, World.ownsRow_nil _ _ _ _, HW0.out, HB0.out, by rw [HS0.out]; exact Nat.le_refl _⟩
  case round =>
    clear HW0 HB0 HS0
    obtain ⟨i, hik, rfl, hown, hB, hW, hsz⟩ := hrel
    have HB : Hid (Blk wr w.heap.size 26 wantA) := hB
    have HW : Hid (Below w.heap.size w wr) := hW
    clear hB hW
    by_cases hlt : i < k
    · have hlt' : (i : Int) < (k : Int) := by omega
      go_wp2_with (at_builtin; refine wpList_append_own _ rfl (.tmp 15) (.tmp 18) 22 rfl (w.heap.size + 1) 5 i1 (.int .u8 0) 1 1 Try.underlying22 gi gz0 gz1 gz2 rfl (by decide) _ _ _ rfl (hown.alloc _) ⟨wr.heap.size, 0, none⟩ 1 1 [.int .u8 (ub (byteOf i))] rfl rfl (cell_one_at wr _ _) (by intro u hu; simp at hu; subst hu; rfl) (by unfold maxLen; omega) (by omega) (by simp; omega) ?_; intro v2 w2 hown2 hgrow2 _)
      have hbl2 : ∀ j, (Value.ownBlock _) = some j → w.heap.size + 1 ≤ j := (fun j hj => (hown.lt j hj).1)
      have hown3 : w2.ownsRow (w.heap.size + 1) 5 1 v2 (i + 1) (cellsB counted (i + 1)) := by rw [cellsB_snoc]; exact hown2
      go_roundw
      case rel =>
        refine ⟨i + 1, by omega, by go_num, hown3, grown_blk (HB.out.alloc _) hgrow2 hbl2 (by omega), ?_, ?_⟩
        · exact (HW.out.alloc HW.out.size _).grown hgrow2 (by simp; omega) (fun j hj => by have := hbl2 j hj; omega)
        · have := hgrow2.size; simp at this; omega
      case measure => simp [intOf]; omega
    · have hlt' : ¬ (i : Int) < (k : Int) := by omega
      have hki : i = k := by omega
      subst hki
      obtain ⟨so, sc, rfl, hok, hby, _⟩ := own_any hown
      have HOK : Hid (SliceOk so i sc) := hok
      have HBY : Hid (HasBytes wr.drew so i counted) := hby
      have HLT : Hid (w.heap.size < wr.heap.size) := by show w.heap.size < _; omega
      have hc : wr.cell? ⟨w.heap.size, i, none⟩ = some (.int .u64 (un (sipF (upto 16) counted i))) := by rw [HB.out.cell]; exact known_any i hk8
      clear hok hby hown hlt'
      go_wp2_with fail
      go_region_with (first
        | (go_at_call 20; refine (key_any _).mono ?_; rintro e w1 ⟨rfl, hb1⟩; have hc1 := (hb1.cell (p := ⟨w.heap.size, i, none⟩) HLT.out).trans hc)
        | (go_at_call 9; refine (sum_any (upto 16) counted so i sc _ (HBY.out.below hb1) HOK.out).mono ?_; rintro e w2 ⟨rfl, hb2⟩; have hc2 := (hb2.cell (p := ⟨w.heap.size, i, none⟩) (Nat.lt_of_lt_of_le HLT.out hb1.size)).trans hc1)
        | (go_at_call 11; refine (wakes_any _).mono ?_; rintro e w3 ⟨rfl, hb3⟩))
      all_goals
        have hE : Below w.heap.size w w3 := below_three HW.out.drew hb1 hb2 hb3 HW.out.size
        clear hc hc1 hc2 hb1 hb2 hb3
        go_wp2_with fail
        go_ret
        exact ⟨rfl, hE⟩

end Go.Proofs.Ytfdhpblnjllfiaa
