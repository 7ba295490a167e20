/- cut: a text's signs; and Signs, by firstBad and cut. -/
import Derived.Test.YtpopboanflnphaaSigns
namespace Go.Proofs.Ytpopboanflnphaa
open Go.RowKit
set_option linter.unusedVariables false

theorem cell_one_at (w : World) (x : Value) (t : TypeId) : ∀ j u, [x][j]? = some u → (w.alloc (.cells #[x] t)).cell? ((⟨w.heap.size, 0, none⟩ : Addr).add j) = some u := by
  intro j u hj
  match j, hj with
  | 0, hj => simp at hj; subst hj; simp [Addr.add]
  | j + 1, hj => simp at hj

theorem Inv.shape {K : Nat} {w : World} {s : ByteArray} {pos : Nat} {l : List Sg} {run : List Int} {v u : Value} {wr : World} (h : Inv K w s pos l run v u wr) : (u = .slice none 0 0 ∧ run.length = 0) ∨ ∃ g cap, u = .slice (some ⟨g, 0, none⟩) run.length cap := by
  rcases h.2.2.1.2 with h | ⟨g, cap, cur, h, _⟩
  · exact .inl h
  · exact .inr ⟨g, cap, h⟩

set_option maxHeartbeats 4000000 in
set_option maxRecDepth 100000 in
theorem cut_any (s : ByteArray) (w : World) (hs : s.size ≤ 2147483648) :
    Calls Try.prog 24 #[.string s] w fun e w' => ∃ v, e = .returned v ∧ w'.ownsRow (w.heap.size + 1) 28 2 v (cutGo [] [] 0 (runesOf s)).length (sgCells (cutGo [] [] 0 (runesOf s))) ∧ Below w.heap.size w w' := by
  obtain ⟨i0, hi, hz0, hz1, hz2⟩ := info_parts Try.info28
  obtain ⟨i1, gi, gz0, gz1, gz2⟩ := info_parts Try.info21
  go_enter Try.func24, Try.ntmps24
  go_wp2
  go_loopw [3, 4, 5] (fun v u n wr => ∃ (pos p : Nat) (l : List Sg) (run : List Int), Inv w.heap.size w s pos l run v u wr ∧ n = .int .i64 p ∧ p + (rest s pos).length ≤ s.size ∧ run.length ≤ p ∧ l.length ≤ 2 * p ∧ cutGo l run p (rest s pos) = cutGo [] [] 0 (runesOf s)) (fun _ _ _ w' => s.size - w'.iterPos w.heap.size)
  case atStart =>
    refine ⟨0, 0, [], [], ⟨?_, World.ownsRow_nil _ _ _ _, World.ownsRow_nil _ _ _ _, below_iter _ _ _, ?_⟩, rfl, by have := rest_length s 0; omega, by simp, by simp, rfl⟩
    · exact World.iter_heap w s 0
    · simp [World.iter]
  case round =>
    obtain ⟨pos, p, l, run, hinv, rfl, hps, hrl, hll, hc⟩ := hrel
    by_cases hp : pos < s.size
    · have hwd := width_pos s pos hp
      have hst := rest_step s pos hp
      rw [hst] at hps hc
      simp only [List.length_cons] at hps
      have HC : Hid (cutGo l run p (((Utf8.decode s pos).1 : Int) :: rest s (pos + (Utf8.decode s pos).2)) = cutGo [] [] 0 (runesOf s)) := hc
      have HS : Hid (p + ((rest s (pos + (Utf8.decode s pos).2)).length + 1) ≤ s.size) := hps
      have hp1 : p + 1 ≤ s.size := by omega
      obtain ⟨wr2, hw2⟩ : ∃ x, x = wr.iterAt w.heap.size s (pos + (Utf8.decode s pos).2) := ⟨_, rfl⟩
      have hnx : ∀ ty, (Instr.next (.pointer (some ⟨w.heap.size, 0, none⟩)) true ty).run Try.prog wr = .ok (.tuple #[.bool true, .int .i64 pos, .int .i32 (Utf8.decode s pos).1]) wr2 := fun ty => by rw [hw2]; exact Lib.run_next_any_at wr w.heap.size s pos ty hinv.1 hp
      have hinv2 := hinv.iter (pos + (Utf8.decode s pos).2)
      rw [← hw2] at hinv2
      have hpos : Hid (wr.iterPos w.heap.size = pos) := iterPos_of hinv.1
      clear hc hst hps hw2 hinv
      generalize hr : ((Utf8.decode s pos).1 : Int) = r at *
      generalize hwi : (Utf8.decode s pos).2 = wi at *
      clear hr hwi
      cases h1 : joinB r
      · have hel := endR_len l run ((p : Int) + 1)
        have hq := hinv2.shape
        cases h2 : markB r
        · rcases hq with ⟨rfl, _⟩ | ⟨g, cap, rfl⟩
          · go_wp2_with (first
            | (go_at_call 29; refine calls_same (joins_any _ _) ?_)
            | (go_at_call 28; refine calls_same (mark_any _ _) ?_)
            | (go_at_call 30; refine (endRun_any (w.heap.size + 1) l run ((p : Int) + 1) _ _ _ hinv2.2.1 hinv2.2.2.1 hinv2.2.2.2.2 (by omega) (by omega) (by omega) (by omega)).mono ?_; rintro e w1 ⟨v', rfl, hv', hg⟩; have hinv3 := hinv2.list hv' hg))
            have hinv4 := hinv3.clear_nil
            go_roundw
            case rel => exact ⟨pos + wi, p + 1, endR l run ((p : Int) + 1), [], hinv4, by go_num, by have := HS.out; omega, by simp, by omega, by rw [← HC.out, cutGo_skip _ _ _ _ _ h1 h2]; rfl⟩
            case measure => have := iterPos_of hinv4.1; have := hpos.out; omega
          · go_wp2_with (first
            | (go_at_call 29; refine calls_same (joins_any _ _) ?_)
            | (go_at_call 28; refine calls_same (mark_any _ _) ?_)
            | (go_at_call 30; refine (endRun_any (w.heap.size + 1) l run ((p : Int) + 1) _ _ _ hinv2.2.1 hinv2.2.2.1 hinv2.2.2.2.2 (by omega) (by omega) (by omega) (by omega)).mono ?_; rintro e w1 ⟨v', rfl, hv', hg⟩; have hinv3 := hinv2.list hv' hg))
            have hinv4 := hinv3.clear
            go_roundw
            case rel => exact ⟨pos + wi, p + 1, endR l run ((p : Int) + 1), [], hinv4, by go_num, by have := HS.out; omega, by simp, by omega, by rw [← HC.out, cutGo_skip _ _ _ _ _ h1 h2]; rfl⟩
            case measure => have := iterPos_of hinv4.1; have := hpos.out; omega
        · rcases hq with ⟨rfl, _⟩ | ⟨g, cap, rfl⟩
          · go_wp2_with (first
            | (go_at_call 29; refine calls_same (joins_any _ _) ?_)
            | (go_at_call 28; refine calls_same (mark_any _ _) ?_)
            | (go_at_call 30; refine (endRun_any (w.heap.size + 1) l run ((p : Int) + 1) _ _ _ hinv2.2.1 hinv2.2.2.1 hinv2.2.2.2.2 (by omega) (by omega) (by omega) (by omega)).mono ?_; rintro e w1 ⟨v', rfl, hv', hg⟩; have hinv3 := hinv2.list hv' hg)
            | (at_builtin; refine wpList_append_own _ rfl _ _ 24 rfl (w.heap.size + 1) 28 i0 (.agg #[.string ByteArray.empty, .int .i64 0]) 2 24 Try.underlying24 hi hz0 hz1 hz2 rfl (by decide) _ _ _ rfl (hinv3.2.1.alloc _) ⟨w1.heap.size, 0, none⟩ 1 1 [.string (Utf8.encode r), .int .i64 ((p : Int) + 1)] rfl rfl (cell_two_new w1 _ _ _) (by intro u hu; simp at hu; rcases hu with rfl | rfl <;> rfl) (by unfold maxLen; omega) (by omega) (by have := hinv3.2.2.2.2; simp; omega) ?_; intro v2 w2 hown' hgrow _))
            have hown2 : w2.ownsRow (w.heap.size + 1) 28 2 v2 (endR l run ((p : Int) + 1) ++ [(Utf8.encode r, (p : Int) + 1)]).length (sgCells (endR l run ((p : Int) + 1) ++ [(Utf8.encode r, (p : Int) + 1)])) := by rw [sgCells_append]; simpa [sgCells] using hown'
            have hinv4 := (hinv3.clear_nil.alloc _).list hown2 hgrow
            go_roundw
            case rel => exact ⟨pos + wi, p + 1, _, [], hinv4, by go_num, by have := HS.out; omega, by simp, by simp; omega, by rw [← HC.out, cutGo_mark _ _ _ _ _ h1 h2]; rfl⟩
            case measure => have := iterPos_of hinv4.1; have := hpos.out; omega
          · go_wp2_with (first
            | (go_at_call 29; refine calls_same (joins_any _ _) ?_)
            | (go_at_call 28; refine calls_same (mark_any _ _) ?_)
            | (go_at_call 30; refine (endRun_any (w.heap.size + 1) l run ((p : Int) + 1) _ _ _ hinv2.2.1 hinv2.2.2.1 hinv2.2.2.2.2 (by omega) (by omega) (by omega) (by omega)).mono ?_; rintro e w1 ⟨v', rfl, hv', hg⟩; have hinv3 := hinv2.list hv' hg)
            | (at_builtin; refine wpList_append_own _ rfl _ _ 24 rfl (w.heap.size + 1) 28 i0 (.agg #[.string ByteArray.empty, .int .i64 0]) 2 24 Try.underlying24 hi hz0 hz1 hz2 rfl (by decide) _ _ _ rfl (hinv3.2.1.alloc _) ⟨w1.heap.size, 0, none⟩ 1 1 [.string (Utf8.encode r), .int .i64 ((p : Int) + 1)] rfl rfl (cell_two_new w1 _ _ _) (by intro u hu; simp at hu; rcases hu with rfl | rfl <;> rfl) (by unfold maxLen; omega) (by omega) (by have := hinv3.2.2.2.2; simp; omega) ?_; intro v2 w2 hown' hgrow _))
            have hown2 : w2.ownsRow (w.heap.size + 1) 28 2 v2 (endR l run ((p : Int) + 1) ++ [(Utf8.encode r, (p : Int) + 1)]).length (sgCells (endR l run ((p : Int) + 1) ++ [(Utf8.encode r, (p : Int) + 1)])) := by rw [sgCells_append]; simpa [sgCells] using hown'
            have hinv4 := (hinv3.clear.alloc _).list hown2 hgrow
            go_roundw
            case rel => exact ⟨pos + wi, p + 1, _, [], hinv4, by go_num, by have := HS.out; omega, by simp, by simp; omega, by rw [← HC.out, cutGo_mark _ _ _ _ _ h1 h2]; rfl⟩
            case measure => have := iterPos_of hinv4.1; have := hpos.out; omega
      · go_wp2_with (first
          | (go_at_call 29; refine calls_same (joins_any _ _) ?_)
          | (at_builtin; refine wpList_append_own _ rfl _ _ 48 rfl (w.heap.size + 1) 21 i1 (.int .i32 0) 1 4 Try.underlying48 gi gz0 gz1 gz2 rfl (by decide) _ _ _ rfl (hinv2.2.2.1.alloc _) ⟨wr2.heap.size, 0, none⟩ 1 1 [.int .i32 r] rfl rfl (cell_one_at wr2 _ _) (by intro u hu; simp at hu; subst hu; rfl) (by unfold maxLen; omega) (by omega) (by have := hinv2.2.2.2.2; simp; omega) ?_; intro u' w1 hown' hgrow _))
        have hown2 : w1.ownsRow (w.heap.size + 1) 21 1 u' (run ++ [r]).length (runCells (run ++ [r])) := by simpa [runCells] using hown'
        have hinv3 := (hinv2.alloc _).run hown2 hgrow
        go_roundw
        case rel => exact ⟨pos + wi, p + 1, l, run ++ [r], hinv3, by go_num, by have := HS.out; omega, by simp; omega, by omega, by rw [← HC.out, cutGo_join _ _ _ _ _ h1]⟩
        case measure => have := iterPos_of hinv3.1; have := hpos.out; omega
    · have hnx : ∀ ty, (Instr.next (.pointer (some ⟨w.heap.size, 0, none⟩)) true ty).run Try.prog wr = _ := fun ty => Lib.run_next_end_at wr w.heap.size s pos ty hinv.1 hp
      rw [rest_end s pos hp] at hc
      have HC : Hid (endR l run (p + 1 : Nat) = cutGo [] [] 0 (runesOf s)) := hc
      clear hc
      go_wp2_with fail
      rw [show ((p : Int) + 1) = ((p + 1 : Nat) : Int) from by omega]
      refine (endRun_any (w.heap.size + 1) l run (p + 1 : Nat) _ _ _ hinv.2.1 hinv.2.2.1 hinv.2.2.2.2 (by omega) (by omega) (by omega) (by omega)).mono ?_
      rintro e w' ⟨v', rfl, hv', hg⟩
      rw [HC.out] at hv'
      have hb := below_kept hinv.2.2.2.1 hinv.2.2.2.2 hinv.2.1 (by omega) hg
      go_wp2
      go_ret
      exact ⟨_, rfl, hv', hb⟩

/-- The signs of a text. -/
def sgOf (s : ByteArray) : List Sg := cutGo [] [] 0 (runesOf s)
def badOf (s : ByteArray) : Nat := badGo 0 (runesOf s)

set_option maxHeartbeats 1000000 in
set_option maxRecDepth 100000 in
theorem signs_bad (s : ByteArray) (w : World) (hs : s.size ≤ maxLen) (hb : badOf s ≠ 0) :
    Calls Try.prog 11 #[.string s] w fun e w' => e = .returned (.tuple #[.slice none 0 0, .int .i64 (badOf s : Nat)]) ∧ Below w.heap.size w w' := by
  have hn : (((badOf s : Nat) : Int) != 0) = true := by rw [bne_iff_ne]; omega
  go_enter Try.func11, Try.ntmps11
  go_wp2_with fail
  refine (firstBad_any s _ hs).mono ?_
  rintro e w' ⟨rfl, pos, rfl⟩
  change (((badGo 0 (runesOf s) : Nat) : Int) != 0) = true at hn
  go_wp2
  go_ret2
  exact ⟨rfl, below_iter _ _ _⟩

set_option maxHeartbeats 1000000 in
set_option maxRecDepth 100000 in
theorem signs_ok (s : ByteArray) (w : World) (hs : s.size ≤ 2147483648) (hb : badOf s = 0) :
    Calls Try.prog 11 #[.string s] w fun e w' => ∃ v, e = .returned (.tuple #[v, .int .i64 0]) ∧ w'.ownsRow w.heap.size 28 2 v (sgOf s).length (sgCells (sgOf s)) ∧ Below w.heap.size w w' := by
  go_enter Try.func11, Try.ntmps11
  go_wp2_with fail
  refine (firstBad_any s _ (by unfold maxLen; omega)).mono ?_
  rintro e w' ⟨rfl, pos, rfl⟩
  rw [show badGo 0 (runesOf s) = 0 from hb]
  have hbw := below_iter w s pos
  generalize w.iter s pos = w1 at *
  go_wp2_with fail
  refine (cut_any s _ hs).mono ?_
  rintro e w2 ⟨v, rfl, hown, hb2⟩
  have hsz := hbw.size
  go_wp2
  go_ret2
  refine ⟨_, rfl, ⟨hown.1, ?_⟩, hbw.trans (hb2.mono hsz)⟩
  rcases hown.2 with h | ⟨g, cap, cur, h1, h2, h3⟩
  · exact .inl h
  · exact .inr ⟨g, cap, cur, h1, by omega, h3⟩

end Go.Proofs.Ytpopboanflnphaa
