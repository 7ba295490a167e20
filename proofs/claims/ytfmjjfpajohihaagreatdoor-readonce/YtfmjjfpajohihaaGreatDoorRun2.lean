/- The signs of a text: what package runes answers. -/
import Derived.Test.YtfmjjfpajohihaaGreatDoorRun1
namespace Go.Proofs.YtfmjjfpajohihaaGreatDoor.Rn
open Go.RowKit
set_option linter.unusedVariables false

theorem Tryz.info110 : (Tryz.prog.info? 110).map (fun i => (i.zero, i.size, i.bytes)) = some (some (.agg #[.string ByteArray.empty, .int .i64 0]), 2, 24) := by kernel_rfl
theorem Tryz.info21 : (Tryz.prog.info? 21).map (fun i => (i.zero, i.size, i.bytes)) = some (some (.int .i32 0), 1, 4) := by kernel_rfl
def runCells (run : List Int) : List Value := run.map (Value.int .i32)
theorem runCells_length (run : List Int) : (runCells run).length = run.length * 1 := by simp [runCells]
theorem grownBy_refl (w : World) (row : Option Nat) : w.grownBy w row := ⟨rfl, rfl, rfl, Nat.le_refl _, fun _ _ _ => rfl⟩
set_option maxHeartbeats 1000000 in
set_option maxRecDepth 100000 in
theorem endRun_none (B : Nat) (v u : Value) (n cap : Nat) (ao : Option Addr) (e : Int) (w : World) :
    Calls Tryz.prog 82 #[v, .slice ao 0 cap, .int .i64 e] w fun e' w' => e' = .returned v ∧ w' = w := by
  go_enter Tryz.func82, Tryz.ntmps82
  go_wp2
  go_ret
  exact ⟨rfl, rfl⟩
set_option maxHeartbeats 1000000 in
set_option maxRecDepth 100000 in
theorem endRun_some (B : Nat) (l : List Sg) (run : List Int) (e : Int) (v : Value) (g cap : Nat) (w : World)
    (hv : w.ownsRow B 110 2 v l.length (sgCells l)) (hu : w.ownsRow B 21 1 (.slice (some ⟨g, 0, none⟩) run.length cap) run.length (runCells run))
    (hB : B ≤ w.heap.size) (hne : run ≠ []) (hl : l.length ≤ 1000000000000) (hr : run.length ≤ 140737488355328) (he0 : 0 ≤ e) (he1 : e ≤ 281474976710656) :
    Calls Tryz.prog 82 #[v, .slice (some ⟨g, 0, none⟩) run.length cap, .int .i64 e] w fun e' w' => ∃ v', e' = .returned v' ∧
      w'.ownsRow B 110 2 v' (endR l run e).length (sgCells (endR l run e)) ∧ w.grownBy w' v.ownBlock := by
  obtain ⟨i0, hi, hz0, hz1, hz2⟩ := info_parts Tryz.info110
  have hcv : (convert 162 9 (.slice (some ⟨g, 0, none⟩) run.length cap)).run Tryz.prog w = .ok (.string (runesBytes run)) w := by
    have := run_convert_runes (P := Tryz.prog) w 162 9 21 ⟨g, 0, none⟩ run.length cap run (Nat.le_refl _) Tryz.underlying162 Tryz.underlying21 Tryz.underlying9 (by
      intro j hj
      have := hu.cells (g := g) rfl j (.int .i32 (run.getD j 0)) (by simp [runCells, hj])
      exact this)
    simpa using this
  have hrl : 0 < run.length := List.length_pos_iff.2 hne
  have hq : ((run.length : Int) == 0) = false := by rw [beq_eq_false_iff_ne]; omega
  have HE : Hid (endR l run e = l ++ [(runesBytes run, e - run.length)]) := by unfold Hid endR; rw [if_neg hne]
  generalize hm : run.length = m at *
  generalize htx : runesBytes run = tx at *
  clear hu hne
  go_enter Tryz.func82, Tryz.ntmps82
  go_wp2_with (at_builtin; refine wpList_append_own _ rfl _ _ 54 rfl B 110 i0 (.agg #[.string ByteArray.empty, .int .i64 0]) 2 24 Tryz.underlying54 hi hz0 hz1 hz2 rfl (by decide) _ _ _ rfl (hv.alloc _) ⟨w.heap.size, 0, none⟩ 1 1 [.string tx, .int .i64 (e - m)] rfl rfl (cell_two_new w _ _ _) (by intro u hu; simp at hu; rcases hu with rfl | rfl <;> rfl) (by unfold maxLen; omega) (by omega) (by simp; omega) ?_; intro v' w1 hown' hgrow _)
  go_ret
  refine ⟨_, rfl, ?_, ?_⟩
  · rw [HE.out, sgCells_append]
    simpa [sgCells] using hown'
  · exact ⟨hgrow.os, hgrow.tape, hgrow.output, by have := hgrow.size; simp at this; omega, fun k hk hne => (hgrow.block k (by simp; omega) hne).trans (heap_alloc_old w _ hk)⟩
theorem endRun_any (B : Nat) (l : List Sg) (run : List Int) (e : Int) (v u : Value) (w : World)
    (hv : w.ownsRow B 110 2 v l.length (sgCells l)) (hu : w.ownsRow B 21 1 u run.length (runCells run))
    (hB : B ≤ w.heap.size) (hl : l.length ≤ 1000000000000) (hr : run.length ≤ 140737488355328) (he0 : 0 ≤ e) (he1 : e ≤ 281474976710656) :
    Calls Tryz.prog 82 #[v, u, .int .i64 e] w fun e' w' => ∃ v', e' = .returned v' ∧
      w'.ownsRow B 110 2 v' (endR l run e).length (sgCells (endR l run e)) ∧ w.grownBy w' v.ownBlock := by
  by_cases hne : run = []
  · subst hne
    have hcase : ∃ ao cap, u = .slice ao 0 cap := by
      rcases hu.2 with ⟨rfl, _⟩ | ⟨g, cap, cur, rfl, _⟩
      · exact ⟨_, _, rfl⟩
      · exact ⟨_, _, rfl⟩
    obtain ⟨ao, cap, rfl⟩ := hcase
    refine (endRun_none B v v 0 cap ao e w).mono ?_
    rintro e' w' ⟨rfl, rfl⟩
    exact ⟨_, rfl, by simpa [endR] using hv, grownBy_refl _ _⟩
  · rcases hu.2 with ⟨rfl, h0⟩ | ⟨g, cap, cur, rfl, _⟩
    · exact absurd (List.eq_nil_of_length_eq_zero h0) hne
    · exact endRun_some B l run e v g cap w hv hu hB hne hl hr he0 he1
def Inv (K : Nat) (w : World) (s : ByteArray) (pos : Nat) (l : List Sg) (run : List Int) (v u : Value) (wr : World) : Prop :=
  wr.heap[K]? = some (.stringIter s pos) ∧ wr.ownsRow (K + 1) 110 2 v l.length (sgCells l) ∧ wr.ownsRow (K + 1) 21 1 u run.length (runCells run) ∧ Below K w wr ∧ K + 1 ≤ wr.heap.size
theorem own_ne {w : World} {B B' : Nat} {e e' : TypeId} {size size' : Nat} {v u : Value} {n n' : Nat} {xs ys : List Value}
    (hv : w.ownsRow B e size v n xs) (hu : w.ownsRow B' e' size' u n' ys) (hne : e ≠ e') : v.ownBlock = none ∨ v.ownBlock ≠ u.ownBlock := by
  rcases hv.2 with ⟨rfl, _⟩ | ⟨g, cap, cur, rfl, _, hg, _⟩
  · exact .inl rfl
  · rcases hu.2 with ⟨rfl, _⟩ | ⟨g', cap', cur', rfl, _, hg', _⟩
    · right; simp [Value.ownBlock]
    · right
      simp only [Value.ownBlock]
      intro h
      have h2 : g = g' := Option.some.inj h
      subst h2
      rw [hg] at hg'
      injection hg' with h3
      injection h3 with h4 h5
      exact hne h5
theorem Inv.iter {K : Nat} {w : World} {s : ByteArray} {pos : Nat} {l : List Sg} {run : List Int} {v u : Value} {wr : World} (h : Inv K w s pos l run v u wr) (pos' : Nat) : Inv K w s pos' l run v u (wr.iterAt K s pos') := by
  obtain ⟨h1, h2, h3, h4, h5⟩ := h
  exact ⟨Lib.iterAt_heap wr K s pos pos' h1, ownsRow_iterAt h2 (by omega) s pos', ownsRow_iterAt h3 (by omega) s pos', Lib.below_iterAt h4 (Nat.le_refl _) s pos', by rw [Lib.iterAt_size]; exact h5⟩
theorem iter_kept {K : Nat} {s : ByteArray} {pos : Nat} {wr w1 : World} {B : Nat} {e : TypeId} {size : Nat} {v : Value} {n : Nat} {xs : List Value}
    (h1 : wr.heap[K]? = some (.stringIter s pos)) (hv : wr.ownsRow B e size v n xs) (hB : K < B) (hg : wr.grownBy w1 v.ownBlock) : w1.heap[K]? = some (.stringIter s pos) := by
  rw [hg.block K (Array.getElem?_eq_some_iff.1 h1).1 (by
    intro h
    have := (hv.lt K h.symm).1
    omega)]
  exact h1
theorem below_kept {K : Nat} {w wr w1 : World} {B : Nat} {e : TypeId} {size : Nat} {v : Value} {n : Nat} {xs : List Value}
    (h4 : Below K w wr) (h5 : K + 1 ≤ wr.heap.size) (hv : wr.ownsRow B e size v n xs) (hB : K < B) (hg : wr.grownBy w1 v.ownBlock) : Below K w w1 :=
  h4.grown hg (by omega) (fun k hk => by have := (hv.lt k hk).1; omega)
theorem Inv.alloc {K : Nat} {w : World} {s : ByteArray} {pos : Nat} {l : List Sg} {run : List Int} {v u : Value} {wr : World} (h : Inv K w s pos l run v u wr) (o : Obj) : Inv K w s pos l run v u (wr.alloc o) := by
  obtain ⟨h1, h2, h3, h4, h5⟩ := h
  exact ⟨(heap_alloc_old wr o (by omega)).trans h1, h2.alloc o, h3.alloc o, h4.alloc (by omega) o, by simp; omega⟩
/-- The list has grown. -/
theorem Inv.list {K : Nat} {w : World} {s : ByteArray} {pos : Nat} {l l' : List Sg} {run : List Int} {v v' u : Value} {wr w1 : World} (h : Inv K w s pos l run v u wr)
    (hv' : w1.ownsRow (K + 1) 110 2 v' l'.length (sgCells l')) (hg : wr.grownBy w1 v.ownBlock) : Inv K w s pos l' run v' u w1 := by
  obtain ⟨h1, h2, h3, h4, h5⟩ := h
  exact ⟨iter_kept h1 h2 (by omega) hg, hv', h3.kept hg (own_ne h3 h2 (by decide)), below_kept h4 h5 h2 (by omega) hg, by have := hg.size; omega⟩
/-- The run has grown. -/
theorem Inv.run {K : Nat} {w : World} {s : ByteArray} {pos : Nat} {l : List Sg} {run run' : List Int} {v u u' : Value} {wr w1 : World} (h : Inv K w s pos l run v u wr)
    (hu' : w1.ownsRow (K + 1) 21 1 u' run'.length (runCells run')) (hg : wr.grownBy w1 u.ownBlock) : Inv K w s pos l run' v u' w1 := by
  obtain ⟨h1, h2, h3, h4, h5⟩ := h
  exact ⟨iter_kept h1 h3 (by omega) hg, h2.kept hg (own_ne h2 h3 (by decide)), hu', below_kept h4 h5 h3 (by omega) hg, by have := hg.size; omega⟩
theorem Inv.clear {K : Nat} {w : World} {s : ByteArray} {pos : Nat} {l : List Sg} {run : List Int} {v : Value} {g n cap : Nat} {wr : World} (h : Inv K w s pos l run v (.slice (some ⟨g, 0, none⟩) n cap) wr) : Inv K w s pos l [] v (.slice (some ⟨g, 0, none⟩) 0 cap) wr := by
  obtain ⟨h1, h2, h3, h4, h5⟩ := h
  refine ⟨h1, h2, ?_, h4, h5⟩
  rcases h3.2 with ⟨h, _⟩ | ⟨g', cap', cur, hv, hg, hh, hn, hcap, hsz, htake⟩
  · cases h
  · cases hv
    exact ⟨rfl, .inr ⟨g, cap, cur, rfl, hg, hh, by simp, hcap, hsz, by simp [runCells]⟩⟩
theorem Inv.clear_nil {K : Nat} {w : World} {s : ByteArray} {pos : Nat} {l : List Sg} {run : List Int} {v : Value} {wr : World} (h : Inv K w s pos l run v (.slice none 0 0) wr) : Inv K w s pos l [] v (.slice none 0 0) wr := by
  obtain ⟨h1, h2, h3, h4, h5⟩ := h
  exact ⟨h1, h2, ⟨rfl, .inl ⟨rfl, rfl⟩⟩, h4, h5⟩
theorem cutGo_join (l : List Sg) (run : List Int) (p : Nat) (r : Int) (rs : List Int) (h : joinB r = true) : cutGo l run p (r :: rs) = cutGo l (run ++ [r]) (p + 1) rs := by simp [cutGo, h]
theorem cutGo_mark (l : List Sg) (run : List Int) (p : Nat) (r : Int) (rs : List Int) (h : joinB r = false) (h2 : markB r = true) : cutGo l run p (r :: rs) = cutGo (endR l run (p + 1 : Nat) ++ [(Utf8.encode r, ((p + 1 : Nat) : Int))]) [] (p + 1) rs := by simp [cutGo, h, h2]
theorem cutGo_skip (l : List Sg) (run : List Int) (p : Nat) (r : Int) (rs : List Int) (h : joinB r = false) (h2 : markB r = false) : cutGo l run p (r :: rs) = cutGo (endR l run (p + 1 : Nat)) [] (p + 1) rs := by simp [cutGo, h, h2]
theorem endR_len (l : List Sg) (run : List Int) (e : Int) : (endR l run e).length ≤ l.length + 1 := by unfold endR; split <;> simp
theorem cell_one_at (w : World) (x : Value) (t : TypeId) : ∀ j u, [x][j]? = some u → (w.alloc (.cells #[x] t)).cell? ((⟨w.heap.size, 0, none⟩ : Addr).add j) = some u := by
  intro j u hj
  match j, hj with
  | 0, hj => simp at hj; subst hj; simp [Addr.add]
  | j + 1, hj => simp at hj
theorem Inv.shape {K : Nat} {w : World} {s : ByteArray} {pos : Nat} {l : List Sg} {run : List Int} {v u : Value} {wr : World} (h : Inv K w s pos l run v u wr) : (u = .slice none 0 0 ∧ run.length = 0) ∨ ∃ g cap, u = .slice (some ⟨g, 0, none⟩) run.length cap := by
  rcases h.2.2.1.2 with h | ⟨g, cap, cur, h, _⟩
  · exact .inl h
  · exact .inr ⟨g, cap, h⟩
set_option maxHeartbeats 4000000 in
set_option maxRecDepth 100000 in
theorem cut_any (s : ByteArray) (w : World) (hs : s.size ≤ 2147483648) :
    Calls Tryz.prog 64 #[.string s] w fun e w' => ∃ v, e = .returned v ∧ w'.ownsRow (w.heap.size + 1) 110 2 v (cutGo [] [] 0 (runesOf s)).length (sgCells (cutGo [] [] 0 (runesOf s))) ∧ Below w.heap.size w w' := by
  obtain ⟨i0, hi, hz0, hz1, hz2⟩ := info_parts Tryz.info110
  obtain ⟨i1, gi, gz0, gz1, gz2⟩ := info_parts Tryz.info21
  go_enter Tryz.func64, Tryz.ntmps64
  go_wp2
  go_loopw [3, 4, 5] (fun v u n wr => ∃ (pos p : Nat) (l : List Sg) (run : List Int), Inv w.heap.size w s pos l run v u wr ∧ n = .int .i64 p ∧ p + (rest s pos).length ≤ s.size ∧ run.length ≤ p ∧ l.length ≤ 2 * p ∧ cutGo l run p (rest s pos) = cutGo [] [] 0 (runesOf s)) (fun _ _ _ w' => s.size - w'.iterPos w.heap.size)
  case atStart =>
    refine ⟨0, 0, [], [], ⟨?_, World.ownsRow_nil _ _ _ _, World.ownsRow_nil _ _ _ _, below_iter _ _ _, ?_⟩, rfl, by have := rest_length s 0; omega, by simp, by simp, rfl⟩
    · exact World.iter_heap w s 0
    · simp [World.iter]
  case round =>
    obtain ⟨pos, p, l, run, hinv, rfl, hps, hrl, hll, hc⟩ := hrel
    by_cases hp : pos < s.size
    · have hwd := width_pos s pos hp
      have hst := rest_step s pos hp
      rw [hst] at hps hc
      simp only [List.length_cons] at hps
      have HC : Hid (cutGo l run p (((Utf8.decode s pos).1 : Int) :: rest s (pos + (Utf8.decode s pos).2)) = cutGo [] [] 0 (runesOf s)) := hc
      have HS : Hid (p + ((rest s (pos + (Utf8.decode s pos).2)).length + 1) ≤ s.size) := hps
      have hp1 : p + 1 ≤ s.size := by omega
      obtain ⟨wr2, hw2⟩ : ∃ x, x = wr.iterAt w.heap.size s (pos + (Utf8.decode s pos).2) := ⟨_, rfl⟩
      have hnx : ∀ ty, (Instr.next (.pointer (some ⟨w.heap.size, 0, none⟩)) true ty).run Tryz.prog wr = .ok (.tuple #[.bool true, .int .i64 pos, .int .i32 (Utf8.decode s pos).1]) wr2 := fun ty => by rw [hw2]; exact Lib.run_next_any_at wr w.heap.size s pos ty hinv.1 hp
      have hinv2 := hinv.iter (pos + (Utf8.decode s pos).2)
      rw [← hw2] at hinv2
      have hpos : Hid (wr.iterPos w.heap.size = pos) := iterPos_of hinv.1
      clear hc hst hps hw2 hinv
      generalize hr : ((Utf8.decode s pos).1 : Int) = r at *
      generalize hwi : (Utf8.decode s pos).2 = wi at *
      clear hr hwi
      cases h1 : joinB r
      · have hel := endR_len l run ((p : Int) + 1)
        have hq := hinv2.shape
        cases h2 : markB r
        · rcases hq with ⟨rfl, _⟩ | ⟨g, cap, rfl⟩
          · go_wp2_with (first
            | (go_at_call 81; refine calls_same (joins_any _ _) ?_)
            | (go_at_call 80; refine calls_same (mark_any _ _) ?_)
            | (go_at_call 82; refine (endRun_any (w.heap.size + 1) l run ((p : Int) + 1) _ _ _ hinv2.2.1 hinv2.2.2.1 hinv2.2.2.2.2 (by omega) (by omega) (by omega) (by omega)).mono ?_; rintro e w1 ⟨v', rfl, hv', hg⟩; have hinv3 := hinv2.list hv' hg))
            have hinv4 := hinv3.clear_nil
            go_roundw
            case rel => exact ⟨pos + wi, p + 1, endR l run ((p : Int) + 1), [], hinv4, by go_num, by have := HS.out; omega, by simp, by omega, by rw [← HC.out, cutGo_skip _ _ _ _ _ h1 h2]; rfl⟩
            case measure => have := iterPos_of hinv4.1; have := hpos.out; omega
          · go_wp2_with (first
            | (go_at_call 81; refine calls_same (joins_any _ _) ?_)
            | (go_at_call 80; refine calls_same (mark_any _ _) ?_)
            | (go_at_call 82; refine (endRun_any (w.heap.size + 1) l run ((p : Int) + 1) _ _ _ hinv2.2.1 hinv2.2.2.1 hinv2.2.2.2.2 (by omega) (by omega) (by omega) (by omega)).mono ?_; rintro e w1 ⟨v', rfl, hv', hg⟩; have hinv3 := hinv2.list hv' hg))
            have hinv4 := hinv3.clear
            go_roundw
            case rel => exact ⟨pos + wi, p + 1, endR l run ((p : Int) + 1), [], hinv4, by go_num, by have := HS.out; omega, by simp, by omega, by rw [← HC.out, cutGo_skip _ _ _ _ _ h1 h2]; rfl⟩
            case measure => have := iterPos_of hinv4.1; have := hpos.out; omega
        · rcases hq with ⟨rfl, _⟩ | ⟨g, cap, rfl⟩
          · go_wp2_with (first
            | (go_at_call 81; refine calls_same (joins_any _ _) ?_)
            | (go_at_call 80; refine calls_same (mark_any _ _) ?_)
            | (go_at_call 82; refine (endRun_any (w.heap.size + 1) l run ((p : Int) + 1) _ _ _ hinv2.2.1 hinv2.2.2.1 hinv2.2.2.2.2 (by omega) (by omega) (by omega) (by omega)).mono ?_; rintro e w1 ⟨v', rfl, hv', hg⟩; have hinv3 := hinv2.list hv' hg)
            | (at_builtin; refine wpList_append_own _ rfl _ _ 54 rfl (w.heap.size + 1) 110 i0 (.agg #[.string ByteArray.empty, .int .i64 0]) 2 24 Tryz.underlying54 hi hz0 hz1 hz2 rfl (by decide) _ _ _ rfl (hinv3.2.1.alloc _) ⟨w1.heap.size, 0, none⟩ 1 1 [.string (Utf8.encode r), .int .i64 ((p : Int) + 1)] rfl rfl (cell_two_new w1 _ _ _) (by intro u hu; simp at hu; rcases hu with rfl | rfl <;> rfl) (by unfold maxLen; omega) (by omega) (by have := hinv3.2.2.2.2; simp; omega) ?_; intro v2 w2 hown' hgrow _))
            have hown2 : w2.ownsRow (w.heap.size + 1) 110 2 v2 (endR l run ((p : Int) + 1) ++ [(Utf8.encode r, (p : Int) + 1)]).length (sgCells (endR l run ((p : Int) + 1) ++ [(Utf8.encode r, (p : Int) + 1)])) := by rw [sgCells_append]; simpa [sgCells] using hown'
            have hinv4 := (hinv3.clear_nil.alloc _).list hown2 hgrow
            go_roundw
            case rel => exact ⟨pos + wi, p + 1, _, [], hinv4, by go_num, by have := HS.out; omega, by simp, by simp; omega, by rw [← HC.out, cutGo_mark _ _ _ _ _ h1 h2]; rfl⟩
            case measure => have := iterPos_of hinv4.1; have := hpos.out; omega
          · go_wp2_with (first
            | (go_at_call 81; refine calls_same (joins_any _ _) ?_)
            | (go_at_call 80; refine calls_same (mark_any _ _) ?_)
            | (go_at_call 82; refine (endRun_any (w.heap.size + 1) l run ((p : Int) + 1) _ _ _ hinv2.2.1 hinv2.2.2.1 hinv2.2.2.2.2 (by omega) (by omega) (by omega) (by omega)).mono ?_; rintro e w1 ⟨v', rfl, hv', hg⟩; have hinv3 := hinv2.list hv' hg)
            | (at_builtin; refine wpList_append_own _ rfl _ _ 54 rfl (w.heap.size + 1) 110 i0 (.agg #[.string ByteArray.empty, .int .i64 0]) 2 24 Tryz.underlying54 hi hz0 hz1 hz2 rfl (by decide) _ _ _ rfl (hinv3.2.1.alloc _) ⟨w1.heap.size, 0, none⟩ 1 1 [.string (Utf8.encode r), .int .i64 ((p : Int) + 1)] rfl rfl (cell_two_new w1 _ _ _) (by intro u hu; simp at hu; rcases hu with rfl | rfl <;> rfl) (by unfold maxLen; omega) (by omega) (by have := hinv3.2.2.2.2; simp; omega) ?_; intro v2 w2 hown' hgrow _))
            have hown2 : w2.ownsRow (w.heap.size + 1) 110 2 v2 (endR l run ((p : Int) + 1) ++ [(Utf8.encode r, (p : Int) + 1)]).length (sgCells (endR l run ((p : Int) + 1) ++ [(Utf8.encode r, (p : Int) + 1)])) := by rw [sgCells_append]; simpa [sgCells] using hown'
            have hinv4 := (hinv3.clear.alloc _).list hown2 hgrow
            go_roundw
            case rel => exact ⟨pos + wi, p + 1, _, [], hinv4, by go_num, by have := HS.out; omega, by simp, by simp; omega, by rw [← HC.out, cutGo_mark _ _ _ _ _ h1 h2]; rfl⟩
            case measure => have := iterPos_of hinv4.1; have := hpos.out; omega
      · go_wp2_with (first
          | (go_at_call 81; refine calls_same (joins_any _ _) ?_)
          | (at_builtin; refine wpList_append_own _ rfl _ _ 162 rfl (w.heap.size + 1) 21 i1 (.int .i32 0) 1 4 Tryz.underlying162 gi gz0 gz1 gz2 rfl (by decide) _ _ _ rfl (hinv2.2.2.1.alloc _) ⟨wr2.heap.size, 0, none⟩ 1 1 [.int .i32 r] rfl rfl (cell_one_at wr2 _ _) (by intro u hu; simp at hu; subst hu; rfl) (by unfold maxLen; omega) (by omega) (by have := hinv2.2.2.2.2; simp; omega) ?_; intro u' w1 hown' hgrow _))
        have hown2 : w1.ownsRow (w.heap.size + 1) 21 1 u' (run ++ [r]).length (runCells (run ++ [r])) := by simpa [runCells] using hown'
        have hinv3 := (hinv2.alloc _).run hown2 hgrow
        go_roundw
        case rel => exact ⟨pos + wi, p + 1, l, run ++ [r], hinv3, by go_num, by have := HS.out; omega, by simp; omega, by omega, by rw [← HC.out, cutGo_join _ _ _ _ _ h1]⟩
        case measure => have := iterPos_of hinv3.1; have := hpos.out; omega
    · have hnx : ∀ ty, (Instr.next (.pointer (some ⟨w.heap.size, 0, none⟩)) true ty).run Tryz.prog wr = _ := fun ty => Lib.run_next_end_at wr w.heap.size s pos ty hinv.1 hp
      rw [rest_end s pos hp] at hc
      have HC : Hid (endR l run (p + 1 : Nat) = cutGo [] [] 0 (runesOf s)) := hc
      clear hc
      go_wp2_with fail
      rw [show ((p : Int) + 1) = ((p + 1 : Nat) : Int) from by omega]
      refine (endRun_any (w.heap.size + 1) l run (p + 1 : Nat) _ _ _ hinv.2.1 hinv.2.2.1 hinv.2.2.2.2 (by omega) (by omega) (by omega) (by omega)).mono ?_
      rintro e w' ⟨v', rfl, hv', hg⟩
      rw [HC.out] at hv'
      have hb := below_kept hinv.2.2.2.1 hinv.2.2.2.2 hinv.2.1 (by omega) hg
      go_wp2
      go_ret
      exact ⟨_, rfl, hv', hb⟩
/-- The signs of a text. -/
def sgOf (s : ByteArray) : List Sg := cutGo [] [] 0 (runesOf s)
def badOf (s : ByteArray) : Nat := badGo 0 (runesOf s)
set_option maxHeartbeats 1000000 in
set_option maxRecDepth 100000 in
theorem signs_bad (s : ByteArray) (w : World) (hs : s.size ≤ maxLen) (hb : badOf s ≠ 0) :
    Calls Tryz.prog 35 #[.string s] w fun e w' => e = .returned (.tuple #[.slice none 0 0, .int .i64 (badOf s : Nat)]) ∧ Below w.heap.size w w' := by
  have hn : (((badOf s : Nat) : Int) != 0) = true := by rw [bne_iff_ne]; omega
  go_enter Tryz.func35, Tryz.ntmps35
  go_wp2_with fail
  refine (firstBad_any s _ hs).mono ?_
  rintro e w' ⟨rfl, pos, rfl⟩
  change (((badGo 0 (runesOf s) : Nat) : Int) != 0) = true at hn
  go_wp2
  go_ret2
  exact ⟨rfl, below_iter _ _ _⟩
set_option maxHeartbeats 1000000 in
set_option maxRecDepth 100000 in
theorem signs_ok (s : ByteArray) (w : World) (hs : s.size ≤ 2147483648) (hb : badOf s = 0) :
    Calls Tryz.prog 35 #[.string s] w fun e w' => ∃ v, e = .returned (.tuple #[v, .int .i64 0]) ∧ w'.ownsRow w.heap.size 110 2 v (sgOf s).length (sgCells (sgOf s)) ∧ Below w.heap.size w w' := by
  go_enter Tryz.func35, Tryz.ntmps35
  go_wp2_with fail
  refine (firstBad_any s _ (by unfold maxLen; omega)).mono ?_
  rintro e w' ⟨rfl, pos, rfl⟩
  rw [show badGo 0 (runesOf s) = 0 from hb]
  have hbw := below_iter w s pos
  generalize w.iter s pos = w1 at *
  go_wp2_with fail
  refine (cut_any s _ hs).mono ?_
  rintro e w2 ⟨v, rfl, hown, hb2⟩
  have hsz := hbw.size
  go_wp2
  go_ret2
  refine ⟨_, rfl, ⟨hown.1, ?_⟩, hbw.trans (hb2.mono hsz)⟩
  rcases hown.2 with h | ⟨g, cap, cur, h1, h2, h3⟩
  · exact .inl h
  · exact .inr ⟨g, cap, cur, h1, by omega, h3⟩

end Go.Proofs.YtfmjjfpajohihaaGreatDoor.Rn
