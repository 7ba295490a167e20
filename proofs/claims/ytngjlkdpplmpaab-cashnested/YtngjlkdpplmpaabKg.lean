/- Choose and Clone of the program's world: what each answers, and what is known then. -/
import Derived.Test.YtngjlkdpplmpaabKf
import Derived.Laws.Externs
namespace Go.Proofs.Ytngjlkdpplmpaab.Wd
open Go.RowKit Go.Maps
set_option linter.unusedVariables false

theorem fix_any (w : World) (p f c : Nat) (K : KW) (h : KIn w p f c K) (s : ByteArray) (d v : Int) (hk : fixOk (s, d)) :
    Calls Try.prog 37 #[.pointer (some ⟨p, 0, none⟩), .string s, .int .i64 d, .int .i64 v] w fun e w' => e = .returned (.int .i64 (fixE K s d v)) ∧ KIn w' p f c (fixN K s d v) ∧ Gr f w w' := by
  cases hb : (nameGo 0 (runesOf s) && dayB d && vB v)
  · have he : fixE K s d v = 1 := by unfold fixE; rw [hb]; rfl
    refine (fix_bad w p f c K h s d v hb).mono ?_
    rintro e w' ⟨rfl, hB⟩
    refine ⟨by rw [he], ?_, Gr.of_below hB⟩
    rw [fixN, if_neg (by omega)]
    exact h.below hB
  · exact fix_ok w p f c K h s d v hk hb

set_option maxHeartbeats 1000000 in
theorem ch_bad (w : World) (p f c : Nat) (K : KW) (h : KIn w p f c K) (s t : ByteArray) (q d : Int) (hb : (nameGo 0 (runesOf s) && nameGo 0 (runesOf t) && pickB q && dayB d) = false) :
    Calls Try.prog 14 #[.pointer (some ⟨p, 0, none⟩), .string s, .string t, .int .i64 q, .int .i64 d] w fun e w' => e = .returned (.int .i64 1) ∧ Below w.heap.size w w' := by
  clear h
  have bi := below_iter
  cases hn : nameGo 0 (runesOf s)
  · go_enter Try.func14, Try.ntmps14
    go_wp2_with (go_at_call 26; refine (name_any _ _).mono ?_; rintro e w' ⟨rfl, pos, rfl⟩)
    go_ret
    exact ⟨rfl, below_iter _ _ _⟩
  · cases hm : nameGo 0 (runesOf t)
    · go_enter Try.func14, Try.ntmps14
      go_wp2_with (first | (go_at_call 26; refine (name_any _ _).mono ?_; rintro e w' ⟨rfl, pos, rfl⟩))
      go_ret
      exact ⟨rfl, (below_iter _ _ _).trans ((below_iter _ _ _).mono (below_iter _ _ _).size)⟩
    · cases hd : pickB q
      · go_enter Try.func14, Try.ntmps14
        go_wp2_with (first | (go_at_call 26; refine (name_any _ _).mono ?_; rintro e w' ⟨rfl, pos, rfl⟩) | (go_at_call 27; refine (pick_any _ _).mono ?_; rintro e w' ⟨rfl, rfl⟩))
        go_ret
        exact ⟨rfl, (below_iter _ _ _).trans ((below_iter _ _ _).mono (below_iter _ _ _).size)⟩
      · rw [hn, hm, hd] at hb
        have hv : dayB d = false := by simpa using hb
        go_enter Try.func14, Try.ntmps14
        go_wp2_with (first | (go_at_call 26; refine (name_any _ _).mono ?_; rintro e w' ⟨rfl, pos, rfl⟩) | (go_at_call 27; refine (pick_any _ _).mono ?_; rintro e w' ⟨rfl, rfl⟩) | (go_at_call 28; refine (day_any _ _).mono ?_; rintro e w' ⟨rfl, rfl⟩))
        go_ret
        exact ⟨rfl, (below_iter _ _ _).trans ((below_iter _ _ _).mono (below_iter _ _ _).size)⟩

theorem cell_new {w : World} {a : Addr} {v : Value} (h : w.cell? a = some v) (o : Obj) : (w.alloc o).cell? a = some v :=
  ((below_alloc (Below.refl _ _) o).cell (World.block_lt_of_cell? w _ h)).trans h

set_option maxHeartbeats 2000000 in
theorem ch_ok (w : World) (p f c : Nat) (K : KW) (h : KIn w p f c K) (s t : ByteArray) (q d : Int) (hk : chOk (s, t)) (hb : (nameGo 0 (runesOf s) && nameGo 0 (runesOf t) && pickB q && dayB d) = true) :
    Calls Try.prog 14 #[.pointer (some ⟨p, 0, none⟩), .string s, .string t, .int .i64 q, .int .i64 d] w fun e w' => e = .returned (.int .i64 (chE K s t q d)) ∧ KIn w' p f c (chN K s t q d) ∧ Gr c w w' := by
  have hb0 := hb
  simp only [Bool.and_eq_true] at hb
  obtain ⟨⟨⟨hn, hm⟩, hq⟩, hd⟩ := hb
  have HK : Hid (KIn w p f c K) := h
  have HE : Hid (chE K s t q d = if (K.chosen (s, t)).isSome = true then 4 else 0) := by
    show chE K s t q d = _
    unfold chE
    rw [hb0]
    rfl
  clear h hb0
  go_enter Try.func14, Try.ntmps14
  go_wp2_with (first | (go_at_call 26; refine (name_any _ _).mono ?_; rintro e w' ⟨rfl, pos, rfl⟩) | (go_at_call 27; refine (pick_any _ _).mono ?_; rintro e w' ⟨rfl, rfl⟩) | (go_at_call 28; refine (day_any _ _).mono ?_; rintro e w' ⟨rfl, rfl⟩))
  rename_i pos0 _ _ _ _
  have HB2 : Hid (Below w.heap.size w ((w.iter s pos0).iter t pos)) := (below_iter _ _ _).trans ((below_iter _ _ _).mono (below_iter _ _ _).size)
  generalize ((w.iter s pos0).iter t pos) = W at *
  have HA : Hid (KIn (W.alloc (.cells #[.string s, .string t] 95)) p f c K) := HK.out.below (below_alloc HB2.out _)
  have HG1 : Hid (Below w.heap.size w (W.alloc (.cells #[.string s, .string t] 95))) := below_alloc HB2.out _
  have ck : (W.alloc (.cells #[.string s, .string t] 95)).heap[W.heap.size]? = some (.cells #[.string s, .string t] 95) := blk_new _ _
  have ck0 : (W.alloc (.cells #[.string s, .string t] 95)).cell? ⟨W.heap.size, 0, none⟩ = some (.string s) := cell_blk ck rfl
  have ck1 : (W.alloc (.cells #[.string s, .string t] 95)).cell? ⟨W.heap.size, 1, none⟩ = some (.string t) := cell_blk ck rfl
  generalize hWA : W.alloc (.cells #[.string s, .string t] 95) = WA at *
  clear hWA ck
  generalize W.heap.size = kb at *
  have c0 := HA.out.cell1
  have hl : ∀ n, (Instr.lookup 72 (.map (some c)) (.agg #[.string s, .string t]) true).run Try.prog (WA.drewN n) = _ := fun n => look_ch (w := WA.drewN n) HA.out.ok HA.out.ch (s, t) hk
  have hl1 : (Instr.lookup 72 (.map (some c)) (.agg #[.string s, .string t]) true).run Try.prog WA.drew = _ := look_ch (w := WA.drew) HA.out.ok HA.out.ch (s, t) hk
  have hl2 : (Instr.lookup 72 (.map (some c)) (.agg #[.string s, .string t]) true).run Try.prog (WA.alloc (.cells #[.int .i64 0, .int .i64 0] 97)).drew = _ := look_ch (w := (WA.alloc (.cells #[.int .i64 0, .int .i64 0] 97)).drew) HA.out.ok (HA.out.ch.alloc _) (s, t) hk
  have c0b := cell_new c0 (.cells #[.int .i64 0, .int .i64 0] 97)
  have ck0b := cell_new ck0 (.cells #[.int .i64 0, .int .i64 0] 97)
  have ck1b := cell_new ck1 (.cells #[.int .i64 0, .int .i64 0] 97)
  unfold pkV at hl hl1 hl2
  cases hf : K.chosen (s, t) with
  | some x =>
    rw [hf] at hl hl1 hl2
    have he : chE K s t q d = 4 := by rw [HE.out, hf]; rfl
    go_region
    all_goals
      go_wp2
      go_ret
      refine ⟨by rw [he]; rfl, ?_, ?_⟩
      · rw [chN, if_neg (by omega)]
        exact (HA.out.below (below_alloc (Below.refl _ _) _)).drew
      · exact (Gr.of_below (below_alloc HG1.out _)).drew
  | none =>
    rw [hf] at hl hl1 hl2
    have he : chE K s t q d = 0 := by rw [HE.out, hf]; rfl
    go_region
    all_goals
      clear hl hl1 hl2
      have HC : Hid (KIn (WA.alloc (.cells #[.int .i64 0, .int .i64 0] 97)).drew p f c K) := (HA.out.below (below_alloc (Below.refl _ _) _)).drew
      have HGC : Hid (Gr c w (WA.alloc (.cells #[.int .i64 0, .int .i64 0] 97)).drew) := (Gr.of_below (below_alloc HG1.out _)).drew
      have c0c : (WA.alloc (.cells #[.int .i64 0, .int .i64 0] 97)).drew.cell? ⟨p, 1, none⟩ = _ := c0b
      have ck0c : (WA.alloc (.cells #[.int .i64 0, .int .i64 0] 97)).drew.cell? ⟨kb, 0, none⟩ = _ := ck0b
      have ck1c : (WA.alloc (.cells #[.int .i64 0, .int .i64 0] 97)).drew.cell? ⟨kb, 1, none⟩ = _ := ck1b
      go_wp2
      generalize hWC : (WA.alloc (.cells #[.int .i64 0, .int .i64 0] 97)).drew = WC at *
      clear hWC c0b ck0b ck1b c0 ck0 ck1
      obtain ⟨H, hput, hin, hgr⟩ := put_ch HC.out s t (q, d) hk hf
      have hput2 := hput WC.drew rfl
      have HIN2 : Hid (KIn { WC.drew with heap := H } p f c ⟨K.F, K.C ++ [((s, t), (q, d))]⟩) := hin.same rfl rfl rfl
      have HGR2 : Hid (Gr c w { WC.drew with heap := H }) := HGC.out.trans ⟨hgr.os, hgr.tape, hgr.output, hgr.size, hgr.block⟩
      generalize ({ WC.drew with heap := H } : World) = W2 at *
      unfold chK pkV at hput2
      clear hput hin hgr HC HGC
      go_region
      all_goals
        go_wp2
        go_ret
        refine ⟨by first | rfl | (rw [he]; rfl), ?_, HGR2.out⟩
        rw [chN, if_pos he]
        exact HIN2.out

theorem ch_any (w : World) (p f c : Nat) (K : KW) (h : KIn w p f c K) (s t : ByteArray) (q d : Int) (hk : chOk (s, t)) :
    Calls Try.prog 14 #[.pointer (some ⟨p, 0, none⟩), .string s, .string t, .int .i64 q, .int .i64 d] w fun e w' => e = .returned (.int .i64 (chE K s t q d)) ∧ KIn w' p f c (chN K s t q d) ∧ Gr c w w' := by
  cases hb : (nameGo 0 (runesOf s) && nameGo 0 (runesOf t) && pickB q && dayB d)
  · have he : chE K s t q d = 1 := by unfold chE; rw [hb]; rfl
    refine (ch_bad w p f c K h s t q d hb).mono ?_
    rintro e w' ⟨rfl, hB⟩
    refine ⟨by rw [he], ?_, Gr.of_below hB⟩
    rw [chN, if_neg (by omega)]
    exact h.below hB
  · exact ch_ok w p f c K h s t q d hk hb

end Go.Proofs.Ytngjlkdpplmpaab.Wd
