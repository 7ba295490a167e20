/- Fix and Choose of the program's world: what each answers, and what is known then. -/
import Derived.Test.YtngjlkdpplmpaabKc
namespace Go.Proofs.Ytngjlkdpplmpaab.Wd
open Go.RowKit Go.Maps
set_option linter.unusedVariables false

/-- Nothing has turned but block M, and what is new. -/
structure Gr (M : Nat) (w w' : World) : Prop where
  os : w'.os = w.os
  tape : w'.tape = w.tape
  output : w'.output = w.output
  size : w.heap.size ≤ w'.heap.size
  block : ∀ k, k < w.heap.size → k ≠ M → w'.heap[k]? = w.heap[k]?
theorem Gr.of_below {M : Nat} {w w' : World} (h : Below w.heap.size w w') : Gr M w w' := ⟨h.os, h.tape, h.output, h.size, fun k hk _ => h.block k hk⟩
theorem Gr.of_grown {M : Nat} {w w' : World} (h : w.grownBy w' (some M)) : Gr M w w' := ⟨h.os, h.tape, h.output, h.size, fun k hk hne => h.block k hk (fun e => hne (by injection e))⟩
theorem Gr.trans {M : Nat} {u v w : World} (h : Gr M u v) (g : Gr M v w) : Gr M u w :=
  ⟨g.os.trans h.os, g.tape.trans h.tape, g.output.trans h.output, Nat.le_trans h.size g.size, fun k hk hne => (g.block k (Nat.lt_of_lt_of_le hk h.size) hne).trans (h.block k hk hne)⟩
theorem Gr.drew {M : Nat} {u v : World} (h : Gr M u v) : Gr M u v.drew := ⟨h.os, h.tape, h.output, h.size, h.block⟩
theorem Gr.below {M B : Nat} {w w' : World} (h : Gr M w w') (hB : B ≤ w.heap.size) (hM : B ≤ M) : Below B w w' := ⟨h.os, h.tape, h.output, h.size, fun k hk => h.block k (by omega) (by omega)⟩
theorem Gr.drewN {M : Nat} {u v : World} (h : Gr M u v) (n : Nat) : Gr M u (v.drewN n) := ⟨h.os, h.tape, h.output, h.size, h.block⟩
theorem KIn.drewN {w : World} {p f c : Nat} {K : KW} (h : KIn w p f c K) (n : Nat) : KIn (w.drewN n) p f c K := h.same rfl rfl rfl
theorem KIn.drew {w : World} {p f c : Nat} {K : KW} (h : KIn w p f c K) : KIn w.drew p f c K := h.same rfl rfl rfl
theorem KIn.gr {w w' : World} {p f c M : Nat} {K : KW} (h : KIn w p f c K) (hg : Gr M w w') (h1 : p ≠ M) (h2 : f ≠ M) (h3 : c ≠ M) : KIn w' p f c K :=
  h.same (hg.block _ h.lt.1 h1) (hg.block _ h.lt.2.1 h2) (hg.block _ h.lt.2.2 h3)

def fixE (K : KW) (s : ByteArray) (d v : Int) : Int := if (nameGo 0 (runesOf s) && dayB d && vB v) = false then 1 else if (K.fixed (s, d)).isSome = true then 4 else if 32 ≤ K.F.length then 5 else 0
def fixN (K : KW) (s : ByteArray) (d v : Int) : KW := if fixE K s d v = 0 then ⟨K.F ++ [((s, d), v)], K.C⟩ else K
def chE (K : KW) (s t : ByteArray) (p d : Int) : Int := if (nameGo 0 (runesOf s) && nameGo 0 (runesOf t) && pickB p && dayB d) = false then 1 else if (K.chosen (s, t)).isSome = true then 4 else 0
def chN (K : KW) (s t : ByteArray) (p d : Int) : KW := if chE K s t p d = 0 then ⟨K.F, K.C ++ [((s, t), (p, d))]⟩ else K

theorem nodup_snoc {α β : Type} {l : List (α × β)} {p : α} {v : β} (h : (l.map (·.1)).Nodup) (hn : ∀ q ∈ l, q.1 ≠ p) : ((l ++ [(p, v)]).map (·.1)).Nodup := by
  rw [List.map_append]
  refine List.nodup_append.2 ⟨h, by simp, ?_⟩
  intro a ha b hb
  simp at hb
  subst hb
  obtain ⟨q, hq, rfl⟩ := List.mem_map.1 ha
  exact hn q hq

theorem cell_blk {w : World} {b i : Nat} {t : TypeId} {cs : Array Value} {v : Value} (h : w.heap[b]? = some (.cells cs t)) (hi : cs[i]? = some v) : w.cell? ⟨b, i, none⟩ = some v := by simp [World.cell?, h, hi]
/-- A store of a new fixing. -/
theorem put_fix {w : World} {p f c : Nat} {K : KW} (h : KIn w p f c K) (s : ByteArray) (d v : Int) (hk : fixOk (s, d)) (hn : K.fixed (s, d) = none) :
    ∃ H, (∀ V : World, V.heap = w.heap → (Instr.mapUpdate 71 (.map (some f)) (fixK (s, d)) (.int .i64 v)).run Try.prog V = .ok () { V with heap := H }) ∧ KIn { w with heap := H } p f c ⟨K.F ++ [((s, d), v)], K.C⟩ ∧ Gr f w { w with heap := H } := by
  obtain ⟨kl, hkl⟩ := keyOf_fix (s, d) hk
  have hno := (find_none K.F (s, d)).1 hn
  obtain ⟨w1, h1, h2, h3⟩ := run_put_no keyedF Try.underlying71 h.fix (keysF h.ok) hkl (by
    intro q hq e
    obtain ⟨r, hr, rfl⟩ := List.mem_map.1 hq
    exact hno r hr (fixK_inj.1 e)) (.int .i64 v)
  have hg := Gr.of_grown h3
  refine ⟨w1, h1, ⟨(hg.block _ h.lt.1 h.pf).trans h.blk, ?_, h.ch.of_block (hg.block _ h.lt.2.2 (Ne.symm h.fc)), h.fc, ?_⟩, hg⟩
  · simpa [fixL] using h2
  · refine ⟨?_, h.ok.co, nodup_snoc h.ok.fn hno, h.ok.cn⟩
    intro q hq
    rcases List.mem_append.1 hq with hq | hq
    · exact h.ok.fo q hq
    · simp at hq; subst hq; exact hk
theorem put_ch {w : World} {p f c : Nat} {K : KW} (h : KIn w p f c K) (s t : ByteArray) (v : Int × Int) (hk : chOk (s, t)) (hn : K.chosen (s, t) = none) :
    ∃ H, (∀ V : World, V.heap = w.heap → (Instr.mapUpdate 72 (.map (some c)) (chK (s, t)) (pkV v)).run Try.prog V = .ok () { V with heap := H }) ∧ KIn { w with heap := H } p f c ⟨K.F, K.C ++ [((s, t), v)]⟩ ∧ Gr c w { w with heap := H } := by
  obtain ⟨kl, hkl⟩ := keyOf_ch (s, t) hk
  have hno := (find_none K.C (s, t)).1 hn
  obtain ⟨w1, h1, h2, h3⟩ := run_put_no keyedC Try.underlying72 h.ch (keysC h.ok) hkl (by
    intro q hq e
    obtain ⟨r, hr, rfl⟩ := List.mem_map.1 hq
    exact hno r hr (chK_inj.1 e)) (pkV v)
  have hg := Gr.of_grown h3
  refine ⟨w1, h1, ⟨(hg.block _ h.lt.1 h.pc).trans h.blk, h.fix.of_block (hg.block _ h.lt.2.1 h.fc), ?_, h.fc, ?_⟩, hg⟩
  · simpa [chL] using h2
  · refine ⟨h.ok.fo, ?_, h.ok.fn, nodup_snoc h.ok.cn hno⟩
    intro q hq
    rcases List.mem_append.1 hq with hq | hq
    · exact h.ok.co q hq
    · simp at hq; subst hq; exact hk

set_option maxHeartbeats 1000000 in
theorem fix_bad (w : World) (p f c : Nat) (K : KW) (h : KIn w p f c K) (s : ByteArray) (d v : Int) (hb : (nameGo 0 (runesOf s) && dayB d && vB v) = false) :
    Calls Try.prog 37 #[.pointer (some ⟨p, 0, none⟩), .string s, .int .i64 d, .int .i64 v] w fun e w' => e = .returned (.int .i64 1) ∧ Below w.heap.size w w' := by
  clear h
  cases hn : nameGo 0 (runesOf s)
  · go_enter Try.func37, Try.ntmps37
    go_wp2_with (go_at_call 26; refine (name_any _ _).mono ?_; rintro e w' ⟨rfl, pos, rfl⟩)
    go_ret
    exact ⟨rfl, below_iter _ _ _⟩
  · cases hd : dayB d
    · go_enter Try.func37, Try.ntmps37
      go_wp2_with (first | (go_at_call 26; refine (name_any _ _).mono ?_; rintro e w' ⟨rfl, pos, rfl⟩) | (go_at_call 28; refine (day_any _ _).mono ?_; rintro e w' ⟨rfl, rfl⟩))
      go_ret
      exact ⟨rfl, below_iter _ _ _⟩
    · rw [hn, hd] at hb
      have hv : vB v = false := by simpa using hb
      go_enter Try.func37, Try.ntmps37
      go_wp2_with (first | (go_at_call 26; refine (name_any _ _).mono ?_; rintro e w' ⟨rfl, pos, rfl⟩) | (go_at_call 28; refine (day_any _ _).mono ?_; rintro e w' ⟨rfl, rfl⟩) | (go_at_call 52; refine (valid_any _ _).mono ?_; rintro e w' ⟨rfl, rfl⟩))
      go_ret
      exact ⟨rfl, below_iter _ _ _⟩

set_option maxHeartbeats 2000000 in
theorem fix_ok (w : World) (p f c : Nat) (K : KW) (h : KIn w p f c K) (s : ByteArray) (d v : Int) (hk : fixOk (s, d)) (hb : (nameGo 0 (runesOf s) && dayB d && vB v) = true) :
    Calls Try.prog 37 #[.pointer (some ⟨p, 0, none⟩), .string s, .int .i64 d, .int .i64 v] w fun e w' => e = .returned (.int .i64 (fixE K s d v)) ∧ KIn w' p f c (fixN K s d v) ∧ Gr f w w' := by
  have hb0 := hb
  simp only [Bool.and_eq_true] at hb
  obtain ⟨⟨hn, hd⟩, hv⟩ := hb
  have HK : Hid (KIn w p f c K) := h
  have HB : Hid ((nameGo 0 (runesOf s) && dayB d && vB v) = true) := hb0
  clear h hb0
  go_enter Try.func37, Try.ntmps37
  go_wp2_with (first | (go_at_call 26; refine (name_any _ _).mono ?_; rintro e w' ⟨rfl, pos, rfl⟩) | (go_at_call 28; refine (day_any _ _).mono ?_; rintro e w' ⟨rfl, rfl⟩) | (go_at_call 52; refine (valid_any _ _).mono ?_; rintro e w' ⟨rfl, rfl⟩))
  have HW : Hid (KIn (w.iter s pos) p f c K) := HK.out.below (below_iter w s pos)
  have HG : Hid (Gr f w (w.iter s pos)) := Gr.of_below (below_iter w s pos)
  clear HK
  generalize w.iter s pos = W at *
  have HA : Hid (KIn (W.alloc (.cells #[.string s, .int .i64 d] 147)) p f c K) := HW.out.below (below_alloc (Below.refl _ _) _)
  have HG1 : Hid (Gr f w (W.alloc (.cells #[.string s, .int .i64 d] 147))) := HG.out.trans (Gr.of_below (below_alloc (Below.refl _ _) _))
  have ck : (W.alloc (.cells #[.string s, .int .i64 d] 147)).heap[W.heap.size]? = some (.cells #[.string s, .int .i64 d] 147) := blk_new _ _
  have ck0 : (W.alloc (.cells #[.string s, .int .i64 d] 147)).cell? ⟨W.heap.size, 0, none⟩ = some (.string s) := cell_blk ck rfl
  have ck1 : (W.alloc (.cells #[.string s, .int .i64 d] 147)).cell? ⟨W.heap.size, 1, none⟩ = some (.int .i64 d) := cell_blk ck rfl
  generalize hWA : W.alloc (.cells #[.string s, .int .i64 d] 147) = WA at *
  clear hWA ck
  generalize W.heap.size = kb at *
  have c0 := HA.out.cell0
  have hl : ∀ n, (Instr.lookup 71 (.map (some f)) (.agg #[.string s, .int .i64 d]) true).run Try.prog (WA.drewN n) = _ := fun n => look_fix (w := WA.drewN n) HA.out.ok HA.out.fix (s, d) hk
  have hlen : ∀ n ty, (Builtin.len_ #[71] ty #[.map (some f)]).run Try.prog (WA.drewN n) = _ := fun n ty => run_len_map (w := WA.drewN n) Try.underlying71 HA.out.fix ty
  have e1 : (fixL K.F).length = K.F.length := by simp [fixL]
  rw [e1] at hlen
  clear e1
  have HE : Hid (fixE K s d v = if (K.fixed (s, d)).isSome = true then 4 else if 32 ≤ K.F.length then 5 else 0) := by
    show fixE K s d v = _
    unfold fixE
    rw [HB.out]
    rfl
  go_quiet (fail)
  cases hf : K.fixed (s, d) with
  | some x =>
    have he : fixE K s d v = 4 := by rw [HE.out, hf]; rfl
    go_wp2
    go_ret
    refine ⟨by rw [he]; rfl, ?_, ?_⟩
    · rw [fixN, if_neg (by omega)]
      exact HA.out.drewN _
    · exact HG1.out.drewN _
  | none =>
    by_cases h32 : 32 ≤ K.F.length
    · have he : fixE K s d v = 5 := by rw [HE.out, hf]; simp [h32]
      have h32' : (32 : Int) ≤ (K.F.length : Int) := by omega
      go_wp2
      go_ret
      refine ⟨by rw [he]; rfl, ?_, ?_⟩
      · rw [fixN, if_neg (by omega)]
        exact HA.out.drewN _
      · exact HG1.out.drewN _
    · have he : fixE K s d v = 0 := by rw [HE.out, hf]; simp [h32]
      have h32' : ¬ (32 : Int) ≤ (K.F.length : Int) := by omega
      obtain ⟨H, hput, hin, hgr⟩ := put_fix HA.out s d v hk hf
      have HIN : Hid (KIn { WA with heap := H } p f c ⟨K.F ++ [((s, d), v)], K.C⟩) := hin
      have HGR : Hid (Gr f WA { WA with heap := H }) := hgr
      clear hin hgr hl
      unfold fixK at hput
      go_wp2
      clear hlen
      have hput2 := hput (WA.drewN (nq + 1)) rfl
      have HIN2 : Hid (KIn { (WA.drewN (nq + 1)) with heap := H } p f c ⟨K.F ++ [((s, d), v)], K.C⟩) := HIN.out.same rfl rfl rfl
      have HGR2 : Hid (Gr f w { (WA.drewN (nq + 1)) with heap := H }) := HG1.out.trans ⟨HGR.out.os, HGR.out.tape, HGR.out.output, HGR.out.size, HGR.out.block⟩
      generalize ({ (WA.drewN (nq + 1)) with heap := H } : World) = W2 at *
      clear hput HIN HGR
      go_region
      go_wp2
      go_ret
      refine ⟨by rw [he]; rfl, ?_, HGR2.out⟩
      rw [fixN, if_pos he]
      exact HIN2.out

end Go.Proofs.Ytngjlkdpplmpaab.Wd
