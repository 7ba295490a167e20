/- The document's own answer: what a number's tree is, by what is known. -/
import Derived.Test.YtngjlkdpplmpaaaCl2
import Derived.Test.YtngjlkdpplmpaaaMakerObs
import Derived.Test.YtngjlkdpplmpaaaCl1
import Derived.Test.YtngjlkdpplmpaaaRefT
import Derived.Test.YtngjlkdpplmpaaaRefO
import Derived.Test.YtngjlkdpplmpaaaTermW
import Derived.Test.YtngjlkdpplmpaaaTree
import Derived.Test.YtngjlkdpplmpaaaMaker
import Derived.Test.YtngjlkdpplmpaaaPlainO2
import Derived.Test.YtngjlkdpplmpaaaNumber
import Derived.Test.YtngjlkdpplmpaaaOddV
import Derived.Test.YtngjlkdpplmpaaaWhole
namespace Go.Proofs.Ytngjlkdpplmpaaa.Vl
open Go.RowKit Wd Cn
set_option linter.unusedVariables false

def RvCalls (o : O) : Prop := ∀ (w : World) (v : Value) (B r : Nat) (K : KW) (vF vC : Value) (d : Int), TIn w 0 (plain o) v → RIn w B r K vF vC → K.F.length ≤ 1000000 → KW.Vals K → dayOk d →
  Calls Try.prog 64 #[v, .int .i64 d, .pointer (some ⟨r, 0, none⟩)] w fun e w' => e = ofE (rk K d o) ∧ Below w.heap.size w w'

set_option maxHeartbeats 1000000 in
set_option maxRecDepth 100000 in
theorem rv_const (n : Int) : RvCalls (.const n) := by
  intro w v B r K vF vC d ht hr hl hv hd
  obtain ⟨a, cap, rfl, h1, h2, h3⟩ := ht
  clear h3 hr hv hl
  have HR : Hid (rk K d (.const n) = ⟨n, true, 0⟩) := rfl
  simp only [plain, T.kind, T.s, T.n, T.k, List.length_nil]
  go_enter Try.func64, Try.ntmps64
  go_wp2_with fail
  go_ret3
  rw [HR.out]
  exact ⟨rfl, below_alloc (Below.refl _ _) _⟩

set_option maxHeartbeats 1000000 in
set_option maxRecDepth 100000 in
theorem rv_fix (s : ByteArray) : RvCalls (.fix s) := by
  intro w v B r K vF vC d ht hr hl hv hd
  obtain ⟨a, cap, rfl, h1, h2, h3⟩ := ht
  have HR : Hid (rk K d (.fix s) = ⟨(K.fixed (s, d)).getD 0, (K.fixed (s, d)).isSome, 0⟩) := rfl
  simp only [plain, T.kind, T.s, T.n, T.k, List.length_nil]
  have HB : Hid (Below w.heap.size w (w.alloc (.cells #[.int .i64 12, .string s, .int .i64 0, .slice a 0 cap] 72))) := below_alloc (Below.refl _ _) _
  have HF := hidV (refFixed_any _ B r K vF vC (hr.below HB.out) s d hl)
  clear h3 hr hv hl
  generalize (K.fixed (s, d)).getD 0 = n at *
  generalize (K.fixed (s, d)).isSome = q at *
  go_enter Try.func64, Try.ntmps64
  go_wp2_with fail
  refine HF.out.mono ?_
  rintro e w1 ⟨rfl, hb⟩
  have HB1 := hidV (HB.out.trans (hb.mono HB.out.size))
  clear hb
  go_wp2_with fail
  go_ret3
  rw [HR.out]
  exact ⟨rfl, HB1.out⟩

set_option maxHeartbeats 2000000 in
set_option maxRecDepth 100000 in
theorem rv_neg (o : O) (hf : formB o = true) (ih : RvCalls o) : RvCalls (.neg o) := by
  intro w v B r K vF vC d ht hr hl hv hd
  obtain ⟨a, cap, rfl, h1, h2, h3⟩ := ht
  have HG := hidV (rk_good hv d o hf)
  have HR : Hid (rk K d (.neg o) = otherR (rk K d o)) := rfl
  simp only [plain, T.kind, T.s, T.n, T.k, List.length_singleton] at h1 h3 ⊢
  have HB : Hid (Below w.heap.size w (w.alloc (.cells #[.int .i64 14, .string ⟨#[]⟩, .int .i64 0, .slice a 1 cap] 72))) := below_alloc (Below.refl _ _) _
  obtain ⟨b, o', ka, ca, rfl, c0, c1, c2, c3, t0⟩ := (h3.below HB.out).cells (j := 0) (t := plain o) rfl
  simp only [Nat.zero_mul, Nat.add_zero] at c0 c1 c2 c3
  have HI := hidV (ih _ _ B r K vF vC d t0 (hr.below HB.out) hl hv hd)
  have HBLK : Hid ((w.alloc (.cells #[.int .i64 14, .string ⟨#[]⟩, .int .i64 0, .slice (some ⟨b, o', none⟩) 1 cap] 72)).heap[w.heap.size]? = some (.cells #[.int .i64 14, .string ⟨#[]⟩, .int .i64 0, .slice (some ⟨b, o', none⟩) 1 cap] 72)) := heap_alloc_new _ _
  clear h3 hr hv hl t0 ih
  generalize rk K d o = x at *
  go_enter Try.func64, Try.ntmps64
  go_wp2_with fail
  refine HI.out.mono ?_
  rintro e w1 ⟨rfl, hb⟩
  have HB1 := hidV (HB.out.trans (hb.mono HB.out.size))
  have HBLK1 := hidV ((hb.block _ (by simp)).trans HBLK.out)
  have k0 : w1.cell? ⟨w.heap.size, 0, none⟩ = some (.int .i64 14) := cell_of_row _ _ _ _ _ _ HBLK1.out
  clear hb c0 c1 c2 c3 HI
  obtain ⟨n, q, e⟩ := x
  unfold ofE
  by_cases he : e = 0
  · subst he
    have HQ : Hid (otherR ⟨n, q, 0⟩ = ⟨-n, q, 0⟩) := by
      unfold Hid otherR
      cases q
      · have := HG.out.unk rfl
        simp only at this
        subst this
        rfl
      · have := HG.out.val rfl
        simp only at this
        simp [negR, this, inR]
    have hn1 : -9223372036854775807 ≤ n ∧ n ≤ 9223372036854775807 := by
      cases q
      · have := HG.out.unk rfl
        simp only at this
        omega
      · have := HG.out.val rfl
        simp only at this
        rw [vB_iff] at this
        omega
    obtain ⟨hn1, hn2⟩ := hn1
    go_wp2_with fail
    go_ret3
    rw [HR.out, HQ.out]
    exact ⟨rfl, HB1.out⟩
  · have he' : (e != 0) = true := by simpa using he
    have HQ : Hid (otherR ⟨n, q, e⟩ = ⟨0, false, e⟩) := by
      unfold Hid otherR
      obtain ⟨h1, h2⟩ := HG.out.err he
      simp only at h1 h2
      subst h1 h2
      simp
    go_wp2_with fail
    go_ret3
    rw [HR.out, HQ.out]
    exact ⟨rfl, HB1.out⟩

set_option maxHeartbeats 4000000 in
set_option maxRecDepth 100000 in
theorem rv_add (l r' : O) (hfl : formB l = true) (hfr : formB r' = true) (ihl : RvCalls l) (ihr : RvCalls r') : RvCalls (.add l r') := by
  intro w v B r K vF vC d ht hr hl hv hd
  obtain ⟨a, cap, rfl, h1, h2, h3⟩ := ht
  have HGL := hidV (rk_good hv d l hfl)
  have HGR := hidV (rk_good hv d r' hfr)
  have HR : Hid (rk K d (.add l r') = bothR (rk K d l) (rk K d r') addR) := rfl
  simp only [plain, T.kind, T.s, T.n, T.k, List.length_cons, List.length_nil] at h1 h3 ⊢
  have HB : Hid (Below w.heap.size w (w.alloc (.cells #[.int .i64 13, .string ⟨#[]⟩, .int .i64 0, .slice a 2 cap] 72))) := below_alloc (Below.refl _ _) _
  obtain ⟨b, o', ka, ca, rfl, c0, c1, c2, c3, t0⟩ := (h3.below HB.out).cells (j := 0) (t := plain l) rfl
  obtain ⟨b', o2, kb, cb, e, d0, d1, d2, d3, t1⟩ := (h3.below HB.out).cells (j := 1) (t := plain r') rfl
  injection e with e
  injection e with e1 e2
  subst e1 e2
  simp only [Nat.zero_mul, Nat.add_zero, Nat.one_mul] at c0 c1 c2 c3 d0 d1 d2 d3
  have HI := hidV (ihl _ _ B r K vF vC d t0 (hr.below HB.out) hl hv hd)
  have HI2 := hidV (fun w' (vv : Value) (hw : Below w.heap.size w w') (h : TIn w' 0 (plain r') vv) => ihr w' vv B r K vF vC d h (hr.below hw) hl hv hd)
  have HBLK : Hid ((w.alloc (.cells #[.int .i64 13, .string ⟨#[]⟩, .int .i64 0, .slice (some ⟨b, o', none⟩) 2 cap] 72)).heap[w.heap.size]? = some (.cells #[.int .i64 13, .string ⟨#[]⟩, .int .i64 0, .slice (some ⟨b, o', none⟩) 2 cap] 72)) := heap_alloc_new _ _
  have HT1 := hidV t1
  have HLT := hidV (World.block_lt_of_cell? _ _ d0)
  have HD : Hid (∀ w', Below (w.alloc (.cells #[.int .i64 13, .string ⟨#[]⟩, .int .i64 0, .slice (some ⟨b, o', none⟩) 2 cap] 72)).heap.size (w.alloc (.cells #[.int .i64 13, .string ⟨#[]⟩, .int .i64 0, .slice (some ⟨b, o', none⟩) 2 cap] 72)) w' → w'.cell? ⟨b, o' + 4, none⟩ = some (.int .i64 (plain r').kind) ∧ w'.cell? ⟨b, o' + 4 + 1, none⟩ = some (.string (plain r').s) ∧ w'.cell? ⟨b, o' + 4 + 2, none⟩ = some (.int .i64 (plain r').n) ∧ w'.cell? ⟨b, o' + 4 + 3, none⟩ = some (.slice kb (plain r').k.length cb)) := fun w' h =>
    ⟨(h.cell (p := ⟨b, o' + 4, none⟩) HLT.out).trans d0, (h.cell (p := ⟨b, o' + 4 + 1, none⟩) HLT.out).trans d1, (h.cell (p := ⟨b, o' + 4 + 2, none⟩) HLT.out).trans d2, (h.cell (p := ⟨b, o' + 4 + 3, none⟩) HLT.out).trans d3⟩
  clear h3 hr hv hl t0 t1 d0 d1 d2 d3 ihl ihr
  generalize rk K d l = x at *
  generalize rk K d r' = y at *
  go_enter Try.func64, Try.ntmps64
  go_wp2_with fail
  refine HI.out.mono ?_
  rintro e w1 ⟨rfl, hb⟩
  have HB1 := hidV (HB.out.trans (hb.mono HB.out.size))
  have HBLK1 := hidV ((hb.block _ (by simp)).trans HBLK.out)
  have k0 : w1.cell? ⟨w.heap.size, 0, none⟩ = some (.int .i64 13) := cell_of_row _ _ _ _ _ _ HBLK1.out
  have k3 : w1.cell? ⟨w.heap.size, 3, none⟩ = some (.slice (some ⟨b, o', none⟩) 2 cap) := cell_of_row _ _ _ _ _ _ HBLK1.out
  obtain ⟨d0, d1, d2, d3⟩ := HD.out w1 hb
  have HT2 := hidV (HT1.out.below hb)
  clear hb c0 c1 c2 c3 HI HD HT1
  obtain ⟨n, q, e⟩ := x
  unfold ofE
  by_cases he : e = 0
  rotate_left
  · have he' : (e != 0) = true := by simpa using he
    have HQ : Hid (bothR ⟨n, q, e⟩ y addR = ⟨0, false, e⟩) := by
      unfold Hid bothR
      obtain ⟨h1, h2⟩ := HGL.out.err he
      simp only at h1 h2
      subst h1 h2
      simp [he]
    go_wp2_with fail
    go_ret3
    rw [HR.out, HQ.out]
    exact ⟨rfl, HB1.out⟩
  subst he
  go_wp2_with fail
  refine (HI2.out w1 _ HB1.out HT2.out).mono ?_
  rintro e w2 ⟨rfl, hb⟩
  have HB2 := hidV (HB1.out.trans (hb.mono HB1.out.size))
  have HBLK2 := hidV ((hb.block _ (Array.getElem?_eq_some_iff.1 HBLK1.out).1).trans HBLK1.out)
  have k0 : w2.cell? ⟨w.heap.size, 0, none⟩ = some (.int .i64 13) := cell_of_row _ _ _ _ _ _ HBLK2.out
  clear hb d0 d1 d2 d3 HI2 HT2 k3
  obtain ⟨m, z, e⟩ := y
  unfold ofE
  by_cases he : e = 0
  rotate_left
  · have he' : (e != 0) = true := by simpa using he
    have HQ : Hid (bothR ⟨n, q, 0⟩ ⟨m, z, e⟩ addR = ⟨0, false, e⟩) := by
      unfold Hid bothR
      obtain ⟨h1, h2⟩ := HGR.out.err he
      simp only at h1 h2
      subst h1 h2
      simp [he]
    go_wp2_with fail
    go_ret3
    rw [HR.out, HQ.out]
    exact ⟨rfl, HB2.out⟩
  subst he
  have HU : Hid ((q = false ∨ z = false) → bothR ⟨n, q, 0⟩ ⟨m, z, 0⟩ addR = ⟨0, false, 0⟩) := by
    intro h
    rcases h with rfl | rfl <;> simp [bothR]
  cases q
  · have HQ := hidV (HU.out (.inl rfl))
    go_wp2_with fail
    go_ret3
    rw [HR.out, HQ.out]
    exact ⟨rfl, HB2.out⟩
  cases z
  · have HQ := hidV (HU.out (.inr rfl))
    go_wp2_with fail
    go_ret3
    rw [HR.out, HQ.out]
    exact ⟨rfl, HB2.out⟩
  have HQ : Hid (bothR ⟨n, true, 0⟩ ⟨m, true, 0⟩ addR = inR (addR n m)) := by unfold Hid; simp [bothR]
  obtain ⟨ok, hok⟩ : ∃ ok, (addR n m).2 = ok := ⟨_, rfl⟩
  have HC := hidV (refAdd_any n m)
  rw [hok] at HC
  have HIN : Hid (inR (addR n m) = if ok = true then ⟨(addR n m).1, true, 0⟩ else ⟨0, false, 6⟩) := by unfold Hid inR; rw [hok]
  clear hok
  generalize (addR n m).1 = y at *
  rcases Int.lt_or_le n m with hnm | hnm
  all_goals
    cases ok
    all_goals
      go_wp2_with fail
      refine calls_same (HC.out _) ?_
      go_wp2_with fail
      go_ret3
      rw [HR.out, HQ.out, HIN.out]
      exact ⟨rfl, HB2.out⟩


set_option maxHeartbeats 4000000 in
set_option maxRecDepth 100000 in
theorem rv_mul (l r' : O) (hfl : formB l = true) (hfr : formB r' = true) (ihl : RvCalls l) (ihr : RvCalls r') : RvCalls (.mul l r') := by
  intro w v B r K vF vC d ht hr hl hv hd
  obtain ⟨a, cap, rfl, h1, h2, h3⟩ := ht
  have HGL := hidV (rk_good hv d l hfl)
  have HGR := hidV (rk_good hv d r' hfr)
  have HR : Hid (rk K d (.mul l r') = bothR (rk K d l) (rk K d r') mulR) := rfl
  simp only [plain, T.kind, T.s, T.n, T.k, List.length_cons, List.length_nil] at h1 h3 ⊢
  have HB : Hid (Below w.heap.size w (w.alloc (.cells #[.int .i64 15, .string ⟨#[]⟩, .int .i64 0, .slice a 2 cap] 72))) := below_alloc (Below.refl _ _) _
  obtain ⟨b, o', ka, ca, rfl, c0, c1, c2, c3, t0⟩ := (h3.below HB.out).cells (j := 0) (t := plain l) rfl
  obtain ⟨b', o2, kb, cb, e, d0, d1, d2, d3, t1⟩ := (h3.below HB.out).cells (j := 1) (t := plain r') rfl
  injection e with e
  injection e with e1 e2
  subst e1 e2
  simp only [Nat.zero_mul, Nat.add_zero, Nat.one_mul] at c0 c1 c2 c3 d0 d1 d2 d3
  have HI := hidV (ihl _ _ B r K vF vC d t0 (hr.below HB.out) hl hv hd)
  have HI2 := hidV (fun w' (vv : Value) (hw : Below w.heap.size w w') (h : TIn w' 0 (plain r') vv) => ihr w' vv B r K vF vC d h (hr.below hw) hl hv hd)
  have HBLK : Hid ((w.alloc (.cells #[.int .i64 15, .string ⟨#[]⟩, .int .i64 0, .slice (some ⟨b, o', none⟩) 2 cap] 72)).heap[w.heap.size]? = some (.cells #[.int .i64 15, .string ⟨#[]⟩, .int .i64 0, .slice (some ⟨b, o', none⟩) 2 cap] 72)) := heap_alloc_new _ _
  have HT1 := hidV t1
  have HLT := hidV (World.block_lt_of_cell? _ _ d0)
  have HD : Hid (∀ w', Below (w.alloc (.cells #[.int .i64 15, .string ⟨#[]⟩, .int .i64 0, .slice (some ⟨b, o', none⟩) 2 cap] 72)).heap.size (w.alloc (.cells #[.int .i64 15, .string ⟨#[]⟩, .int .i64 0, .slice (some ⟨b, o', none⟩) 2 cap] 72)) w' → w'.cell? ⟨b, o' + 4, none⟩ = some (.int .i64 (plain r').kind) ∧ w'.cell? ⟨b, o' + 4 + 1, none⟩ = some (.string (plain r').s) ∧ w'.cell? ⟨b, o' + 4 + 2, none⟩ = some (.int .i64 (plain r').n) ∧ w'.cell? ⟨b, o' + 4 + 3, none⟩ = some (.slice kb (plain r').k.length cb)) := fun w' h =>
    ⟨(h.cell (p := ⟨b, o' + 4, none⟩) HLT.out).trans d0, (h.cell (p := ⟨b, o' + 4 + 1, none⟩) HLT.out).trans d1, (h.cell (p := ⟨b, o' + 4 + 2, none⟩) HLT.out).trans d2, (h.cell (p := ⟨b, o' + 4 + 3, none⟩) HLT.out).trans d3⟩
  clear h3 hr hv hl t0 t1 d0 d1 d2 d3 ihl ihr
  generalize rk K d l = x at *
  generalize rk K d r' = y at *
  go_enter Try.func64, Try.ntmps64
  go_wp2_with fail
  refine HI.out.mono ?_
  rintro e w1 ⟨rfl, hb⟩
  have HB1 := hidV (HB.out.trans (hb.mono HB.out.size))
  have HBLK1 := hidV ((hb.block _ (by simp)).trans HBLK.out)
  have k0 : w1.cell? ⟨w.heap.size, 0, none⟩ = some (.int .i64 15) := cell_of_row _ _ _ _ _ _ HBLK1.out
  have k3 : w1.cell? ⟨w.heap.size, 3, none⟩ = some (.slice (some ⟨b, o', none⟩) 2 cap) := cell_of_row _ _ _ _ _ _ HBLK1.out
  obtain ⟨d0, d1, d2, d3⟩ := HD.out w1 hb
  have HT2 := hidV (HT1.out.below hb)
  clear hb c0 c1 c2 c3 HI HD HT1
  obtain ⟨n, q, e⟩ := x
  unfold ofE
  by_cases he : e = 0
  rotate_left
  · have he' : (e != 0) = true := by simpa using he
    have HQ : Hid (bothR ⟨n, q, e⟩ y mulR = ⟨0, false, e⟩) := by
      unfold Hid bothR
      obtain ⟨h1, h2⟩ := HGL.out.err he
      simp only at h1 h2
      subst h1 h2
      simp [he]
    go_wp2_with fail
    go_ret3
    rw [HR.out, HQ.out]
    exact ⟨rfl, HB1.out⟩
  subst he
  go_wp2_with fail
  refine (HI2.out w1 _ HB1.out HT2.out).mono ?_
  rintro e w2 ⟨rfl, hb⟩
  have HB2 := hidV (HB1.out.trans (hb.mono HB1.out.size))
  have HBLK2 := hidV ((hb.block _ (Array.getElem?_eq_some_iff.1 HBLK1.out).1).trans HBLK1.out)
  have k0 : w2.cell? ⟨w.heap.size, 0, none⟩ = some (.int .i64 15) := cell_of_row _ _ _ _ _ _ HBLK2.out
  clear hb d0 d1 d2 d3 HI2 HT2 k3
  obtain ⟨m, z, e⟩ := y
  unfold ofE
  by_cases he : e = 0
  rotate_left
  · have he' : (e != 0) = true := by simpa using he
    have HQ : Hid (bothR ⟨n, q, 0⟩ ⟨m, z, e⟩ mulR = ⟨0, false, e⟩) := by
      unfold Hid bothR
      obtain ⟨h1, h2⟩ := HGR.out.err he
      simp only at h1 h2
      subst h1 h2
      simp [he]
    go_wp2_with fail
    go_ret3
    rw [HR.out, HQ.out]
    exact ⟨rfl, HB2.out⟩
  subst he
  have HU : Hid ((q = false ∨ z = false) → bothR ⟨n, q, 0⟩ ⟨m, z, 0⟩ mulR = ⟨0, false, 0⟩) := by
    intro h
    rcases h with rfl | rfl <;> simp [bothR]
  cases q
  · have HQ := hidV (HU.out (.inl rfl))
    go_wp2_with fail
    go_ret3
    rw [HR.out, HQ.out]
    exact ⟨rfl, HB2.out⟩
  cases z
  · have HQ := hidV (HU.out (.inr rfl))
    go_wp2_with fail
    go_ret3
    rw [HR.out, HQ.out]
    exact ⟨rfl, HB2.out⟩
  have HQ : Hid (bothR ⟨n, true, 0⟩ ⟨m, true, 0⟩ mulR = inR (mulR n m)) := by unfold Hid; simp [bothR]
  obtain ⟨ok, hok⟩ : ∃ ok, (mulR n m).2 = ok := ⟨_, rfl⟩
  have HC := hidV (refMul_any n m)
  rw [hok] at HC
  have HIN : Hid (inR (mulR n m) = if ok = true then ⟨(mulR n m).1, true, 0⟩ else ⟨0, false, 6⟩) := by unfold Hid inR; rw [hok]
  clear hok
  generalize (mulR n m).1 = y at *
  rcases Int.lt_or_le n m with hnm | hnm
  all_goals
    cases ok
    all_goals
      go_wp2_with fail
      refine calls_same (HC.out _) ?_
      go_wp2_with fail
      go_ret3
      rw [HR.out, HQ.out, HIN.out]
      exact ⟨rfl, HB2.out⟩


set_option maxHeartbeats 4000000 in
set_option maxRecDepth 100000 in
theorem rv_max (l r' : O) (hfl : formB l = true) (hfr : formB r' = true) (ihl : RvCalls l) (ihr : RvCalls r') : RvCalls (.max l r') := by
  intro w v B r K vF vC d ht hr hl hv hd
  obtain ⟨a, cap, rfl, h1, h2, h3⟩ := ht
  have HGL := hidV (rk_good hv d l hfl)
  have HGR := hidV (rk_good hv d r' hfr)
  have HR : Hid (rk K d (.max l r') = bothR (rk K d l) (rk K d r') gtR) := rfl
  simp only [plain, T.kind, T.s, T.n, T.k, List.length_cons, List.length_nil] at h1 h3 ⊢
  have HB : Hid (Below w.heap.size w (w.alloc (.cells #[.int .i64 16, .string ⟨#[]⟩, .int .i64 0, .slice a 2 cap] 72))) := below_alloc (Below.refl _ _) _
  obtain ⟨b, o', ka, ca, rfl, c0, c1, c2, c3, t0⟩ := (h3.below HB.out).cells (j := 0) (t := plain l) rfl
  obtain ⟨b', o2, kb, cb, e, d0, d1, d2, d3, t1⟩ := (h3.below HB.out).cells (j := 1) (t := plain r') rfl
  injection e with e
  injection e with e1 e2
  subst e1 e2
  simp only [Nat.zero_mul, Nat.add_zero, Nat.one_mul] at c0 c1 c2 c3 d0 d1 d2 d3
  have HI := hidV (ihl _ _ B r K vF vC d t0 (hr.below HB.out) hl hv hd)
  have HI2 := hidV (fun w' (vv : Value) (hw : Below w.heap.size w w') (h : TIn w' 0 (plain r') vv) => ihr w' vv B r K vF vC d h (hr.below hw) hl hv hd)
  have HBLK : Hid ((w.alloc (.cells #[.int .i64 16, .string ⟨#[]⟩, .int .i64 0, .slice (some ⟨b, o', none⟩) 2 cap] 72)).heap[w.heap.size]? = some (.cells #[.int .i64 16, .string ⟨#[]⟩, .int .i64 0, .slice (some ⟨b, o', none⟩) 2 cap] 72)) := heap_alloc_new _ _
  have HT1 := hidV t1
  have HLT := hidV (World.block_lt_of_cell? _ _ d0)
  have HD : Hid (∀ w', Below (w.alloc (.cells #[.int .i64 16, .string ⟨#[]⟩, .int .i64 0, .slice (some ⟨b, o', none⟩) 2 cap] 72)).heap.size (w.alloc (.cells #[.int .i64 16, .string ⟨#[]⟩, .int .i64 0, .slice (some ⟨b, o', none⟩) 2 cap] 72)) w' → w'.cell? ⟨b, o' + 4, none⟩ = some (.int .i64 (plain r').kind) ∧ w'.cell? ⟨b, o' + 4 + 1, none⟩ = some (.string (plain r').s) ∧ w'.cell? ⟨b, o' + 4 + 2, none⟩ = some (.int .i64 (plain r').n) ∧ w'.cell? ⟨b, o' + 4 + 3, none⟩ = some (.slice kb (plain r').k.length cb)) := fun w' h =>
    ⟨(h.cell (p := ⟨b, o' + 4, none⟩) HLT.out).trans d0, (h.cell (p := ⟨b, o' + 4 + 1, none⟩) HLT.out).trans d1, (h.cell (p := ⟨b, o' + 4 + 2, none⟩) HLT.out).trans d2, (h.cell (p := ⟨b, o' + 4 + 3, none⟩) HLT.out).trans d3⟩
  clear h3 hr hv hl t0 t1 d0 d1 d2 d3 ihl ihr
  generalize rk K d l = x at *
  generalize rk K d r' = y at *
  go_enter Try.func64, Try.ntmps64
  go_wp2_with fail
  refine HI.out.mono ?_
  rintro e w1 ⟨rfl, hb⟩
  have HB1 := hidV (HB.out.trans (hb.mono HB.out.size))
  have HBLK1 := hidV ((hb.block _ (by simp)).trans HBLK.out)
  have k0 : w1.cell? ⟨w.heap.size, 0, none⟩ = some (.int .i64 16) := cell_of_row _ _ _ _ _ _ HBLK1.out
  have k3 : w1.cell? ⟨w.heap.size, 3, none⟩ = some (.slice (some ⟨b, o', none⟩) 2 cap) := cell_of_row _ _ _ _ _ _ HBLK1.out
  obtain ⟨d0, d1, d2, d3⟩ := HD.out w1 hb
  have HT2 := hidV (HT1.out.below hb)
  clear hb c0 c1 c2 c3 HI HD HT1
  obtain ⟨n, q, e⟩ := x
  unfold ofE
  by_cases he : e = 0
  rotate_left
  · have he' : (e != 0) = true := by simpa using he
    have HQ : Hid (bothR ⟨n, q, e⟩ y gtR = ⟨0, false, e⟩) := by
      unfold Hid bothR
      obtain ⟨h1, h2⟩ := HGL.out.err he
      simp only at h1 h2
      subst h1 h2
      simp [he]
    go_wp2_with fail
    go_ret3
    rw [HR.out, HQ.out]
    exact ⟨rfl, HB1.out⟩
  subst he
  go_wp2_with fail
  refine (HI2.out w1 _ HB1.out HT2.out).mono ?_
  rintro e w2 ⟨rfl, hb⟩
  have HB2 := hidV (HB1.out.trans (hb.mono HB1.out.size))
  have HBLK2 := hidV ((hb.block _ (Array.getElem?_eq_some_iff.1 HBLK1.out).1).trans HBLK1.out)
  have k0 : w2.cell? ⟨w.heap.size, 0, none⟩ = some (.int .i64 16) := cell_of_row _ _ _ _ _ _ HBLK2.out
  clear hb d0 d1 d2 d3 HI2 HT2 k3
  obtain ⟨m, z, e⟩ := y
  unfold ofE
  by_cases he : e = 0
  rotate_left
  · have he' : (e != 0) = true := by simpa using he
    have HQ : Hid (bothR ⟨n, q, 0⟩ ⟨m, z, e⟩ gtR = ⟨0, false, e⟩) := by
      unfold Hid bothR
      obtain ⟨h1, h2⟩ := HGR.out.err he
      simp only at h1 h2
      subst h1 h2
      simp [he]
    go_wp2_with fail
    go_ret3
    rw [HR.out, HQ.out]
    exact ⟨rfl, HB2.out⟩
  subst he
  have HU : Hid ((q = false ∨ z = false) → bothR ⟨n, q, 0⟩ ⟨m, z, 0⟩ gtR = ⟨0, false, 0⟩) := by
    intro h
    rcases h with rfl | rfl <;> simp [bothR]
  cases q
  · have HQ := hidV (HU.out (.inl rfl))
    go_wp2_with fail
    go_ret3
    rw [HR.out, HQ.out]
    exact ⟨rfl, HB2.out⟩
  cases z
  · have HQ := hidV (HU.out (.inr rfl))
    go_wp2_with fail
    go_ret3
    rw [HR.out, HQ.out]
    exact ⟨rfl, HB2.out⟩
  have HQ : Hid (bothR ⟨n, true, 0⟩ ⟨m, true, 0⟩ gtR = inR (gtR n m)) := by unfold Hid; simp [bothR]
  rcases Int.lt_or_le n m with hnm | hnm
  · have HM : Hid (Max.max n m = m) := by unfold Hid; omega
    go_wp2_with fail
    go_ret3
    rw [HR.out, HQ.out]
    refine ⟨?_, HB2.out⟩
    unfold gtR inR
    rw [HM.out]
    rfl
  · have HM : Hid (Max.max n m = n) := by unfold Hid; omega
    go_wp2_with fail
    go_ret3
    rw [HR.out, HQ.out]
    refine ⟨?_, HB2.out⟩
    unfold gtR inR
    rw [HM.out]
    rfl


/-- What the document's Value answers. -/
theorem refValue_any (o : O) : formB o = true → RvCalls o := by
  induction o with
  | const n => exact fun _ => rv_const n
  | fix s => exact fun _ => rv_fix s
  | add l r hl hr => intro hf; simp only [formB, Bool.and_eq_true] at hf; exact rv_add l r hf.1 hf.2 (hl hf.1) (hr hf.2)
  | neg o ho => intro hf; simp only [formB] at hf; exact rv_neg o hf (ho hf)
  | mul l r hl hr => intro hf; simp only [formB, Bool.and_eq_true] at hf; exact rv_mul l r hf.1 hf.2 (hl hf.1) (hr hf.2)
  | max l r hl hr => intro hf; simp only [formB, Bool.and_eq_true] at hf; exact rv_max l r hf.1 hf.2 (hl hf.1) (hr hf.2)
  | odd v => intro hf; simp [formB] at hf

end Go.Proofs.Ytngjlkdpplmpaaa.Vl
namespace Go.Proofs.Ytngjlkdpplmpaaa
open Go.RowKit
set_option linter.unusedVariables false

mutual
/-- The names of a tree's Fixes, in order. -/
def T.nams : T → List ByteArray
  | .mk kind s _ k => if kind = 12 then [s] else namsL k
def namsL : List T → List ByteArray
  | [] => []
  | t :: l => t.nams ++ namsL l
end
theorem namsL_snoc (l : List T) (k : T) : namsL (l ++ [k]) = namsL l ++ k.nams := by
  induction l with
  | nil => simp [namsL]
  | cons a l ih => simp [namsL, ih]
theorem nams_cnt : ∀ t : T, t.nams.length ≤ t.cnt := by
  intro t
  induction t using T.ind with
  | _ kind s n k ih =>
    have h : (namsL k).length ≤ cntL k := by
      induction k with
      | nil => simp [namsL]
      | cons a l ihl =>
        have h1 := ih a (by simp)
        have h2 := ihl (fun t ht => ih t (by simp [ht]))
        simp only [namsL, cntL, List.length_append]
        omega
    unfold T.nams T.cnt
    split
    · simp
    · omega
theorem namsL_cnt (l : List T) : (namsL l).length ≤ cntL l := by
  induction l with
  | nil => simp [namsL]
  | cons a l ih => have := nams_cnt a; simp only [namsL, cntL, List.length_append]; omega
/-- A new list of one text is a row of the call's own. -/
theorem own_one (w : World) (s : ByteArray) : (w.alloc (.cells #[.string s] 9)).ownsRow w.heap.size 9 1 (.slice (some ⟨w.heap.size, 0, none⟩) 1 1) [s].length (strCells [s]) := by
  refine ⟨by simp [strCells], .inr ⟨w.heap.size, 1, #[.string s], rfl, Nat.le_refl _, heap_alloc_new _ _, by simp, by unfold maxLen; omega, by simp, by simp [strCells]⟩⟩

set_option maxHeartbeats 4000000 in
set_option maxRecDepth 100000 in
theorem refNames0_any (t : T) : t.cnt ≤ 999990 → ∀ (w : World) (v : Value), TIn w 0 t v → Calls Try.prog 99 #[v] w fun e w' => ∃ v', e = .returned v' ∧ w'.ownsRow w.heap.size 9 1 v' t.nams.length (strCells t.nams) ∧ Below w.heap.size w w' := by
  induction t using T.ind with
  | _ kind s n k ih =>
  intro hcnt w v hv
  have hkl := len_cap hv
  obtain ⟨a, cap, rfl, hc1, hc2, hK⟩ := hv
  simp only [T.kind, T.s, T.n, T.k] at hc1 hK hkl ⊢
  have hct : (T.mk kind s n k).cnt = cntL k + 1 := by rw [T.cnt]
  rw [hct] at hcnt
  have HIH : Hid (∀ t ∈ k, ∀ (w : World) (v : Value), TIn w 0 t v → Calls Try.prog 99 #[v] w fun e w' => ∃ v', e = .returned v' ∧ w'.ownsRow w.heap.size 9 1 v' t.nams.length (strCells t.nams) ∧ Below w.heap.size w w') := fun t ht => ih t ht (by have := cntL_mem k t ht; omega)
  have HK := hidIn hK
  have HCN := hidIn hcnt
  clear ih hK hct
  by_cases h12 : kind = 12
  · have HL : Hid ((T.mk kind s n k).nams = [s]) := by unfold Hid; rw [T.nams, if_pos h12]
    subst h12
    go_enter Try.func99, Try.ntmps99
    go_wp2_with fail
    go_ret
    refine ⟨_, rfl, ?_, below_alloc (below_alloc (Below.refl _ _) _) _⟩
    rw [HL.out]
    have h := own_one (w.alloc (.cells #[.int .i64 12, .string s, .int .i64 n, .slice a k.length cap] 72)) s
    rw [World.size_alloc] at h
    exact ownsRow_base h (by omega)
  · have HL : Hid ((T.mk kind s n k).nams = namsL k) := by unfold Hid; rw [T.nams, if_neg h12]
    have h12' : (kind == 12) = false := by rw [beq_eq_false_iff_ne]; exact h12
    clear h12
    go_enter Try.func99, Try.ntmps99
    go_wp2_with fail
    obtain ⟨W, hW⟩ : ∃ W, W = w.alloc (.cells #[.int .i64 kind, .string s, .int .i64 n, .slice a k.length cap] 72) := ⟨_, rfl⟩
    have HB : Hid (Below w.heap.size w W) := by rw [hW]; exact below_alloc (Below.refl _ _) _
    have HBK : Hid (W.heap[w.heap.size]? = some (.cells #[.int .i64 kind, .string s, .int .i64 n, .slice a k.length cap] 72 (0, 0))) := by rw [hW]; exact heap_alloc_new _ _
    rw [← hW]
    clear hW
    have HG : Hid (∀ X, Below W.heap.size W X → X.cell? ⟨w.heap.size, 3, none⟩ = some (.slice a k.length cap)) := fun X hX => (cell_of_row _ _ _ _ _ _ ((hX.block _ (Array.getElem?_eq_some_iff.1 HBK.out).1).trans HBK.out)).trans rfl
    have HKW : Hid (KAt W 0 k a 0) := HK.out.below HB.out
    clear HBK HK
    go_loopw [14, 3] (fun s14 s3 wr => ∃ i : Nat, i ≤ k.length ∧ s14 = .int .i64 i ∧ wr.ownsRow W.heap.size 9 1 s3 (namsL (k.take i)).length (strCells (namsL (k.take i))) ∧ Below W.heap.size W wr) (fun s14 _ _ => k.length - (intOf s14).toNat)
    case atStart => exact ⟨0, by omega, rfl, by simp only [List.take_zero, namsL]; exact World.ownsRow_nil _ _ _ _, Below.refl _ _⟩
    case round =>
      obtain ⟨i, hi, rfl, hrow, hbr⟩ := hrel
      have HROW := hidIn hrow
      have HBR := hidIn hbr
      by_cases hlt : i < k.length
      · have hlt' : (i : Int) < (k.length : Int) := by omega
        obtain ⟨t, hti⟩ : ∃ t, k[i]? = some t := ⟨_, List.getElem?_eq_getElem hlt⟩
        obtain ⟨b, o, ka, ca, rfl, c0, c1, c2, c3, ht⟩ := (HKW.out.below hbr).cells hti
        have g3 := HG.out wr hbr
        have HM : Hid (t ∈ k) := List.mem_of_getElem? hti
        have HTI := hidIn ht
        have htk := take_more _ _ _ hti
        have HT3 : Hid (namsL (k.take (i + 1)) = namsL (k.take i) ++ t.nams) := by unfold Hid; rw [htk, namsL_snoc]
        have HLEN : Hid ((namsL (k.take i)).length + t.nams.length ≤ 1000000) := by
          have h1 := nams_cnt t
          have h2 := namsL_cnt (k.take i)
          have h3 := cntL_take k (i + 1)
          rw [htk, cntL_snoc] at h3
          have := HCN.out
          show _ ≤ _
          omega
        clear hti htk ht hrow hbr
        generalize namsL (k.take i) = L at *
        go_wp2_with fail
        refine (HIH.out t HM.out wr _ HTI.out).mono ?_
        rintro e w4 ⟨v4, rfl, hrow4, hb4⟩
        have HB4 := hidIn (HBR.out.trans (hb4.mono HBR.out.size))
        have HROW4 := hidIn (ownsRow_below HROW.out hb4)
        have HNEW := hidIn hrow4
        clear hb4 hrow4 c0 c1 c2 c3 g3 HTI
        go_wp2_with (first
          | (at_builtin; refine wpList_append_rows _ rfl _ _ rfl W.heap.size _ L rfl HROW4.out wr.heap.size _ t.nams rfl HNEW.out HLEN.out HB4.out.size ?_; intro v5 w5 hown5 hgrow5 hloc5)
          | go_in)
        have HB5 : Hid (Below W.heap.size W w5) := HB4.out.grown hgrow5 HB4.out.size (fun j hj => (HROW4.out.lt j hj).1)
        have HOWN5 := hidIn hown5
        clear hown5 hgrow5 hloc5
        go_wp2_with fail
        go_roundw
        case rel => exact ⟨i + 1, by omega, by go_num, by rw [HT3.out]; exact HOWN5.out, HB5.out⟩
        case measure => simp [intOf]; omega
      · have hle : i = k.length := by omega
        subst hle
        have HE : Hid (wr.ownsRow W.heap.size 9 1 u3 (namsL k).length (strCells (namsL k))) := by have h := HROW.out; rw [List.take_length] at h; exact h
        clear hrow HROW hbr
        go_wp2_with fail
        go_ret
        refine ⟨_, rfl, ?_, HB.out.trans (HBR.out.mono HB.out.size)⟩
        rw [HL.out]
        exact ownsRow_base HE.out HB.out.size

end Go.Proofs.Ytngjlkdpplmpaaa
namespace Go.Proofs.Ytngjlkdpplmpaaa
open Go.RowKit
set_option linter.unusedVariables false

/-- A text is among the first of a list. -/
def inFirst (L : List ByteArray) (s : ByteArray) (j : Nat) : Bool := (L.take j).any (fun x => decide (x = s))
theorem inFirst_next (L : List ByteArray) (s : ByteArray) (j : Nat) (x : ByteArray) (h : L[j]? = some x) : inFirst L s (j + 1) = (inFirst L s j || decide (x = s)) := by
  unfold inFirst
  rw [take_more _ _ _ h, List.any_append]
  simp

theorem addAll_le (acc l : List ByteArray) : (addAll acc l).length ≤ acc.length + l.length := by
  induction l generalizing acc with
  | nil => simp [addAll]
  | cons x l ih =>
    have h1 := ih (addN acc x)
    have h2 := addN_length acc x
    have e : addAll acc (x :: l) = addAll (addN acc x) l := rfl
    rw [e]
    simp only [List.length_cons]
    omega

set_option maxHeartbeats 4000000 in
set_option maxRecDepth 100000 in
theorem refNames_any (t : T) (hcnt : t.cnt ≤ 999990) (w : World) (v : Value) (hv : TIn w 0 t v) : Calls Try.prog 91 #[v] w fun e w' => ∃ v', e = .returned v' ∧ w'.ownsRow w.heap.size 9 1 v' (addAll [] t.nams).length (strCells (addAll [] t.nams)) ∧ Below w.heap.size w w' := by
  have HV := hidIn hv
  obtain ⟨a, cap, rfl, hc1, hc2, hK⟩ := hv
  have HLEN : Hid (t.nams.length ≤ 999990) := by have := nams_cnt t; show _ ≤ _; omega
  clear hK
  go_enter Try.func91, Try.ntmps91
  go_wp2_with fail
  obtain ⟨W, hW⟩ : ∃ W, W = w.alloc (.cells #[.int .i64 t.kind, .string t.s, .int .i64 t.n, .slice a t.k.length cap] 72) := ⟨_, rfl⟩
  have HB : Hid (Below w.heap.size w W) := by rw [hW]; exact below_alloc (Below.refl _ _) _
  have HVW := hidIn (HV.out.below HB.out)
  rw [← hW]
  clear hW HV
  refine (refNames0_any t hcnt W _ HVW.out).mono ?_
  rintro e w1 ⟨v1, rfl, hown1, hb1⟩
  have HB1 := hidIn hb1
  have HO1 := hidIn hown1
  clear hb1
  obtain ⟨L, HL⟩ : ∃ L, Hid (t.nams = L) := ⟨_, rfl⟩
  rw [HL.out] at hown1 HLEN HO1
  obtain ⟨sa, sc, rfl, htx, hll, _⟩ := own_txt hown1
  obtain ⟨i0, gi, gz0, gz1, gz2⟩ := info_parts infoStr
  have HTX := hidIn htx
  clear hown1 hcnt htx
  have hLl := HLEN.out
  go_wp2_with fail
  go_loopw [11, 3] (fun s11 s3 wr => ∃ i : Nat, i ≤ L.length ∧ s11 = .int .i64 i ∧ wr.ownsRow w1.heap.size 9 1 s3 (addAll [] (L.take i)).length (strCells (addAll [] (L.take i))) ∧ Below w1.heap.size w1 wr) (fun s11 _ _ => L.length - (intOf s11).toNat)
  case atStart => exact ⟨0, by omega, rfl, by simp only [List.take_zero]; exact World.ownsRow_nil _ _ _ _, Below.refl _ _⟩
  case round =>
    obtain ⟨i, hi, rfl, hrow, hbr⟩ := hrel
    obtain ⟨wA, hwA⟩ : ∃ y, y = wr := ⟨_, rfl⟩
    subst hwA
    have HROW := hidIn hrow
    have HBA := hidIn hbr
    clear hrow
    by_cases hlt : i < L.length
    · have hlt' : (i : Int) < (L.length : Int) := by omega
      obtain ⟨s, hs⟩ : ∃ s, L[i]? = some s := ⟨_, List.getElem?_eq_getElem hlt⟩
      obtain ⟨g, rfl, k0⟩ := (HTX.out.below hbr) i s hs
      have HNX : Hid (addAll [] (L.take (i + 1)) = addN (addAll [] (L.take i)) s) := by unfold Hid; rw [take_more _ _ _ hs, addAll_append]; rfl
      have haln : (addAll [] (L.take i)).length ≤ i := by have := addAll_le [] (L.take i); simp at this; omega
      clear hs hbr
      generalize addAll [] (L.take i) = acc at *
      obtain ⟨ao, ac, rfl, hatx, hal, _⟩ := own_txt HROW.out
      have HATX := hidIn hatx
      clear hatx
      go_wp2_with fail
      go_loopw [17, 6] (fun s17 s6 wr => ∃ j : Nat, j ≤ acc.length ∧ s17 = .int .i64 j ∧ s6 = .bool (inFirst acc s j) ∧ wr = wA) (fun s17 _ _ => acc.length - (intOf s17).toNat)
      case atStart => exact ⟨0, by omega, rfl, by simp [inFirst], rfl⟩
      case round =>
        obtain ⟨j, hj, rfl, rfl, hwr⟩ := hrel
        subst hwr
        by_cases hjl : j < acc.length
        · have hjl' : (j : Int) < (acc.length : Int) := by omega
          obtain ⟨y, hy⟩ : ∃ y, acc[j]? = some y := ⟨_, List.getElem?_eq_getElem hjl⟩
          obtain ⟨g2, rfl, k1⟩ := HATX.out j y hy
          have HJ := hidIn (inFirst_next acc s j y hy)
          clear hy
          cases hin : inFirst acc s j with
          | true =>
            rw [hin] at HJ
            go_wp2_with fail
            go_roundw
            case rel => exact ⟨j + 1, by omega, by go_num, by rw [HJ.out]; rfl, trivial⟩
            case measure => simp [intOf]; omega
          | false =>
            rw [hin] at HJ
            by_cases hys : y = s
            · subst hys
              go_wp2_with fail
              go_roundw
              case rel => exact ⟨j + 1, by omega, by go_num, by rw [HJ.out]; simp, trivial⟩
              case measure => simp [intOf]; omega
            · have hys' : ¬ y.toList = s.toList := fun e => hys (toList_inj e)
              have hys2 : (y.toList == s.toList) = false := by rw [beq_eq_false_iff_ne]; exact hys'
              go_wp2_with fail
              go_roundw
              case rel => exact ⟨j + 1, by omega, by go_num, by rw [HJ.out]; simp [hys], trivial⟩
              case measure => simp [intOf]; omega
        · have hje : j = acc.length := by omega
          subst hje
          have HIN : Hid (inFirst acc s acc.length = inN acc s) := by unfold Hid inFirst inN; rw [List.take_length]
          rw [HIN.out]
          cases hin : inN acc s with
          | true =>
            have HAD : Hid (addN acc s = acc) := by unfold Hid addN; rw [if_pos hin]
            go_wp2_with fail
            go_roundw
            case rel => exact ⟨i + 1, by omega, by go_num, by rw [HNX.out, HAD.out]; exact HROW.out, HBA.out⟩
            case measure => simp [intOf]; omega
          | false =>
            have HAD : Hid (addN acc s = acc ++ [s]) := by unfold Hid addN; rw [if_neg (by rw [hin]; simp)]
            go_wp2_with (first
              | (at_builtin; refine wpList_append_own _ rfl _ _ 67 rfl w1.heap.size 9 i0 (.string ByteArray.empty) 1 16 Try.underlying67 gi gz0 gz1 gz2 rfl (by decide) _ _ _ rfl (HROW.out.alloc _) ⟨_, 0, none⟩ 1 1 [.string s] rfl rfl (cell_one_in rfl _ _) (by intro u hu; simp at hu; subst hu; rfl) (by unfold maxLen; omega) (by omega) (by have := HBA.out.size; simp; omega) ?_; intro v2 w2 hown2 hgrow2 _)
              | go_in)
            go_roundw
            case rel => exact ⟨i + 1, by omega, by go_num, by rw [HNX.out, HAD.out]; simpa [strCells] using hown2, ((HBA.out.alloc HBA.out.size _).grown hgrow2 (by have := HBA.out.size; simp; omega) (fun j hj => (HROW.out.lt j hj).1))⟩
            case measure => simp [intOf]; omega
    · have hle : i = L.length := by omega
      subst hle
      have HE : Hid (wA.ownsRow w1.heap.size 9 1 u3 (addAll [] L).length (strCells (addAll [] L))) := by have h := HROW.out; rw [List.take_length] at h; exact h
      go_wp2_with fail
      go_ret
      rw [HL.out]
      exact ⟨_, rfl, ownsRow_base HE.out (Nat.le_trans HB.out.size HB1.out.size), HB.out.trans ((HB1.out.trans (HBA.out.mono HB1.out.size)).mono HB.out.size)⟩

end Go.Proofs.Ytngjlkdpplmpaaa
namespace Go.Proofs.Ytngjlkdpplmpaaa
open Go.RowKit
set_option linter.unusedVariables false

mutual
/-- Two trees are the same, and none of them is, or has, nothing. -/
def sameTr : T → T → Bool
  | .mk kind s n k, u => decide (kind ≠ 0) && (decide (kind = u.kind) && (decide (s = u.s) && (decide (n = u.n) && (decide (k.length = u.k.length) && sameTL k u.k))))
def sameTL : List T → List T → Bool
  | a :: l, m => match m with
    | b :: m => sameTr a b && sameTL l m
    | [] => true
  | [], _ => true
end
theorem sameTL_take (l m : List T) (i : Nat) (a b : T) (h1 : l[i]? = some a) (h2 : m[i]? = some b) : sameTL (l.take (i + 1)) (m.take (i + 1)) = (sameTL (l.take i) (m.take i) && sameTr a b) := by
  induction l generalizing m i with
  | nil => simp at h1
  | cons x l ih =>
    cases m with
    | nil => simp at h2
    | cons y m =>
      cases i with
      | zero => simp at h1 h2; subst h1 h2; simp [sameTL]
      | succ i =>
        simp at h1 h2
        simp only [List.take_succ_cons, sameTL]
        rw [ih m i h1 h2, Bool.and_assoc]
theorem sameTL_false (l m : List T) (i : Nat) (a b : T) (h1 : l[i]? = some a) (h2 : m[i]? = some b) (h : sameTr a b = false) : sameTL l m = false := by
  induction l generalizing m i with
  | nil => simp at h1
  | cons x l ih =>
    cases m with
    | nil => simp at h2
    | cons y m =>
      cases i with
      | zero => simp at h1 h2; subst h1 h2; simp [sameTL, h]
      | succ i =>
        simp at h1 h2
        simp only [sameTL]
        rw [ih m i h1 h2, Bool.and_false]

end Go.Proofs.Ytngjlkdpplmpaaa
namespace Go.Proofs.Ytngjlkdpplmpaaa
open Go.RowKit
set_option linter.unusedVariables false

theorem plain_labs (o : O) : (plain o).labs = [] := by
  induction o <;> simp_all [plain, T.labs, labsL]
theorem plain_cnt (o : O) : (plain o).cnt ≤ 2 * o.nodes + 1 := by
  induction o <;> simp only [plain, T.cnt, cntL, O.nodes] at * <;> omega
theorem plain_sized (o : O) (h : o.Ok) : (plain o).Sized := by
  have he : (⟨#[]⟩ : ByteArray).size ≤ 2147483648 := by decide
  induction o with
  | const n => simp only [plain, T.Sized, SizedL]; exact ⟨he, trivial⟩
  | fix s => simp only [plain, T.Sized, SizedL]; exact ⟨h, trivial⟩
  | odd v => simp only [plain, T.Sized, SizedL]; exact ⟨he, trivial⟩
  | neg o h1 => simp only [plain, T.Sized, SizedL]; exact ⟨he, h1 h, trivial⟩
  | add l r h1 h2 => simp only [plain, T.Sized, SizedL]; exact ⟨he, h1 h.1, h2 h.2, trivial⟩
  | mul l r h1 h2 => simp only [plain, T.Sized, SizedL]; exact ⟨he, h1 h.1, h2 h.2, trivial⟩
  | max l r h1 h2 => simp only [plain, T.Sized, SizedL]; exact ⟨he, h1 h.1, h2 h.2, trivial⟩
theorem plain_form (o : O) : formT (plain o) true = formB o := by
  induction o <;> simp_all [plain, formT, formTL, headOk, partB, formB]

end Go.Proofs.Ytngjlkdpplmpaaa
namespace Go.Proofs.Ytngjlkdpplmpaaa
open Go.RowKit
set_option linter.unusedVariables false

theorem sameTr_mk (kind : Int) (s : ByteArray) (n : Int) (k : List T) (u : T) : sameTr (.mk kind s n k) u = (decide (kind ≠ 0) && (decide (kind = u.kind) && (decide (s = u.s) && (decide (n = u.n) && (decide (k.length = u.k.length) && sameTL k u.k))))) := by rw [sameTr]
theorem plain_same (a : O) : ∀ b, sameTr (plain a) (plain b) = sameO a b := by
  induction a with
  | const n => intro b; cases b <;> simp [plain, sameTr_mk, sameTL, sameO, T.kind, T.s, T.n, T.k] <;> (first | rfl | congr)
  | fix s => intro b; cases b <;> simp [plain, sameTr_mk, sameTL, sameO, T.kind, T.s, T.n, T.k] <;> (first | rfl | congr)
  | odd v => intro b; cases b <;> simp [plain, sameTr_mk, sameTL, sameO, T.kind, T.s, T.n, T.k]
  | neg o ih => intro b; cases b <;> simp [plain, sameTr_mk, sameTL, sameO, T.kind, T.s, T.n, T.k, ih]
  | add l r h1 h2 => intro b; cases b <;> simp [plain, sameTr_mk, sameTL, sameO, T.kind, T.s, T.n, T.k, h1, h2]
  | mul l r h1 h2 => intro b; cases b <;> simp [plain, sameTr_mk, sameTL, sameO, T.kind, T.s, T.n, T.k, h1, h2]
  | max l r h1 h2 => intro b; cases b <;> simp [plain, sameTr_mk, sameTL, sameO, T.kind, T.s, T.n, T.k, h1, h2]
theorem sameO_comm (a : O) : ∀ b, sameO a b = sameO b a := by
  induction a with
  | const n => intro b; cases b <;> simp [sameO, eq_comm]
  | fix s => intro b; cases b <;> simp [sameO, eq_comm]
  | odd v => intro b; cases b <;> simp [sameO]
  | neg o ih => intro b; cases b <;> simp [sameO, ih]
  | add l r h1 h2 => intro b; cases b <;> simp [sameO, h1, h2]
  | mul l r h1 h2 => intro b; cases b <;> simp [sameO, h1, h2]
  | max l r h1 h2 => intro b; cases b <;> simp [sameO, h1, h2]
theorem plain_nams (o : O) : (plain o).nams = o.all := by
  induction o <;> simp_all [plain, T.nams, namsL, O.all]
theorem plain_names (o : O) : addAll [] (plain o).nams = o.names := by rw [plain_nams]; rfl
theorem plain_chk (o : O) : chkT (plain o) true = chk o := by
  unfold chkT chk
  rw [plain_form, plain_nodes, plain_depth, plain_labs]
  simp [twice]
theorem plain_back (o : O) : plain (obsOf (plain o)) = plain o := by
  induction o with
  | const n => rfl
  | fix s => rfl
  | odd v => rfl
  | neg o ih => simp [plain, obsOf, obsL, ih]
  | add l r h1 h2 => simp [plain, obsOf, obsL, h1, h2]
  | mul l r h1 h2 => simp [plain, obsOf, obsL, h1, h2]
  | max l r h1 h2 => simp [plain, obsOf, obsL, h1, h2]

end Go.Proofs.Ytngjlkdpplmpaaa
namespace Go.Proofs.Ytngjlkdpplmpaaa.Vl
open Go.RowKit Wd Cn
set_option linter.unusedVariables false

set_option maxHeartbeats 2000000 in
set_option maxRecDepth 100000 in
theorem refNeeds_any (o : O) (hcnt : (plain o).cnt ≤ 999990) (hnodes : o.nodes ≤ 1000000) (w : World) (v : Value) (ht : TIn w 0 (plain o) v) (B r : Nat) (K : KW) (vF vC : Value) (hr : RIn w B r K vF vC) (hl : K.F.length ≤ 1000000) (d : Int) :
    Calls Try.prog 65 #[v, .int .i64 d, .pointer (some ⟨r, 0, none⟩)] w fun e w' => ∃ v', e = .returned v' ∧ w'.ownsRow w.heap.size 9 1 v' (lackN K d o.names).length (strCells (lackN K d o.names)) ∧ Below w.heap.size w w' := by
  obtain ⟨i0, gi, gz0, gz1, gz2⟩ := info_parts infoStr
  have HT := hidV ht
  obtain ⟨a, cap0, rfl, h1, h2, h3⟩ := ht
  have HB : Hid (Below w.heap.size w (w.alloc (.cells #[.int .i64 (plain o).kind, .string (plain o).s, .int .i64 (plain o).n, .slice a (plain o).k.length cap0] 72))) := below_alloc (Below.refl _ _) _
  have HN := hidV (refNames_any (plain o) hcnt _ _ (HT.out.below HB.out))
  rw [plain_names] at HN
  have HR := hidV (hr.below HB.out)
  have hnl := names_length o
  obtain ⟨l, hle⟩ : ∃ l, o.names = l := ⟨_, rfl⟩
  have HNE := hidV hle
  rw [hle] at HN hnl
  clear h3 hr HT hle
  go_enter Try.func65, Try.ntmps65
  go_wp2_with fail
  refine HN.out.mono ?_
  rintro e w2 ⟨v2, rfl, hown, hb2⟩
  obtain ⟨ao, cap, rfl, hcl, hll⟩ := own_str hown
  have HC := hidV hcl
  have HB2 : Hid (Below w.heap.size w w2) := HB.out.trans (hb2.mono HB.out.size)
  have HR2 := hidV (HR.out.below hb2)
  have hn1 : l.length ≤ 1000000 := by omega
  clear hcl hown hb2 hnl hnodes HN HR HB
  go_wp2_with fail
  go_loopw [15, 7] (fun s15 s7 wr => ∃ i : Nat, i ≤ l.length ∧ s15 = .int .i64 i ∧ wr.ownsRow w2.heap.size 9 1 s7 (lackN K d (l.take i)).length (strCells (lackN K d (l.take i))) ∧ Below w2.heap.size w2 wr) (fun s15 _ _ => l.length - (intOf s15).toNat)
  case atStart => exact ⟨0, by omega, rfl, World.ownsRow_nil _ _ _ _, Below.refl _ _⟩
  case round =>
    obtain ⟨i, hi, rfl, hrow, hbr⟩ := hrel
    have HBR := hidV hbr
    have HROW := hidV hrow
    clear hbr hrow
    by_cases hlt : i < l.length
    · have hlt' : (i : Int) < (l.length : Int) := by omega
      obtain ⟨g, rfl, hg, hc⟩ := HC.out i hlt
      have hcr : wr.cell? ⟨g, i, none⟩ = some (.string l[i]) := (HBR.out.cell (p := ⟨g, i, none⟩) hg).trans hc
      have HT : Hid (lackN K d (l.take (i + 1)) = if (K.fixed (l[i], d)).isSome = true then lackN K d (l.take i) else lackN K d (l.take i) ++ [l[i]]) := by
        unfold Hid
        rw [take_more l i l[i] (List.getElem?_eq_getElem hlt), lackN_snoc]
      have hal : (lackN K d (l.take i)).length ≤ 1000000 := by
        have h1 := lackN_length K d (l.take i)
        have h3 : (l.take i).length ≤ l.length := by rw [List.length_take]; omega
        omega
      clear hc
      generalize l[i] = s at *
      generalize lackN K d (l.take i) = ac at *
      have HF := hidV (refFixed_any wr B r K vF vC (HR2.out.below HBR.out) s d hl)
      go_wp2_with fail
      refine HF.out.mono ?_
      rintro e w3 ⟨rfl, hb3⟩
      have HBR3 := hidV (HBR.out.trans (hb3.mono HBR.out.size))
      have hrow := HROW.out.kept (grown_of_below hb3 none) (by cases hv : u7.ownBlock <;> simp)
      have HROW3 := hidV hrow
      clear hb3 HF
      cases hf : (K.fixed (s, d)).isSome
      · have HT2 : Hid (lackN K d (l.take (i + 1)) = ac ++ [s]) := by unfold Hid; rw [HT.out, if_neg (by rw [hf]; simp)]
        clear HT hf
        go_wp2_with (first
          | (at_builtin; refine wpList_append_own _ rfl _ _ 67 rfl w2.heap.size 9 i0 (.string ByteArray.empty) 1 16 Try.underlying67 gi gz0 gz1 gz2 rfl (by decide) _ _ _ rfl ((hidV hrow).out.alloc _) ⟨w3.heap.size, 0, none⟩ 1 1 [.string s] rfl rfl (cell_one_at w3 _ _) (by intro u hu; simp at hu; subst hu; rfl) (by unfold maxLen; omega) (by omega) (by have := HBR3.out.size; simp; omega) ?_; intro v4 w4 hown4 hgrow4 _)
          | go_in)
        have HR4 : Hid (w4.ownsRow w2.heap.size 9 1 v4 (ac ++ [s]).length (strCells (ac ++ [s]))) := by simpa [strCells, Hid] using hown4
        have HB4 : Hid (Below w2.heap.size w2 w4) := (HBR3.out.alloc HBR3.out.size _).grown hgrow4 (by have := HBR3.out.size; simp; omega) (fun j hj => (HROW3.out.lt j hj).1)
        clear hown4 hgrow4 hrow HROW
        go_wp2_with fail
        go_roundw
        case rel => exact ⟨i + 1, by omega, by go_num, by rw [HT2.out]; exact HR4.out, HB4.out⟩
        case measure => simp [intOf]; omega
      · have HT2 : Hid (lackN K d (l.take (i + 1)) = ac) := by unfold Hid; rw [HT.out, if_pos hf]
        clear HT hf hrow
        go_wp2_with fail
        go_roundw
        case rel => exact ⟨i + 1, by omega, by go_num, by rw [HT2.out]; exact HROW3.out, HBR3.out⟩
        case measure => simp [intOf]; omega
    · have hle : i = l.length := by omega
      subst hle
      have HR4 : Hid (wr.ownsRow w2.heap.size 9 1 u7 (lackN K d l).length (strCells (lackN K d l))) := by have h := HROW.out; rw [List.take_length] at h; exact h
      clear HROW
      go_wp2_with fail
      go_ret
      rw [HNE.out]
      refine ⟨_, rfl, ?_, HB2.out.trans (HBR.out.mono HB2.out.size)⟩
      have h := HR4.out
      refine ⟨h.1, ?_⟩
      rcases h.2 with h | ⟨g, cap, cur, h1, h2, h3⟩
      · exact .inl h
      · exact .inr ⟨g, cap, cur, h1, Nat.le_trans HB2.out.size h2, h3⟩

end Go.Proofs.Ytngjlkdpplmpaaa.Vl
namespace Go.Proofs.Ytngjlkdpplmpaaa
open Go.RowKit
set_option linter.unusedVariables false

theorem plainC_nodes (c : C) : (plainC c).nodes = c.nodes := by
  induction c with
  | scale o c ih => have := plain_nodes o; simp only [plainC, T.nodes, nodesL, C.nodes] at *; simp; omega
  | iff o l r h1 h2 => have := plain_nodes o; simp only [plainC, T.nodes, nodesL, C.nodes] at *; simp; omega
  | _ => simp_all [plainC, T.nodes, nodesL, C.nodes] <;> omega
theorem plainC_depth (c : C) : (plainC c).depth = c.depth := by
  induction c with
  | scale o c ih => have := plain_depth o; simp only [plainC, T.depth, depthL, C.depth] at *; simp; omega
  | iff o l r h1 h2 => have := plain_depth o; simp only [plainC, T.depth, depthL, C.depth] at *; simp; omega
  | _ => simp_all [plainC, T.depth, depthL, C.depth] <;> omega
theorem plainC_labs (c : C) : (plainC c).labs = c.labels := by
  induction c <;> simp_all [plainC, T.labs, labsL, C.labels, plain_labs]
theorem plainC_cnt (c : C) : (plainC c).cnt ≤ 3 * c.weight := by
  induction c with
  | scale o c ih => have := plain_cnt o; simp only [plainC, T.cnt, cntL, C.weight] at *; omega
  | iff o l r h1 h2 => have := plain_cnt o; simp only [plainC, T.cnt, cntL, C.weight] at *; omega
  | _ => simp only [plainC, T.cnt, cntL, C.weight] at * <;> omega
theorem plainC_sized (c : C) (h : c.Ok) : (plainC c).Sized := by
  have he : (⟨#[]⟩ : ByteArray).size ≤ 2147483648 := by decide
  induction c with
  | zero => simp only [plainC, T.Sized, SizedL]; exact ⟨he, trivial⟩
  | one s => simp only [plainC, T.Sized, SizedL]; exact ⟨h, trivial⟩
  | odd v => simp only [plainC, T.Sized, SizedL]; exact ⟨he, trivial⟩
  | give c h1 => simp only [plainC, T.Sized, SizedL]; exact ⟨he, h1 h, trivial⟩
  | and l r h1 h2 => simp only [plainC, T.Sized, SizedL]; exact ⟨he, h1 h.1, h2 h.2, trivial⟩
  | or s l r h1 h2 => simp only [plainC, T.Sized, SizedL]; exact ⟨h.1, h1 h.2.1, h2 h.2.2, trivial⟩
  | scale o c h1 => simp only [plainC, T.Sized, SizedL]; exact ⟨he, plain_sized o h.1, h1 h.2, trivial⟩
  | when d c h1 => simp only [plainC, T.Sized, SizedL]; exact ⟨he, h1 h.2, trivial⟩
  | iff o l r h1 h2 => simp only [plainC, T.Sized, SizedL]; exact ⟨he, plain_sized o h.1, h1 h.2.1, h2 h.2.2, trivial⟩
theorem plainC_form (c : C) : formT (plainC c) false = formC c := by
  induction c <;> simp_all [plainC, formT, formTL, headOk, partB, formC, plain_form, Bool.and_assoc]
theorem plainC_chk (c : C) : chkT (plainC c) false = chkC c := by
  unfold chkT chkC
  rw [plainC_form, plainC_nodes, plainC_depth, plainC_labs]
theorem refCheckC_any (c : C) (hok : c.Ok) (hw : c.weight ≤ 300000) (w : World) (v : Value) (B : Nat) (ht : TIn w B (plainC c) v) : Calls Try.prog 38 #[v, .bool false] w fun e w' => e = .returned (.int .i64 (chkC c)) ∧ Below w.heap.size w w' := by
  have h := refCheck_any (plainC c) (plainC_sized c hok) (by have := plainC_cnt c; omega) (by rw [plainC_nodes]; have := weight_nodes c; omega) false w v (ht.low (Nat.zero_le _))
  rw [plainC_chk] at h
  exact h
/-- The right contract of a plan. -/
def rightP (p : Pl) : C := if chkC (conP p) = 0 then conP p else .one ⟨#[117, 115, 100]⟩
theorem rightP_whole (p : Pl) : (rightP p).whole := by
  unfold rightP
  split
  · exact conP_whole p
  · show (⟨#[117, 115, 100]⟩ : ByteArray).size ≤ _
    decide
theorem rightP_weight (p : Pl) : (rightP p).weight ≤ 630 := by
  unfold rightP
  split
  · exact conP_weight p
  · simp [C.weight]

set_option maxHeartbeats 1000000 in
set_option maxRecDepth 100000 in
theorem right_any (p : Pl) (w : World) (h : PlanIn w p) : Calls Try.prog 21 #[planV p] w fun e w' => ∃ v, e = .returned v ∧ TIn w' w.heap.size (plainC (rightP p)) v ∧ Below w.heap.size w w' := by
  unfold planV
  have HP := hidIn h
  have HOK := hidIn (cwhole_ok _ (conP_whole p))
  have HWT := hidIn (conP_weight p)
  have HRP : Hid (rightP p = if chkC (conP p) = 0 then conP p else .one ⟨#[117, 115, 100]⟩) := rfl
  clear h
  go_enter Try.func21, Try.ntmps21
  go_wp2_with fail
  obtain ⟨W, hW⟩ : ∃ W, W = (w.alloc (.cells #[.slice p.na p.nl p.nc, .slice p.wa p.wl p.wc] 69)).alloc (.cells #[.int .i64 0, .string ⟨#[]⟩, .int .i64 0, .slice none 0 0] 72) := ⟨_, rfl⟩
  have hWs : W.heap.size = w.heap.size + 2 := by rw [hW]; simp
  have HB : Hid (Below w.heap.size w W) := by rw [hW]; exact below_alloc (below_alloc (Below.refl _ _) _) _
  have HZ : Hid (Blk W (w.heap.size + 1) 72 zeroT) := by rw [hW]; exact blk_new (by simp)
  have HPW := hidIn (HP.out.below HB.out)
  have HWS := hidIn hWs
  rw [← hW]
  clear hW hWs
  refine (contract_any p W HPW.out).mono ?_
  rintro e w1 ⟨v, rfl, ht1, hb1⟩
  have ht1' := ht1
  obtain ⟨ka, kc, rfl, _, _, _⟩ := ht1'
  have HT1 := hidIn ht1
  have HB1 := hidIn hb1
  clear ht1 hb1
  generalize hC : conP p = c at *
  clear hC
  go_wp2_with fail
  obtain ⟨w2, hw2⟩ : ∃ w2, w2 = w1.alloc (.cells (four (plainC c) ka kc) 72) := ⟨_, rfl⟩
  have HB2 : Hid (Below W.heap.size W w2) := by rw [hw2]; exact below_alloc HB1.out _
  have HT2 : Hid (TIn w2 W.heap.size (plainC c) (.agg (four (plainC c) ka kc))) := by rw [hw2]; exact HT1.out.below (below_alloc (Below.refl _ _) _)
  have HK2 : Hid (Blk w2 w1.heap.size 72 (four (plainC c) ka kc)) := by rw [hw2]; exact blk_new rfl
  unfold four at hw2
  rw [← hw2]
  clear hw2 HT1
  refine (refCheckC_any c HOK.out (by have := HWT.out; omega) w2 _ _ HT2.out).mono ?_
  rintro e w3 ⟨rfl, hb3⟩
  have HB3 := hidIn (HB2.out.trans (hb3.mono HB2.out.size))
  have HT3 := hidIn (HT2.out.below hb3)
  have hk3 : Blk w3 w1.heap.size 72 (four (plainC c) ka kc) := HK2.out.below hb3 HK2.out.lt
  obtain ⟨q0, q1, q2, q3⟩ := four_cells hk3
  have HZ3 : Hid (Blk w3 (w.heap.size + 1) 72 zeroT) := HZ.out.below HB3.out HZ.out.lt
  obtain ⟨⟨z0, z1, z2, z3⟩, f0, f1, f2, f3⟩ := blk_zero HZ3.out
  have hne : ¬ w.heap.size + 1 = w1.heap.size := by have := HWS.out; have := HB1.out.size; omega
  have HBE : Hid (Below w.heap.size w w3) := HB.out.trans (HB3.out.mono HB.out.size)
  clear hb3 hk3 HK2 HT2
  by_cases h0 : chkC c = 0
  · have h0' : (chkC c == 0) = true := by simp [h0]
    have HR : Hid (rightP p = c) := by unfold Hid; rw [HRP.out, if_pos h0]
    rw [h0]
    clear h0
    go_wp2_with fail
    refine bodyPost_ret (results_cell_row rfl _ _ (w.heap.size + 1) 72 #[.int .i64 (plainC c).kind, .string (plainC c).s, .int .i64 (plainC c).n, .slice ka (plainC c).k.length kc] (0, 0) _ rfl (set4_blk HZ3.out _ _ _ _) Try.underlying72 rfl infoT) rfl ?_
    refine ⟨_, rfl, ?_, (((HBE.out.setCell (Nat.le_succ _) _).setCell (Nat.le_succ _) _).setCell (Nat.le_succ _) _).setCell (Nat.le_succ _) _⟩
    rw [HR.out]
    exact (HT3.out.set4 (R := w.heap.size + 1) (by have := HWS.out; omega) _ _ _ _).low (by have := HWS.out; omega)
  · have h0' : (chkC c == 0) = false := by rw [beq_eq_false_iff_ne]; exact h0
    have HR : Hid (rightP p = .one ⟨#[117, 115, 100]⟩) := by unfold Hid; rw [HRP.out, if_neg h0]
    go_wp2_with fail
    refine bodyPost_ret (results_cell_row rfl _ _ (w.heap.size + 1) 72 #[.int .i64 2, .string ⟨#[117, 115, 100]⟩, .int .i64 0, .slice none 0 0] (0, 0) _ rfl (set4_blk HZ3.out _ _ _ _) Try.underlying72 rfl infoT) rfl ?_
    refine ⟨_, rfl, ?_, (((HBE.out.setCell (Nat.le_succ _) _).setCell (Nat.le_succ _) _).setCell (Nat.le_succ _) _).setCell (Nat.le_succ _) _⟩
    rw [HR.out]
    exact tin_leaf _ _ _ _ _

end Go.Proofs.Ytngjlkdpplmpaaa
namespace Go.Proofs.Ytngjlkdpplmpaaa.Ca
open Go.RowKit Wd Cn Vl
set_option linter.unusedVariables false

def mkR (id : ByteArray) (r : Nat) (e : Int) (x y : Value) : Array Value := #[.string id, .pointer (some ⟨r, 0, none⟩), x, y, .int .i64 e]
theorem twoR (id : ByteArray) (r : Nat) (e : Int) : Two (mkR id r e) := ⟨fun _ _ => rfl, fun _ _ => rfl, fun _ _ _ => rfl, fun _ _ _ => rfl⟩
/-- The document's walk in memory. -/
def StR (w0 w : World) (a : Nat) (id : ByteArray) (r : Nat) (e : Int) (F : List Fl) (W : List Wt) : Prop := St w0 w a 115 (mkR id r e) F W
/-- An error is laid down. -/
theorem StR.setE {w0 w : World} {a : Nat} {id : ByteArray} {r : Nat} {e0 : Int} {F : List Fl} {W : List Wt} (h : StR w0 w a id r e0 F W) (e : Int) : StR w0 (w.setCell ⟨a, 4, none⟩ (.int .i64 e)) a id r e F W ∧ Kept a w (w.setCell ⟨a, 4, none⟩ (.int .i64 e)) := by
  obtain ⟨⟨vF, vW, h1⟩, h2⟩ := h
  refine ⟨⟨⟨vF, vW, ⟨?_, ?_, ?_, h1.ha⟩⟩, h2.setCell h1.ha _⟩, ⟨by simp, fun k hk hka _ _ => heap_setCell_other w ⟨a, 4, none⟩ k _ hka⟩⟩
  · exact heap_setCell_same w a 4 _ _ _ h1.blk
  · exact ownsRow_setCell_other h1.rf (a := ⟨a, 4, none⟩) (by exact h1.neF (by decide)) _
  · exact ownsRow_setCell_other h1.rw' (a := ⟨a, 4, none⟩) (by exact h1.neW (by decide)) _
/-- What the document's walk knows. -/
structure EnvR (w0 : World) (B r : Nat) (K : KW) (id : ByteArray) : Prop where
  rin : ∃ vF vC, RIn w0 B r K vF vC
  vals : KW.Vals K
  chs : KW.Chs K
  fl : K.F.length ≤ 1000
  cl : K.C.length ≤ 1000
  idl : id.size ≤ 1000000

set_option maxHeartbeats 4000000 in
set_option maxRecDepth 100000 in
theorem rwait_any (w0 w : World) (a : Nat) (id : ByteArray) (r : Nat) (e0 : Int) (F : List Fl) (W : List Wt) (h : StR w0 w a id r e0 F W) (hl : W.length ≤ 100000) (y : Wt) :
    Calls Try.prog 63 #[.pointer (some ⟨a, 0, none⟩), y.val] w fun e w' => e = .returned (.tuple #[]) ∧ StR w0 w' a id r e0 F (putR W y) ∧ Kept a w w' := by
  obtain ⟨⟨vF, vW, hin⟩, hb0⟩ := h
  have HB0 := hidC hb0
  have HR := hidC (hin.below (below_alloc (Below.refl w.heap.size w) (.cells #[.bool y.ch, .string y.name, .string y.label, .int .i64 y.day, .int .i64 y.side] 43)))
  have HBA := hidC (below_alloc (Below.refl w.heap.size w) (.cells #[.bool y.ch, .string y.name, .string y.label, .int .i64 y.day, .int .i64 y.side] 43))
  have HY := hidC (heap_alloc_new w (.cells #[.bool y.ch, .string y.name, .string y.label, .int .i64 y.day, .int .i64 y.side] 43))
  have HLT := hidC (fun k (hk : vW.ownBlock = some k) => (hin.rw'.lt k hk).2)
  clear hin hb0
  obtain ⟨ao, cap, rfl, hw⟩ := own_wts HR.out.rw'
  have HW := hidC hw
  have c3 := HR.out.cell3 (twoR id r e0)
  clear hw
  obtain ⟨y', hy'⟩ : ∃ y', y = y' := ⟨_, rfl⟩
  have HYE := hidC hy'
  clear hy'
  obtain ⟨c, nm, lb, d, s⟩ := y
  unfold Wt.val
  simp only at HR HBA HY HW c3 ⊢
  go_enter Try.func63, Try.ntmps63
  go_wp2_with fail
  generalize w.alloc (.cells #[.bool c, .string nm, .string lb, .int .i64 d, .int .i64 s] 43) = V at *
  go_loopw [10] (fun s10 wr => ∃ i : Nat, i ≤ W.length ∧ s10 = .int .i64 i ∧ Hid (∀ j x, j < i → W[j]? = some x → ¬ (x = ⟨c, nm, lb, d, s⟩ ∧ c = false)) ∧ Below V.heap.size V wr) (fun s10 _ => W.length - (intOf s10).toNat)
  case atStart => exact ⟨0, by omega, rfl, (fun j x hj => absurd hj (by omega)), Below.refl _ _⟩
  case round =>
    obtain ⟨i, hi, rfl, HNO, hb⟩ := hrel
    have HB := hidC hb
    clear hb c3
    have c3 := (HR.out.below HB.out).cell3 (twoR id r e0)
    have HYW : Hid (wr.heap[w.heap.size]? = some (.cells #[.bool c, .string nm, .string lb, .int .i64 d, .int .i64 s] 43)) := (HB.out.block _ (Array.getElem?_eq_some_iff.1 HY.out).1).trans HY.out
    by_cases hlt : i < W.length
    · have hlt' : (i : Int) < (W.length : Int) := by omega
      obtain ⟨x, hx⟩ : ∃ x, W[i]? = some x := ⟨_, List.getElem?_eq_getElem hlt⟩
      obtain ⟨g, rfl, hg, d0, d1, d2, d3, d4⟩ := (HW.out.below HB.out) i x hx
      have b0 := cell_of_row _ _ 0 _ _ _ HYW.out
      have b1 := cell_of_row _ _ 1 _ _ _ HYW.out
      have b2 := cell_of_row _ _ 2 _ _ _ HYW.out
      have b3 := cell_of_row _ _ 3 _ _ _ HYW.out
      have b4 := cell_of_row _ _ 4 _ _ _ HYW.out
      rw [show (#[.bool c, .string nm, .string lb, .int .i64 d, .int .i64 s] : Array Value)[0]? = some (.bool c) from rfl] at b0
      rw [show (#[.bool c, .string nm, .string lb, .int .i64 d, .int .i64 s] : Array Value)[1]? = some (.string nm) from rfl] at b1
      rw [show (#[.bool c, .string nm, .string lb, .int .i64 d, .int .i64 s] : Array Value)[2]? = some (.string lb) from rfl] at b2
      rw [show (#[.bool c, .string nm, .string lb, .int .i64 d, .int .i64 s] : Array Value)[3]? = some (.int .i64 d) from rfl] at b3
      rw [show (#[.bool c, .string nm, .string lb, .int .i64 d, .int .i64 s] : Array Value)[4]? = some (.int .i64 s) from rfl] at b4
      have HX := hidC hx
      clear hx hg
      obtain ⟨xc, xn, xl, xd, xs⟩ := x
      simp only at d0 d1 d2 d3 d4
      by_cases he : xc = c ∧ xn = nm ∧ xl = lb ∧ xd = d ∧ xs = s
      · obtain ⟨rfl, rfl, rfl, rfl, rfl⟩ := he
        have e1 : (xn.toList == xn.toList) = true := beq_self_eq_true _
        have e2 : (xl.toList == xl.toList) = true := beq_self_eq_true _
        cases xc
        · go_wp2_with fail
          go_region
          go_wp2_with fail
          all_goals (refine bodyPost_ret (results_none rfl _ _ _) rfl ?_)
          all_goals
            have HP : Hid (putR W ⟨false, xn, xl, xd, xs⟩ = W) := by unfold Hid putR; rw [if_pos ⟨rfl, List.mem_of_getElem? HX.out⟩]
            rw [HP.out]
            have hbb := HBA.out.trans (HB.out.drew.mono HBA.out.size)
            exact ⟨rfl, ⟨⟨_, _, HR.out.below HB.out.drew⟩, HB0.out.trans (hbb.mono HB0.out.size)⟩, Kept.of_below hbb⟩
        · have HNO' : Hid (∀ j x, j < i + 1 → W[j]? = some x → ¬ (x = ⟨true, xn, xl, xd, xs⟩ ∧ true = false)) := fun j x hj hx h => by cases h.2
          go_wp2_with fail
          go_region
          go_wp2_with fail
          all_goals go_roundw
          case rel => exact ⟨i + 1, by omega, by go_num, HNO', HB.out.drew⟩
          case measure => simp [intOf] <;> omega
      · have HNE := hidC he
        have HNO' : Hid (∀ j x, j < i + 1 → W[j]? = some x → ¬ (x = ⟨c, nm, lb, d, s⟩ ∧ c = false)) := fun j x hj hx hh => by
          rcases (by omega : j < i ∨ j = i) with h | h
          · exact HNO.out j x h hx hh
          · subst h
            rw [HX.out] at hx
            injection hx with e
            rw [hh.1] at e
            injection e with h0 h1 h2 h3 h4
            exact HNE.out ⟨h0, h1, h2, h3, h4⟩
        have ways : (xc = true ∧ c = false) ∨ (xc = false ∧ c = true) ∨ (xc = c ∧ (xn.toList == nm.toList) = false) ∨ (xc = c ∧ (xn.toList == nm.toList) = true ∧ (xl.toList == lb.toList) = false) ∨ (xc = c ∧ (xn.toList == nm.toList) = true ∧ (xl.toList == lb.toList) = true ∧ (xd == d) = false) ∨ (xc = c ∧ (xn.toList == nm.toList) = true ∧ (xl.toList == lb.toList) = true ∧ (xd == d) = true ∧ (xs == s) = false) := by
          by_cases g0 : xc = c
          · by_cases g1 : xn = nm
            · by_cases g2 : xl = lb
              · by_cases g3 : xd = d
                · have g4 : xs ≠ s := fun g4 => he ⟨g0, g1, g2, g3, g4⟩
                  exact .inr (.inr (.inr (.inr (.inr ⟨g0, by rw [g1]; exact beq_self_eq_true _, by rw [g2]; exact beq_self_eq_true _, by simpa using g3, by simpa using g4⟩))))
                · exact .inr (.inr (.inr (.inr (.inl ⟨g0, by rw [g1]; exact beq_self_eq_true _, by rw [g2]; exact beq_self_eq_true _, by simpa using g3⟩))))
              · exact .inr (.inr (.inr (.inl ⟨g0, by rw [g1]; exact beq_self_eq_true _, beq_eq_false_iff_ne.2 fun e => g2 (bytes_inj e)⟩)))
            · exact .inr (.inr (.inl ⟨g0, beq_eq_false_iff_ne.2 fun e => g1 (bytes_inj e)⟩))
          · cases xc <;> cases c <;> simp at g0 ⊢
        clear he
        rcases ways with ⟨rfl, rfl⟩ | ⟨rfl, rfl⟩ | ⟨rfl, f1⟩ | ⟨rfl, f1, f2⟩ | ⟨rfl, f1, f2, f3⟩ | ⟨rfl, f1, f2, f3, f4⟩
        all_goals
          go_wp2_with fail
          go_region
          go_wp2_with fail
          all_goals go_roundw
          case rel => exact ⟨i + 1, by omega, by go_num, HNO', HB.out.drew⟩
          case measure => simp [intOf] <;> omega
    · have hle : i = W.length := by omega
      subst hle
      obtain ⟨y, hy⟩ : ∃ y : Wt, y = ⟨c, nm, lb, d, s⟩ := ⟨_, rfl⟩
      have HP : Hid (putR W ⟨c, nm, lb, d, s⟩ = W ++ [⟨c, nm, lb, d, s⟩]) := by
        unfold Hid putR
        rw [if_neg]
        rintro ⟨h1, h2⟩
        obtain ⟨j, hj⟩ := List.mem_iff_getElem?.1 h2
        exact HNO.out j _ (List.getElem?_eq_some_iff.1 hj).1 hj ⟨rfl, h1⟩
      have hl' := hl
      clear c3 HYW HNO hy
      go_wp2_with fail
      have HD := hidC (HB.out.trans ((below_drew (Below.refl wr.heap.size wr)).mono HB.out.size))
      have HRD := hidC (HR.out.below HD.out)
      have HYD : Hid (wr.drew.heap[w.heap.size]? = some (.cells #[.bool c, .string nm, .string lb, .int .i64 d, .int .i64 s] 43)) := (HD.out.block _ (Array.getElem?_eq_some_iff.1 HY.out).1).trans HY.out
      have HB2 : Hid (Below w.heap.size w wr.drew) := HBA.out.trans (HD.out.mono HBA.out.size)
      have HFC : Hid (∀ w' : World, (w'.cell? ⟨a, 3, none⟩ = some (.slice ao W.length cap) ∧ w'.heap[w.heap.size]? = some (.cells #[.bool c, .string nm, .string lb, .int .i64 d, .int .i64 s] 43)) → w'.cell? ⟨a, 3, none⟩ = some (.slice ao W.length cap) ∧ w'.cell? ⟨w.heap.size, 0, none⟩ = some (.bool c) ∧ w'.cell? ⟨w.heap.size, 1, none⟩ = some (.string nm) ∧ w'.cell? ⟨w.heap.size, 2, none⟩ = some (.string lb) ∧ w'.cell? ⟨w.heap.size, 3, none⟩ = some (.int .i64 d) ∧ w'.cell? ⟨w.heap.size, 4, none⟩ = some (.int .i64 s)) := fun w' hw' =>
        ⟨hw'.1, cell_of_row _ _ 0 _ _ _ hw'.2, cell_of_row _ _ 1 _ _ _ hw'.2, cell_of_row _ _ 2 _ _ _ hw'.2, cell_of_row _ _ 3 _ _ _ hw'.2, cell_of_row _ _ 4 _ _ _ hw'.2⟩
      refine Mx.wp_region_mix5 (fun w' => w'.cell? ⟨a, 3, none⟩ = some (.slice ao W.length cap) ∧ w'.heap[w.heap.size]? = some (.cells #[.bool c, .string nm, .string lb, .int .i64 d, .int .i64 s] 43)) 10 [(0, false), (1, false), (2, false), (3, false), (4, false), (5, false), (6, true), (7, true), (8, true), (9, true), (10, true)] (by kernel_rfl) (by kernel_rfl) ⟨HRD.out.cell3 (twoR id r e0), HYD.out⟩ ?_ (by kernel_rfl)
      simp only [List.map_cons, List.map_nil, List.getD_cons_zero, List.getD_cons_succ]
      generalize hops : (#[_, _, _, _, _, _, _, _, _, _, _] : Array Oper) = ops
      clear hops
      refine Mx.l_pure (.pointer (some ⟨a, 0, none⟩)) (by decide) (Mx.wanted_none rfl) (fun w' hw' => ?_) ?_
      · go_simp
      simp only [Act.put, List.setIfInBounds_toArray, List.set_cons_zero, List.set_cons_succ]
      refine Mx.l_pure (.pointer (some ⟨a, 0, none⟩)) (by decide) (Mx.wanted_none rfl) (fun w' hw' => ?_) ?_
      · go_simp
      simp only [Act.put, List.setIfInBounds_toArray, List.set_cons_zero, List.set_cons_succ]
      refine Mx.l_pure (.pointer (some ⟨a, 0, none⟩)) (by decide) (Mx.wanted_none rfl) (fun w' hw' => ?_) ?_
      · go_simp
      simp only [Act.put, List.setIfInBounds_toArray, List.set_cons_zero, List.set_cons_succ]
      refine Mx.l_pure (.pointer (some ⟨a, 3, none⟩)) (by decide) (Mx.wanted_none rfl) (fun w' hw' => ?_) ?_
      · go_simp
      simp only [Act.put, List.setIfInBounds_toArray, List.set_cons_zero, List.set_cons_succ]
      refine Mx.l_pure (.slice ao W.length cap) (by decide) (Mx.wanted_none rfl) (fun w' hw' => ?_) ?_
      · obtain ⟨q0, q1, q2, q3, q4, q5⟩ := HFC.out w' hw'
        go_simp
      simp only [Act.put, List.setIfInBounds_toArray, List.set_cons_zero, List.set_cons_succ]
      refine Mx.l_pure (.agg #[.bool c, .string nm, .string lb, .int .i64 d, .int .i64 s]) (by decide) (Mx.wanted_none rfl) (fun w' hw' => ?_) ?_
      · obtain ⟨q0, q1, q2, q3, q4, q5⟩ := HFC.out w' hw'
        go_simp
      simp only [Act.put, List.setIfInBounds_toArray, List.set_cons_zero, List.set_cons_succ]
      generalize hX : wr.drew = X at *
      clear hX
      have HB3 := hidC (below_alloc (Below.refl X.heap.size X) (.cells #[.bool c, .string nm, .string lb, .int .i64 d, .int .i64 s] 43))
      have HRA := hidC (HRD.out.below HB3.out)
      have HYA : Hid ((X.alloc (.cells #[.bool c, .string nm, .string lb, .int .i64 d, .int .i64 s] 43)).heap[w.heap.size]? = some (.cells #[.bool c, .string nm, .string lb, .int .i64 d, .int .i64 s] 43)) := (HB3.out.block _ (Array.getElem?_eq_some_iff.1 HYD.out).1).trans HYD.out
      refine Mx.l_run (.slice (some ⟨X.heap.size, 0, none⟩) 1 1) (Mx.wanted_none rfl) (w' := X.alloc (.cells #[.bool c, .string nm, .string lb, .int .i64 d, .int .i64 s] 43)) ?_ ⟨HRA.out.cell3 (twoR id r e0), HYA.out⟩ ?_
      · go_simp
      simp only [Act.put, List.setIfInBounds_toArray, List.set_cons_zero, List.set_cons_succ]
      have hB0 : w0.heap.size ≤ (X.alloc (.cells #[.bool c, .string nm, .string lb, .int .i64 d, .int .i64 s] 43)).heap.size := Nat.le_trans HB0.out.size (Nat.le_trans HB2.out.size HB3.out.size)
      obtain ⟨v', w4, hrun, hc3, hf3, ⟨ao2, cap2, hv'⟩, hg, k1, k2⟩ := HRA.out.pushW (twoR id r e0) (by decide) (by decide) hB0 hl ⟨c, nm, lb, d, s⟩ X.heap.size (heap_alloc_new _ _) 38
      have HK1 := hidC k1
      have HK2 := hidC k2
      have HKP : Hid (Kept a (X.alloc (.cells #[.bool c, .string nm, .string lb, .int .i64 d, .int .i64 s] 43)) (w4.setCell ⟨a, 3, none⟩ v')) := Kept.grown HRA.out.rw' (.inr rfl) hg
      have HY4 : Hid (w4.heap[w.heap.size]? = some (.cells #[.bool c, .string nm, .string lb, .int .i64 d, .int .i64 s] 43)) := (hg.block _ (Array.getElem?_eq_some_iff.1 HYA.out).1 (fun e => by have := HLT.out _ e.symm; omega)).trans HYA.out
      clear hg k1 k2
      generalize X.alloc (.cells #[.bool c, .string nm, .string lb, .int .i64 d, .int .i64 s] 43) = w3 at *
      refine Mx.l_run v' (Mx.wanted_none rfl) (w' := w4) ?_ ⟨hc3, HY4.out⟩ ?_
      · simp [execOp, resolve, invoke, builtin, Act.eval, hrun]
      clear hrun
      subst hv'
      simp only [Act.put, List.setIfInBounds_toArray, List.set_cons_zero, List.set_cons_succ]
      refine Mx.l_run (.pointer (some ⟨a, 0, none⟩)) (Mx.wanted_none rfl) (w' := w4) ?_ ⟨hc3, HY4.out⟩ ?_
      · go_simp
      simp only [Act.put, List.setIfInBounds_toArray, List.set_cons_zero, List.set_cons_succ]
      refine Mx.l_run (.pointer (some ⟨a, 3, none⟩)) (Mx.wanted_none rfl) (w' := w4) ?_ ⟨hc3, HY4.out⟩ ?_
      · go_simp
      simp only [Act.put, List.setIfInBounds_toArray, List.set_cons_zero, List.set_cons_succ]
      refine Mx.l_last (w' := w4.setCell ⟨a, 3, none⟩ (.slice ao2 (W.length + 1) cap2)) (Mx.wanted_none rfl) ?_ ?_
      · go_simp
      simp only [Act.put]
      generalize w4.setCell ⟨a, 3, none⟩ (.slice ao2 (W.length + 1) cap2) = w5 at *
      clear hc3 hf3
      go_wp2_with fail
      go_end0
      rw [HP.out]
      have h1 : Below w.heap.size w w3 := HB2.out.trans (HB3.out.mono HB2.out.size)
      exact ⟨rfl, ⟨⟨_, _, HK1.out⟩, (HB0.out.trans (h1.mono HB0.out.size)).trans HK2.out⟩, (Kept.of_below h1).trans HKP.out⟩

end Go.Proofs.Ytngjlkdpplmpaaa.Ca
namespace Go.Proofs.Ytngjlkdpplmpaaa.Ca
open Go.RowKit Wd Cn Vl
set_option linter.unusedVariables false

/-- What the document's walk does at a tree: its error, what it met. -/
def RwT (w0 : World) (a : Nat) (id : ByteArray) (r : Nat) (t : T) (q : Int → Int → Ck) (n : Nat) : Prop := ∀ (w : World) (v : Value) (F : List Fl) (W : List Wt) (d k : Int), StR w0 w a id r 0 F W → TIn w0 0 t v → 0 ≤ d → d ≤ 10000 → vB k = true → k ≠ 0 → F.length + n ≤ 50000 → W.length + n ≤ 50000 →
  Calls Try.prog 39 #[.pointer (some ⟨a, 0, none⟩), v, .int .i64 d, .int .i64 k] w fun e w' => e = .returned (.tuple #[]) ∧ StR w0 w' a id r (q d k).e (F ++ (q d k).f) (addRf W (q d k).w) ∧ Kept a w w'
def RwC (w0 : World) (a : Nat) (id : ByteArray) (r : Nat) (K : KW) (c : C) : Prop := RwT w0 a id r (plainC c) (ck K id c) c.weight
theorem StR.e4 {w0 w w' : World} {a : Nat} {id : ByteArray} {r : Nat} {e : Int} {F : List Fl} {W : List Wt} (h : StR w0 w a id r e F W) (hb : Below w.heap.size w w') : w'.cell? ⟨a, 4, none⟩ = some (.int .i64 e) := by
  obtain ⟨⟨vF, vW, h1⟩, _⟩ := h
  exact cell_blk (h1.below hb).blk rfl
theorem tin_shape {w : World} {B : Nat} {t : T} {v : Value} (h : TIn w B t v) : ∃ ka cap, v = .agg #[.int .i64 t.kind, .string t.s, .int .i64 t.n, .slice ka t.k.length cap] ∧ KAt w B t.k ka 0 := by
  obtain ⟨ka, cap, e, _, _, h⟩ := h
  exact ⟨ka, cap, e, h⟩
/-- A part's cells stand in every world behind the one where the tree stood. -/
theorem kid_at {w0 : World} {l : List T} {ka : Option Addr} (h : KAt w0 0 l ka 0) {j : Nat} {t : T} (hj : l[j]? = some t) : ∃ b o ka' cap, ka = some ⟨b, o, none⟩ ∧ (∀ w', Below w0.heap.size w0 w' → w'.cell? ⟨b, o + j * 4, none⟩ = some (.int .i64 t.kind) ∧ w'.cell? ⟨b, o + j * 4 + 1, none⟩ = some (.string t.s) ∧ w'.cell? ⟨b, o + j * 4 + 2, none⟩ = some (.int .i64 t.n) ∧ w'.cell? ⟨b, o + j * 4 + 3, none⟩ = some (.slice ka' t.k.length cap)) ∧ TIn w0 0 t (.agg #[.int .i64 t.kind, .string t.s, .int .i64 t.n, .slice ka' t.k.length cap]) := by
  obtain ⟨b, o, ka', cap, e, h0, h1, h2, h3, ht⟩ := h.cells hj
  have hb := World.block_lt_of_cell? w0 _ h0
  refine ⟨b, o, ka', cap, e, fun w' hw' => ?_, ht⟩
  have q := fun x => hw'.cell (p := ⟨b, x, none⟩) hb
  exact ⟨(q _).trans h0, (q _).trans h1, (q _).trans h2, (q _).trans h3⟩

set_option maxHeartbeats 4000000 in
set_option maxRecDepth 100000 in
theorem rw_stop (w0 : World) (a : Nat) (id : ByteArray) (r : Nat) (e0 : Int) (he : e0 ≠ 0) (w : World) (F : List Fl) (W : List Wt) (h : StR w0 w a id r e0 F W) (kind n : Int) (s : ByteArray) (ka : Option Addr) (len cap : Nat) (d k : Int) :
    Calls Try.prog 39 #[.pointer (some ⟨a, 0, none⟩), .agg #[.int .i64 kind, .string s, .int .i64 n, .slice ka len cap], .int .i64 d, .int .i64 k] w fun e w' => e = .returned (.tuple #[]) ∧ StR w0 w' a id r e0 F W ∧ Kept a w w' := by
  have HS := hidC h
  have hb := below_alloc (Below.refl w.heap.size w) (.cells #[.int .i64 kind, .string s, .int .i64 n, .slice ka len cap] 72)
  have HB := hidC hb
  have c4 := h.e4 hb
  have he' : (e0 != 0) = true := by simpa using he
  clear h hb
  go_enter Try.func39, Try.ntmps39
  go_wp2_with fail
  refine bodyPost_ret (results_none rfl _ _ _) rfl ?_
  exact ⟨rfl, HS.out.step HB.out, Kept.of_below HB.out⟩

set_option maxHeartbeats 4000000 in
set_option maxRecDepth 100000 in
theorem rw_zero (w0 : World) (a : Nat) (id : ByteArray) (r : Nat) (K : KW) : RwC w0 a id r K .zero := by
  intro w v F W d k hs ht hd1 hd2 hv hk hlf hlw
  obtain ⟨ka, kc, rfl, hkat⟩ := tin_shape ht
  simp only [plainC, T.kind, T.s, T.n, T.k, List.length_nil] at hkat ⊢
  have HS := hidC hs
  have HBA := hidC (below_alloc (Below.refl w.heap.size w) (.cells #[.int .i64 1, .string ⟨#[]⟩, .int .i64 0, .slice ka 0 kc] 72))
  have HSV := hidC (hs.step HBA.out)
  have HX := hidC (heap_alloc_new w (.cells #[.int .i64 1, .string ⟨#[]⟩, .int .i64 0, .slice ka 0 kc] 72))
  have HNA := hidC (HSV.out.at_cells HX.out (by decide))
  have HKV := hidC (Kept.of_below (a := a) HBA.out)
  have HVK := hidC (vB_i64 hv)
  have HHK := hidC (And.intro hv hk)
  have hk1 := HVK.out.1
  have hk2 := HVK.out.2
  have c4 := hs.e4 HBA.out
  clear hs ht hkat hv hk
  have HQ : Hid (ck K id .zero d k = ⟨[], [], 0⟩) := rfl
  go_enter Try.func39, Try.ntmps39
  go_wp2_with fail
  go_end0
  rw [HQ.out, List.append_nil]
  exact ⟨rfl, HSV.out, HKV.out⟩

set_option maxHeartbeats 4000000 in
set_option maxRecDepth 100000 in
theorem rw_one (w0 : World) (a : Nat) (id : ByteArray) (r : Nat) (K : KW) (s : ByteArray) : RwC w0 a id r K (.one s) := by
  intro w v F W d k hs ht hd1 hd2 hv hk hlf hlw
  obtain ⟨ka, kc, rfl, hkat⟩ := tin_shape ht
  simp only [plainC, T.kind, T.s, T.n, T.k, List.length_nil] at hkat ⊢
  have HS := hidC hs
  have HBA := hidC (below_alloc (Below.refl w.heap.size w) (.cells #[.int .i64 2, .string s, .int .i64 0, .slice ka 0 kc] 72))
  have HSV := hidC (hs.step HBA.out)
  have HX := hidC (heap_alloc_new w (.cells #[.int .i64 2, .string s, .int .i64 0, .slice ka 0 kc] 72))
  have HNA := hidC (HSV.out.at_cells HX.out (by decide))
  have HKV := hidC (Kept.of_below (a := a) HBA.out)
  have HVK := hidC (vB_i64 hv)
  have HHK := hidC (And.intro hv hk)
  have hk1 := HVK.out.1
  have hk2 := HVK.out.2
  have c4 := hs.e4 HBA.out
  clear hs ht hkat hv hk
  have HQ : Hid (ck K id (.one s) d k = ⟨[⟨d, s, k⟩], [], 0⟩) := rfl
  obtain ⟨⟨vF, vW, hin⟩, hb0⟩ := HSV.out
  have HB0 := hidC hb0
  obtain ⟨ao, cap, hvF⟩ := row_shape hin.rf
  have hFl : F.length ≤ 100000 := by omega
  subst hvF
  have HR := hidC (hin.below (below_drew (Below.refl _ _)))
  clear hin hb0
  go_enter Try.func39, Try.ntmps39
  go_wp2_with fail
  generalize w.alloc (.cells #[.int .i64 2, .string s, .int .i64 0, .slice ka 0 kc] 72) = V at *
  have HFC : Hid (∀ w' : World, (w'.cell? ⟨a, 2, none⟩ = some (.slice ao F.length cap) ∧ w'.heap[w.heap.size]? = some (.cells #[.int .i64 2, .string s, .int .i64 0, .slice ka 0 kc] 72)) → w'.cell? ⟨a, 2, none⟩ = some (.slice ao F.length cap) ∧ w'.cell? ⟨w.heap.size, 1, none⟩ = some (.string s)) := fun w' hw' =>
    ⟨hw'.1, cell_of_row _ _ 1 _ _ _ hw'.2⟩
  refine Mx.wp_region_mix5 (fun w' => w'.cell? ⟨a, 2, none⟩ = some (.slice ao F.length cap) ∧ w'.heap[w.heap.size]? = some (.cells #[.int .i64 2, .string s, .int .i64 0, .slice ka 0 kc] 72)) 14 [(0, false), (1, false), (2, false), (3, false), (4, false), (5, false), (6, false), (7, false), (8, false), (9, false), (10, true), (11, true), (12, true), (13, true), (14, true)] (by kernel_rfl) (by kernel_rfl) ⟨HR.out.cell2 (twoR id r 0), HX.out⟩ ?_ (by kernel_rfl)
  simp only [List.map_cons, List.map_nil, List.getD_cons_zero, List.getD_cons_succ]
  generalize hops : (#[_, _, _, _, _, _, _, _, _, _, _, _, _, _, _] : Array Oper) = ops
  clear hops
  refine Mx.l_pure (.pointer (some ⟨a, 0, none⟩)) (by decide) (Mx.wanted_none rfl) (fun w' hw' => ?_) ?_
  · go_simp
  simp only [Act.put, List.setIfInBounds_toArray, List.set_cons_zero, List.set_cons_succ]
  refine Mx.l_pure (.pointer (some ⟨a, 0, none⟩)) (by decide) (Mx.wanted_none rfl) (fun w' hw' => ?_) ?_
  · go_simp
  simp only [Act.put, List.setIfInBounds_toArray, List.set_cons_zero, List.set_cons_succ]
  refine Mx.l_pure (.pointer (some ⟨a, 0, none⟩)) (by decide) (Mx.wanted_none rfl) (fun w' hw' => ?_) ?_
  · go_simp
  simp only [Act.put, List.setIfInBounds_toArray, List.set_cons_zero, List.set_cons_succ]
  refine Mx.l_pure (.pointer (some ⟨a, 2, none⟩)) (by decide) (Mx.wanted_none rfl) (fun w' hw' => ?_) ?_
  · go_simp
  simp only [Act.put, List.setIfInBounds_toArray, List.set_cons_zero, List.set_cons_succ]
  refine Mx.l_pure (.slice ao F.length cap) (by decide) (Mx.wanted_none rfl) (fun w' hw' => ?_) ?_
  · obtain ⟨q0, q1⟩ := HFC.out w' hw'
    go_simp
  simp only [Act.put, List.setIfInBounds_toArray, List.set_cons_zero, List.set_cons_succ]
  refine Mx.l_pure (.int .i64 d) (by decide) (Mx.wanted_none rfl) (fun w' hw' => ?_) ?_
  · go_simp
  simp only [Act.put, List.setIfInBounds_toArray, List.set_cons_zero, List.set_cons_succ]
  refine Mx.l_pure (.pointer (some ⟨w.heap.size, 1, none⟩)) (by decide) (Mx.wanted_none rfl) (fun w' hw' => ?_) ?_
  · go_simp
  simp only [Act.put, List.setIfInBounds_toArray, List.set_cons_zero, List.set_cons_succ]
  refine Mx.l_pure (.string s) (by decide) (Mx.wanted_none rfl) (fun w' hw' => ?_) ?_
  · obtain ⟨q0, q1⟩ := HFC.out w' hw'
    go_simp
  simp only [Act.put, List.setIfInBounds_toArray, List.set_cons_zero, List.set_cons_succ]
  refine Mx.l_pure (.int .i64 k) (by decide) (Mx.wanted_none rfl) (fun w' hw' => ?_) ?_
  · go_simp
  simp only [Act.put, List.setIfInBounds_toArray, List.set_cons_zero, List.set_cons_succ]
  refine Mx.l_pure (.agg #[.int .i64 d, .string s, .int .i64 k]) (by decide) (Mx.wanted_none rfl) (fun w' hw' => ?_) ?_
  · go_simp
  simp only [Act.put, List.setIfInBounds_toArray, List.set_cons_zero, List.set_cons_succ]
  have HB1 := hidC (HBA.out.trans ((below_drew (Below.refl V.heap.size V)).mono HBA.out.size))
  have HXD : Hid (V.drew.heap[w.heap.size]? = some (.cells #[.int .i64 2, .string s, .int .i64 0, .slice ka 0 kc] 72)) := HX.out
  generalize hX : V.drew = X at *
  clear hX
  have HB3 := hidC (below_alloc (Below.refl X.heap.size X) (.cells #[.int .i64 d, .string s, .int .i64 k] 46))
  have HRA := hidC (HR.out.below HB3.out)
  have HXX : Hid (X.heap[w.heap.size]? = some (.cells #[.int .i64 2, .string s, .int .i64 0, .slice ka 0 kc] 72)) := by
    have h0 : w.heap.size < V.heap.size := (Array.getElem?_eq_some_iff.1 HX.out).1
    exact HXD.out
  have HXA : Hid ((X.alloc (.cells #[.int .i64 d, .string s, .int .i64 k] 46)).heap[w.heap.size]? = some (.cells #[.int .i64 2, .string s, .int .i64 0, .slice ka 0 kc] 72)) := (HB3.out.block _ (Array.getElem?_eq_some_iff.1 HXX.out).1).trans HXX.out
  refine Mx.l_run (.slice (some ⟨X.heap.size, 0, none⟩) 1 1) (Mx.wanted_none rfl) (w' := X.alloc (.cells #[.int .i64 d, .string s, .int .i64 k] 46)) ?_ ⟨HRA.out.cell2 (twoR id r 0), HXA.out⟩ ?_
  · go_simp
  simp only [Act.put, List.setIfInBounds_toArray, List.set_cons_zero, List.set_cons_succ]
  have hB0 : w0.heap.size ≤ (X.alloc (.cells #[.int .i64 d, .string s, .int .i64 k] 46)).heap.size := Nat.le_trans HS.out.2.size (Nat.le_trans HB1.out.size HB3.out.size)
  obtain ⟨v', w4, hrun, hc3, hf3, ⟨ao2, cap2, hv'⟩, hg, k1, k2⟩ := HRA.out.pushF (twoR id r 0) (by decide) (by decide) hB0 hFl ⟨d, s, k⟩ X.heap.size (heap_alloc_new _ _) 37
  have HK1 := hidC k1
  have HK2 := hidC k2
  have HKP : Hid (Kept a (X.alloc (.cells #[.int .i64 d, .string s, .int .i64 k] 46)) (w4.setCell ⟨a, 2, none⟩ v')) := Kept.grown HRA.out.rf (.inl rfl) hg
  have HX4 : Hid (w4.heap[w.heap.size]? = some (.cells #[.int .i64 2, .string s, .int .i64 0, .slice ka 0 kc] 72)) := (hg.block _ (Array.getElem?_eq_some_iff.1 HXA.out).1 (fun e => by
    obtain ⟨cs, hc⟩ := row_block HRA.out.rf e.symm
    have := HXA.out
    rw [hc] at this
    injection this with e1
    injection e1 with _ e1
    exact absurd e1 (by decide))).trans HXA.out
  clear hg k1 k2
  generalize X.alloc (.cells #[.int .i64 d, .string s, .int .i64 k] 46) = w3 at *
  refine Mx.l_run v' (Mx.wanted_none rfl) (w' := w4) ?_ ⟨hc3, HX4.out⟩ ?_
  · simp [execOp, resolve, invoke, builtin, Act.eval, hrun]
  clear hrun
  subst hv'
  simp only [Act.put, List.setIfInBounds_toArray, List.set_cons_zero, List.set_cons_succ]
  refine Mx.l_run (.pointer (some ⟨a, 0, none⟩)) (Mx.wanted_none rfl) (w' := w4) ?_ ⟨hc3, HX4.out⟩ ?_
  · go_simp
  simp only [Act.put, List.setIfInBounds_toArray, List.set_cons_zero, List.set_cons_succ]
  refine Mx.l_run (.pointer (some ⟨a, 2, none⟩)) (Mx.wanted_none rfl) (w' := w4) ?_ ⟨hc3, HX4.out⟩ ?_
  · go_simp
  simp only [Act.put, List.setIfInBounds_toArray, List.set_cons_zero, List.set_cons_succ]
  refine Mx.l_last (w' := w4.setCell ⟨a, 2, none⟩ (.slice ao2 (F.length + 1) cap2)) (Mx.wanted_none rfl) ?_ ?_
  · go_simp
  simp only [Act.put]
  generalize w4.setCell ⟨a, 2, none⟩ (.slice ao2 (F.length + 1) cap2) = w5 at *
  clear hc3 hf3 c4
  go_wp2_with fail
  go_end0
  have h1 : Below w.heap.size w w3 := HB1.out.trans (HB3.out.mono HB1.out.size)
  rw [HQ.out]
  exact ⟨rfl, ⟨⟨_, _, HK1.out⟩, (HS.out.2.trans (h1.mono HS.out.2.size)).trans HK2.out⟩, (Kept.of_below h1).trans HKP.out⟩

set_option maxHeartbeats 4000000 in
set_option maxRecDepth 100000 in
theorem rw_give (w0 : World) (a : Nat) (id : ByteArray) (r : Nat) (K : KW) (c : C) (ih : RwC w0 a id r K c) : RwC w0 a id r K (.give c) := by
  intro w v F W d k hs ht hd1 hd2 hv hk hlf hlw
  obtain ⟨ka, kc, rfl, hkat⟩ := tin_shape ht
  simp only [plainC, T.kind, T.s, T.n, T.k, List.length_singleton] at hkat ⊢
  obtain ⟨b, o, kaA, kcA, rfl, hkA, htA⟩ := kid_at hkat (j := 0) (t := plainC c) rfl
  have HKA := hidC hkA
  have HTA := hidC htA
  have HS := hidC hs
  have HBA := hidC (below_alloc (Below.refl w.heap.size w) (.cells #[.int .i64 3, .string ⟨#[]⟩, .int .i64 0, .slice (some ⟨b, o, none⟩) 1 kc] 72))
  have HSV := hidC (hs.step HBA.out)
  have HX := hidC (heap_alloc_new w (.cells #[.int .i64 3, .string ⟨#[]⟩, .int .i64 0, .slice (some ⟨b, o, none⟩) 1 kc] 72))
  have HNA := hidC (HSV.out.at_cells HX.out (by decide))
  have HKV := hidC (Kept.of_below (a := a) HBA.out)
  have HVK := hidC (vB_i64 hv)
  have HHK := hidC (And.intro hv hk)
  have hk1 := HVK.out.1
  have hk2 := HVK.out.2
  have c4 := hs.e4 HBA.out
  clear hs ht hkat hv hk hkA htA
  have HQ : Hid (ck K id (.give c) d k = ck K id c d (-k)) := rfl
  have HI := hidC ih
  have HVN := hidC (vB_neg k HHK.out.1)
  simp only [C.weight] at hlf hlw
  clear ih
  obtain ⟨x0, x1, x2, x3⟩ := HKA.out _ HSV.out.2
  simp only [Nat.zero_mul, Nat.add_zero] at x0 x1 x2 x3
  go_enter Try.func39, Try.ntmps39
  go_wp2_with fail
  refine (HI.out _ _ F W d (-k) HSV.out HTA.out hd1 hd2 HVN.out (by have := HHK.out.2; omega) (by omega) (by omega)).mono ?_
  rintro e w2 ⟨rfl, hs2, hk2'⟩
  have HS2 := hidC hs2
  have HK2 := hidC (HKV.out.trans hk2')
  clear hs2 hk2' x0 x1 x2 x3 c4
  go_wp2_with fail
  go_end0
  rw [HQ.out]
  exact ⟨rfl, HS2.out, HK2.out⟩

set_option maxHeartbeats 4000000 in
set_option maxRecDepth 100000 in
theorem rw_when (w0 : World) (a : Nat) (id : ByteArray) (r : Nat) (K : KW) (d' : Int) (c : C) (hf : formC (.when d' c) = true) (ih : RwC w0 a id r K c) : RwC w0 a id r K (.when d' c) := by
  intro w v F W d k hs ht hd1 hd2 hv hk hlf hlw
  obtain ⟨ka, kc, rfl, hkat⟩ := tin_shape ht
  simp only [plainC, T.kind, T.s, T.n, T.k, List.length_singleton] at hkat ⊢
  obtain ⟨b, o, kaA, kcA, rfl, hkA, htA⟩ := kid_at hkat (j := 0) (t := plainC c) rfl
  have HKA := hidC hkA
  have HTA := hidC htA
  have HS := hidC hs
  have HBA := hidC (below_alloc (Below.refl w.heap.size w) (.cells #[.int .i64 7, .string ⟨#[]⟩, .int .i64 d', .slice (some ⟨b, o, none⟩) 1 kc] 72))
  have HSV := hidC (hs.step HBA.out)
  have HX := hidC (heap_alloc_new w (.cells #[.int .i64 7, .string ⟨#[]⟩, .int .i64 d', .slice (some ⟨b, o, none⟩) 1 kc] 72))
  have HNA := hidC (HSV.out.at_cells HX.out (by decide))
  have HKV := hidC (Kept.of_below (a := a) HBA.out)
  have HVK := hidC (vB_i64 hv)
  have HHK := hidC (And.intro hv hk)
  have hk1 := HVK.out.1
  have hk2 := HVK.out.2
  have c4 := hs.e4 HBA.out
  clear hs ht hkat hv hk hkA htA
  have HI := hidC ih
  simp only [formC, Bool.and_eq_true] at hf
  obtain ⟨g1, g2⟩ := (dayB_iff d').1 hf.1
  simp only [C.weight] at hlf hlw
  obtain ⟨m, hm⟩ : ∃ m, Max.max d d' = m := ⟨_, rfl⟩
  have HQ : Hid (ck K id (.when d' c) d k = ck K id c m k) := by unfold Hid; simp only [ck]; rw [hm]
  have HOR : Hid ((d < d' ∧ m = d') ∨ (d' ≤ d ∧ m = d)) := by unfold Hid; omega
  have hm1 : 0 ≤ m := by omega
  have hm2 : m ≤ 10000 := by omega
  clear ih hf hm
  have HFC : Hid (∀ w' : World, (Below w0.heap.size w0 w' ∧ w'.heap[w.heap.size]? = some (.cells #[.int .i64 7, .string ⟨#[]⟩, .int .i64 d', .slice (some ⟨b, o, none⟩) 1 kc] 72)) → w'.cell? ⟨b, o, none⟩ = some (.int .i64 (plainC c).kind) ∧ w'.cell? ⟨b, o + 1, none⟩ = some (.string (plainC c).s) ∧ w'.cell? ⟨b, o + 2, none⟩ = some (.int .i64 (plainC c).n) ∧ w'.cell? ⟨b, o + 3, none⟩ = some (.slice kaA (plainC c).k.length kcA) ∧ w'.cell? ⟨w.heap.size, 2, none⟩ = some (.int .i64 d') ∧ w'.cell? ⟨w.heap.size, 3, none⟩ = some (.slice (some ⟨b, o, none⟩) 1 kc)) := fun w' hw' => by
    obtain ⟨x0, x1, x2, x3⟩ := HKA.out w' hw'.1
    simp only [Nat.zero_mul, Nat.add_zero] at x0 x1 x2 x3
    exact ⟨x0, x1, x2, x3, cell_of_row _ _ 2 _ _ _ hw'.2, cell_of_row _ _ 3 _ _ _ hw'.2⟩
  go_enter Try.func39, Try.ntmps39
  go_wp2_with fail
  generalize w.alloc (.cells #[.int .i64 7, .string ⟨#[]⟩, .int .i64 d', .slice (some ⟨b, o, none⟩) 1 kc] 72) = V at *
  rcases HOR.out with ⟨ho, rfl⟩ | ⟨ho, rfl⟩
  · have HC0 : Hid (Below w0.heap.size w0 V.drew ∧ V.drew.heap[w.heap.size]? = some (.cells #[.int .i64 7, .string ⟨#[]⟩, .int .i64 m, .slice (some ⟨b, o, none⟩) 1 kc] 72)) := ⟨HSV.out.2.drew, HX.out⟩
    refine Mx.wp_region_mix (fun w' => Below w0.heap.size w0 w' ∧ w'.heap[w.heap.size]? = some (.cells #[.int .i64 7, .string ⟨#[]⟩, .int .i64 m, .slice (some ⟨b, o, none⟩) 1 kc] 72)) [(0, false), (1, false), (2, false), (3, false), (4, false), (5, false), (6, false), (7, false), (8, false), (9, false), (10, true)] (by kernel_rfl) (by kernel_rfl) HC0.out ?_ (by kernel_rfl)
    simp only [List.map_cons, List.map_nil, List.getD_cons_zero, List.getD_cons_succ]
    generalize hops : (#[_, _, _, _, _, _, _, _, _, _, _] : Array Oper) = ops
    clear hops
    refine Mx.m_pure (.pointer (some ⟨a, 0, none⟩)) (Mx.wanted_none rfl) (fun w' hw' => ?_) ?_
    · go_simp
    simp only [Act.put, List.setIfInBounds_toArray, List.set_cons_zero, List.set_cons_succ]
    refine Mx.m_pure (.pointer (some ⟨w.heap.size, 3, none⟩)) (Mx.wanted_none rfl) (fun w' hw' => ?_) ?_
    · go_simp
    simp only [Act.put, List.setIfInBounds_toArray, List.set_cons_zero, List.set_cons_succ]
    refine Mx.m_pure (.slice (some ⟨b, o, none⟩) 1 kc) (Mx.wanted_none rfl) (fun w' hw' => ?_) ?_
    · obtain ⟨x0, x1, x2, x3, p2, p3⟩ := HFC.out w' hw'
      go_simp
    simp only [Act.put, List.setIfInBounds_toArray, List.set_cons_zero, List.set_cons_succ]
    refine Mx.m_pure (.pointer (some ⟨b, o, none⟩)) (Mx.wanted_none rfl) (fun w' hw' => ?_) ?_
    · go_simp
    simp only [Act.put, List.setIfInBounds_toArray, List.set_cons_zero, List.set_cons_succ]
    refine Mx.m_pure (.agg #[.int .i64 (plainC c).kind, .string (plainC c).s, .int .i64 (plainC c).n, .slice kaA (plainC c).k.length kcA]) (Mx.wanted_none rfl) (fun w' hw' => ?_) ?_
    · obtain ⟨x0, x1, x2, x3, p2, p3⟩ := HFC.out w' hw'
      go_simp
    simp only [Act.put, List.setIfInBounds_toArray, List.set_cons_zero, List.set_cons_succ]
    refine Mx.m_pure (.int .i64 d) (Mx.wanted_none rfl) (fun w' hw' => ?_) ?_
    · go_simp
    simp only [Act.put, List.setIfInBounds_toArray, List.set_cons_zero, List.set_cons_succ]
    refine Mx.m_pure (.pointer (some ⟨w.heap.size, 2, none⟩)) (Mx.wanted_none rfl) (fun w' hw' => ?_) ?_
    · go_simp
    simp only [Act.put, List.setIfInBounds_toArray, List.set_cons_zero, List.set_cons_succ]
    refine Mx.m_pure (.int .i64 m) (Mx.wanted_none rfl) (fun w' hw' => ?_) ?_
    · obtain ⟨x0, x1, x2, x3, p2, p3⟩ := HFC.out w' hw'
      go_simp
    simp only [Act.put, List.setIfInBounds_toArray, List.set_cons_zero, List.set_cons_succ]
    refine Mx.m_pure (.int .i64 m) (Mx.wanted_none rfl) (fun w' hw' => ?_) ?_
    · go_simp
    simp only [Act.put, List.setIfInBounds_toArray, List.set_cons_zero, List.set_cons_succ]
    refine Mx.m_pure (.int .i64 k) (Mx.wanted_none rfl) (fun w' hw' => ?_) ?_
    · go_simp
    simp only [Act.put, List.setIfInBounds_toArray, List.set_cons_zero, List.set_cons_succ]
    refine Mx.m_call 39 #[.pointer (some ⟨a, 0, none⟩), .agg #[.int .i64 (plainC c).kind, .string (plainC c).s, .int .i64 (plainC c).n, .slice kaA (plainC c).k.length kcA], .int .i64 m, .int .i64 k] (Mx.wanted_none rfl) ?_ ?_
    · go_simp
    refine (HI.out _ _ F W m k (HSV.out.step (below_drew (Below.refl _ _))) HTA.out hm1 hm2 HHK.out.1 HHK.out.2 (by omega) (by omega)).mono ?_
    rintro e w2 ⟨rfl, hs2, hk2'⟩
    have HS2 := hidC hs2
    have HK2 := hidC ((HKV.out.trans (Kept.of_below (below_drew (Below.refl _ _)))).trans hk2')
    refine ⟨_, rfl, ⟨hs2.2, hk2'.cells HC0.out.2 HNA.out (by decide) (by decide)⟩, ?_⟩
    clear hs2 hk2' c4
    simp only [Act.put, List.setIfInBounds_toArray, List.set_cons_zero, List.set_cons_succ]
    refine Mx.m_nil (fun _ => ?_)
    go_wp2_with fail
    go_end0
    rw [HQ.out]
    exact ⟨rfl, HS2.out, HK2.out⟩
  · have HC0 : Hid (Below w0.heap.size w0 V.drew ∧ V.drew.heap[w.heap.size]? = some (.cells #[.int .i64 7, .string ⟨#[]⟩, .int .i64 d', .slice (some ⟨b, o, none⟩) 1 kc] 72)) := ⟨HSV.out.2.drew, HX.out⟩
    refine Mx.wp_region_mix (fun w' => Below w0.heap.size w0 w' ∧ w'.heap[w.heap.size]? = some (.cells #[.int .i64 7, .string ⟨#[]⟩, .int .i64 d', .slice (some ⟨b, o, none⟩) 1 kc] 72)) [(0, false), (1, false), (2, false), (3, false), (4, false), (5, false), (6, false), (7, false), (8, false), (9, false), (10, true)] (by kernel_rfl) (by kernel_rfl) HC0.out ?_ (by kernel_rfl)
    simp only [List.map_cons, List.map_nil, List.getD_cons_zero, List.getD_cons_succ]
    generalize hops : (#[_, _, _, _, _, _, _, _, _, _, _] : Array Oper) = ops
    clear hops
    refine Mx.m_pure (.pointer (some ⟨a, 0, none⟩)) (Mx.wanted_none rfl) (fun w' hw' => ?_) ?_
    · go_simp
    simp only [Act.put, List.setIfInBounds_toArray, List.set_cons_zero, List.set_cons_succ]
    refine Mx.m_pure (.pointer (some ⟨w.heap.size, 3, none⟩)) (Mx.wanted_none rfl) (fun w' hw' => ?_) ?_
    · go_simp
    simp only [Act.put, List.setIfInBounds_toArray, List.set_cons_zero, List.set_cons_succ]
    refine Mx.m_pure (.slice (some ⟨b, o, none⟩) 1 kc) (Mx.wanted_none rfl) (fun w' hw' => ?_) ?_
    · obtain ⟨x0, x1, x2, x3, p2, p3⟩ := HFC.out w' hw'
      go_simp
    simp only [Act.put, List.setIfInBounds_toArray, List.set_cons_zero, List.set_cons_succ]
    refine Mx.m_pure (.pointer (some ⟨b, o, none⟩)) (Mx.wanted_none rfl) (fun w' hw' => ?_) ?_
    · go_simp
    simp only [Act.put, List.setIfInBounds_toArray, List.set_cons_zero, List.set_cons_succ]
    refine Mx.m_pure (.agg #[.int .i64 (plainC c).kind, .string (plainC c).s, .int .i64 (plainC c).n, .slice kaA (plainC c).k.length kcA]) (Mx.wanted_none rfl) (fun w' hw' => ?_) ?_
    · obtain ⟨x0, x1, x2, x3, p2, p3⟩ := HFC.out w' hw'
      go_simp
    simp only [Act.put, List.setIfInBounds_toArray, List.set_cons_zero, List.set_cons_succ]
    refine Mx.m_pure (.int .i64 m) (Mx.wanted_none rfl) (fun w' hw' => ?_) ?_
    · go_simp
    simp only [Act.put, List.setIfInBounds_toArray, List.set_cons_zero, List.set_cons_succ]
    refine Mx.m_pure (.pointer (some ⟨w.heap.size, 2, none⟩)) (Mx.wanted_none rfl) (fun w' hw' => ?_) ?_
    · go_simp
    simp only [Act.put, List.setIfInBounds_toArray, List.set_cons_zero, List.set_cons_succ]
    refine Mx.m_pure (.int .i64 d') (Mx.wanted_none rfl) (fun w' hw' => ?_) ?_
    · obtain ⟨x0, x1, x2, x3, p2, p3⟩ := HFC.out w' hw'
      go_simp
    simp only [Act.put, List.setIfInBounds_toArray, List.set_cons_zero, List.set_cons_succ]
    refine Mx.m_pure (.int .i64 m) (Mx.wanted_none rfl) (fun w' hw' => ?_) ?_
    · go_simp
      intro h; omega
    simp only [Act.put, List.setIfInBounds_toArray, List.set_cons_zero, List.set_cons_succ]
    refine Mx.m_pure (.int .i64 k) (Mx.wanted_none rfl) (fun w' hw' => ?_) ?_
    · go_simp
    simp only [Act.put, List.setIfInBounds_toArray, List.set_cons_zero, List.set_cons_succ]
    refine Mx.m_call 39 #[.pointer (some ⟨a, 0, none⟩), .agg #[.int .i64 (plainC c).kind, .string (plainC c).s, .int .i64 (plainC c).n, .slice kaA (plainC c).k.length kcA], .int .i64 m, .int .i64 k] (Mx.wanted_none rfl) ?_ ?_
    · go_simp
    refine (HI.out _ _ F W m k (HSV.out.step (below_drew (Below.refl _ _))) HTA.out hm1 hm2 HHK.out.1 HHK.out.2 (by omega) (by omega)).mono ?_
    rintro e w2 ⟨rfl, hs2, hk2'⟩
    have HS2 := hidC hs2
    have HK2 := hidC ((HKV.out.trans (Kept.of_below (below_drew (Below.refl _ _)))).trans hk2')
    refine ⟨_, rfl, ⟨hs2.2, hk2'.cells HC0.out.2 HNA.out (by decide) (by decide)⟩, ?_⟩
    clear hs2 hk2' c4
    simp only [Act.put, List.setIfInBounds_toArray, List.set_cons_zero, List.set_cons_succ]
    refine Mx.m_nil (fun _ => ?_)
    go_wp2_with fail
    go_end0
    rw [HQ.out]
    exact ⟨rfl, HS2.out, HK2.out⟩

set_option maxHeartbeats 4000000 in
set_option maxRecDepth 100000 in
theorem rw_and (w0 : World) (a : Nat) (id : ByteArray) (r : Nat) (K : KW) (l r' : C) (ihl : RwC w0 a id r K l) (ihr : RwC w0 a id r K r') : RwC w0 a id r K (.and l r') := by
  intro w v F W d k hs ht hd1 hd2 hv hk hlf hlw
  obtain ⟨ka, kc, rfl, hkat⟩ := tin_shape ht
  simp only [plainC, T.kind, T.s, T.n, T.k, List.length_cons, List.length_nil, Nat.zero_add, Nat.reduceAdd] at hkat ⊢
  obtain ⟨b, o, kaL, kcL, rfl, hkL, htL⟩ := kid_at hkat (j := 0) (t := plainC l) rfl
  have HKL := hidC hkL
  have HTL := hidC htL
  obtain ⟨b', o', kaR, kcR, hboR, hkR, htR⟩ := kid_at hkat (j := 1) (t := plainC r') rfl
  simp only [Option.some.injEq, Addr.mk.injEq, and_true] at hboR
  obtain ⟨rfl, rfl⟩ := hboR
  have HKR := hidC hkR
  have HTR := hidC htR
  have HS := hidC hs
  have HBA := hidC (below_alloc (Below.refl w.heap.size w) (.cells #[.int .i64 4, .string ⟨#[]⟩, .int .i64 0, .slice (some ⟨b, o, none⟩) 2 kc] 72))
  have HSV := hidC (hs.step HBA.out)
  have HX := hidC (heap_alloc_new w (.cells #[.int .i64 4, .string ⟨#[]⟩, .int .i64 0, .slice (some ⟨b, o, none⟩) 2 kc] 72))
  have HNA := hidC (HSV.out.at_cells HX.out (by decide))
  have HKV := hidC (Kept.of_below (a := a) HBA.out)
  have HVK := hidC (vB_i64 hv)
  have HHK := hidC (And.intro hv hk)
  have hk1 := HVK.out.1
  have hk2 := HVK.out.2
  have c4 := hs.e4 HBA.out
  clear hs ht hkat hv hk hkL htL hkR htR
  have HQ : Hid (ck K id (.and l r') d k = (ck K id l d k).seq (ck K id r' d k)) := rfl
  have HL := hidC ihl
  have HR := hidC ihr
  have HLEN := hidC (ck_len K id l d k)
  simp only [C.weight] at hlf hlw
  clear ihl ihr
  obtain ⟨x0, x1, x2, x3⟩ := HKL.out _ HSV.out.2
  simp only [Nat.zero_mul, Nat.add_zero] at x0 x1 x2 x3
  go_enter Try.func39, Try.ntmps39
  go_wp2_with fail
  refine (HL.out _ _ F W d k HSV.out HTL.out hd1 hd2 HHK.out.1 HHK.out.2 (by omega) (by omega)).mono ?_
  rintro e w2 ⟨rfl, hs2, hk2'⟩
  have HS2 := hidC hs2
  have HK2 := hidC (HKV.out.trans hk2')
  have hx2 := hk2'.cells HX.out HNA.out (by decide) (by decide)
  have p3 : w2.cell? ⟨w.heap.size, 3, none⟩ = some (.slice (some ⟨b, o, none⟩) 2 kc) := cell_of_row _ _ 3 _ _ _ hx2
  clear hs2 hk2' x0 x1 x2 x3 c4 hx2
  obtain ⟨x0, x1, x2, x3⟩ := HKR.out _ HS2.out.2
  simp only [Nat.one_mul, Nat.add_assoc, Nat.reduceAdd] at x0 x1 x2 x3
  generalize hA : ck K id l d k = A at *
  by_cases h0 : A.e = 0
  · have HQ2 : Hid (A.seq (ck K id r' d k) = ⟨A.f ++ (ck K id r' d k).f, A.w ++ (ck K id r' d k).w, (ck K id r' d k).e⟩) := by unfold Hid Ck.seq; rw [if_neg (by simpa using h0)]
    have HS20 : Hid (StR w0 w2 a id r 0 (F ++ A.f) (addRf W A.w)) := by have := HS2.out; rw [h0] at this; exact this
    clear h0 hA
    go_wp2_with fail
    refine (HR.out w2 _ _ _ d k HS20.out HTR.out hd1 hd2 HHK.out.1 HHK.out.2 (by have := HLEN.out; rw [List.length_append]; omega) (by have := HLEN.out; have := addRf_len A.w W; omega)).mono ?_
    rintro e w3 ⟨rfl, hs3, hk3⟩
    have HS3 := hidC hs3
    have HK3 := hidC (HK2.out.trans hk3)
    clear hs3 hk3 x0 x1 x2 x3 p3
    go_wp2_with fail
    go_end0
    rw [HQ.out, HQ2.out]
    simp only
    rw [← List.append_assoc, addRf_app]
    exact ⟨trivial, HS3.out, HK3.out⟩
  · have HQ2 : Hid (A.seq (ck K id r' d k) = A) := by unfold Hid Ck.seq; rw [if_pos h0]
    have H0 := hidC h0
    clear hA h0
    go_wp2_with fail
    refine (rw_stop w0 a id r A.e H0.out w2 _ _ HS2.out _ _ _ _ _ _ d k).mono ?_
    rintro e w3 ⟨rfl, hs3, hk3⟩
    have HS3 := hidC hs3
    have HK3 := hidC (HK2.out.trans hk3)
    clear hs3 hk3 x0 x1 x2 x3 p3
    go_wp2_with fail
    go_end0
    rw [HQ.out, HQ2.out]
    exact ⟨rfl, HS3.out, HK3.out⟩

end Go.Proofs.Ytngjlkdpplmpaaa.Ca
namespace Go.Proofs.Ytngjlkdpplmpaaa.Ca
open Go.RowKit Wd Cn Vl
set_option linter.unusedVariables false

theorem StR.e0 {w0 w w' : World} {a : Nat} {id : ByteArray} {r : Nat} {e : Int} {F : List Fl} {W : List Wt} (h : StR w0 w a id r e F W) (hb : Below w.heap.size w w') : w'.cell? ⟨a, 0, none⟩ = some (.string id) ∧ w'.cell? ⟨a, 1, none⟩ = some (.pointer (some ⟨r, 0, none⟩)) := by
  obtain ⟨⟨vF, vW, h1⟩, _⟩ := h
  exact ⟨cell_blk (h1.below hb).blk rfl, cell_blk (h1.below hb).blk rfl⟩
theorem StR.f4 {w0 w : World} {a : Nat} {id : ByteArray} {r : Nat} {e : Int} {F : List Fl} {W : List Wt} (h : StR w0 w a id r e F W) : w.cell? ⟨a, 4, none⟩ = some (.int .i64 e) ∧ w.frozen? ⟨a, 4, none⟩ = false := by
  obtain ⟨⟨vF, vW, h1⟩, _⟩ := h
  exact ⟨cell_blk h1.blk rfl, frozen_of_row w a 4 _ _ h1.blk⟩
theorem side_neg {k : Int} (hk : k ≠ 0) : (k < 0 → side k = 1) ∧ (0 ≤ k → side k = 0) := by
  unfold side
  constructor
  · intro h; rw [if_neg (by omega)]
  · intro h; rw [if_pos (by omega)]

set_option maxHeartbeats 4000000 in
set_option maxRecDepth 100000 in
theorem rw_or {w0 : World} {B r : Nat} {K : KW} {id : ByteArray} (hE : EnvR w0 B r K id) (a : Nat) (s : ByteArray) (l r' : C) (ihl : RwC w0 a id r K l) (ihr : RwC w0 a id r K r') : RwC w0 a id r K (.or s l r') := by
  intro w v F W d k hs ht hd1 hd2 hv hk hlf hlw
  obtain ⟨ka, kc, rfl, hkat⟩ := tin_shape ht
  simp only [plainC, T.kind, T.s, T.n, T.k, List.length_cons, List.length_nil, Nat.zero_add, Nat.reduceAdd] at hkat ⊢
  obtain ⟨b, o, kaL, kcL, rfl, hkL, htL⟩ := kid_at hkat (j := 0) (t := plainC l) rfl
  have HKL := hidC hkL
  have HTL := hidC htL
  obtain ⟨b', o', kaR, kcR, hboR, hkR, htR⟩ := kid_at hkat (j := 1) (t := plainC r') rfl
  simp only [Option.some.injEq, Addr.mk.injEq, and_true] at hboR
  obtain ⟨rfl, rfl⟩ := hboR
  have HKR := hidC hkR
  have HTR := hidC htR
  have HS := hidC hs
  have HBA := hidC (below_alloc (Below.refl w.heap.size w) (.cells #[.int .i64 5, .string s, .int .i64 0, .slice (some ⟨b, o, none⟩) 2 kc] 72))
  have HSV := hidC (hs.step HBA.out)
  have HX := hidC (heap_alloc_new w (.cells #[.int .i64 5, .string s, .int .i64 0, .slice (some ⟨b, o, none⟩) 2 kc] 72))
  have HNA := hidC (HSV.out.at_cells HX.out (by decide))
  have HKV := hidC (Kept.of_below (a := a) HBA.out)
  have HVK := hidC (vB_i64 hv)
  have HHK := hidC (And.intro hv hk)
  have hk1 := HVK.out.1
  have hk2 := HVK.out.2
  have c4 := hs.e4 HBA.out
  clear hs ht hkat hv hk hkL htL hkR htR
  have HL := hidC ihl
  have HR := hidC ihr
  have HE := hidC hE
  simp only [C.weight] at hlf hlw
  clear ihl ihr hE
  go_enter Try.func39, Try.ntmps39
  go_wp2_with fail
  generalize w.alloc (.cells #[.int .i64 5, .string s, .int .i64 0, .slice (some ⟨b, o, none⟩) 2 kc] 72) = V at *
  have HFC : Hid (∀ w' : World, Below V.heap.size V w' → w'.cell? ⟨a, 0, none⟩ = some (.string id) ∧ w'.cell? ⟨a, 1, none⟩ = some (.pointer (some ⟨r, 0, none⟩)) ∧ w'.cell? ⟨w.heap.size, 1, none⟩ = some (.string s)) := fun w' hw' =>
    ⟨(StR.e0 HSV.out hw').1, (StR.e0 HSV.out hw').2, cell_of_row _ _ 1 _ _ _ ((hw'.block _ (Array.getElem?_eq_some_iff.1 HX.out).1).trans HX.out)⟩
  have HD := hidC (below_drew (Below.refl V.heap.size V))
  refine Mx.wp_region_mix (fun w' => Below V.heap.size V w') [(0, false), (1, false), (2, false), (3, false), (4, false), (5, false), (6, false), (7, false), (8, false), (9, false), (10, true), (11, false), (12, false), (13, false), (14, false), (15, false), (16, false), (17, false)] (by kernel_rfl) (by kernel_rfl) HD.out ?_ (by kernel_rfl)
  simp only [List.map_cons, List.map_nil, List.getD_cons_zero, List.getD_cons_succ]
  generalize hops : (#[_, _, _, _, _, _, _, _, _, _, _, _, _, _, _, _, _, _] : Array Oper) = ops
  clear hops c4
  refine Mx.m_pure (.pointer (some ⟨a, 0, none⟩)) (Mx.wanted_none rfl) (fun w' hw' => ?_) ?_
  · go_simp
  simp only [Act.put, List.setIfInBounds_toArray, List.set_cons_zero, List.set_cons_succ]
  refine Mx.m_pure (.pointer (some ⟨a, 0, none⟩)) (Mx.wanted_none rfl) (fun w' hw' => ?_) ?_
  · go_simp
  simp only [Act.put, List.setIfInBounds_toArray, List.set_cons_zero, List.set_cons_succ]
  refine Mx.m_pure (.pointer (some ⟨a, 1, none⟩)) (Mx.wanted_none rfl) (fun w' hw' => ?_) ?_
  · go_simp
  simp only [Act.put, List.setIfInBounds_toArray, List.set_cons_zero, List.set_cons_succ]
  refine Mx.m_pure (.pointer (some ⟨r, 0, none⟩)) (Mx.wanted_none rfl) (fun w' hw' => ?_) ?_
  · obtain ⟨q0, q1, q2⟩ := HFC.out w' hw'
    go_simp
  simp only [Act.put, List.setIfInBounds_toArray, List.set_cons_zero, List.set_cons_succ]
  refine Mx.m_pure (.pointer (some ⟨a, 0, none⟩)) (Mx.wanted_none rfl) (fun w' hw' => ?_) ?_
  · go_simp
  simp only [Act.put, List.setIfInBounds_toArray, List.set_cons_zero, List.set_cons_succ]
  refine Mx.m_pure (.pointer (some ⟨a, 0, none⟩)) (Mx.wanted_none rfl) (fun w' hw' => ?_) ?_
  · go_simp
  simp only [Act.put, List.setIfInBounds_toArray, List.set_cons_zero, List.set_cons_succ]
  refine Mx.m_pure (.pointer (some ⟨a, 0, none⟩)) (Mx.wanted_none rfl) (fun w' hw' => ?_) ?_
  · go_simp
  simp only [Act.put, List.setIfInBounds_toArray, List.set_cons_zero, List.set_cons_succ]
  refine Mx.m_pure (.string id) (Mx.wanted_none rfl) (fun w' hw' => ?_) ?_
  · obtain ⟨q0, q1, q2⟩ := HFC.out w' hw'
    go_simp
  simp only [Act.put, List.setIfInBounds_toArray, List.set_cons_zero, List.set_cons_succ]
  refine Mx.m_pure (.pointer (some ⟨w.heap.size, 1, none⟩)) (Mx.wanted_none rfl) (fun w' hw' => ?_) ?_
  · go_simp
  simp only [Act.put, List.setIfInBounds_toArray, List.set_cons_zero, List.set_cons_succ]
  refine Mx.m_pure (.string s) (Mx.wanted_none rfl) (fun w' hw' => ?_) ?_
  · obtain ⟨q0, q1, q2⟩ := HFC.out w' hw'
    go_simp
  simp only [Act.put, List.setIfInBounds_toArray, List.set_cons_zero, List.set_cons_succ]
  refine Mx.m_call 60 #[.pointer (some ⟨r, 0, none⟩), .string id, .string s] (Mx.wanted_none rfl) ?_ ?_
  · go_simp
  obtain ⟨vFr, vCr, hrin⟩ := HE.out.rin
  refine (refChosen_any _ B r K vFr vCr (hrin.below (HSV.out.2.trans (HD.out.mono HSV.out.2.size))) id s (by have := HE.out.cl; omega)).mono ?_
  rintro e w1 ⟨rfl, hb1⟩
  have HV1 := hidC (HD.out.trans (hb1.mono HD.out.size))
  refine ⟨_, rfl, HV1.out, ?_⟩
  clear hb1 hrin
  obtain ⟨oo, hoo⟩ : ∃ oo, K.chosen (id, s) = oo := ⟨_, rfl⟩
  rw [hoo]
  have HO := hidC hoo
  clear hoo
  simp only [Act.put, List.setIfInBounds_toArray, List.set_cons_zero, List.set_cons_succ]
  refine Mx.m_pure (.tuple #[.int .i64 (oo.getD (0, 0)).1, .int .i64 (oo.getD (0, 0)).2, .bool oo.isSome]) (Mx.wanted_none rfl) (fun w' hw' => ?_) ?_
  · go_simp
  simp only [Act.put, List.setIfInBounds_toArray, List.set_cons_zero, List.set_cons_succ]
  refine Mx.m_pure (.int .i64 (oo.getD (0, 0)).1) (Mx.wanted_none rfl) (fun w' hw' => ?_) ?_
  · go_simp
  simp only [Act.put, List.setIfInBounds_toArray, List.set_cons_zero, List.set_cons_succ]
  refine Mx.m_pure (.int .i64 (oo.getD (0, 0)).2) (Mx.wanted_none rfl) (fun w' hw' => ?_) ?_
  · go_simp
  simp only [Act.put, List.setIfInBounds_toArray, List.set_cons_zero, List.set_cons_succ]
  refine Mx.m_pure (.bool oo.isSome) (Mx.wanted_none rfl) (fun w' hw' => ?_) ?_
  · go_simp
  simp only [Act.put, List.setIfInBounds_toArray, List.set_cons_zero, List.set_cons_succ]
  refine Mx.m_pure (.int .i64 (oo.getD (0, 0)).1) (Mx.wanted_none rfl) (fun w' hw' => ?_) ?_
  · go_simp
  simp only [Act.put, List.setIfInBounds_toArray, List.set_cons_zero, List.set_cons_succ]
  refine Mx.m_pure (.int .i64 (oo.getD (0, 0)).2) (Mx.wanted_none rfl) (fun w' hw' => ?_) ?_
  · go_simp
  simp only [Act.put, List.setIfInBounds_toArray, List.set_cons_zero, List.set_cons_succ]
  refine Mx.m_pure (.bool oo.isSome) (Mx.wanted_none rfl) (fun w' hw' => ?_) ?_
  · go_simp
  simp only [Act.put, List.setIfInBounds_toArray, List.set_cons_zero, List.set_cons_succ]
  refine Mx.m_nil (fun _ => ?_)
  have HS1 := hidC (HSV.out.step HV1.out)
  have HX1 : Hid (w1.heap[w.heap.size]? = some (.cells #[.int .i64 5, .string s, .int .i64 0, .slice (some ⟨b, o, none⟩) 2 kc] 72)) := (HV1.out.block _ (Array.getElem?_eq_some_iff.1 HX.out).1).trans HX.out
  have HK1 := hidC (Kept.of_below (a := a) (HBA.out.trans (HV1.out.mono HBA.out.size)))
  have p1 : w1.cell? ⟨w.heap.size, 1, none⟩ = some (.string s) := cell_of_row _ _ 1 _ _ _ HX1.out
  have p3 : w1.cell? ⟨w.heap.size, 3, none⟩ = some (.slice (some ⟨b, o, none⟩) 2 kc) := cell_of_row _ _ 3 _ _ _ HX1.out
  cases oo with
  | none =>
    have HQ : Hid (ck K id (.or s l r') d k = ⟨[], [chW d s k], 0⟩) := by unfold Hid; simp only [ck]; rw [HO.out]
    have HSD := hidC (side_neg HHK.out.2)
    have HWT := hidC (rwait_any w0 w1 a id r 0 F W HS1.out (by omega) (chW d s k))
    unfold chW Wt.val at HWT
    simp only at HWT
    simp only [Option.getD_none, Option.isSome_none]
    rcases Int.lt_or_le k 0 with hs0 | hs0
    · have hsd := HSD.out.1 hs0
      rw [hsd] at HWT
      clear hsd
      go_wp2_with fail
      refine HWT.out.mono ?_
      rintro e w3 ⟨rfl, hs3, hk3⟩
      have HS3 : Hid (StR w0 w3 a id r 0 F (putR W (chW d s k))) := by
        unfold Hid chW
        rw [HSD.out.1 hs0]
        exact hs3
      have HK3 := hidC (HK1.out.trans hk3)
      clear hs3 hk3 p1 p3
      go_wp2_with fail
      go_end0
      rw [HQ.out, List.append_nil]
      exact ⟨rfl, HS3.out, HK3.out⟩
    · have hsd := HSD.out.2 hs0
      rw [hsd] at HWT
      clear hsd
      go_wp2_with fail
      refine HWT.out.mono ?_
      rintro e w3 ⟨rfl, hs3, hk3⟩
      have HS3 : Hid (StR w0 w3 a id r 0 F (putR W (chW d s k))) := by
        unfold Hid chW
        rw [HSD.out.2 hs0]
        exact hs3
      have HK3 := hidC (HK1.out.trans hk3)
      clear hs3 hk3 p1 p3
      go_wp2_with fail
      go_end0
      rw [HQ.out, List.append_nil]
      exact ⟨rfl, HS3.out, HK3.out⟩
  | some q =>
    obtain ⟨q, d'⟩ := q
    obtain ⟨hq, g1, g2⟩ := chs_at HE.out.chs HO.out
    simp only at hq g1 g2
    have HQ : Hid (ck K id (.or s l r') d k = if q = 0 then ck K id l (Max.max d d') k else ck K id r' (Max.max d d') k) := by unfold Hid; simp only [ck]; rw [HO.out]
    simp only [Option.getD_some, Option.isSome_some]
    rcases hq with rfl | rfl
    · have HQ2 : Hid (ck K id (.or s l r') d k = ck K id l (Max.max d d') k) := by unfold Hid; rw [HQ.out]; rfl
      obtain ⟨x0, x1, x2, x3⟩ := HKL.out _ HS1.out.2
      simp only [Nat.zero_mul, Nat.add_zero] at x0 x1 x2 x3
      rcases Int.lt_or_le d d' with hm | hm
      · have HM : Hid (Max.max d d' = d') := by unfold Hid; omega
        rw [HM.out] at HQ2
        go_wp2_with fail
        refine (HL.out w1 _ F W d' k HS1.out HTL.out g1 g2 HHK.out.1 HHK.out.2 (by omega) (by omega)).mono ?_
        rintro e w2 ⟨rfl, hs2, hk2'⟩
        have HS2 := hidC hs2
        have HK2 := hidC (HK1.out.trans hk2')
        clear hs2 hk2' x0 x1 x2 x3 p1 p3
        go_wp2_with fail
        refine bodyPost_ret (results_none rfl _ _ _) rfl ?_
        rw [HQ2.out]
        exact ⟨rfl, HS2.out, HK2.out⟩
      · have HM : Hid (Max.max d d' = d) := by unfold Hid; omega
        rw [HM.out] at HQ2
        go_wp2_with fail
        refine (HL.out w1 _ F W d k HS1.out HTL.out hd1 hd2 HHK.out.1 HHK.out.2 (by omega) (by omega)).mono ?_
        rintro e w2 ⟨rfl, hs2, hk2'⟩
        have HS2 := hidC hs2
        have HK2 := hidC (HK1.out.trans hk2')
        clear hs2 hk2' x0 x1 x2 x3 p1 p3
        go_wp2_with fail
        refine bodyPost_ret (results_none rfl _ _ _) rfl ?_
        rw [HQ2.out]
        exact ⟨rfl, HS2.out, HK2.out⟩
    · have HQ2 : Hid (ck K id (.or s l r') d k = ck K id r' (Max.max d d') k) := by unfold Hid; rw [HQ.out]; rfl
      obtain ⟨x0, x1, x2, x3⟩ := HKR.out _ HS1.out.2
      simp only [Nat.one_mul, Nat.add_assoc, Nat.reduceAdd] at x0 x1 x2 x3
      rcases Int.lt_or_le d d' with hm | hm
      · have HM : Hid (Max.max d d' = d') := by unfold Hid; omega
        rw [HM.out] at HQ2
        go_wp2_with fail
        refine (HR.out w1 _ F W d' k HS1.out HTR.out g1 g2 HHK.out.1 HHK.out.2 (by omega) (by omega)).mono ?_
        rintro e w2 ⟨rfl, hs2, hk2'⟩
        have HS2 := hidC hs2
        have HK2 := hidC (HK1.out.trans hk2')
        clear hs2 hk2' x0 x1 x2 x3 p1 p3
        go_wp2_with fail
        refine bodyPost_ret (results_none rfl _ _ _) rfl ?_
        rw [HQ2.out]
        exact ⟨rfl, HS2.out, HK2.out⟩
      · have HM : Hid (Max.max d d' = d) := by unfold Hid; omega
        rw [HM.out] at HQ2
        go_wp2_with fail
        refine (HR.out w1 _ F W d k HS1.out HTR.out hd1 hd2 HHK.out.1 HHK.out.2 (by omega) (by omega)).mono ?_
        rintro e w2 ⟨rfl, hs2, hk2'⟩
        have HS2 := hidC hs2
        have HK2 := hidC (HK1.out.trans hk2')
        clear hs2 hk2' x0 x1 x2 x3 p1 p3
        go_wp2_with fail
        refine bodyPost_ret (results_none rfl _ _ _) rfl ?_
        rw [HQ2.out]
        exact ⟨rfl, HS2.out, HK2.out⟩

set_option maxHeartbeats 4000000 in
set_option maxRecDepth 100000 in
theorem rw_scale {w0 : World} {B r : Nat} {K : KW} {id : ByteArray} (hE : EnvR w0 B r K id) (a : Nat) (o0 : O) (hf : formB o0 = true) (hnd : o0.nodes ≤ 60) (cc : C) (ih : RwC w0 a id r K cc) : RwC w0 a id r K (.scale o0 cc) := by
  intro w v F W d k hs ht hd1 hd2 hv hk hlf hlw
  obtain ⟨ka, kc, rfl, hkat⟩ := tin_shape ht
  simp only [plainC, T.kind, T.s, T.n, T.k, List.length_cons, List.length_nil, Nat.zero_add, Nat.reduceAdd] at hkat ⊢
  obtain ⟨b, o, kaO, kcO, rfl, hkO, htO⟩ := kid_at hkat (j := 0) (t := plain o0) rfl
  have HKO := hidC hkO
  have HTO := hidC htO
  obtain ⟨b', o', kaA, kcA, hboA, hkA, htA⟩ := kid_at hkat (j := 1) (t := plainC cc) rfl
  simp only [Option.some.injEq, Addr.mk.injEq, and_true] at hboA
  obtain ⟨rfl, rfl⟩ := hboA
  have HKA := hidC hkA
  have HTA := hidC htA
  have HS := hidC hs
  have HBA := hidC (below_alloc (Below.refl w.heap.size w) (.cells #[.int .i64 6, .string ⟨#[]⟩, .int .i64 0, .slice (some ⟨b, o, none⟩) 2 kc] 72))
  have HSV := hidC (hs.step HBA.out)
  have HX := hidC (heap_alloc_new w (.cells #[.int .i64 6, .string ⟨#[]⟩, .int .i64 0, .slice (some ⟨b, o, none⟩) 2 kc] 72))
  have HNA := hidC (HSV.out.at_cells HX.out (by decide))
  have HKV := hidC (Kept.of_below (a := a) HBA.out)
  have HVK := hidC (vB_i64 hv)
  have HHK := hidC (And.intro hv hk)
  have hk1 := HVK.out.1
  have hk2 := HVK.out.2
  have c4 := hs.e4 HBA.out
  clear hs ht hkat hv hk hkO htO hkA htA
  have HI := hidC ih
  have HE := hidC hE
  have HF := hidC hf
  have HNOD := hidC hnd
  simp only [C.weight] at hlf hlw
  clear ih hE hf hnd
  have HQ : Hid (ck K id (.scale o0 cc) d k = if (rk K d o0).e ≠ 0 then ⟨[], [], (rk K d o0).e⟩ else if (rk K d o0).known = true then (if (mulR k (rk K d o0).n).2 = true then (if (mulR k (rk K d o0).n).1 = 0 then ⟨[], [], 0⟩ else ck K id cc d (mulR k (rk K d o0).n).1) else ⟨[], [], 6⟩) else ⟨[], waitN K d o0, 0⟩) := rfl
  go_enter Try.func39, Try.ntmps39
  go_wp2_with fail
  generalize w.alloc (.cells #[.int .i64 6, .string ⟨#[]⟩, .int .i64 0, .slice (some ⟨b, o, none⟩) 2 kc] 72) = V at *
  have HFC : Hid (∀ w' : World, Below V.heap.size V w' → w'.cell? ⟨a, 1, none⟩ = some (.pointer (some ⟨r, 0, none⟩)) ∧ w'.cell? ⟨w.heap.size, 3, none⟩ = some (.slice (some ⟨b, o, none⟩) 2 kc) ∧ w'.cell? ⟨b, o, none⟩ = some (.int .i64 (plain o0).kind) ∧ w'.cell? ⟨b, o + 1, none⟩ = some (.string (plain o0).s) ∧ w'.cell? ⟨b, o + 2, none⟩ = some (.int .i64 (plain o0).n) ∧ w'.cell? ⟨b, o + 3, none⟩ = some (.slice kaO (plain o0).k.length kcO)) := fun w' hw' => by
    obtain ⟨x0, x1, x2, x3⟩ := HKO.out w' (HSV.out.2.trans (hw'.mono HSV.out.2.size))
    simp only [Nat.zero_mul, Nat.add_zero] at x0 x1 x2 x3
    exact ⟨(StR.e0 HSV.out hw').2, cell_of_row _ _ 3 _ _ _ ((hw'.block _ (Array.getElem?_eq_some_iff.1 HX.out).1).trans HX.out), x0, x1, x2, x3⟩
  have HD := hidC (below_drew (Below.refl V.heap.size V))
  refine Mx.wp_region_mix (fun w' => Below V.heap.size V w') [(0, false), (1, false), (2, false), (3, false), (4, false), (5, false), (6, false), (7, false), (8, false), (9, true), (10, false), (11, false), (12, false), (13, false), (14, false), (15, false), (16, false)] (by kernel_rfl) (by kernel_rfl) HD.out ?_ (by kernel_rfl)
  simp only [List.map_cons, List.map_nil, List.getD_cons_zero, List.getD_cons_succ]
  generalize hops : (#[_, _, _, _, _, _, _, _, _, _, _, _, _, _, _, _, _] : Array Oper) = ops
  clear hops c4
  refine Mx.m_pure (.pointer (some ⟨w.heap.size, 3, none⟩)) (Mx.wanted_none rfl) (fun w' hw' => ?_) ?_
  · go_simp
  simp only [Act.put, List.setIfInBounds_toArray, List.set_cons_zero, List.set_cons_succ]
  refine Mx.m_pure (.slice (some ⟨b, o, none⟩) 2 kc) (Mx.wanted_none rfl) (fun w' hw' => ?_) ?_
  · obtain ⟨q0, q1, q2, q3, q4, q5⟩ := HFC.out w' hw'
    go_simp
  simp only [Act.put, List.setIfInBounds_toArray, List.set_cons_zero, List.set_cons_succ]
  refine Mx.m_pure (.pointer (some ⟨b, o, none⟩)) (Mx.wanted_none rfl) (fun w' hw' => ?_) ?_
  · go_simp
  simp only [Act.put, List.setIfInBounds_toArray, List.set_cons_zero, List.set_cons_succ]
  refine Mx.m_pure (.agg #[.int .i64 (plain o0).kind, .string (plain o0).s, .int .i64 (plain o0).n, .slice kaO (plain o0).k.length kcO]) (Mx.wanted_none rfl) (fun w' hw' => ?_) ?_
  · obtain ⟨q0, q1, q2, q3, q4, q5⟩ := HFC.out w' hw'
    go_simp
  simp only [Act.put, List.setIfInBounds_toArray, List.set_cons_zero, List.set_cons_succ]
  refine Mx.m_pure (.int .i64 d) (Mx.wanted_none rfl) (fun w' hw' => ?_) ?_
  · go_simp
  simp only [Act.put, List.setIfInBounds_toArray, List.set_cons_zero, List.set_cons_succ]
  refine Mx.m_pure (.pointer (some ⟨a, 0, none⟩)) (Mx.wanted_none rfl) (fun w' hw' => ?_) ?_
  · go_simp
  simp only [Act.put, List.setIfInBounds_toArray, List.set_cons_zero, List.set_cons_succ]
  refine Mx.m_pure (.pointer (some ⟨a, 0, none⟩)) (Mx.wanted_none rfl) (fun w' hw' => ?_) ?_
  · go_simp
  simp only [Act.put, List.setIfInBounds_toArray, List.set_cons_zero, List.set_cons_succ]
  refine Mx.m_pure (.pointer (some ⟨a, 1, none⟩)) (Mx.wanted_none rfl) (fun w' hw' => ?_) ?_
  · go_simp
  simp only [Act.put, List.setIfInBounds_toArray, List.set_cons_zero, List.set_cons_succ]
  refine Mx.m_pure (.pointer (some ⟨r, 0, none⟩)) (Mx.wanted_none rfl) (fun w' hw' => ?_) ?_
  · obtain ⟨q0, q1, q2, q3, q4, q5⟩ := HFC.out w' hw'
    go_simp
  simp only [Act.put, List.setIfInBounds_toArray, List.set_cons_zero, List.set_cons_succ]
  refine Mx.m_call 64 #[.agg #[.int .i64 (plain o0).kind, .string (plain o0).s, .int .i64 (plain o0).n, .slice kaO (plain o0).k.length kcO], .int .i64 d, .pointer (some ⟨r, 0, none⟩)] (Mx.wanted_none rfl) ?_ ?_
  · go_simp
  obtain ⟨vFr, vCr, hrin⟩ := HE.out.rin
  refine (refValue_any o0 HF.out _ _ B r K vFr vCr d (HTO.out.below (HSV.out.2.trans (HD.out.mono HSV.out.2.size))) (hrin.below (HSV.out.2.trans (HD.out.mono HSV.out.2.size))) (by have := HE.out.fl; omega) HE.out.vals ⟨by omega, by omega⟩).mono ?_
  rintro e w1 ⟨rfl, hb1⟩
  have HV1 := hidC (HD.out.trans (hb1.mono HD.out.size))
  unfold ofE
  refine ⟨_, rfl, HV1.out, ?_⟩
  clear hb1 hrin
  have HG := hidC (rk_good HE.out.vals d o0 HF.out)
  have HLN := hidC (lackN_len K d o0)
  have HWN : Hid (waitN K d o0 = (lackN K d o0.names).map (nameW d)) := rfl
  generalize rk K d o0 = y at *
  obtain ⟨n, known, en⟩ := y
  simp only at HQ ⊢
  simp only [Act.put, List.setIfInBounds_toArray, List.set_cons_zero, List.set_cons_succ]
  refine Mx.m_pure (.tuple #[.int .i64 n, .bool known, .int .i64 en]) (Mx.wanted_none rfl) (fun w' hw' => ?_) ?_
  · go_simp
  simp only [Act.put, List.setIfInBounds_toArray, List.set_cons_zero, List.set_cons_succ]
  refine Mx.m_pure (.int .i64 n) (Mx.wanted_none rfl) (fun w' hw' => ?_) ?_
  · go_simp
  simp only [Act.put, List.setIfInBounds_toArray, List.set_cons_zero, List.set_cons_succ]
  refine Mx.m_pure (.bool known) (Mx.wanted_none rfl) (fun w' hw' => ?_) ?_
  · go_simp
  simp only [Act.put, List.setIfInBounds_toArray, List.set_cons_zero, List.set_cons_succ]
  refine Mx.m_pure (.int .i64 en) (Mx.wanted_none rfl) (fun w' hw' => ?_) ?_
  · go_simp
  simp only [Act.put, List.setIfInBounds_toArray, List.set_cons_zero, List.set_cons_succ]
  refine Mx.m_pure (.int .i64 n) (Mx.wanted_none rfl) (fun w' hw' => ?_) ?_
  · go_simp
  simp only [Act.put, List.setIfInBounds_toArray, List.set_cons_zero, List.set_cons_succ]
  refine Mx.m_pure (.bool known) (Mx.wanted_none rfl) (fun w' hw' => ?_) ?_
  · go_simp
  simp only [Act.put, List.setIfInBounds_toArray, List.set_cons_zero, List.set_cons_succ]
  refine Mx.m_pure (.int .i64 en) (Mx.wanted_none rfl) (fun w' hw' => ?_) ?_
  · go_simp
  simp only [Act.put, List.setIfInBounds_toArray, List.set_cons_zero, List.set_cons_succ]
  refine Mx.m_nil (fun _ => ?_)
  have HS1 := hidC (HSV.out.step HV1.out)
  have HX1 : Hid (w1.heap[w.heap.size]? = some (.cells #[.int .i64 6, .string ⟨#[]⟩, .int .i64 0, .slice (some ⟨b, o, none⟩) 2 kc] 72)) := (HV1.out.block _ (Array.getElem?_eq_some_iff.1 HX.out).1).trans HX.out
  have HK1 := hidC (Kept.of_below (a := a) (HBA.out.trans (HV1.out.mono HBA.out.size)))
  have p0 : w1.cell? ⟨w.heap.size, 0, none⟩ = some (.int .i64 6) := cell_of_row _ _ 0 _ _ _ HX1.out
  have p3 : w1.cell? ⟨w.heap.size, 3, none⟩ = some (.slice (some ⟨b, o, none⟩) 2 kc) := cell_of_row _ _ 3 _ _ _ HX1.out
  by_cases he : en = 0
  rotate_left
  · rw [if_pos he] at HQ
    have he' : (en != 0) = true := by simpa using he
    obtain ⟨c4, f4⟩ := StR.f4 HS1.out
    have HSE := hidC (StR.setE HS1.out en)
    clear HWN HLN
    go_wp2_with fail
    refine bodyPost_ret (results_none rfl _ _ _) rfl ?_
    rw [HQ.out, List.append_nil]
    exact ⟨rfl, HSE.out.1, HK1.out.trans HSE.out.2⟩
  subst he
  rw [if_neg (by simp)] at HQ
  cases known
  · rw [if_neg (by simp)] at HQ
    go_wp2_with fail
    have HD1 := hidC (below_drew (Below.refl w1.heap.size w1))
    have HV2 := hidC (HV1.out.trans (HD1.out.mono HV1.out.size))
    clear p0 p3
    refine Mx.wp_region_mix (fun w' => Below V.heap.size V w') [(0, false), (1, false), (2, false), (3, false), (4, false), (5, false), (6, false), (7, false), (8, false), (11, false), (9, true), (10, false)] (by kernel_rfl) (by kernel_rfl) HV2.out ?_ (by kernel_rfl)
    simp only [List.map_cons, List.map_nil, List.getD_cons_zero, List.getD_cons_succ]
    generalize hops : (#[_, _, _, _, _, _, _, _, _, _, _, _] : Array Oper) = ops
    clear hops
    refine Mx.m_pure (.pointer (some ⟨w.heap.size, 3, none⟩)) (Mx.wanted_none rfl) (fun w' hw' => ?_) ?_
    · go_simp
    simp only [Act.put, List.setIfInBounds_toArray, List.set_cons_zero, List.set_cons_succ]
    refine Mx.m_pure (.slice (some ⟨b, o, none⟩) 2 kc) (Mx.wanted_none rfl) (fun w' hw' => ?_) ?_
    · obtain ⟨q0, q1, q2, q3, q4, q5⟩ := HFC.out w' hw'
      go_simp
    simp only [Act.put, List.setIfInBounds_toArray, List.set_cons_zero, List.set_cons_succ]
    refine Mx.m_pure (.pointer (some ⟨b, o, none⟩)) (Mx.wanted_none rfl) (fun w' hw' => ?_) ?_
    · go_simp
    simp only [Act.put, List.setIfInBounds_toArray, List.set_cons_zero, List.set_cons_succ]
    refine Mx.m_pure (.agg #[.int .i64 (plain o0).kind, .string (plain o0).s, .int .i64 (plain o0).n, .slice kaO (plain o0).k.length kcO]) (Mx.wanted_none rfl) (fun w' hw' => ?_) ?_
    · obtain ⟨q0, q1, q2, q3, q4, q5⟩ := HFC.out w' hw'
      go_simp
    simp only [Act.put, List.setIfInBounds_toArray, List.set_cons_zero, List.set_cons_succ]
    refine Mx.m_pure (.int .i64 d) (Mx.wanted_none rfl) (fun w' hw' => ?_) ?_
    · go_simp
    simp only [Act.put, List.setIfInBounds_toArray, List.set_cons_zero, List.set_cons_succ]
    refine Mx.m_pure (.pointer (some ⟨a, 0, none⟩)) (Mx.wanted_none rfl) (fun w' hw' => ?_) ?_
    · go_simp
    simp only [Act.put, List.setIfInBounds_toArray, List.set_cons_zero, List.set_cons_succ]
    refine Mx.m_pure (.pointer (some ⟨a, 0, none⟩)) (Mx.wanted_none rfl) (fun w' hw' => ?_) ?_
    · go_simp
    simp only [Act.put, List.setIfInBounds_toArray, List.set_cons_zero, List.set_cons_succ]
    refine Mx.m_pure (.pointer (some ⟨a, 1, none⟩)) (Mx.wanted_none rfl) (fun w' hw' => ?_) ?_
    · go_simp
    simp only [Act.put, List.setIfInBounds_toArray, List.set_cons_zero, List.set_cons_succ]
    refine Mx.m_pure (.pointer (some ⟨r, 0, none⟩)) (Mx.wanted_none rfl) (fun w' hw' => ?_) ?_
    · obtain ⟨q0, q1, q2, q3, q4, q5⟩ := HFC.out w' hw'
      go_simp
    simp only [Act.put, List.setIfInBounds_toArray, List.set_cons_zero, List.set_cons_succ]
    refine Mx.m_pure (.int .i64 0) (Mx.wanted_none rfl) (fun w' hw' => ?_) ?_
    · go_simp
    simp only [Act.put, List.setIfInBounds_toArray, List.set_cons_zero, List.set_cons_succ]
    refine Mx.m_call 65 #[.agg #[.int .i64 (plain o0).kind, .string (plain o0).s, .int .i64 (plain o0).n, .slice kaO (plain o0).k.length kcO], .int .i64 d, .pointer (some ⟨r, 0, none⟩)] (Mx.wanted_none rfl) ?_ ?_
    · go_simp
    obtain ⟨vFr, vCr, hrin⟩ := HE.out.rin
    have HB02 := hidC (HSV.out.2.trans (HV2.out.mono HSV.out.2.size))
    refine (refNeeds_any o0 (by have := plain_cnt o0; have := HNOD.out; omega) (by have := HNOD.out; omega) _ _ (HTO.out.below HB02.out) B r K vFr vCr (hrin.below HB02.out) (by have := HE.out.fl; omega) d).mono ?_
    rintro e w2 ⟨v2, rfl, hown, hb2⟩
    obtain ⟨ao, cap, rfl⟩ := row_shape hown
    have HV3 := hidC (HV2.out.trans (hb2.mono HV2.out.size))
    refine ⟨_, rfl, HV3.out, ?_⟩
    have HOWN := hidC hown
    clear hown hb2 hrin
    have hll : (lackN K d o0.names).length ≤ 60 := by
      have := HLN.out
      have := HNOD.out
      rw [HWN.out, List.length_map] at *
      omega
    rw [HWN.out] at HQ
    clear HLN HWN
    generalize lackN K d o0.names = l0 at *
    simp only [Act.put, List.setIfInBounds_toArray, List.set_cons_zero, List.set_cons_succ]
    refine Mx.m_pure (.int .i64 l0.length) (Mx.wanted_none rfl) (fun w' hw' => ?_) ?_
    · go_simp
    simp only [Act.put, List.setIfInBounds_toArray, List.set_cons_zero, List.set_cons_succ]
    refine Mx.m_nil (fun _ => ?_)
    have HS3 := hidC (HSV.out.step HV3.out)
    have HKP3 := hidC (HKV.out.trans (Kept.of_below (a := a) HV3.out))
    go_wp2_with fail
    go_loopw [158] (fun s158 wr => ∃ i : Nat, i ≤ l0.length ∧ s158 = .int .i64 i ∧ StR w0 wr a id r 0 F (addRf W ((l0.take i).map (nameW d))) ∧ Kept a w wr ∧ wr.ownsRow w1.drew.heap.size 9 1 (.slice ao l0.length cap) l0.length (strCells l0)) (fun s158 _ => l0.length - (intOf s158).toNat)
    case atStart => exact ⟨0, by omega, rfl, HS3.out, HKP3.out, HOWN.out⟩
    case round =>
      obtain ⟨i, hi, rfl, hs, hkp, hrow⟩ := hrel
      have HSR := hidC hs
      have HKR := hidC hkp
      have HROW := hidC hrow
      clear hs hkp hrow
      by_cases hlt : i < l0.length
      · have hlt' : (i : Int) < (l0.length : Int) := by omega
        obtain ⟨ao', cap', he, hcl, _⟩ := own_str HROW.out
        simp only [Value.slice.injEq] at he
        obtain ⟨rfl, -, -⟩ := he
        obtain ⟨g, rfl, hg, hcell⟩ := hcl i hlt
        have HTK : Hid (addRf W ((l0.take (i + 1)).map (nameW d)) = putR (addRf W ((l0.take i).map (nameW d))) (nameW d l0[i])) := by
          unfold Hid
          rw [take_more l0 i l0[i] (List.getElem?_eq_getElem hlt), List.map_append, addRf_app]
          rfl
        have hal : (addRf W ((l0.take i).map (nameW d))).length ≤ 100000 := by
          have h1 := addRf_len ((l0.take i).map (nameW d)) W
          rw [List.length_map, List.length_take] at h1
          omega
        clear hcl
        generalize l0[i] = s0 at *
        generalize addRf W ((l0.take i).map (nameW d)) = W' at *
        have HWT := hidC (rwait_any w0 wr a id r 0 F W' HSR.out hal (nameW d s0))
        unfold nameW Wt.val at HWT
        simp only at HWT
        go_wp2_with fail
        refine HWT.out.mono ?_
        rintro e w4 ⟨rfl, hs4, hk4⟩
        have HS4 : Hid (StR w0 w4 a id r 0 F (putR W' (nameW d s0))) := hs4
        have HK4 := hidC (HKR.out.trans hk4)
        have HR4 := hidC (hk4.row HROW.out (HSR.out.at_row HROW.out (by decide)) (by decide) (by decide))
        clear hs4 hk4 hcell
        go_wp2_with fail
        go_roundw
        case rel => exact ⟨i + 1, by omega, by go_num, by rw [HTK.out]; exact HS4.out, HK4.out, HR4.out⟩
        case measure => simp [intOf] <;> omega
      · have hle : i = l0.length := by omega
        subst hle
        rw [List.take_length] at HSR
        go_wp2_with fail
        refine bodyPost_ret (results_none rfl _ _ _) rfl ?_
        rw [HQ.out, List.append_nil]
        exact ⟨rfl, HSR.out, HKR.out⟩
  · rw [if_pos rfl] at HQ
    clear HWN HLN
    have HM1 := hidC (fun w : World => refMul_any k n w)
    have HVM0 : Hid ((mulR k n).2 = true → vB (mulR k n).1 = true) := mulR_in k n
    generalize mulR k n = mm at *
    obtain ⟨m, ok⟩ := mm
    simp only at HQ HM1 HVM0
    cases ok
    · rw [if_neg (by simp)] at HQ
      obtain ⟨c4, f4⟩ := StR.f4 HS1.out
      have HSE := hidC (StR.setE HS1.out 6)
      go_wp2_with fail
      refine calls_same (HM1.out _) ?_
      go_wp2_with fail
      refine bodyPost_ret (results_none rfl _ _ _) rfl ?_
      rw [HQ.out, List.append_nil]
      exact ⟨rfl, HSE.out.1, HK1.out.trans HSE.out.2⟩
    · rw [if_pos rfl] at HQ
      by_cases hm : m = 0
      · subst hm
        rw [if_pos rfl] at HQ
        go_wp2_with fail
        refine calls_same (HM1.out _) ?_
        go_wp2_with fail
        go_end0
        rw [HQ.out, List.append_nil]
        exact ⟨rfl, HS1.out, HK1.out⟩
      · rw [if_neg hm] at HQ
        have hm' : (m != 0) = true := by simpa using hm
        obtain ⟨x0, x1, x2, x3⟩ := HKA.out _ HS1.out.2
        simp only [Nat.one_mul, Nat.add_assoc, Nat.reduceAdd] at x0 x1 x2 x3
        go_wp2_with fail
        refine calls_same (HM1.out _) ?_
        go_wp2_with fail
        refine (HI.out w1 _ F W d m HS1.out HTA.out hd1 hd2 (HVM0.out trivial) hm (by omega) (by omega)).mono ?_
        rintro e w2 ⟨rfl, hs2, hk2'⟩
        have HS2 := hidC hs2
        have HK2 := hidC (HK1.out.trans hk2')
        clear hs2 hk2' x0 x1 x2 x3 p0 p3
        go_wp2_with fail
        go_end0
        rw [HQ.out]
        exact ⟨rfl, HS2.out, HK2.out⟩

set_option maxHeartbeats 4000000 in
set_option maxRecDepth 100000 in
theorem rw_if {w0 : World} {B r : Nat} {K : KW} {id : ByteArray} (hE : EnvR w0 B r K id) (a : Nat) (o0 : O) (hf : formB o0 = true) (hnd : o0.nodes ≤ 60) (l r' : C) (ihl : RwC w0 a id r K l) (ihr : RwC w0 a id r K r') : RwC w0 a id r K (.iff o0 l r') := by
  intro w v F W d k hs ht hd1 hd2 hv hk hlf hlw
  obtain ⟨ka, kc, rfl, hkat⟩ := tin_shape ht
  simp only [plainC, T.kind, T.s, T.n, T.k, List.length_cons, List.length_nil, Nat.zero_add, Nat.reduceAdd] at hkat ⊢
  obtain ⟨b, o, kaO, kcO, rfl, hkO, htO⟩ := kid_at hkat (j := 0) (t := plain o0) rfl
  have HKO := hidC hkO
  have HTO := hidC htO
  obtain ⟨b', o', kaL, kcL, hboL, hkL, htL⟩ := kid_at hkat (j := 1) (t := plainC l) rfl
  simp only [Option.some.injEq, Addr.mk.injEq, and_true] at hboL
  obtain ⟨rfl, rfl⟩ := hboL
  have HKL := hidC hkL
  have HTL := hidC htL
  obtain ⟨b', o', kaR, kcR, hboR, hkR, htR⟩ := kid_at hkat (j := 2) (t := plainC r') rfl
  simp only [Option.some.injEq, Addr.mk.injEq, and_true] at hboR
  obtain ⟨rfl, rfl⟩ := hboR
  have HKR := hidC hkR
  have HTR := hidC htR
  have HS := hidC hs
  have HBA := hidC (below_alloc (Below.refl w.heap.size w) (.cells #[.int .i64 8, .string ⟨#[]⟩, .int .i64 0, .slice (some ⟨b, o, none⟩) 3 kc] 72))
  have HSV := hidC (hs.step HBA.out)
  have HX := hidC (heap_alloc_new w (.cells #[.int .i64 8, .string ⟨#[]⟩, .int .i64 0, .slice (some ⟨b, o, none⟩) 3 kc] 72))
  have HNA := hidC (HSV.out.at_cells HX.out (by decide))
  have HKV := hidC (Kept.of_below (a := a) HBA.out)
  have HVK := hidC (vB_i64 hv)
  have HHK := hidC (And.intro hv hk)
  have hk1 := HVK.out.1
  have hk2 := HVK.out.2
  have c4 := hs.e4 HBA.out
  clear hs ht hkat hv hk hkO htO hkL htL hkR htR
  have HL := hidC ihl
  have HR := hidC ihr
  have HE := hidC hE
  have HF := hidC hf
  have HNOD := hidC hnd
  simp only [C.weight] at hlf hlw
  clear ihl ihr hE hf hnd
  have HQ : Hid (ck K id (.iff o0 l r') d k = if (rk K d o0).e ≠ 0 then ⟨[], [], (rk K d o0).e⟩ else if (rk K d o0).known = true then (if 0 < (rk K d o0).n then ck K id l d k else ck K id r' d k) else ⟨[], waitN K d o0, 0⟩) := rfl
  go_enter Try.func39, Try.ntmps39
  go_wp2_with fail
  generalize w.alloc (.cells #[.int .i64 8, .string ⟨#[]⟩, .int .i64 0, .slice (some ⟨b, o, none⟩) 3 kc] 72) = V at *
  have HFC : Hid (∀ w' : World, Below V.heap.size V w' → w'.cell? ⟨a, 1, none⟩ = some (.pointer (some ⟨r, 0, none⟩)) ∧ w'.cell? ⟨w.heap.size, 3, none⟩ = some (.slice (some ⟨b, o, none⟩) 3 kc) ∧ w'.cell? ⟨b, o, none⟩ = some (.int .i64 (plain o0).kind) ∧ w'.cell? ⟨b, o + 1, none⟩ = some (.string (plain o0).s) ∧ w'.cell? ⟨b, o + 2, none⟩ = some (.int .i64 (plain o0).n) ∧ w'.cell? ⟨b, o + 3, none⟩ = some (.slice kaO (plain o0).k.length kcO)) := fun w' hw' => by
    obtain ⟨x0, x1, x2, x3⟩ := HKO.out w' (HSV.out.2.trans (hw'.mono HSV.out.2.size))
    simp only [Nat.zero_mul, Nat.add_zero] at x0 x1 x2 x3
    exact ⟨(StR.e0 HSV.out hw').2, cell_of_row _ _ 3 _ _ _ ((hw'.block _ (Array.getElem?_eq_some_iff.1 HX.out).1).trans HX.out), x0, x1, x2, x3⟩
  have HD := hidC (below_drew (Below.refl V.heap.size V))
  refine Mx.wp_region_mix (fun w' => Below V.heap.size V w') [(0, false), (1, false), (2, false), (3, false), (4, false), (5, false), (6, false), (7, false), (8, false), (9, true), (10, false), (11, false), (12, false), (13, false), (14, false), (15, false), (16, false)] (by kernel_rfl) (by kernel_rfl) HD.out ?_ (by kernel_rfl)
  simp only [List.map_cons, List.map_nil, List.getD_cons_zero, List.getD_cons_succ]
  generalize hops : (#[_, _, _, _, _, _, _, _, _, _, _, _, _, _, _, _, _] : Array Oper) = ops
  clear hops c4
  refine Mx.m_pure (.pointer (some ⟨w.heap.size, 3, none⟩)) (Mx.wanted_none rfl) (fun w' hw' => ?_) ?_
  · go_simp
  simp only [Act.put, List.setIfInBounds_toArray, List.set_cons_zero, List.set_cons_succ]
  refine Mx.m_pure (.slice (some ⟨b, o, none⟩) 3 kc) (Mx.wanted_none rfl) (fun w' hw' => ?_) ?_
  · obtain ⟨q0, q1, q2, q3, q4, q5⟩ := HFC.out w' hw'
    go_simp
  simp only [Act.put, List.setIfInBounds_toArray, List.set_cons_zero, List.set_cons_succ]
  refine Mx.m_pure (.pointer (some ⟨b, o, none⟩)) (Mx.wanted_none rfl) (fun w' hw' => ?_) ?_
  · go_simp
  simp only [Act.put, List.setIfInBounds_toArray, List.set_cons_zero, List.set_cons_succ]
  refine Mx.m_pure (.agg #[.int .i64 (plain o0).kind, .string (plain o0).s, .int .i64 (plain o0).n, .slice kaO (plain o0).k.length kcO]) (Mx.wanted_none rfl) (fun w' hw' => ?_) ?_
  · obtain ⟨q0, q1, q2, q3, q4, q5⟩ := HFC.out w' hw'
    go_simp
  simp only [Act.put, List.setIfInBounds_toArray, List.set_cons_zero, List.set_cons_succ]
  refine Mx.m_pure (.int .i64 d) (Mx.wanted_none rfl) (fun w' hw' => ?_) ?_
  · go_simp
  simp only [Act.put, List.setIfInBounds_toArray, List.set_cons_zero, List.set_cons_succ]
  refine Mx.m_pure (.pointer (some ⟨a, 0, none⟩)) (Mx.wanted_none rfl) (fun w' hw' => ?_) ?_
  · go_simp
  simp only [Act.put, List.setIfInBounds_toArray, List.set_cons_zero, List.set_cons_succ]
  refine Mx.m_pure (.pointer (some ⟨a, 0, none⟩)) (Mx.wanted_none rfl) (fun w' hw' => ?_) ?_
  · go_simp
  simp only [Act.put, List.setIfInBounds_toArray, List.set_cons_zero, List.set_cons_succ]
  refine Mx.m_pure (.pointer (some ⟨a, 1, none⟩)) (Mx.wanted_none rfl) (fun w' hw' => ?_) ?_
  · go_simp
  simp only [Act.put, List.setIfInBounds_toArray, List.set_cons_zero, List.set_cons_succ]
  refine Mx.m_pure (.pointer (some ⟨r, 0, none⟩)) (Mx.wanted_none rfl) (fun w' hw' => ?_) ?_
  · obtain ⟨q0, q1, q2, q3, q4, q5⟩ := HFC.out w' hw'
    go_simp
  simp only [Act.put, List.setIfInBounds_toArray, List.set_cons_zero, List.set_cons_succ]
  refine Mx.m_call 64 #[.agg #[.int .i64 (plain o0).kind, .string (plain o0).s, .int .i64 (plain o0).n, .slice kaO (plain o0).k.length kcO], .int .i64 d, .pointer (some ⟨r, 0, none⟩)] (Mx.wanted_none rfl) ?_ ?_
  · go_simp
  obtain ⟨vFr, vCr, hrin⟩ := HE.out.rin
  refine (refValue_any o0 HF.out _ _ B r K vFr vCr d (HTO.out.below (HSV.out.2.trans (HD.out.mono HSV.out.2.size))) (hrin.below (HSV.out.2.trans (HD.out.mono HSV.out.2.size))) (by have := HE.out.fl; omega) HE.out.vals ⟨by omega, by omega⟩).mono ?_
  rintro e w1 ⟨rfl, hb1⟩
  have HV1 := hidC (HD.out.trans (hb1.mono HD.out.size))
  unfold ofE
  refine ⟨_, rfl, HV1.out, ?_⟩
  clear hb1 hrin
  have HG := hidC (rk_good HE.out.vals d o0 HF.out)
  have HLN := hidC (lackN_len K d o0)
  have HWN : Hid (waitN K d o0 = (lackN K d o0.names).map (nameW d)) := rfl
  generalize rk K d o0 = y at *
  obtain ⟨n, known, en⟩ := y
  simp only at HQ ⊢
  simp only [Act.put, List.setIfInBounds_toArray, List.set_cons_zero, List.set_cons_succ]
  refine Mx.m_pure (.tuple #[.int .i64 n, .bool known, .int .i64 en]) (Mx.wanted_none rfl) (fun w' hw' => ?_) ?_
  · go_simp
  simp only [Act.put, List.setIfInBounds_toArray, List.set_cons_zero, List.set_cons_succ]
  refine Mx.m_pure (.int .i64 n) (Mx.wanted_none rfl) (fun w' hw' => ?_) ?_
  · go_simp
  simp only [Act.put, List.setIfInBounds_toArray, List.set_cons_zero, List.set_cons_succ]
  refine Mx.m_pure (.bool known) (Mx.wanted_none rfl) (fun w' hw' => ?_) ?_
  · go_simp
  simp only [Act.put, List.setIfInBounds_toArray, List.set_cons_zero, List.set_cons_succ]
  refine Mx.m_pure (.int .i64 en) (Mx.wanted_none rfl) (fun w' hw' => ?_) ?_
  · go_simp
  simp only [Act.put, List.setIfInBounds_toArray, List.set_cons_zero, List.set_cons_succ]
  refine Mx.m_pure (.int .i64 n) (Mx.wanted_none rfl) (fun w' hw' => ?_) ?_
  · go_simp
  simp only [Act.put, List.setIfInBounds_toArray, List.set_cons_zero, List.set_cons_succ]
  refine Mx.m_pure (.bool known) (Mx.wanted_none rfl) (fun w' hw' => ?_) ?_
  · go_simp
  simp only [Act.put, List.setIfInBounds_toArray, List.set_cons_zero, List.set_cons_succ]
  refine Mx.m_pure (.int .i64 en) (Mx.wanted_none rfl) (fun w' hw' => ?_) ?_
  · go_simp
  simp only [Act.put, List.setIfInBounds_toArray, List.set_cons_zero, List.set_cons_succ]
  refine Mx.m_nil (fun _ => ?_)
  have HS1 := hidC (HSV.out.step HV1.out)
  have HX1 : Hid (w1.heap[w.heap.size]? = some (.cells #[.int .i64 8, .string ⟨#[]⟩, .int .i64 0, .slice (some ⟨b, o, none⟩) 3 kc] 72)) := (HV1.out.block _ (Array.getElem?_eq_some_iff.1 HX.out).1).trans HX.out
  have HK1 := hidC (Kept.of_below (a := a) (HBA.out.trans (HV1.out.mono HBA.out.size)))
  have p0 : w1.cell? ⟨w.heap.size, 0, none⟩ = some (.int .i64 8) := cell_of_row _ _ 0 _ _ _ HX1.out
  have p3 : w1.cell? ⟨w.heap.size, 3, none⟩ = some (.slice (some ⟨b, o, none⟩) 3 kc) := cell_of_row _ _ 3 _ _ _ HX1.out
  by_cases he : en = 0
  rotate_left
  · rw [if_pos he] at HQ
    have he' : (en != 0) = true := by simpa using he
    obtain ⟨c4, f4⟩ := StR.f4 HS1.out
    have HSE := hidC (StR.setE HS1.out en)
    clear HWN HLN
    go_wp2_with fail
    refine bodyPost_ret (results_none rfl _ _ _) rfl ?_
    rw [HQ.out, List.append_nil]
    exact ⟨rfl, HSE.out.1, HK1.out.trans HSE.out.2⟩
  subst he
  rw [if_neg (by simp)] at HQ
  cases known
  · rw [if_neg (by simp)] at HQ
    go_wp2_with fail
    have HD1 := hidC (below_drew (Below.refl w1.heap.size w1))
    have HV2 := hidC (HV1.out.trans (HD1.out.mono HV1.out.size))
    clear p0 p3
    refine Mx.wp_region_mix (fun w' => Below V.heap.size V w') [(0, false), (1, false), (2, false), (3, false), (4, false), (5, false), (6, false), (7, false), (8, false), (11, false), (9, true), (10, false)] (by kernel_rfl) (by kernel_rfl) HV2.out ?_ (by kernel_rfl)
    simp only [List.map_cons, List.map_nil, List.getD_cons_zero, List.getD_cons_succ]
    generalize hops : (#[_, _, _, _, _, _, _, _, _, _, _, _] : Array Oper) = ops
    clear hops
    refine Mx.m_pure (.pointer (some ⟨w.heap.size, 3, none⟩)) (Mx.wanted_none rfl) (fun w' hw' => ?_) ?_
    · go_simp
    simp only [Act.put, List.setIfInBounds_toArray, List.set_cons_zero, List.set_cons_succ]
    refine Mx.m_pure (.slice (some ⟨b, o, none⟩) 3 kc) (Mx.wanted_none rfl) (fun w' hw' => ?_) ?_
    · obtain ⟨q0, q1, q2, q3, q4, q5⟩ := HFC.out w' hw'
      go_simp
    simp only [Act.put, List.setIfInBounds_toArray, List.set_cons_zero, List.set_cons_succ]
    refine Mx.m_pure (.pointer (some ⟨b, o, none⟩)) (Mx.wanted_none rfl) (fun w' hw' => ?_) ?_
    · go_simp
    simp only [Act.put, List.setIfInBounds_toArray, List.set_cons_zero, List.set_cons_succ]
    refine Mx.m_pure (.agg #[.int .i64 (plain o0).kind, .string (plain o0).s, .int .i64 (plain o0).n, .slice kaO (plain o0).k.length kcO]) (Mx.wanted_none rfl) (fun w' hw' => ?_) ?_
    · obtain ⟨q0, q1, q2, q3, q4, q5⟩ := HFC.out w' hw'
      go_simp
    simp only [Act.put, List.setIfInBounds_toArray, List.set_cons_zero, List.set_cons_succ]
    refine Mx.m_pure (.int .i64 d) (Mx.wanted_none rfl) (fun w' hw' => ?_) ?_
    · go_simp
    simp only [Act.put, List.setIfInBounds_toArray, List.set_cons_zero, List.set_cons_succ]
    refine Mx.m_pure (.pointer (some ⟨a, 0, none⟩)) (Mx.wanted_none rfl) (fun w' hw' => ?_) ?_
    · go_simp
    simp only [Act.put, List.setIfInBounds_toArray, List.set_cons_zero, List.set_cons_succ]
    refine Mx.m_pure (.pointer (some ⟨a, 0, none⟩)) (Mx.wanted_none rfl) (fun w' hw' => ?_) ?_
    · go_simp
    simp only [Act.put, List.setIfInBounds_toArray, List.set_cons_zero, List.set_cons_succ]
    refine Mx.m_pure (.pointer (some ⟨a, 1, none⟩)) (Mx.wanted_none rfl) (fun w' hw' => ?_) ?_
    · go_simp
    simp only [Act.put, List.setIfInBounds_toArray, List.set_cons_zero, List.set_cons_succ]
    refine Mx.m_pure (.pointer (some ⟨r, 0, none⟩)) (Mx.wanted_none rfl) (fun w' hw' => ?_) ?_
    · obtain ⟨q0, q1, q2, q3, q4, q5⟩ := HFC.out w' hw'
      go_simp
    simp only [Act.put, List.setIfInBounds_toArray, List.set_cons_zero, List.set_cons_succ]
    refine Mx.m_pure (.int .i64 0) (Mx.wanted_none rfl) (fun w' hw' => ?_) ?_
    · go_simp
    simp only [Act.put, List.setIfInBounds_toArray, List.set_cons_zero, List.set_cons_succ]
    refine Mx.m_call 65 #[.agg #[.int .i64 (plain o0).kind, .string (plain o0).s, .int .i64 (plain o0).n, .slice kaO (plain o0).k.length kcO], .int .i64 d, .pointer (some ⟨r, 0, none⟩)] (Mx.wanted_none rfl) ?_ ?_
    · go_simp
    obtain ⟨vFr, vCr, hrin⟩ := HE.out.rin
    have HB02 := hidC (HSV.out.2.trans (HV2.out.mono HSV.out.2.size))
    refine (refNeeds_any o0 (by have := plain_cnt o0; have := HNOD.out; omega) (by have := HNOD.out; omega) _ _ (HTO.out.below HB02.out) B r K vFr vCr (hrin.below HB02.out) (by have := HE.out.fl; omega) d).mono ?_
    rintro e w2 ⟨v2, rfl, hown, hb2⟩
    obtain ⟨ao, cap, rfl⟩ := row_shape hown
    have HV3 := hidC (HV2.out.trans (hb2.mono HV2.out.size))
    refine ⟨_, rfl, HV3.out, ?_⟩
    have HOWN := hidC hown
    clear hown hb2 hrin
    have hll : (lackN K d o0.names).length ≤ 60 := by
      have := HLN.out
      have := HNOD.out
      rw [HWN.out, List.length_map] at *
      omega
    rw [HWN.out] at HQ
    clear HLN HWN
    generalize lackN K d o0.names = l0 at *
    simp only [Act.put, List.setIfInBounds_toArray, List.set_cons_zero, List.set_cons_succ]
    refine Mx.m_pure (.int .i64 l0.length) (Mx.wanted_none rfl) (fun w' hw' => ?_) ?_
    · go_simp
    simp only [Act.put, List.setIfInBounds_toArray, List.set_cons_zero, List.set_cons_succ]
    refine Mx.m_nil (fun _ => ?_)
    have HS3 := hidC (HSV.out.step HV3.out)
    have HKP3 := hidC (HKV.out.trans (Kept.of_below (a := a) HV3.out))
    go_wp2_with fail
    go_loopw [158] (fun s158 wr => ∃ i : Nat, i ≤ l0.length ∧ s158 = .int .i64 i ∧ StR w0 wr a id r 0 F (addRf W ((l0.take i).map (nameW d))) ∧ Kept a w wr ∧ wr.ownsRow w1.drew.heap.size 9 1 (.slice ao l0.length cap) l0.length (strCells l0)) (fun s158 _ => l0.length - (intOf s158).toNat)
    case atStart => exact ⟨0, by omega, rfl, HS3.out, HKP3.out, HOWN.out⟩
    case round =>
      obtain ⟨i, hi, rfl, hs, hkp, hrow⟩ := hrel
      have HSR := hidC hs
      have HKR := hidC hkp
      have HROW := hidC hrow
      clear hs hkp hrow
      by_cases hlt : i < l0.length
      · have hlt' : (i : Int) < (l0.length : Int) := by omega
        obtain ⟨ao', cap', he, hcl, _⟩ := own_str HROW.out
        simp only [Value.slice.injEq] at he
        obtain ⟨rfl, -, -⟩ := he
        obtain ⟨g, rfl, hg, hcell⟩ := hcl i hlt
        have HTK : Hid (addRf W ((l0.take (i + 1)).map (nameW d)) = putR (addRf W ((l0.take i).map (nameW d))) (nameW d l0[i])) := by
          unfold Hid
          rw [take_more l0 i l0[i] (List.getElem?_eq_getElem hlt), List.map_append, addRf_app]
          rfl
        have hal : (addRf W ((l0.take i).map (nameW d))).length ≤ 100000 := by
          have h1 := addRf_len ((l0.take i).map (nameW d)) W
          rw [List.length_map, List.length_take] at h1
          omega
        clear hcl
        generalize l0[i] = s0 at *
        generalize addRf W ((l0.take i).map (nameW d)) = W' at *
        have HWT := hidC (rwait_any w0 wr a id r 0 F W' HSR.out hal (nameW d s0))
        unfold nameW Wt.val at HWT
        simp only at HWT
        go_wp2_with fail
        refine HWT.out.mono ?_
        rintro e w4 ⟨rfl, hs4, hk4⟩
        have HS4 : Hid (StR w0 w4 a id r 0 F (putR W' (nameW d s0))) := hs4
        have HK4 := hidC (HKR.out.trans hk4)
        have HR4 := hidC (hk4.row HROW.out (HSR.out.at_row HROW.out (by decide)) (by decide) (by decide))
        clear hs4 hk4 hcell
        go_wp2_with fail
        go_roundw
        case rel => exact ⟨i + 1, by omega, by go_num, by rw [HTK.out]; exact HS4.out, HK4.out, HR4.out⟩
        case measure => simp [intOf] <;> omega
      · have hle : i = l0.length := by omega
        subst hle
        rw [List.take_length] at HSR
        go_wp2_with fail
        refine bodyPost_ret (results_none rfl _ _ _) rfl ?_
        rw [HQ.out, List.append_nil]
        exact ⟨rfl, HSR.out, HKR.out⟩
  · rw [if_pos rfl] at HQ
    clear HWN HLN
    by_cases hn : 0 < n
    · rw [if_pos hn] at HQ
      obtain ⟨x0, x1, x2, x3⟩ := HKL.out _ HS1.out.2
      simp only [Nat.one_mul, Nat.add_assoc, Nat.reduceAdd] at x0 x1 x2 x3
      go_wp2_with fail
      refine (HL.out w1 _ F W d k HS1.out HTL.out hd1 hd2 HHK.out.1 HHK.out.2 (by omega) (by omega)).mono ?_
      rintro e w2 ⟨rfl, hs2, hk2'⟩
      have HS2 := hidC hs2
      have HK2 := hidC (HK1.out.trans hk2')
      clear hs2 hk2' x0 x1 x2 x3 p0 p3
      go_wp2_with fail
      refine bodyPost_ret (results_none rfl _ _ _) rfl ?_
      rw [HQ.out]
      exact ⟨rfl, HS2.out, HK2.out⟩
    · rw [if_neg hn] at HQ
      obtain ⟨x0, x1, x2, x3⟩ := HKR.out _ HS1.out.2
      simp only [Nat.reduceMul, Nat.add_assoc, Nat.reduceAdd] at x0 x1 x2 x3
      go_wp2_with fail
      refine (HR.out w1 _ F W d k HS1.out HTR.out hd1 hd2 HHK.out.1 HHK.out.2 (by omega) (by omega)).mono ?_
      rintro e w2 ⟨rfl, hs2, hk2'⟩
      have HS2 := hidC hs2
      have HK2 := hidC (HK1.out.trans hk2')
      clear hs2 hk2' x0 x1 x2 x3 p0 p3
      go_wp2_with fail
      refine bodyPost_ret (results_none rfl _ _ _) rfl ?_
      rw [HQ.out]
      exact ⟨rfl, HS2.out, HK2.out⟩

theorem rw_any {w0 : World} {B r : Nat} {K : KW} {id : ByteArray} (hE : EnvR w0 B r K id) (a : Nat) (c : C) : formC c = true → c.nodes ≤ 60 → RwC w0 a id r K c := by
  induction c with
  | zero => intro _ _; exact rw_zero w0 a id r K
  | one s => intro _ _; exact rw_one w0 a id r K s
  | odd v => intro h; simp [formC] at h
  | give c ih => intro hf hn; simp only [C.nodes] at hn; exact rw_give w0 a id r K c (ih hf (by omega))
  | when d' c ih =>
    intro hf hn
    simp only [C.nodes] at hn
    have h2 := hf
    simp only [formC, Bool.and_eq_true] at h2
    exact rw_when w0 a id r K d' c hf (ih h2.2 (by omega))
  | and l r hl hr =>
    intro hf hn
    simp only [C.nodes] at hn
    simp only [formC, Bool.and_eq_true] at hf
    exact rw_and _ _ _ _ K l r (hl hf.1 (by omega)) (hr hf.2 (by omega))
  | or s l r hl hr =>
    intro hf hn
    simp only [C.nodes] at hn
    simp only [formC, Bool.and_eq_true] at hf
    exact rw_or hE a s l r (hl hf.1.2 (by omega)) (hr hf.2 (by omega))
  | scale o c ih =>
    intro hf hn
    simp only [C.nodes] at hn
    simp only [formC, Bool.and_eq_true] at hf
    exact rw_scale hE a o hf.1 (by omega) c (ih hf.2 (by omega))
  | iff o l r hl hr =>
    intro hf hn
    simp only [C.nodes] at hn
    simp only [formC, Bool.and_eq_true] at hf
    exact rw_if hE a o hf.1.1 (by omega) l r (hl hf.1.2 (by omega)) (hr hf.2 (by omega))

set_option maxHeartbeats 4000000 in
set_option maxRecDepth 100000 in
theorem refCash_any (c : C) (hok : c.Ok) (hsz : c.weight ≤ 300000) (w : World) (v : Value) (ht : TIn w 0 (plainC c) v) (B r : Nat) (K : KW) (id : ByteArray) (hE : EnvR w B r K id) (d : Int) (hd : dayOk d) :
    Calls Try.prog 19 #[.string id, v, .int .i64 d, .pointer (some ⟨r, 0, none⟩)] w (OfPost w (ofK K id c d)) := by
  obtain ⟨ka, kc, rfl, hkat⟩ := tin_shape ht
  have HBA := hidC (below_alloc (Below.refl w.heap.size w) (.cells #[.int .i64 (plainC c).kind, .string (plainC c).s, .int .i64 (plainC c).n, .slice ka (plainC c).k.length kc] 72))
  have HX := hidC (heap_alloc_new w (.cells #[.int .i64 (plainC c).kind, .string (plainC c).s, .int .i64 (plainC c).n, .slice ka (plainC c).k.length kc] 72))
  have HCH := hidC (refCheckC_any c hok hsz _ _ 0 (ht.below HBA.out))
  have HT := hidC ht
  have HE := hidC hE
  have HOK := hidC hok
  have hd' := hd
  unfold dayOk at hd'
  clear hE hok hd ht hkat
  obtain ⟨V, hV⟩ : ∃ V, w.alloc (.cells #[.int .i64 (plainC c).kind, .string (plainC c).s, .int .i64 (plainC c).n, .slice ka (plainC c).k.length kc] 72) = V := ⟨_, rfl⟩
  rw [hV] at HBA HX HCH
  have HXW : Hid (∀ w', Below V.heap.size V w' → w'.cell? ⟨w.heap.size, 0, none⟩ = some (.int .i64 (plainC c).kind) ∧ w'.cell? ⟨w.heap.size, 1, none⟩ = some (.string (plainC c).s) ∧ w'.cell? ⟨w.heap.size, 2, none⟩ = some (.int .i64 (plainC c).n) ∧ w'.cell? ⟨w.heap.size, 3, none⟩ = some (.slice ka (plainC c).k.length kc)) := fun w' hw' => by
    have hx := (hw'.block _ (Array.getElem?_eq_some_iff.1 HX.out).1).trans HX.out
    exact ⟨cell_of_row _ _ 0 _ _ _ hx, cell_of_row _ _ 1 _ _ _ hx, cell_of_row _ _ 2 _ _ _ hx, cell_of_row _ _ 3 _ _ _ hx⟩
  obtain ⟨x0, x1, x2, x3⟩ := HXW.out V (Below.refl _ _)
  by_cases hc : chkC c = 0
  rotate_left
  · have HQ : Hid (ofK K id c d = ⟨[], [], 1⟩) := by unfold Hid ofK; rw [if_neg (fun h => hc h.1)]
    have hc' : (chkC c != 0) = true := by simpa using hc
    go_enter Try.func19, Try.ntmps19
    go_wp2_with fail
    refine HCH.out.mono ?_
    rintro e w1 ⟨rfl, hb1⟩
    clear x0 x1 x2 x3
    go_wp2_with fail
    go_ret3
    rw [HQ.out]
    exact OfPost.none _ _ _ (HBA.out.trans (hb1.mono HBA.out.size))
  · rw [hc] at HCH
    by_cases hr : 0 ≤ d ∧ d ≤ 10000
    rotate_left
    · have HQ : Hid (ofK K id c d = ⟨[], [], 1⟩) := by unfold Hid ofK; rw [if_neg (fun h => hr h.2)]
      rcases (by omega : d < 0 ∨ (0 ≤ d ∧ 10000 < d)) with h1 | ⟨h1, h2⟩
      all_goals
        clear hr
        go_enter Try.func19, Try.ntmps19
        go_wp2_with fail
        refine HCH.out.mono ?_
        rintro e w1 ⟨rfl, hb1⟩
        clear x0 x1 x2 x3
        go_wp2_with fail
        go_ret3
        rw [HQ.out]
        exact OfPost.none _ _ _ (HBA.out.trans (hb1.mono HBA.out.size))
    · obtain ⟨h1, h2⟩ := hr
      obtain ⟨k1, k2, k3, k4⟩ := chkC_ok hc
      have HQ : Hid (ofK K id c d = if (ck K id c d 1).e = 0 then ⟨(ck K id c d 1).f, addRf [] (ck K id c d 1).w, 0⟩ else ⟨[], [], (ck K id c d 1).e⟩) := by
        unfold Hid ofK
        rw [if_pos ⟨hc, h1, h2⟩, ck_once K id c d 1 k4]
      have hw60 : c.weight ≤ 60 := by rw [form_weight c k1]; exact k2
      have HRW := hidC (fun (w0 : World) (a : Nat) (hE : EnvR w0 B r K id) => rw_any hE a c k1 k2)
      clear k1 k2 k3 k4 hc
      go_enter Try.func19, Try.ntmps19
      go_wp2_with fail
      refine HCH.out.mono ?_
      rintro e w1 ⟨rfl, hb1⟩
      have HB1 := hidC hb1
      have HWB := hidC (HBA.out.trans (hb1.mono HBA.out.size))
      have hba := below_alloc (Below.refl w1.heap.size w1) (.cells (mkR id r 0 (.slice none 0 0) (.slice none 0 0)) 115)
      clear x0 x1 x2 x3
      obtain ⟨x0, x1, x2, x3⟩ := HXW.out _ (hb1.trans (hba.mono hb1.size))
      have HBAC := hidC hba
      unfold mkR at x0 x1 x2 x3
      clear hb1 hba
      go_wp2_with fail
      have HS0 : Hid (StR w1 (w1.alloc (.cells (mkR id r 0 (.slice none 0 0) (.slice none 0 0)) 115)) w1.heap.size id r 0 [] []) :=
        ⟨⟨_, _, ⟨heap_alloc_new _ _, World.ownsRow_nil _ _ _ _, World.ownsRow_nil _ _ _ _, Nat.le_refl _⟩⟩, HBAC.out⟩
      unfold mkR at HS0
      have HE1 : Hid (EnvR w1 B r K id) := by
        obtain ⟨⟨vF, vC, hr⟩, e2, e3, e4, e5, e6⟩ := HE.out
        exact ⟨⟨vF, vC, hr.below HWB.out⟩, e2, e3, e4, e5, e6⟩
      refine (HRW.out w1 w1.heap.size HE1.out _ _ [] [] d 1 HS0.out (HT.out.below HWB.out) h1 h2 (by rfl) (by omega) (by simp; omega) (by simp; omega)).mono ?_
      rintro e w2 ⟨rfl, hs2, hk2⟩
      rw [List.nil_append] at hs2
      obtain ⟨⟨vF, vW, hin⟩, hb2⟩ := hs2
      have HIN := hidC hin
      have HB2 := hidC (HWB.out.trans (hb2.mono HWB.out.size))
      have c2 := hin.cell2 (twoR id r _)
      have c3 := hin.cell3 (twoR id r _)
      have c4 : w2.cell? ⟨w1.heap.size, 4, none⟩ = some (.int .i64 (ck K id c d 1).e) := cell_blk hin.blk rfl
      have HBB := hidC HWB.out.size
      clear hin hb2 hk2 x0 x1 x2 x3
      generalize ck K id c d 1 = x at *
      obtain ⟨xf, xw, xe⟩ := x
      simp only at HQ HIN c2 c3 c4 ⊢
      by_cases he : xe = 0
      · subst he
        rw [if_pos rfl] at HQ
        obtain ⟨ao, cap, rfl⟩ := row_shape HIN.out.rf
        obtain ⟨ao2, cap2, rfl⟩ := row_shape HIN.out.rw'
        go_wp2_with fail
        go_region
        go_wp2_with fail
        go_ret3
        rw [HQ.out]
        exact ⟨_, _, rfl, ownsRow_base HIN.out.rf HBB.out, ownsRow_base HIN.out.rw' HBB.out, HB2.out.drew⟩
      · rw [if_neg he] at HQ
        have he' : (xe != 0) = true := by simpa using he
        go_wp2_with fail
        go_region
        go_wp2_with fail
        go_ret3
        rw [HQ.out]
        exact OfPost.none _ _ _ HB2.out.drew

end Go.Proofs.Ytngjlkdpplmpaaa.Ca
namespace Go.Proofs.Ytngjlkdpplmpaaa.Ca
open Go.RowKit Wd Cn Vl
set_option linter.unusedVariables false

/-- Payments in memory. -/
def HasFls (w : World) (ao : Option Addr) (l : List Fl) : Prop := ∀ i x, l[i]? = some x → ∃ g, ao = some ⟨g, 0, none⟩ ∧ g < w.heap.size ∧ w.cell? ⟨g, i * 3, none⟩ = some (.int .i64 x.day) ∧ w.cell? ⟨g, i * 3 + 1, none⟩ = some (.string x.cur) ∧ w.cell? ⟨g, i * 3 + 2, none⟩ = some (.int .i64 x.amt)
theorem HasFls.below {w w' : World} {ao : Option Addr} {l : List Fl} (h : HasFls w ao l) (hb : Below w.heap.size w w') : HasFls w' ao l := by
  intro i x hx
  obtain ⟨g, e, hg, h0, h1, h2⟩ := h i x hx
  have hc := fun o => hb.cell (p := ⟨g, o, none⟩) hg
  exact ⟨g, e, Nat.lt_of_lt_of_le hg hb.size, (hc _).trans h0, (hc _).trans h1, (hc _).trans h2⟩
theorem own_fls {w : World} {B : Nat} {v : Value} {l : List Fl} (h : w.ownsRow B 46 3 v l.length (rowFl l)) : ∃ ao cap, v = .slice ao l.length cap ∧ HasFls w ao l := by
  obtain ⟨ao, cap, rfl⟩ := row_shape h
  refine ⟨ao, cap, rfl, fun i x hx => ?_⟩
  have hi := (List.getElem?_eq_some_iff.1 hx).1
  obtain ⟨g, cap', e, hg, hc⟩ := row_cells h (by omega)
  injection e with e1 _ _
  obtain ⟨h0, h1, h2⟩ := rowFl_at l i x hx
  exact ⟨g, e1, hg, hc _ _ h0, hc _ _ h1, hc _ _ h2⟩
/-- What cash.Of answers, in memory. -/
def OfIn (w : World) (r : Ck) (e : Ending) (w' : World) : Prop := ∃ ao cap bo cap2, e = .returned (.tuple #[.slice ao r.f.length cap, .slice bo r.w.length cap2, .int .i64 r.e]) ∧ HasFls w' ao r.f ∧ HasWts w' bo r.w ∧ Below w.heap.size w w'
theorem cash_at (c : C) (hok : c.Ok) (hsz : c.weight ≤ 1000000) (w : World) (p f q : Nat) (K : KW) (id : ByteArray) (hE : Env w p f q K id) (d : Int) (hd : dayOk d) (r : Ck) (hr : ofK K id c d = r) :
    Calls Try.prog 11 #[.string id, c.val, .int .i64 d, .pointer (some ⟨p, 0, none⟩)] w (OfIn w r) := by
  refine (cash_any c hok hsz w p f q K id hE d hd).mono ?_
  rintro e w' ⟨vF, vW, rfl, h1, h2, hb⟩
  rw [hr] at h1 h2
  obtain ⟨ao, cap, rfl, h3⟩ := own_fls h1
  obtain ⟨bo, cap2, rfl, h4⟩ := own_wts h2
  exact ⟨ao, cap, bo, cap2, by rw [hr], h3, h4, hb⟩
theorem no_vals : KW.Vals ⟨[], []⟩ := fun q hq => by cases hq
theorem no_chs : KW.Chs ⟨[], []⟩ := fun q hq => by cases hq
theorem env_new {w : World} {p f q : Nat} (h : KIn w p f q ⟨[], []⟩) (id : ByteArray) (hid : id.size ≤ 1000000) : Env w p f q ⟨[], []⟩ id := ⟨h, no_vals, no_chs, hid⟩
def usd : ByteArray := ⟨#[117, 115, 100]⟩
theorem ofK_one : ofK ⟨[], []⟩ ⟨#[116]⟩ (.one usd) 3 = ⟨[⟨3, usd, 1⟩], [], 0⟩ := by
  unfold ofK
  rw [if_pos ⟨by rfl, by omega, by omega⟩]
  rfl

set_option maxHeartbeats 1000000 in
theorem wakes10_any (w : World) :
    Calls Try.prog 13 #[] w fun e w' => e = .returned (.bool true) ∧ Below w.heap.size w w' := by
  have HV : Hid ((C.one usd).val = .iface 24 (.agg #[.string ⟨#[117, 115, 100]⟩])) := rfl
  go_enter Try.func13, Try.ntmps13
  go_wp2_with fail
  refine (new_in' w).mono ?_
  rintro e w1 ⟨b, f, c, rfl, hi⟩
  have HI : Hid (In w w1 b f c ⟨[], []⟩) := hi
  clear hi
  go_wp2_with fail
  refine (cash_at (.one usd) (by show usd.size ≤ 2147483648; decide) (by decide) w1 b f c ⟨[], []⟩ ⟨#[116]⟩ (env_new HI.out.kin _ (by decide)) 3 ⟨by omega, by omega⟩ _ ofK_one).mono ?_
  rintro e w2 ⟨ao, cap, bo, cap2, rfl, h1, h2, hb⟩
  obtain ⟨g, rfl, hg, c0, c1, c2⟩ := h1 0 ⟨3, usd, 1⟩ rfl
  have HB := hidC (HI.out.below.trans (hb.mono HI.out.below.size))
  unfold usd at c1
  clear h1 h2 hb
  simp only [List.length_cons, List.length_nil]
  go_wp2_with fail
  go_ret
  exact ⟨rfl, HB.out⟩

def tN : ByteArray := ⟨#[116]⟩
theorem chkC_by {c : C} (h1 : formC c = true) (h2 : c.nodes ≤ 60) (h3 : c.depth ≤ 12) (h4 : twice c.labels = false) : chkC c = 0 := by
  unfold chkC
  rw [if_pos h1, if_neg (by omega), if_neg (by rw [h4]; simp)]
theorem mulR_ok {a b : Int} (h1 : vB a = true) (h2 : vB b = true) (h3 : vB (a * b) = true) : mulR a b = (a * b, true) := by
  unfold mulR
  rw [h1, h2, h3]
  rfl
theorem mulR_no {a b : Int} (h3 : vB (a * b) = false) : mulR a b = (0, false) := by
  unfold mulR
  rw [h3, Bool.and_false]
  rfl

end Go.Proofs.Ytngjlkdpplmpaaa.Ca
namespace Go.Proofs.Ytngjlkdpplmpaaa.Vl
open Go.RowKit Wd Cn
set_option linter.unusedVariables false

theorem tdiv_range (a b : Int) (hb : 2 ≤ b) (h1 : -9223372036854775808 ≤ a) (h2 : a ≤ 9223372036854775807) : -9223372036854775808 ≤ a.tdiv b ∧ a.tdiv b ≤ 9223372036854775807 := by
  by_cases h : 0 ≤ a
  · have h3 := Int.tdiv_nonneg h (by omega : 0 ≤ b)
    have h4 : a.tdiv b ≤ a := Int.tdiv_le_self b h
    omega
  · have h3 := Int.tdiv_nonneg (by omega : 0 ≤ -a) (by omega : 0 ≤ b)
    have h4 : (-a).tdiv b ≤ -a := Int.tdiv_le_self b (by omega)
    rw [Int.neg_tdiv] at h3 h4
    omega
theorem three_cells (w : World) (m : Nat) (hm : m < 3) : ∃ s : ByteArray, s.size ≤ 5 ∧ (w.alloc (.cells #[.string ⟨#[108, 105, 98, 111, 114]⟩, .string ⟨#[114, 97, 105, 110]⟩, .string ⟨#[195, 182, 108]⟩] 9)).cell? ⟨w.heap.size, m, none⟩ = some (.string s) := by
  rcases (by omega : m = 0 ∨ m = 1 ∨ m = 2) with rfl | rfl | rfl
  · exact ⟨_, by decide, cell_of_row _ _ _ _ _ _ (heap_alloc_new _ _)⟩
  · exact ⟨_, by decide, cell_of_row _ _ _ _ _ _ (heap_alloc_new _ _)⟩
  · exact ⟨_, by decide, cell_of_row _ _ _ _ _ _ (heap_alloc_new _ _)⟩

set_option maxHeartbeats 8000000 in
set_option maxRecDepth 100000 in
theorem known_any (w0 w : World) (p f c r B : Nat) (la : Option Addr) (ll lc : Nat) (lf : Nat → Int) (h : Bo w0 w p f c r B ⟨[], []⟩ ⟨[], []⟩) (hl : HasInts w0 la ll lf) (hll : ll ≤ 9223372036854775807) :
    Calls Try.prog 35 #[.pointer (some ⟨p, 0, none⟩), .pointer (some ⟨r, 0, none⟩), .slice la ll lc] w fun e w' => e = .returned (.tuple #[]) ∧ ∃ K, Bo w0 w' p f c r B K K ∧ KW.Vals K ∧ K.F.length ≤ 12 := by
  have HB := hidV h
  have HL := hidV hl
  clear h hl
  go_enter Try.func35, Try.ntmps35
  go_wp2_with fail
  go_loopw [6] (fun s6 wr => ∃ (i : Nat) (K : KW), s6 = .int .i64 i ∧ i ≤ 12 ∧ i ≤ ll ∧ Bo w0 wr p f c r B K K ∧ KW.Vals K ∧ K.F.length ≤ i) (fun s6 _ => 12 - (intOf s6).toNat)
  case atStart => exact ⟨0, ⟨[], []⟩, rfl, by omega, by omega, HB.out, (fun q hq => by simp at hq), by simp⟩
  case round =>
    obtain ⟨i, K, rfl, hi12, hil, hbo, hvals, hlen⟩ := hrel
    have HBO := hidV hbo
    have HVL := hidV hvals
    have HLN := hidV hlen
    clear hbo hvals hlen
    by_cases hlt : i < ll ∧ i < 12
    · obtain ⟨h1, h2⟩ := hlt
      have h1' : (i : Int) < (ll : Int) := by omega
      have h2' : (i : Int) < 12 := by omega
      obtain ⟨lb, lo, rfl, hlb, hlc, hf1, hf2⟩ := HL.out i h1
      have HLC : Hid (∀ w', Below w0.heap.size w0 w' → w'.cell? ⟨lb, lo + i, none⟩ = some (.int .i64 (lf i))) := fun w' hw' => (hw'.cell (p := ⟨lb, lo + i, none⟩) hlb).trans hlc
      obtain ⟨q1, q2⟩ := tdiv_range (lf i) 8 (by omega) hf1 hf2
      have HW40 := hidV (fun w : World => within_any ((lf i).tdiv 8) 40 w (by omega) (by omega) q1 q2)
      have HW8 := hidV (fun w : World => within_any (lf i) 8 w (by omega) (by omega) hf1 hf2)
      obtain ⟨u, hu⟩ : ∃ u : Nat, (lf i).tdiv 8 % 40 = u := ⟨((lf i).tdiv 8 % 40).toNat, by omega⟩
      have hu40 : u < 40 := by omega
      rw [hu] at HW40
      obtain ⟨d, hd⟩ : ∃ d : Nat, lf i % 8 = d := ⟨(lf i % 8).toNat, by omega⟩
      have hd8 : d < 8 := by omega
      rw [hd] at HW8
      clear hlc hu hd
      obtain ⟨m, hm⟩ : ∃ m : Nat, i % 3 = m := ⟨_, rfl⟩
      have hm3 : m < 3 := by omega
      have htm : Int.tmod (i : Int) 3 = (m : Int) := by rw [← hm]; rw [Int.tmod_eq_emod_of_nonneg (by omega)]; omega
      have hm3' : ¬ ((3 : Int) ≤ (m : Int)) := by omega
      obtain ⟨sn, hsz, hcell⟩ := three_cells wr m hm3
      have HSZ := hidV hsz
      clear hm hsz
      have hb0 := HLC.out wr HBO.out.i.below
      have hb1 : (wr.alloc (.cells #[.string ⟨#[108, 105, 98, 111, 114]⟩, .string ⟨#[114, 97, 105, 110]⟩, .string ⟨#[195, 182, 108]⟩] 9)).cell? ⟨lb, lo + i, none⟩ = some (.int .i64 (lf i)) := HLC.out _ (HBO.out.step (below_alloc (Below.refl _ _) _)).i.below
      have HB1 := hidV (HBO.out.step (below_alloc (Below.refl wr.heap.size wr) (.cells #[.string ⟨#[108, 105, 98, 111, 114]⟩, .string ⟨#[114, 97, 105, 110]⟩, .string ⟨#[195, 182, 108]⟩] 9)))
      have HFK : Hid (fixOk (sn, (d : Int))) := ⟨Nat.le_trans HSZ.out (by decide), by omega, by omega⟩
      have HREM : Hid (Int.tmod (lf i) 29 = 28 ∨ (Int.tmod (lf i) 29 == 28) = false) := by
        by_cases h : Int.tmod (lf i) 29 = 28
        · exact .inl h
        · exact .inr (by simpa using h)
      go_wp2_with fail
      refine calls_same (HW40.out _) ?_
      rcases HREM.out with h29 | h29
      all_goals
        go_wp2_with fail
        refine calls_same (HW8.out _) ?_
        go_wp2_with fail
        generalize wr.alloc (.cells #[.string ⟨#[108, 105, 98, 111, 114]⟩, .string ⟨#[114, 97, 105, 110]⟩, .string ⟨#[195, 182, 108]⟩] 9) = W1 at *
        refine (bo_fix HB1.out sn d _ HFK.out).mono ?_
        rintro e w2 ⟨rfl, hb2, hg2⟩
        have HB2 := hidV hb2
        have hb3 := HLC.out w2 HB2.out.i.below
        clear hb2 hg2 hb0 hb1 hcell
        go_wp2_with fail
        refine calls_same (HW8.out _) ?_
        go_wp2_with fail
        refine (bo_rfix HB2.out sn d _ (Nat.le_trans HSZ.out (by decide)) (by have := HLN.out; omega)).mono ?_
        rintro e w3 ⟨rfl, hb4, hr4⟩
        have HB3 := hidV hb4
        clear hb4 hr4 hb3
        go_wp2_with fail
        go_roundw
        case rel => exact ⟨i + 1, _, by go_num, by omega, by omega, HB3.out, fixN_vals _ _ _ _ HVL.out, Nat.le_trans (fixN_length _ _ _ _) (by have := HLN.out; omega)⟩
        case measure => simp [intOf] <;> omega
    · rcases (by omega : ((i : Int) < (ll : Int) ∧ ¬ (i : Int) < 12) ∨ ¬ (i : Int) < (ll : Int)) with ⟨h1, h3⟩ | h1
      all_goals
        clear hlt
        go_wp2_with fail
        go_end0
        exact ⟨rfl, K, HBO.out, HVL.out, Nat.le_trans HLN.out hi12⟩

end Go.Proofs.Ytngjlkdpplmpaaa.Vl
namespace Go.Proofs.Ytngjlkdpplmpaaa
open Go.RowKit
set_option linter.unusedVariables false

/-- What becomes of a tree that is spoilt itself. -/
def spoilHead (q : Nat) (v : Int) (s : ByteArray) (t : T) : T :=
  if q = 0 then .mk 0 ⟨#[]⟩ 0 [] else if q = 1 then .mk t.kind (cutTo s 20) t.n t.k else if q = 2 then .mk t.kind t.s v t.k
  else if q = 3 then (if 11 ≤ t.kind then .mk 1 ⟨#[]⟩ 0 [] else .mk 11 ⟨#[]⟩ 1 []) else t
mutual
/-- A tree that is spoilt at a place, and what is left of the place's number. -/
def spoilT (q : Nat) (v : Int) (s : ByteArray) : T → Int → T × Int
  | .mk kind s0 n k, a => if a = 0 then (spoilHead q v s (.mk kind s0 n k), -1) else (.mk kind s0 n (spoilL q v s k (a - 1)).1, (spoilL q v s k (a - 1)).2)
def spoilL (q : Nat) (v : Int) (s : ByteArray) : List T → Int → List T × Int
  | [], a => ([], a)
  | t :: l, a => if 0 ≤ a then ((spoilT q v s t a).1 :: (spoilL q v s l (spoilT q v s t a).2).1, (spoilL q v s l (spoilT q v s t a).2).2) else (t :: l, a)
end
theorem spoilL_snoc (q : Nat) (v : Int) (s : ByteArray) (t : T) (l : List T) : ∀ a : Int, spoilL q v s (l ++ [t]) a = if 0 ≤ (spoilL q v s l a).2 then ((spoilL q v s l a).1 ++ [(spoilT q v s t (spoilL q v s l a).2).1], (spoilT q v s t (spoilL q v s l a).2).2) else ((spoilL q v s l a).1 ++ [t], (spoilL q v s l a).2) := by
  induction l with
  | nil => intro a; simp only [List.nil_append, spoilL]; by_cases h : 0 ≤ a <;> simp [h]
  | cons x l ih =>
    intro a
    simp only [List.cons_append, spoilL]
    by_cases h : 0 ≤ a
    · simp only [if_pos h]
      rw [ih]
      split <;> rfl
    · simp only [if_neg h, List.cons_append]
theorem spoilL_len (q : Nat) (v : Int) (s : ByteArray) (l : List T) : ∀ a, (spoilL q v s l a).1.length = l.length := by
  induction l with
  | nil => intro a; simp [spoilL]
  | cons x l ih => intro a; simp only [spoilL]; split <;> simp [ih]
theorem spoilT_bd (q : Nat) (v : Int) (s : ByteArray) (t : T) : ∀ a, 0 ≤ a → -1 ≤ (spoilT q v s t a).2 ∧ (spoilT q v s t a).2 ≤ a := by
  induction t using T.ind with
  | _ kind s0 n k ih =>
    have hL : ∀ a, -1 ≤ a → -1 ≤ (spoilL q v s k a).2 ∧ (spoilL q v s k a).2 ≤ a := by
      induction k with
      | nil => intro a h; simp only [spoilL]; omega
      | cons x l ihl =>
        intro a h
        simp only [spoilL]
        split
        · rename_i h0
          have h1 := ih x (by simp) a h0
          have h2 := ihl (fun t ht => ih t (by simp [ht])) (spoilT q v s x a).2 h1.1
          simp only
          omega
        · simp only; omega
    intro a h
    unfold spoilT
    split
    · simp only; omega
    · have := hL (a - 1) (by omega)
      simp only
      omega
theorem spoilL_bd (q : Nat) (v : Int) (s : ByteArray) (l : List T) : ∀ a, -1 ≤ a → -1 ≤ (spoilL q v s l a).2 ∧ (spoilL q v s l a).2 ≤ a := by
  induction l with
  | nil => intro a h; simp only [spoilL]; omega
  | cons x l ihl =>
    intro a h
    simp only [spoilL]
    split
    · rename_i h0
      have h1 := spoilT_bd q v s x a h0
      have h2 := ihl (spoilT q v s x a).2 h1.1
      simp only
      omega
    · simp only; omega
theorem head_kind (q : Nat) (v : Int) (s : ByteArray) (t : T) : (spoilHead q v s t).kind = t.kind ∧ (spoilHead q v s t).k = t.k ∨ ((spoilHead q v s t).kind = 0 ∨ (spoilHead q v s t).kind = 1 ∨ (spoilHead q v s t).kind = 11) ∧ (spoilHead q v s t).k = [] := by
  unfold spoilHead
  split
  · exact .inr ⟨.inl rfl, rfl⟩
  · split
    · exact .inl ⟨rfl, rfl⟩
    · split
      · exact .inl ⟨rfl, rfl⟩
      · split
        · split
          · exact .inr ⟨.inr (.inl rfl), rfl⟩
          · exact .inr ⟨.inr (.inr rfl), rfl⟩
        · exact .inl ⟨rfl, rfl⟩
theorem head_s (q : Nat) (v : Int) (s : ByteArray) (t : T) (h : t.s.size ≤ 2147483648) : (spoilHead q v s t).s.size ≤ 2147483648 := by
  have he : (⟨#[]⟩ : ByteArray).size ≤ 2147483648 := by decide
  unfold spoilHead
  split
  · exact he
  · split
    · have := cutTo_size s 20
      show (cutTo s 20).size ≤ _
      omega
    · split
      · exact h
      · split
        · split
          · exact he
          · exact he
        · exact h
theorem head_n (q : Nat) (v : Int) (s : ByteArray) (t : T) (hv : -9223372036854775808 ≤ v ∧ v ≤ 9223372036854775807) (h : -9223372036854775808 ≤ t.n ∧ t.n ≤ 9223372036854775807) : -9223372036854775808 ≤ (spoilHead q v s t).n ∧ (spoilHead q v s t).n ≤ 9223372036854775807 := by
  unfold spoilHead
  split
  · exact ⟨by decide, by decide⟩
  · split
    · exact h
    · split
      · exact hv
      · split
        · split
          · exact ⟨by decide, by decide⟩
          · exact ⟨by decide, by decide⟩
        · exact h
theorem shaped_iff (t : T) : t.Shaped ↔ (t.kind = 13 ∨ t.kind = 15 ∨ t.kind = 16 → t.k.length = 2) ∧ (t.kind = 14 → t.k.length = 1) ∧ (t.kind = 13 ∨ t.kind = 14 ∨ t.kind = 15 ∨ t.kind = 16 ∨ t.k = []) ∧ -9223372036854775808 ≤ t.n ∧ t.n ≤ 9223372036854775807 ∧ t.s.size ≤ 2147483648 ∧ ShapedL t.k := by
  cases t
  unfold T.Shaped
  exact Iff.rfl
theorem shapedL_of : ∀ {l : List T}, (∀ t ∈ l, t.Shaped) → ShapedL l := by
  intro l
  induction l with
  | nil => intro _; unfold ShapedL; trivial
  | cons x l ih => intro h; unfold ShapedL; exact ⟨h x (by simp), ih (fun t ht => h t (by simp [ht]))⟩
theorem spoilL_all {P : T → Prop} (q : Nat) (v : Int) (s : ByteArray) (l : List T) (h : ∀ t ∈ l, P t ∧ ∀ a, P (spoilT q v s t a).1) : ∀ a, ∀ t ∈ (spoilL q v s l a).1, P t := by
  induction l with
  | nil => intro a t ht; simp [spoilL] at ht
  | cons x l ih =>
    intro a t ht
    simp only [spoilL] at ht
    split at ht
    · simp only [List.mem_cons] at ht
      rcases ht with rfl | ht
      · exact (h x (by simp)).2 a
      · exact ih (fun t ht => h t (by simp [ht])) _ t ht
    · exact (h t ht).1
theorem spoil_shaped (q : Nat) (v : Int) (s : ByteArray) (hv : -9223372036854775808 ≤ v ∧ v ≤ 9223372036854775807) (t : T) : t.Shaped → ∀ a, (spoilT q v s t a).1.Shaped := by
  induction t using T.ind with
  | _ kind s0 n k ih =>
    intro h a
    have h' := (shaped_iff _).1 h
    obtain ⟨h2, h1, h3, hn1, hn2, hs, hk⟩ := h'
    unfold spoilT
    split
    · rw [shaped_iff]
      simp only
      have hs' := head_s q v s (.mk kind s0 n k) hs
      have hn' := head_n q v s (.mk kind s0 n k) hv ⟨hn1, hn2⟩
      rcases head_kind q v s (.mk kind s0 n k) with ⟨e1, e2⟩ | ⟨e1, e2⟩
      · rw [e1, e2]; exact ⟨h2, h1, h3, hn'.1, hn'.2, hs', hk⟩
      · rw [e2]; exact ⟨fun h => by omega, fun h => by omega, .inr (.inr (.inr (.inr rfl))), hn'.1, hn'.2, hs', by unfold ShapedL; trivial⟩
    · rw [shaped_iff]
      have hl := spoilL_len q v s k (a - 1)
      simp only [T.kind, T.k, T.s, T.n] at *
      refine ⟨fun h => by rw [hl]; exact h2 h, fun h => by rw [hl]; exact h1 h, ?_, hn1, hn2, hs, shapedL_of (spoilL_all q v s k (fun t ht => ⟨shapedL_mem hk t ht, ih t ht (shapedL_mem hk t ht)⟩) _)⟩
      rcases h3 with h | h | h | h | h
      · exact .inl h
      · exact .inr (.inl h)
      · exact .inr (.inr (.inl h))
      · exact .inr (.inr (.inr (.inl h)))
      · refine .inr (.inr (.inr (.inr ?_)))
        subst h
        simp [spoilL]
theorem head_cnt (q : Nat) (v : Int) (s : ByteArray) (t : T) : (spoilHead q v s t).cnt ≤ t.cnt := by
  have h1 : 1 ≤ t.cnt := by cases t; unfold T.cnt; omega
  unfold spoilHead
  split
  · simp [T.cnt, cntL]; exact h1
  · split
    · cases t; simp [T.cnt, T.k]
    · split
      · cases t; simp [T.cnt, T.k]
      · split
        · split
          · simp [T.cnt, cntL]; exact h1
          · simp [T.cnt, cntL]; exact h1
        · exact Nat.le_refl _
theorem spoil_cnt (q : Nat) (v : Int) (s : ByteArray) (t : T) : ∀ a, (spoilT q v s t a).1.cnt ≤ t.cnt := by
  induction t using T.ind with
  | _ kind s0 n k ih =>
    have hL : ∀ a, cntL (spoilL q v s k a).1 ≤ cntL k := by
      induction k with
      | nil => intro a; simp [spoilL]
      | cons x l ihl =>
        intro a
        simp only [spoilL]
        split
        · have h1 := ih x (by simp) a
          have h2 := ihl (fun t ht => ih t (by simp [ht])) (spoilT q v s x a).2
          simp only [cntL]
          omega
        · exact Nat.le_refl _
    intro a
    unfold spoilT
    split
    · exact head_cnt q v s _
    · have := hL (a - 1)
      simp only [T.cnt]
      omega
theorem obsL_len (l : List T) : (obsL l).length = l.length := by
  induction l with
  | nil => rfl
  | cons x l ih => simp [obsL, ih]
theorem obsOf_nodes (t : T) : (obsOf t).nodes ≤ t.cnt := by
  induction t using T.ind with
  | _ kind s n k ih =>
    unfold obsOf T.cnt
    split
    · simp [O.nodes]
    · split
      · simp [O.nodes]
      · match k, ih with
        | [], _ => simp [obsL, O.nodes]
        | [a], ih =>
          have h1 := ih a (by simp)
          simp only [obsL, cntL]
          split
          · simp only [O.nodes]; omega
          · simp [O.nodes]
        | [a, b], ih =>
          have h1 := ih a (by simp)
          have h2 := ih b (by simp)
          simp only [obsL, cntL]
          split
          · simp only [O.nodes]; omega
          · split
            · simp only [O.nodes]; omega
            · split
              · simp only [O.nodes]; omega
              · simp [O.nodes]
        | a :: b :: c :: l, _ => simp [obsL, O.nodes]

end Go.Proofs.Ytngjlkdpplmpaaa
namespace Go.Proofs.Ytngjlkdpplmpaaa
open Go.RowKit
set_option linter.unusedVariables false

theorem infoTT : (Try.prog.info? 72).map (fun i => (i.zero, i.size, i.bytes)) = some (some (.agg zeroT), 4, 56) := by kernel_rfl
/-- A tree stands wherever the old blocks and the new ones are as they were. -/
def Spread (W0 : World) (B : Nat) (w : World) (t : T) (v : Value) : Prop := ∀ X : World, (∀ b o c, (b < W0.heap.size ∨ B ≤ b) → w.cell? ⟨b, o, none⟩ = some c → X.cell? ⟨b, o, none⟩ = some c) → TIn X 0 t v
theorem Spread.here {W0 w : World} {B : Nat} {t : T} {v : Value} (h : Spread W0 B w t v) : TIn w 0 t v := h w (fun _ _ _ _ h => h)
theorem spread_old {W0 w : World} {B : Nat} {t : T} {v : Value} (h : TIn W0 0 t v) (hb : Below W0.heap.size W0 w) : Spread W0 B w t v :=
  fun X hX => h.kept (Nat.le_refl _) (fun b o c _ hc => hX b o c (.inl (World.block_lt_of_cell? W0 _ hc)) ((hb.cell (p := ⟨b, o, none⟩) (World.block_lt_of_cell? W0 _ hc)).trans hc))
theorem spread_leaf {W0 w : World} {B : Nat} (kind : Int) (s : ByteArray) (n : Int) : Spread W0 B w (.mk kind s n []) (.agg #[.int .i64 kind, .string s, .int .i64 n, .slice none 0 0]) := fun X _ => tin_leaf X 0 kind s n
def SpoilPost (W0 w : World) (r : T × Int) (e : Ending) (w' : World) : Prop :=
  ∃ ka kc, e = .returned (.tuple #[.agg (four r.1 ka kc), .int .i64 r.2]) ∧ Spread W0 w.heap.size w' r.1 (.agg (four r.1 ka kc)) ∧ Below w.heap.size w w'
theorem tin_parts {X : World} {t : T} {a : Option Addr} {cap : Nat} (h : TIn X 0 t (.agg #[.int .i64 t.kind, .string t.s, .int .i64 t.n, .slice a t.k.length cap])) (kind : Int) (s : ByteArray) (n : Int) : TIn X 0 (.mk kind s n t.k) (.agg #[.int .i64 kind, .string s, .int .i64 n, .slice a t.k.length cap]) := by
  obtain ⟨a', cap', e, h4, h5, h6⟩ := h
  simp at e
  obtain ⟨rfl, rfl⟩ := e
  exact ⟨a, cap, rfl, h4, h5, h6⟩

set_option maxHeartbeats 2000000 in
set_option maxRecDepth 100000 in
theorem spoil_head (W0 : World) (t : T) (what v : Int) (s : ByteArray) (hw1 : -9223372036854775808 ≤ what) (hw2 : what ≤ 9223372036854775807) (hs : s.size ≤ maxLen) (w : World) (x : Value) (hx : TIn W0 0 t x) (hb : Below W0.heap.size W0 w) :
    Calls Try.prog 55 #[x, .int .i64 0, .int .i64 what, .int .i64 v, .string s] w (SpoilPost W0 w (spoilHead (what % 5).toNat v s t, -1)) := by
  obtain ⟨q, hq⟩ : ∃ q : Nat, what % 5 = q := ⟨(what % 5).toNat, by omega⟩
  have hq5 : q = 0 ∨ q = 1 ∨ q = 2 ∨ q = 3 ∨ q = 4 := by omega
  have HX := hidIn hx
  obtain ⟨a, cap, rfl, _, _, _⟩ := hx
  have HB0 := hidIn hb
  have HQ : Hid ((what % 5).toNat = q) := by show _ = _; omega
  have hsz : w.heap.size + 1 ≠ w.heap.size := by omega
  clear hb
  go_enter Try.func55, Try.ntmps55
  go_wp2_with fail
  obtain ⟨W, hW⟩ : ∃ W, W = (w.alloc (.cells #[.int .i64 t.kind, .string t.s, .int .i64 t.n, .slice a t.k.length cap] 72)).alloc (.cells #[.int .i64 0, .string ⟨#[]⟩, .int .i64 0, .slice none 0 0] 72) := ⟨_, rfl⟩
  have HB : Hid (Below w.heap.size w W) := by rw [hW]; exact below_alloc (below_alloc (Below.refl _ _) _) _
  have hP : Blk W w.heap.size 72 #[.int .i64 t.kind, .string t.s, .int .i64 t.n, .slice a t.k.length cap] := by rw [hW]; exact blk_keep (blk_new rfl) _
  have hZ : Blk W (w.heap.size + 1) 72 zeroT := by rw [hW]; exact blk_new (by simp)
  have HSX : Hid (∀ (B : Nat) (X : World), Below w.heap.size w X → Spread W0 B X t (.agg #[.int .i64 t.kind, .string t.s, .int .i64 t.n, .slice a t.k.length cap])) := fun B X hX => spread_old HX.out (HB0.out.trans (hX.mono HB0.out.size))
  rw [← hW]
  clear hW
  have c0 := hP.cell 0
  have c1 := hP.cell 1
  have c2 := hP.cell 2
  have c3 := hP.cell 3
  have e0 := hP.frozen 0
  have e1 := hP.frozen 1
  have e2 := hP.frozen 2
  have e3 := hP.frozen 3
  obtain ⟨⟨z0, z1, z2, z3⟩, f0, f1, f2, f3⟩ := blk_zero hZ
  have HP := hidIn hP
  have HZ := hidIn hZ
  have HSS := hidIn hs
  clear hP hZ hs HX
  refine calls_same (within_any _ 5 _ (by omega) (by omega) hw1 hw2) ?_
  rw [hq]
  clear hq hw1 hw2
  rcases hq5 with rfl | rfl | rfl | rfl | rfl
  · go_wp2_with fail
    refine bodyPost_ret (results_cell_slot rfl _ _ (w.heap.size + 1) 72 #[.int .i64 0, .string ⟨#[]⟩, .int .i64 0, .slice none 0 0] (0, 0) _ rfl ?blk Try.underlying72 rfl infoT) rfl ?post
    case blk => change Blk _ _ _ _; (with_reducible refine blk_set4' ?_ _ _ _ _); (repeat first | with_reducible exact HZ.out | with_reducible refine blk_other ?_ hsz _ _)
    case post =>
      rw [HQ.out]
      change SpoilPost W0 w (T.mk 0 ⟨#[]⟩ 0 [], -1) _ _
      refine ⟨_, _, rfl, spread_leaf _ _ _, ?_⟩
      all_goals (repeat first | with_reducible exact HB.out | with_reducible refine below_set ?_ (by omega) _ _)
  · go_wp2_with fail
    refine calls_same (text_any _ 20 _ HSS.out (by omega)) ?_
    go_wp2_with fail
    refine bodyPost_ret (results_cell_slot rfl _ _ (w.heap.size + 1) 72 #[.int .i64 t.kind, .string (cutTo s 20), .int .i64 t.n, .slice a t.k.length cap] (0, 0) _ rfl ?blk Try.underlying72 rfl infoT) rfl ?post
    case blk => change Blk _ _ _ _; (with_reducible refine blk_set4' ?_ _ _ _ _); (repeat first | with_reducible exact HZ.out | with_reducible refine blk_other ?_ hsz _ _)
    case post =>
      rw [HQ.out]
      change SpoilPost W0 w (T.mk t.kind (cutTo s 20) t.n t.k, -1) _ _
      refine ⟨_, _, rfl, (fun X hX => tin_parts (HSX.out _ _ ?_ X hX) _ _ _), ?_⟩
      all_goals (repeat first | with_reducible exact HB.out | with_reducible refine below_set ?_ (by omega) _ _)
  · go_wp2_with fail
    refine bodyPost_ret (results_cell_slot rfl _ _ (w.heap.size + 1) 72 #[.int .i64 t.kind, .string t.s, .int .i64 v, .slice a t.k.length cap] (0, 0) _ rfl ?blk Try.underlying72 rfl infoT) rfl ?post
    case blk => change Blk _ _ _ _; (with_reducible refine blk_set4' ?_ _ _ _ _); (repeat first | with_reducible exact HZ.out | with_reducible refine blk_other ?_ hsz _ _)
    case post =>
      rw [HQ.out]
      change SpoilPost W0 w (T.mk t.kind t.s v t.k, -1) _ _
      refine ⟨_, _, rfl, (fun X hX => tin_parts (HSX.out _ _ ?_ X hX) _ _ _), ?_⟩
      all_goals (repeat first | with_reducible exact HB.out | with_reducible refine below_set ?_ (by omega) _ _)
  · by_cases h11 : 11 ≤ t.kind
    · go_wp2_with fail
      refine bodyPost_ret (results_cell_slot rfl _ _ (w.heap.size + 1) 72 #[.int .i64 1, .string ⟨#[]⟩, .int .i64 0, .slice none 0 0] (0, 0) _ rfl ?blk Try.underlying72 rfl infoT) rfl ?post
      case blk => change Blk _ _ _ _; (with_reducible refine blk_set4' ?_ _ _ _ _); (repeat first | with_reducible exact HZ.out | with_reducible refine blk_other ?_ hsz _ _)
      case post =>
        rw [HQ.out, show spoilHead 3 v s t = T.mk 1 ⟨#[]⟩ 0 [] from if_pos h11]
        refine ⟨_, _, rfl, spread_leaf _ _ _, ?_⟩
        all_goals (repeat first | with_reducible exact HB.out | with_reducible refine below_set ?_ (by omega) _ _)
    · go_wp2_with fail
      refine bodyPost_ret (results_cell_slot rfl _ _ (w.heap.size + 1) 72 #[.int .i64 11, .string ⟨#[]⟩, .int .i64 1, .slice none 0 0] (0, 0) _ rfl ?blk Try.underlying72 rfl infoT) rfl ?post
      case blk => change Blk _ _ _ _; (with_reducible refine blk_set4' ?_ _ _ _ _); (repeat first | with_reducible exact HZ.out | with_reducible refine blk_other ?_ hsz _ _)
      case post =>
        rw [HQ.out, show spoilHead 3 v s t = T.mk 11 ⟨#[]⟩ 1 [] from if_neg (Int.not_le.2 h11)]
        refine ⟨_, _, rfl, spread_leaf _ _ _, ?_⟩
        all_goals (repeat first | with_reducible exact HB.out | with_reducible refine below_set ?_ (by omega) _ _)
  · go_wp2_with fail
    refine bodyPost_ret (results_cell_slot rfl _ _ (w.heap.size + 1) 72 #[.int .i64 t.kind, .string t.s, .int .i64 t.n, .slice a t.k.length cap] (0, 0) _ rfl ?blk Try.underlying72 rfl infoT) rfl ?post
    case blk => change Blk _ _ _ _; (with_reducible refine blk_set4' ?_ _ _ _ _); (repeat first | with_reducible exact HZ.out | with_reducible refine blk_other ?_ hsz _ _)
    case post =>
      rw [HQ.out]
      change SpoilPost W0 w (t, -1) _ _
      refine ⟨_, _, rfl, (HSX.out _ _ ?_), ?_⟩
      all_goals (repeat first | with_reducible exact HB.out | with_reducible refine below_set ?_ (by omega) _ _)

/-- The cells of trees, one behind another. -/
def CellsAt (cur : Array Value) (j : Nat) (t : T) (ka : Option Addr) (kc : Nat) : Prop := cur[j * 4]? = some (.int .i64 t.kind) ∧ cur[j * 4 + 1]? = some (.string t.s) ∧ cur[j * 4 + 2]? = some (.int .i64 t.n) ∧ cur[j * 4 + 3]? = some (.slice ka t.k.length kc)
/-- A row of trees in block R: each stands wherever the old blocks and those behind R are as they were. -/
def RowIn (W0 : World) (R : Nat) (w : World) (cur : Array Value) (l : List T) : Prop := ∀ j t, l[j]? = some t → ∃ ka kc, CellsAt cur j t ka kc ∧ Spread W0 (R + 1) w t (.agg (four t ka kc))
theorem Spread.next {W0 w w' : World} {B : Nat} {t : T} {v : Value} (h : Spread W0 B w t v) (hc : ∀ b o c, (b < W0.heap.size ∨ B ≤ b) → w.cell? ⟨b, o, none⟩ = some c → w'.cell? ⟨b, o, none⟩ = some c) : Spread W0 B w' t v :=
  fun X hX => h X (fun b o c hb hw => hX b o c hb (hc b o c hb hw))
theorem Spread.low {W0 w : World} {B B' : Nat} {t : T} {v : Value} (h : Spread W0 B w t v) (hB : B' ≤ B) : Spread W0 B' w t v :=
  fun X hX => h X (fun b o c hb hw => hX b o c (by omega) hw)
theorem RowIn.next {W0 w w' : World} {R : Nat} {cur : Array Value} {l : List T} (h : RowIn W0 R w cur l) (hc : ∀ b o c, b ≠ R → w.cell? ⟨b, o, none⟩ = some c → w'.cell? ⟨b, o, none⟩ = some c) (hR : W0.heap.size ≤ R) : RowIn W0 R w' cur l := by
  intro j t hj
  obtain ⟨ka, kc, h1, h2⟩ := h j t hj
  exact ⟨ka, kc, h1, h2.next (fun b o c hb hw => hc b o c (by omega) hw)⟩
def put4 (cur : Array Value) (i : Nat) (a b c d : Value) : Array Value := (((cur.setIfInBounds (i * 4) a).setIfInBounds (i * 4 + 1) b).setIfInBounds (i * 4 + 2) c).setIfInBounds (i * 4 + 3) d
theorem put4_same (cur : Array Value) (i : Nat) (a b c d : Value) (h : i * 4 + 3 < cur.size) : (put4 cur i a b c d)[i * 4]? = some a ∧ (put4 cur i a b c d)[i * 4 + 1]? = some b ∧ (put4 cur i a b c d)[i * 4 + 2]? = some c ∧ (put4 cur i a b c d)[i * 4 + 3]? = some d := by
  unfold put4
  refine ⟨?_, ?_, ?_, ?_⟩ <;> simp [Array.getElem?_setIfInBounds] <;> omega
theorem put4_other (cur : Array Value) (i j : Nat) (a b c d : Value) (h : j ≠ i) (x : Nat) (hx : x < 4) : (put4 cur i a b c d)[j * 4 + x]? = cur[j * 4 + x]? := by
  unfold put4
  rw [Array.getElem?_setIfInBounds_ne (by omega), Array.getElem?_setIfInBounds_ne (by omega), Array.getElem?_setIfInBounds_ne (by omega), Array.getElem?_setIfInBounds_ne (by omega)]
theorem RowIn.put {W0 w : World} {R : Nat} {cur : Array Value} {l : List T} {i : Nat} {x t : T} {ka : Option Addr} {kc : Nat} (h : RowIn W0 R w cur l) (hi : l[i]? = some x) (hc : i * 4 + 3 < cur.size) (ht : Spread W0 (R + 1) w t (.agg (four t ka kc))) : RowIn W0 R w (put4 cur i (.int .i64 t.kind) (.string t.s) (.int .i64 t.n) (.slice ka t.k.length kc)) (l.set i t) := by
  intro j u hj
  by_cases hji : j = i
  · subst hji
    have hl := (List.getElem?_eq_some_iff.1 hi).1
    rw [List.getElem?_set_self hl] at hj
    injection hj with hj
    subst hj
    exact ⟨ka, kc, put4_same cur j _ _ _ _ hc, ht⟩
  · rw [List.getElem?_set_ne (fun e => hji e.symm)] at hj
    obtain ⟨kb, kd, h1, h2⟩ := h j u hj
    refine ⟨kb, kd, ?_, h2⟩
    obtain ⟨c0, c1, c2, c3⟩ := h1
    exact ⟨(put4_other cur i j _ _ _ _ hji 0 (by omega)).trans c0, (put4_other cur i j _ _ _ _ hji 1 (by omega)).trans c1, (put4_other cur i j _ _ _ _ hji 2 (by omega)).trans c2, (put4_other cur i j _ _ _ _ hji 3 (by omega)).trans c3⟩
/-- The cells of parts that lie in memory. -/
def rowCells (l : List T) (f : Nat → Option Addr × Nat) : Nat → List Value
  | i => match l with
    | [] => []
    | t :: r => .int .i64 t.kind :: .string t.s :: .int .i64 t.n :: .slice (f i).1 t.k.length (f i).2 :: rowCells r f (i + 1)
theorem rowCells_len (f : Nat → Option Addr × Nat) (l : List T) : ∀ i, (rowCells l f i).length = l.length * 4 := by
  induction l with
  | nil => intro i; simp [rowCells]
  | cons t l ih => intro i; simp only [rowCells, List.length_cons, ih]; omega
theorem rowCells_get (f : Nat → Option Addr × Nat) (l : List T) : ∀ i j t, l[j]? = some t → (rowCells l f i)[j * 4]? = some (.int .i64 t.kind) ∧ (rowCells l f i)[j * 4 + 1]? = some (.string t.s) ∧ (rowCells l f i)[j * 4 + 2]? = some (.int .i64 t.n) ∧ (rowCells l f i)[j * 4 + 3]? = some (.slice (f (i + j)).1 t.k.length (f (i + j)).2) := by
  induction l with
  | nil => intro i j t h; simp at h
  | cons u l ih =>
    intro i j t h
    cases j with
    | zero => simp at h; subst h; simp [rowCells]
    | succ j =>
      simp at h
      have := ih (i + 1) j t h
      simp only [rowCells]
      rw [show (j + 1) * 4 = j * 4 + 1 + 1 + 1 + 1 by omega, show i + (j + 1) = i + 1 + j by omega]
      simpa using this
theorem rowCells_one (f : Nat → Option Addr × Nat) (l : List T) : ∀ i, ∀ u ∈ rowCells l f i, u.oneCell' = true := by
  induction l with
  | nil => intro i u hu; simp [rowCells] at hu
  | cons t l ih =>
    intro i u hu
    simp only [rowCells, List.mem_cons] at hu
    rcases hu with rfl | rfl | rfl | rfl | hu
    · rfl
    · rfl
    · rfl
    · rfl
    · exact ih (i + 1) u hu
theorem kat_row {w : World} {l : List T} {b o : Nat} (h : KAt w 0 l (some ⟨b, o, none⟩) 0) : ∃ f : Nat → Option Addr × Nat, (∀ j t, l[j]? = some t → TIn w 0 t (.agg (four t (f j).1 (f j).2))) ∧ ∀ (j : Nat) (u : Value), (rowCells l f 0)[j]? = some u → w.cell? ((⟨b, o, none⟩ : Addr).add j) = some u := by
  have hx : ∀ j, ∃ p : Option Addr × Nat, ∀ t, l[j]? = some t → w.cell? ⟨b, o + j * 4, none⟩ = some (.int .i64 t.kind) ∧ w.cell? ⟨b, o + j * 4 + 1, none⟩ = some (.string t.s) ∧ w.cell? ⟨b, o + j * 4 + 2, none⟩ = some (.int .i64 t.n) ∧ w.cell? ⟨b, o + j * 4 + 3, none⟩ = some (.slice p.1 t.k.length p.2) ∧ TIn w 0 t (.agg (four t p.1 p.2)) := by
    intro j
    cases hj : l[j]? with
    | none => exact ⟨(none, 0), fun t ht => by cases ht⟩
    | some t =>
      obtain ⟨b', o', ka, kc, e, c0, c1, c2, c3, ht⟩ := h.cells hj
      injection e with e
      injection e with e1 e2
      subst e1 e2
      exact ⟨(ka, kc), fun t' ht' => by injection ht' with ht'; subst ht'; exact ⟨c0, c1, c2, c3, ht⟩⟩
  refine ⟨fun j => Classical.choose (hx j), fun j t hj => ((Classical.choose_spec (hx j)) t hj).2.2.2.2, ?_⟩
  intro j u hu
  have hlen := (List.getElem?_eq_some_iff.1 hu).1
  rw [rowCells_len] at hlen
  obtain ⟨q, r, hr, rfl⟩ : ∃ q r, r < 4 ∧ j = q * 4 + r := ⟨j / 4, j % 4, Nat.mod_lt _ (by omega), by omega⟩
  obtain ⟨t, ht⟩ : ∃ t, l[q]? = some t := ⟨_, List.getElem?_eq_getElem (by omega)⟩
  have hg := rowCells_get (fun j => Classical.choose (hx j)) l 0 q t ht
  have hs := (Classical.choose_spec (hx q)) t ht
  rw [Nat.zero_add] at hg
  rw [Go.WideShapes.add_plain, ← Nat.add_assoc]
  have h4 : r = 0 ∨ r = 1 ∨ r = 2 ∨ r = 3 := by omega
  rcases h4 with rfl | rfl | rfl | rfl
  · rw [Nat.add_zero] at hu ⊢; rw [hg.1] at hu; injection hu with hu; subst hu; exact hs.1
  · rw [hg.2.1] at hu; injection hu with hu; subst hu; exact hs.2.1
  · rw [hg.2.2.1] at hu; injection hu with hu; subst hu; exact hs.2.2.1
  · rw [hg.2.2.2] at hu; injection hu with hu; subst hu; exact hs.2.2.2.1

end Go.Proofs.Ytngjlkdpplmpaaa
namespace Go.Proofs.Ytngjlkdpplmpaaa
open Go.RowKit
set_option linter.unusedVariables false

theorem len_cnt (l : List T) : l.length ≤ cntL l := by
  induction l with
  | nil => simp
  | cons t l ih => have h1 : 1 ≤ t.cnt := by cases t; unfold T.cnt; omega
                   simp only [cntL, List.length_cons]; omega
theorem cell_set4 {W : World} {R i : Nat} {a b c d : Value} {k o : Nat} (h : k ≠ R) : ((((W.setCell ⟨R, i, none⟩ a).setCell ⟨R, i + 1, none⟩ b).setCell ⟨R, i + 2, none⟩ c).setCell ⟨R, i + 3, none⟩ d).cell? ⟨k, o, none⟩ = W.cell? ⟨k, o, none⟩ := by
  rw [World.cell?_setCell_other _ _ _ _ (by intro e; injection e with e; exact h e.symm), World.cell?_setCell_other _ _ _ _ (by intro e; injection e with e; exact h e.symm), World.cell?_setCell_other _ _ _ _ (by intro e; injection e with e; exact h e.symm), World.cell?_setCell_other _ _ _ _ (by intro e; injection e with e; exact h e.symm)]
theorem blk_put4 {W : World} {R ty : Nat} {cur : Array Value} (h : Blk W R ty cur) (i : Nat) (a b c d : Value) : Blk ((((W.setCell ⟨R, i * 4, none⟩ a).setCell ⟨R, i * 4 + 1, none⟩ b).setCell ⟨R, i * 4 + 2, none⟩ c).setCell ⟨R, i * 4 + 3, none⟩ d) R ty (put4 cur i a b c d) :=
  (((h.set _ a).set _ b).set _ c).set _ d
theorem put4_size (cur : Array Value) (i : Nat) (a b c d : Value) : (put4 cur i a b c d).size = cur.size := by simp [put4]
/-- What stands in the row behind so many rounds. -/
def rowAt (q : Nat) (v : Int) (s : ByteArray) (k : List T) (a : Int) (i : Nat) : List T := (spoilL q v s (k.take i) a).1 ++ k.drop i
theorem rowAt_get (q : Nat) (v : Int) (s : ByteArray) (k : List T) (a : Int) (i : Nat) (hi : i < k.length) : (rowAt q v s k a i)[i]? = k[i]? := by
  have hl := spoilL_len q v s (k.take i) a
  rw [List.length_take, Nat.min_eq_left (by omega)] at hl
  unfold rowAt
  rw [List.getElem?_append_right (by omega), hl, Nat.sub_self, List.getElem?_drop, Nat.add_zero]
theorem rowAt_len (q : Nat) (v : Int) (s : ByteArray) (k : List T) (a : Int) (i : Nat) : (rowAt q v s k a i).length = k.length := by
  have hl := spoilL_len q v s (k.take i) a
  unfold rowAt
  rw [List.length_append, hl, ← List.length_append, List.take_append_drop]
theorem rowAt_next (q : Nat) (v : Int) (s : ByteArray) (k : List T) (a : Int) (i : Nat) (t : T) (ht : k[i]? = some t) : rowAt q v s k a (i + 1) = (if 0 ≤ (spoilL q v s (k.take i) a).2 then (rowAt q v s k a i).set i (spoilT q v s t (spoilL q v s (k.take i) a).2).1 else rowAt q v s k a i) ∧ (spoilL q v s (k.take (i + 1)) a).2 = if 0 ≤ (spoilL q v s (k.take i) a).2 then (spoilT q v s t (spoilL q v s (k.take i) a).2).2 else (spoilL q v s (k.take i) a).2 := by
  have hi := (List.getElem?_eq_some_iff.1 ht).1
  have hl := spoilL_len q v s (k.take i) a
  rw [List.length_take, Nat.min_eq_left (by omega)] at hl
  have hd : k.drop i = t :: k.drop (i + 1) := by
    rw [List.drop_eq_getElem_cons hi]
    congr 1
    exact (List.getElem?_eq_some_iff.1 ht).2
  unfold rowAt
  rw [take_more _ _ _ ht, spoilL_snoc, hd]
  split
  · simp only [List.append_assoc, List.singleton_append]
    rw [List.set_append_right _ _ (by omega), hl, Nat.sub_self, List.set_cons_zero]
    simp
  · simp

/-- Parts that are as they were from a place on. -/
def OldIn (W0 : World) (cur : Array Value) (k : List T) (i : Nat) : Prop := ∀ j t, i ≤ j → k[j]? = some t → ∃ ka kc, CellsAt cur j t ka kc ∧ TIn W0 0 t (.agg (four t ka kc))
theorem OldIn.put {W0 : World} {cur : Array Value} {k : List T} {i : Nat} (h : OldIn W0 cur k i) (a b c d : Value) : OldIn W0 (put4 cur i a b c d) k (i + 1) := by
  intro j t hj ht
  obtain ⟨ka, kc, ⟨c0, c1, c2, c3⟩, h2⟩ := h j t (by omega) ht
  exact ⟨ka, kc, ⟨(put4_other cur i j _ _ _ _ (by omega) 0 (by omega)).trans c0, (put4_other cur i j _ _ _ _ (by omega) 1 (by omega)).trans c1, (put4_other cur i j _ _ _ _ (by omega) 2 (by omega)).trans c2, (put4_other cur i j _ _ _ _ (by omega) 3 (by omega)).trans c3⟩, h2⟩
/-- A copy of a tree's parts. -/
structure KidsRow (W0 w w' : World) (ro : Option Addr) (c2 R : Nat) (cur : Array Value) (k : List T) : Prop where
  cap : k.length ≤ c2 ∧ c2 ≤ 9223372036854775807
  at_ : k ≠ [] → ro = some ⟨R, 0, none⟩ ∧ Blk w' R 72 cur ∧ k.length * 4 ≤ cur.size
  base : w.heap.size ≤ R
  row : RowIn W0 R w' cur k
  old : OldIn W0 cur k 0
  below : Below w.heap.size w w'
theorem run_append_nil (w : World) (ty cap : Nat) : (Builtin.append_ #[70, 70] ty #[.slice none 0 0, .slice none 0 cap]).run Try.prog w = .ok (.slice none 0 0) w := by
  obtain ⟨i0, hi, hz0, hz1, hz2⟩ := info_parts infoTT
  simp [Builtin.append_, run_underlying Try.underlying70, sizeOf, typeInfo, hi, Builtin.lenOf, Builtin.firstCells]
theorem wpList_append_kids {ops : Array Oper} {rest : List Oper} {o : Oper} {a : Act} {Q : Exit → Act → World → Prop} (w : World) (hgd : o.guard = none) (s x : Operand)
    (ho : o.op = .call { callee := .builtin .append, args := #[s, x], argTypes := #[70, 70] })
    (hs : a.eval s = .slice none 0 0) (k : List T) (ao : Option Addr) (cap : Nat) (hx : a.eval x = .slice ao k.length cap) (W0 : World) (hK : KAt W0 0 k ao 0) (hb : Below W0.heap.size W0 w) (hkl : k.length ≤ 1000000)
    (h : ∀ ro c2 R cur w', KidsRow W0 w w' ro c2 R cur k → wpList Try.prog ops Q rest (a.put o.dst (.slice ro k.length c2)) w') : wpList Try.prog ops Q (o :: rest) a w := by
  obtain ⟨i0, hi, hz0, hz1, hz2⟩ := info_parts infoTT
  cases ao with
  | none =>
    have hk : k = [] := by
      cases k with
      | nil => rfl
      | cons t l => exfalso; unfold KAt at hK; obtain ⟨⟨b, o, e, _⟩, _⟩ := hK; cases e
    subst hk
    refine wpList_plain hgd fun K hKK => ?_
    have hrun := run_append_nil w o.type cap
    have hk2 := h none 0 w.heap.size #[] w ⟨⟨Nat.le_refl _, by simp⟩, fun hn => absurd rfl hn, Nat.le_refl _, fun j t hj => by simp at hj, fun j t _ hj => by simp at hj, Below.refl _ _⟩
    unfold Oper.wp
    simp at hx
    simp [execOp, ho, resolve, invoke, builtin, hs, hx, hrun, Result.andThen]
    exact hKK _ _ hk2
  | some ad =>
    obtain ⟨f, hT, hC⟩ : ∃ f : Nat → Option Addr × Nat, (∀ j t, k[j]? = some t → TIn W0 0 t (.agg (four t (f j).1 (f j).2))) ∧ ∀ (j : Nat) (u : Value), (rowCells k f 0)[j]? = some u → W0.cell? (ad.add j) = some u := by
      cases k with
      | nil => exact ⟨fun _ => (none, 0), fun j t hj => by simp at hj, fun j u hj => by simp [rowCells] at hj⟩
      | cons t l =>
        have hK2 := hK
        unfold KAt at hK2
        obtain ⟨⟨b, o, e, _⟩, _⟩ := hK2
        injection e with e
        subst e
        exact kat_row hK
    refine wpList_append_own_at w hgd s x 70 ho w.heap.size 72 i0 (.agg zeroT) 4 56 Try.underlying70 hi hz0 hz1 hz2 rfl (by decide) _ _ _ hs (World.ownsRow_nil _ _ _ _) ad k.length cap (rowCells k f 0) hx (rowCells_len f k 0) ?_ (rowCells_one f k 0) (by unfold maxLen; omega) (by omega) (Nat.le_refl _) ?_
    · intro j u hj
      have hc := hC j u hj
      exact (hb.cell (World.block_lt_of_cell? W0 _ hc)).trans hc
    · intro v' w' hown hgrow _ _
      have hbl : Below w.heap.size w w' := (Below.refl _ _).grown hgrow (Nat.le_refl _) (fun k hk => by simp [Value.ownBlock] at hk)
      simp only [Nat.zero_add, List.nil_append] at hown
      rcases hown.2 with ⟨rfl, h0⟩ | ⟨g, c2, cur, rfl, hg, hG, hn, hm, hz, ht⟩
      · have hk : k = [] := List.length_eq_zero_iff.1 h0
        subst hk
        exact h none 0 w.heap.size #[] w' ⟨⟨Nat.le_refl _, by simp⟩, fun hn => absurd rfl hn, Nat.le_refl _, fun j t hj => by simp at hj, fun j t _ hj => by simp at hj, hbl⟩
      · have hcells : ∀ j t, k[j]? = some t → CellsAt cur j t (f j).1 (f j).2 := by
          intro j t hj
          have hjl := (List.getElem?_eq_some_iff.1 hj).1
          have hgt := rowCells_get f k 0 j t hj
          have hcur : ∀ m, m < k.length * 4 → cur[m]? = (rowCells k f 0)[m]? := by
            intro m hm
            rw [← ht, List.getElem?_take, if_pos hm, Array.getElem?_toList]
          rw [Nat.zero_add] at hgt
          exact ⟨(hcur _ (by omega)).trans hgt.1, (hcur _ (by omega)).trans hgt.2.1, (hcur _ (by omega)).trans hgt.2.2.1, (hcur _ (by omega)).trans hgt.2.2.2⟩
        exact h _ c2 g cur w' ⟨⟨hn, by unfold maxLen at hm; omega⟩, fun _ => ⟨rfl, hG, by omega⟩, hg, fun j t hj => ⟨(f j).1, (f j).2, hcells j t hj, spread_old (hT j t hj) (hb.trans (hbl.mono hb.size))⟩, fun j t _ hj => ⟨(f j).1, (f j).2, hcells j t hj, hT j t hj⟩, hbl⟩

set_option maxHeartbeats 4000000 in
set_option maxRecDepth 100000 in
theorem spoil_any (what v : Int) (s : ByteArray) (hw1 : -9223372036854775808 ≤ what) (hw2 : what ≤ 9223372036854775807) (hs : s.size ≤ maxLen) (W0 : World) (t : T) : t.cnt ≤ 999990 → ∀ (a : Int), 0 ≤ a → a ≤ 4611686018427387904 → ∀ (w : World) (x : Value), TIn W0 0 t x → Below W0.heap.size W0 w →
    Calls Try.prog 55 #[x, .int .i64 a, .int .i64 what, .int .i64 v, .string s] w (SpoilPost W0 w (spoilT (what % 5).toNat v s t a)) := by
  induction t using T.ind with
  | _ kind s0 n k ih =>
  intro hcnt a ha0 ha1 w x hx hb
  by_cases h0 : a = 0
  · subst h0
    have h := spoil_head W0 (.mk kind s0 n k) what v s hw1 hw2 hs w x hx hb
    have he : spoilT (what % 5).toNat v s (.mk kind s0 n k) 0 = (spoilHead (what % 5).toNat v s (.mk kind s0 n k), -1) := by unfold spoilT; rw [if_pos rfl]
    rw [he]
    exact h
  · have HR : Hid (spoilT (what % 5).toNat v s (.mk kind s0 n k) a = (.mk kind s0 n (spoilL (what % 5).toNat v s k (a - 1)).1, (spoilL (what % 5).toNat v s k (a - 1)).2)) := by unfold Hid spoilT; rw [if_neg h0]
    have h0' : (a == 0) = false := by rw [beq_eq_false_iff_ne]; exact h0
    have hct : (T.mk kind s0 n k).cnt = cntL k + 1 := by rw [T.cnt]
    rw [hct] at hcnt
    have hkl : k.length ≤ 1000000 := by have := len_cnt k; omega
    have HIH : Hid (∀ t ∈ k, ∀ (a : Int), 0 ≤ a → a ≤ 4611686018427387904 → ∀ (w : World) (x : Value), TIn W0 0 t x → Below W0.heap.size W0 w → Calls Try.prog 55 #[x, .int .i64 a, .int .i64 what, .int .i64 v, .string s] w (SpoilPost W0 w (spoilT (what % 5).toNat v s t a))) := fun t ht => ih t ht (by have := cntL_mem k t ht; omega)
    clear ih hct hcnt
    obtain ⟨ao, cap, rfl, hc1, hc2, hK⟩ := hx
    simp only [T.kind, T.s, T.n, T.k] at hc1 hK ⊢
    have HK := hidIn hK
    have HB0 := hidIn hb
    clear hK hb
    generalize (what % 5).toNat = q at *
    go_enter Try.func55, Try.ntmps55
    go_wp2_with (first
      | (at_builtin; refine wpList_append_kids _ rfl _ _ rfl rfl k ao cap rfl W0 HK.out (HB0.out.trans (Below.mono (below_alloc (below_alloc (Below.refl _ _) _) _) HB0.out.size)) hkl ?_; intro ro c2 R cur w1 hrow)
      | go_in)
    obtain ⟨W, hW⟩ : ∃ W, W = (w.alloc (.cells #[.int .i64 kind, .string s0, .int .i64 n, .slice ao k.length cap] 72)).alloc (.cells #[.int .i64 0, .string ⟨#[]⟩, .int .i64 0, .slice none 0 0] 72) := ⟨_, rfl⟩
    rw [← hW] at hrow
    have HB : Hid (Below w.heap.size w W) := by rw [hW]; exact below_alloc (below_alloc (Below.refl _ _) _) _
    have HPW : Hid (Blk W w.heap.size 72 #[.int .i64 kind, .string s0, .int .i64 n, .slice ao k.length cap]) := by rw [hW]; exact blk_keep (blk_new rfl) _
    have HZW : Hid (Blk W (w.heap.size + 1) 72 zeroT) := by rw [hW]; exact blk_new (by simp)
    have HWS : Hid (W.heap.size = w.heap.size + 2) := by unfold Hid; rw [hW]; simp
    have HROW := hidIn hrow
    clear hW hrow
    go_loopw [45, 1] (fun s45 s1 wr => ∃ (i : Nat) (cr : Array Value), i ≤ k.length ∧ s45 = .int .i64 i ∧ s1 = .int .i64 (spoilL q v s (k.take i) (a - 1)).2 ∧ (k ≠ [] → Blk wr R 72 cr ∧ k.length * 4 ≤ cr.size) ∧ RowIn W0 R wr cr (rowAt q v s k (a - 1) i) ∧ OldIn W0 cr k i ∧ Below W.heap.size W wr) (fun s45 _ _ => k.length - (intOf s45).toNat)
    case atStart => exact ⟨0, cur, by omega, rfl, by rw [List.take_zero, spoilL], fun hn => (HROW.out.at_ hn).2, by have h := HROW.out.row; simpa [rowAt, spoilL] using h, HROW.out.old, HROW.out.below⟩
    case round =>
      obtain ⟨i, cr, hi, rfl, rfl, hblk, hrow, hold, hbr⟩ := hrel
      have HBLK := hidIn hblk
      have HRW := hidIn hrow
      have HOLD := hidIn hold
      have HBR := hidIn hbr
      clear hblk hrow hold hbr
      have hbd := spoilL_bd q v s (k.take i) (a - 1) (by omega)
      by_cases hlt : i < k.length
      · have hlt' : (i : Int) < (k.length : Int) := by omega
        obtain ⟨t, hti⟩ : ∃ t, k[i]? = some t := ⟨_, List.getElem?_eq_getElem hlt⟩
        have hne : k ≠ [] := by intro e; rw [e] at hlt; simp at hlt
        have HNX := hidIn (rowAt_next q v s k (a - 1) i t hti)
        have HGET := hidIn ((rowAt_get q v s k (a - 1) i hlt).trans hti)
        have HM : Hid (t ∈ k) := List.mem_of_getElem? hti
        obtain ⟨hro, _, _⟩ := HROW.out.at_ hne
        subst hro
        obtain ⟨hbk, hsz⟩ := HBLK.out hne
        generalize (spoilL q v s (k.take i) (a - 1)).2 = A at *
        by_cases hA : 0 ≤ A
        · obtain ⟨ka, kc, ⟨d0, d1, d2, d3⟩, htin⟩ := HOLD.out i t (Nat.le_refl _) hti
          have c0 : wr.cell? ⟨R, i * 4, none⟩ = _ := (hbk.cell _).trans d0
          have c1 : wr.cell? ⟨R, i * 4 + 1, none⟩ = _ := (hbk.cell _).trans d1
          have c2' : wr.cell? ⟨R, i * 4 + 2, none⟩ = _ := (hbk.cell _).trans d2
          have c3 : wr.cell? ⟨R, i * 4 + 3, none⟩ = _ := (hbk.cell _).trans d3
          have HTI := hidIn htin
          have HBK := hidIn hbk
          have HSZ := hidIn hsz
          clear htin hti d0 d1 d2 d3 hbk hsz
          go_wp2_with fail
          have HB0W := hidIn (HB0.out.trans ((HB.out.trans (HBR.out.mono HB.out.size)).mono HB0.out.size))
          refine (HIH.out t HM.out A hA (by omega) wr _ HTI.out HB0W.out).mono ?_
          rintro e w2 ⟨kb, kd, rfl, hsp, hb2⟩
          have hbd2 := spoilT_bd q v s t A hA
          generalize spoilT q v s t A = r at *
          obtain ⟨t', A2⟩ := r
          simp only [if_pos hA] at hsp hbd2 HNX ⊢
          have HBK2 : Hid (Blk w2 R 72 cr) := HBK.out.below hb2 HBK.out.lt
          have HOK : Hid (∀ m, m < k.length * 4 → ∃ u, w2.cell? ⟨R, m, none⟩ = some u) := by
            intro m hm
            have := HSZ.out
            exact ⟨cr[m]'(by omega), (HBK2.out.cell m).trans (Array.getElem?_eq_getElem _)⟩
          obtain ⟨u0, c0⟩ := HOK.out (i * 4) (by omega)
          obtain ⟨u1, c1⟩ := HOK.out (i * 4 + 1) (by omega)
          obtain ⟨u2, c2'⟩ := HOK.out (i * 4 + 2) (by omega)
          obtain ⟨u3, c3⟩ := HOK.out (i * 4 + 3) (by omega)
          have f0 := HBK2.out.frozen (i * 4)
          have f1 := HBK2.out.frozen (i * 4 + 1)
          have f2 := HBK2.out.frozen (i * 4 + 2)
          have f3 := HBK2.out.frozen (i * 4 + 3)
          have HB2 := hidIn hb2
          have HSP := hidIn hsp
          have HFIN : Hid ((k ≠ [] → Blk ((((w2.setCell ⟨R, i * 4, none⟩ (.int .i64 t'.kind)).setCell ⟨R, i * 4 + 1, none⟩ (.string t'.s)).setCell ⟨R, i * 4 + 2, none⟩ (.int .i64 t'.n)).setCell ⟨R, i * 4 + 3, none⟩ (.slice kb t'.k.length kd)) R 72 (put4 cr i (.int .i64 t'.kind) (.string t'.s) (.int .i64 t'.n) (.slice kb t'.k.length kd)) ∧ k.length * 4 ≤ (put4 cr i (.int .i64 t'.kind) (.string t'.s) (.int .i64 t'.n) (.slice kb t'.k.length kd)).size) ∧ RowIn W0 R ((((w2.setCell ⟨R, i * 4, none⟩ (.int .i64 t'.kind)).setCell ⟨R, i * 4 + 1, none⟩ (.string t'.s)).setCell ⟨R, i * 4 + 2, none⟩ (.int .i64 t'.n)).setCell ⟨R, i * 4 + 3, none⟩ (.slice kb t'.k.length kd)) (put4 cr i (.int .i64 t'.kind) (.string t'.s) (.int .i64 t'.n) (.slice kb t'.k.length kd)) ((rowAt q v s k (a - 1) i).set i t') ∧ Below W.heap.size W ((((w2.setCell ⟨R, i * 4, none⟩ (.int .i64 t'.kind)).setCell ⟨R, i * 4 + 1, none⟩ (.string t'.s)).setCell ⟨R, i * 4 + 2, none⟩ (.int .i64 t'.n)).setCell ⟨R, i * 4 + 3, none⟩ (.slice kb t'.k.length kd))) := by
            have hbase := HROW.out.base
            have hRW : W0.heap.size ≤ R := by have := HB0.out.size; have := HB.out.size; omega
            refine ⟨fun _ => ⟨blk_put4 HBK2.out i _ _ _ _, by rw [put4_size]; exact HSZ.out⟩, ?_, ?_⟩
            · have h2 : RowIn W0 R w2 cr (rowAt q v s k (a - 1) i) := HRW.out.next (fun b o c _ hc => (HB2.out.cell (p := ⟨b, o, none⟩) (World.block_lt_of_cell? _ _ hc)).trans hc) hRW
              have h3 := h2.put HGET.out (by have := HSZ.out; omega) (HSP.out.low (by have := HBK.out.lt; omega))
              exact h3.next (fun b o c hb hc => (cell_set4 hb).trans hc) hRW
            · have h4 : Below W.heap.size W w2 := HBR.out.trans (HB2.out.mono HBR.out.size)
              exact (((h4.setCell hbase _).setCell hbase _).setCell hbase _).setCell hbase _
          clear hb2 hsp
          unfold four
          go_wp2_with fail
          go_roundw
          case rel => exact ⟨i + 1, _, by omega, by go_num, by rw [HNX.out.2], HFIN.out.1, by rw [HNX.out.1]; exact HFIN.out.2.1, HOLD.out.put _ _ _ _, HFIN.out.2.2⟩
          case measure => simp [intOf]; omega
        · have hA' : A < 0 := by omega
          go_wp2_with fail
          go_roundw
          case rel =>
            have hn := HNX.out
            simp only [if_neg hA] at hn
            exact ⟨i + 1, cr, by omega, by go_num, by rw [hn.2], HBLK.out, by rw [hn.1]; exact HRW.out, fun j t hj ht => HOLD.out j t (by omega) ht, HBR.out⟩
          case measure => simp [intOf]; omega
      · have hle : i = k.length := by omega
        subst hle
        have hLk : rowAt q v s k (a - 1) k.length = (spoilL q v s k (a - 1)).1 := by simp [rowAt]
        rw [List.take_length] at hbd ⊢
        have hlen := spoilL_len q v s k (a - 1)
        have HRW2 : Hid (RowIn W0 R wr cr (spoilL q v s k (a - 1)).1) := by unfold Hid; rw [← hLk]; exact HRW.out
        have HLEN := hidIn hlen
        clear hLk HRW hlen
        generalize spoilL q v s k (a - 1) = r at *
        obtain ⟨L, A⟩ := r
        simp only at hbd HRW2 HLEN HR ⊢
        have hP := HPW.out.below HBR.out HPW.out.lt
        have hZ := HZW.out.below HBR.out HZW.out.lt
        have c0 := hP.cell 0
        have c1 := hP.cell 1
        have c2' := hP.cell 2
        have c3 := hP.cell 3
        have e0 := hP.frozen 0
        have e1 := hP.frozen 1
        have e2 := hP.frozen 2
        have e3 := hP.frozen 3
        obtain ⟨⟨z0, z1, z2, z3⟩, f0, f1, f2, f3⟩ := blk_zero hZ
        have hsz : w.heap.size + 1 ≠ w.heap.size := by omega
        have HZ := hidIn hZ
        clear hP hZ
        go_wp2_with fail
        refine bodyPost_ret (results_cell_slot rfl _ _ (w.heap.size + 1) 72 #[.int .i64 kind, .string s0, .int .i64 n, .slice ro k.length c2] (0, 0) _ rfl ?blk Try.underlying72 rfl infoT) rfl ?post
        case blk => change Blk _ _ _ _; (with_reducible refine blk_set4' ?_ _ _ _ _); (repeat first | with_reducible exact HZ.out | with_reducible refine blk_other ?_ hsz _ _)
        case post =>
          rw [HR.out]
          have hb3 : Below w.heap.size w wr := HB.out.trans (HBR.out.mono HB.out.size)
          refine ⟨ro, c2, ?_, ?_, ?_⟩
          · show _ = Ending.returned (.tuple #[.agg #[.int .i64 kind, .string s0, .int .i64 n, .slice ro L.length c2], .int .i64 A])
            rw [HLEN.out]
            rfl
          · intro X hX
            have hcap := HROW.out.cap
            refine ⟨ro, c2, rfl, by show L.length ≤ c2; rw [HLEN.out]; exact hcap.1, hcap.2, ?_⟩
            have hbase := HROW.out.base
            have hws := HWS.out
            have hold : ∀ b o c, (b < W0.heap.size ∨ R ≤ b) → wr.cell? ⟨b, o, none⟩ = some c → X.cell? ⟨b, o, none⟩ = some c := by
              intro b o c hb hc
              have hW0 := HB0.out.size
              refine hX b o c (by omega) ?_
              rw [World.cell?_setCell_other _ _ _ _ (by intro e; injection e with e; omega), World.cell?_setCell_other _ _ _ _ (by intro e; injection e with e; omega), World.cell?_setCell_other _ _ _ _ (by intro e; injection e with e; omega), World.cell?_setCell_other _ _ _ _ (by intro e; injection e with e; omega), World.cell?_setCell_other _ _ _ _ (by intro e; injection e with e; omega)]
              exact hc
            refine KAt_mk (fun j t hj => ?_)
            have hj' : L[j]? = some t := hj
            have hne : k ≠ [] := by
              intro e
              have h1 := (List.getElem?_eq_some_iff.1 hj').1
              rw [HLEN.out, e] at h1
              simp at h1
            obtain ⟨hro, _, _⟩ := HROW.out.at_ hne
            obtain ⟨hbk, _⟩ := HBLK.out hne
            obtain ⟨ka, kc, ⟨d0, d1, d2, d3⟩, hsp⟩ := HRW2.out j t hj'
            refine ⟨R, 0, hro, ?_⟩
            rw [Nat.zero_add, Nat.zero_add]
            exact TAt_mk (hsp X (fun b o c hb hc => hold b o c (by omega) hc)) (Nat.zero_le _) (hold _ _ _ (.inr (Nat.le_refl _)) ((hbk.cell _).trans d0)) (hold _ _ _ (.inr (Nat.le_refl _)) ((hbk.cell _).trans d1)) (hold _ _ _ (.inr (Nat.le_refl _)) ((hbk.cell _).trans d2)) (hold _ _ _ (.inr (Nat.le_refl _)) ((hbk.cell _).trans d3))
          · (repeat first | with_reducible exact hb3 | with_reducible refine below_set ?_ (by omega) _ _)

end Go.Proofs.Ytngjlkdpplmpaaa
namespace Go.Proofs.Ytngjlkdpplmpaaa
open Go.RowKit
set_option linter.unusedVariables false

def SpoiltPost (W0 w : World) (t : T) (q : Nat) (v : Int) (s : ByteArray) (e : Ending) (w' : World) : Prop :=
  ∃ a ka kc, e = .returned (.agg (four (spoilT q v s t a).1 ka kc)) ∧ Spread W0 w.heap.size w' (spoilT q v s t a).1 (.agg (four (spoilT q v s t a).1 ka kc)) ∧ Below w.heap.size w w'

set_option maxHeartbeats 2000000 in
set_option maxRecDepth 100000 in
theorem spoilt_any (t : T) (at' what v : Int) (s : ByteArray) (ha1 : -9223372036854775808 ≤ at') (ha2 : at' ≤ 9223372036854775807) (hw1 : -9223372036854775808 ≤ what) (hw2 : what ≤ 9223372036854775807) (hs : s.size ≤ maxLen) (hcnt : t.cnt ≤ 999990) (hn1 : 1 ≤ t.nodes) (hn2 : t.nodes ≤ 1000000) (W0 w : World) (x : Value) (hx : TIn W0 0 t x) (hb : Below W0.heap.size W0 w) :
    Calls Try.prog 32 #[x, .int .i64 at', .int .i64 what, .int .i64 v, .string s] w (SpoiltPost W0 w t (what % 5).toNat v s) := by
  have HB0 := hidIn hb
  clear hb
  have HX := hidIn hx
  obtain ⟨ao, cap, rfl, _, _, _⟩ := hx
  have HCNT := hidIn hcnt
  have HSS := hidIn hs
  clear hs hcnt
  go_enter Try.func32, Try.ntmps32
  go_wp2_with fail
  obtain ⟨W, hW⟩ : ∃ W, W = (w.alloc (.cells #[.int .i64 t.kind, .string t.s, .int .i64 t.n, .slice ao t.k.length cap] 72)).alloc (.cells #[.int .i64 0, .string ⟨#[]⟩, .int .i64 0, .slice none 0 0] 72) := ⟨_, rfl⟩
  have HB : Hid (Below w.heap.size w W) := by rw [hW]; exact below_alloc (below_alloc (Below.refl _ _) _) _
  have HP : Hid (Blk W w.heap.size 72 #[.int .i64 t.kind, .string t.s, .int .i64 t.n, .slice ao t.k.length cap]) := by rw [hW]; exact blk_keep (blk_new rfl) _
  have HZ : Hid (Blk W (w.heap.size + 1) 72 zeroT) := by rw [hW]; exact blk_new (by simp)
  have HWS : Hid (W.heap.size = w.heap.size + 2) := by unfold Hid; rw [hW]; simp
  have HXW := hidIn (HX.out.below (HB0.out.trans (HB.out.mono HB0.out.size)))
  rw [← hW]
  clear hW
  refine (refSize_any t W _ HXW.out hn2).mono ?_
  rintro e w2 ⟨rfl, hb2⟩
  have hP := HP.out.below hb2 HP.out.lt
  have hZ := HZ.out.below hb2 HZ.out.lt
  have c0 := hP.cell 0
  have c1 := hP.cell 1
  have c2 := hP.cell 2
  have c3 := hP.cell 3
  obtain ⟨⟨z0, z1, z2, z3⟩, f0, f1, f2, f3⟩ := blk_zero hZ
  have HB2 := hidIn hb2
  have hn1' : (1 : Int) ≤ (t.nodes : Int) := by omega
  have hn2' : (t.nodes : Int) ≤ 4611686018427387904 := by omega
  have hm0 := Int.emod_nonneg at' (show (t.nodes : Int) ≠ 0 by omega)
  have hm1 := Int.emod_lt_of_pos at' (show 0 < (t.nodes : Int) by omega)
  have hsz2 : w.heap.size + 2 ≤ w2.heap.size := by have := HWS.out; have := hb2.size; omega
  clear hb2 hP hZ
  go_wp2_with fail
  obtain ⟨Y, hY⟩ : ∃ Y, Y = w2.alloc (.cells #[.int .i64 0, .string ⟨#[]⟩, .int .i64 0, .slice none 0 0] 72) := ⟨_, rfl⟩
  have HBY : Hid (Below W.heap.size W Y) := by rw [hY]; exact below_alloc HB2.out _
  have hYZ : Blk Y w2.heap.size 72 zeroT := by rw [hY]; exact blk_new rfl
  have HYZ := hidIn hYZ
  have hYP := HP.out.below HBY.out HP.out.lt
  rw [← hY]
  clear hY c0 c1 c2 c3 z0 z1 z2 z3 f0 f1 f2 f3
  have hYc : ∀ k, k < 4 → ∀ X, X = Y ∨ X = Y.drew → X.cell? ⟨w.heap.size, k, none⟩ = (#[.int .i64 t.kind, .string t.s, .int .i64 t.n, .slice ao t.k.length cap] : Array Value)[k]? := by
    rintro k _ X (rfl | rfl)
    · exact hYP.cell k
    · exact hYP.cell k
  have c0 := hYP.cell 0
  have c1 := hYP.cell 1
  have c2 := hYP.cell 2
  have c3 := hYP.cell 3
  clear hYc hYP hYZ
  have HC : Hid (∀ X, Below Y.heap.size Y X → Calls Try.prog 55 #[.agg #[.int .i64 t.kind, .string t.s, .int .i64 t.n, .slice ao t.k.length cap], .int .i64 (at' % (t.nodes : Int)), .int .i64 what, .int .i64 v, .string s] X (fun e w5 => ∃ ka kc t' A, e = .returned (.tuple #[.agg #[.int .i64 t'.kind, .string t'.s, .int .i64 t'.n, .slice ka t'.k.length kc], .int .i64 A]) ∧ t' = (spoilT (what % 5).toNat v s t (at' % (t.nodes : Int))).1 ∧ Spread W0 Y.heap.size w5 t' (.agg (four t' ka kc)) ∧ Below Y.heap.size Y w5)) := by
    intro X hX
    have hwX : Below W0.heap.size W0 X := HB0.out.trans ((HB.out.trans ((HBY.out.trans (hX.mono HBY.out.size)).mono HB.out.size)).mono HB0.out.size)
    refine (spoil_any what v s hw1 hw2 HSS.out W0 t HCNT.out _ hm0 (by omega) X _ HX.out hwX).mono ?_
    rintro e w5 ⟨ka, kc, rfl, hsp, hb5⟩
    exact ⟨ka, kc, _, _, rfl, rfl, hsp.low hX.size, hX.trans (hb5.mono hX.size)⟩
  have hltY : w.heap.size + 1 < Y.heap.size := by have := HWS.out; have := HBY.out.size; omega
  have hlt2 : w2.heap.size < Y.heap.size := HYZ.out.lt
  have HZY : Hid (Blk Y (w.heap.size + 1) 72 zeroT) := HZ.out.below HBY.out HZ.out.lt
  clear HX HXW HCNT HSS
  have hne : w.heap.size + 1 ≠ w2.heap.size := by have := HWS.out; have := HB2.out.size; omega
  go_region_with (first | (go_at_call 9; refine calls_same (within_any _ _ _ hn1' hn2' ha1 ha2) ?_) | (go_at_call 55; refine (HC.out _ (by first | exact below_drew (Below.refl _ _) | exact Below.refl _ _)).mono ?_; rintro e w5 ⟨ka, kc, t', A, rfl, hteq, hsp, hb5⟩; have hZ5 := HYZ.out.below hb5 HYZ.out.lt; have hR5 := HZY.out.below hb5 HZY.out.lt; obtain ⟨⟨z0, z1, z2, z3⟩, f0, f1, f2, f3⟩ := blk_zero hZ5; obtain ⟨⟨y0, y1, y2, y3⟩, e0, e1, e2, e3⟩ := blk_zero hR5; have HR5 := hidIn hR5; have HSP := hidIn hsp; have HB5 := hidIn hb5; have HTE := hidIn hteq; clear hZ5 hR5 hsp hb5 hteq))
  all_goals
    go_wp2_with fail
    refine bodyPost_ret (results_cell_row rfl _ _ (w.heap.size + 1) 72 #[.int .i64 t'.kind, .string t'.s, .int .i64 t'.n, .slice ka t'.k.length kc] (0, 0) _ rfl ?blk Try.underlying72 rfl infoT) rfl ?post
    case blk => change Blk _ _ _ _; (with_reducible refine blk_set4' ?_ _ _ _ _); (repeat first | with_reducible exact HR5.out | with_reducible refine blk_other ?_ hne _ _)
    case post =>
      have hte := HTE.out
      refine ⟨at' % (t.nodes : Int), ka, kc, ?_, ?_, ?_⟩
      · rw [← hte]; rfl
      · rw [← hte]
        have hW0 := HB0.out.size
        intro X hX
        refine HSP.out X (fun b o c hb hc => hX b o c (by omega) ?_)
        rw [World.cell?_setCell_other _ _ _ _ (by intro e; injection e with e; omega), World.cell?_setCell_other _ _ _ _ (by intro e; injection e with e; omega), World.cell?_setCell_other _ _ _ _ (by intro e; injection e with e; omega), World.cell?_setCell_other _ _ _ _ (by intro e; injection e with e; omega), World.cell?_setCell_other _ _ _ _ (by intro e; injection e with e; omega), World.cell?_setCell_other _ _ _ _ (by intro e; injection e with e; omega), World.cell?_setCell_other _ _ _ _ (by intro e; injection e with e; omega), World.cell?_setCell_other _ _ _ _ (by intro e; injection e with e; omega)]
        exact hc
      · have hb3 : Below w.heap.size w w5 := HB.out.trans ((HBY.out.trans (HB5.out.mono HBY.out.size)).mono HB.out.size)
        (repeat first | with_reducible exact hb3 | with_reducible refine below_set ?_ (by omega) _ _)

end Go.Proofs.Ytngjlkdpplmpaaa
namespace Go.Proofs.Ytngjlkdpplmpaaa
open Go.RowKit
set_option linter.unusedVariables false

def SomePost (w : World) (e : Ending) (w' : World) : Prop :=
  ∃ (o : O) (ka : Option Addr) (kc : Nat), e = .returned (.tuple #[o.val, .agg #[.int .i64 (plain o).kind, .string (plain o).s, .int .i64 (plain o).n, .slice ka (plain o).k.length kc]]) ∧ o.Ok ∧ o.nodes ≤ 1000 ∧ TIn w' w.heap.size (plain o) (.agg (four (plain o) ka kc)) ∧ Below w.heap.size w w'
theorem tdiv_in (a b : Int) (hb : 2 ≤ b) (h1 : -9223372036854775808 ≤ a) (h2 : a ≤ 9223372036854775807) : -9223372036854775808 ≤ a.tdiv b ∧ a.tdiv b ≤ 9223372036854775807 := by
  by_cases h : 0 ≤ a
  · have h3 := Int.tdiv_nonneg h (by omega : 0 ≤ b)
    have h4 : a.tdiv b ≤ a := Int.tdiv_le_self b h
    omega
  · have h3 := Int.tdiv_nonneg (by omega : 0 ≤ -a) (by omega : 0 ≤ b)
    have h4 : (-a).tdiv b ≤ -a := Int.tdiv_le_self b (by omega)
    rw [Int.neg_tdiv] at h3 h4
    omega
/-- A slot, and a struct's cell, as results. -/
theorem results_slot_cell {P : Program} {fn : Func} {p q : Tmp} {ty : TypeId} (h : fn.results = #[.tmp q, .cell p ty]) (tmps : Array Value) (w : World) (g : Nat) (t : TypeId) (cs : Array Value) (fr : Nat × Nat) (d : TypeDesc)
    (hp : tmps.getD p undef = .pointer (some ⟨g, 0, none⟩)) (hg : w.heap[g]? = some (.cells cs t fr))
    (hu : P.underlying ty = some d) (hd : (match d with | .struct _ | .array _ _ => true | _ => false) = true) (hi : (P.info? ty).map (·.size) = some cs.size) :
    (results fn tmps).run P w = .ok (.tuple #[tmps.getD q undef, .agg cs]) w := by
  have hp' : tmps[p]?.getD undef = .pointer (some ⟨g, 0, none⟩) := by simpa using hp
  simp [results, h, hp', asAddr, run_loadVar_row w g t ty cs fr d hg hu hd hi]

end Go.Proofs.Ytngjlkdpplmpaaa
namespace Go.Proofs.Ytngjlkdpplmpaaa.Vl
open Go.RowKit Wd Cn
set_option linter.unusedVariables false

theorem ints_below {w w' : World} {a : Option Addr} {len : Nat} {f : Nat → Int} (h : HasInts w a len f) (hb : Below w.heap.size w w') : HasInts w' a len f := by
  intro i hi
  obtain ⟨b, o, e, hl, hc, h1⟩ := h i hi
  exact ⟨b, o, e, Nat.lt_of_lt_of_le hl hb.size, (hb.cell (p := ⟨b, o + i, none⟩) hl).trans hc, h1⟩
/-- The document's world, just made. -/
theorem bo_new {w0 W : World} {p f c : Nat} {K : KW} (h : In w0 W p f c K) : Bo w0 (W.alloc (.cells #[.slice none 0 0, .slice none 0 0] 109)) p f c W.heap.size W.heap.size K ⟨[], []⟩ := by
  refine ⟨h.step (below_alloc (Below.refl _ _) _), ⟨.slice none 0 0, .slice none 0 0, heap_alloc_new _ _, World.ownsRow_nil _ _ _ _, World.ownsRow_nil _ _ _ _, Nat.le_refl _⟩, h.below.size, by simp⟩

end Go.Proofs.Ytngjlkdpplmpaaa.Vl
