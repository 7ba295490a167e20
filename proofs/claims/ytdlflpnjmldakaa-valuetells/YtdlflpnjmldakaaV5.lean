/- The document's own answer: what a number's tree is, by what is known. -/
import Derived.Test.YtdlflpnjmldakaaV4
import Derived.Test.YtdlflpnjmldakaaMakerObs
namespace Go.Proofs.Ytdlflpnjmldakaa.Vl
open Go.RowKit Wd Cn
set_option linter.unusedVariables false

def RvCalls (o : O) : Prop := ∀ (w : World) (v : Value) (B r : Nat) (K : KW) (vF vC : Value) (d : Int), TIn w 0 (plain o) v → RIn w B r K vF vC → K.F.length ≤ 1000000 → KW.Vals K → dayOk d →
  Calls Try.prog 17 #[v, .int .i64 d, .pointer (some ⟨r, 0, none⟩)] w fun e w' => e = ofE (rk K d o) ∧ Below w.heap.size w w'

set_option maxHeartbeats 1000000 in
set_option maxRecDepth 100000 in
theorem rv_const (n : Int) : RvCalls (.const n) := by
  intro w v B r K vF vC d ht hr hl hv hd
  obtain ⟨a, cap, rfl, h1, h2, h3⟩ := ht
  clear h3 hr hv hl
  have HR : Hid (rk K d (.const n) = ⟨n, true, 0⟩) := rfl
  simp only [plain, T.kind, T.s, T.n, T.k, List.length_nil]
  go_enter Try.func17, Try.ntmps17
  go_wp2_with fail
  go_ret3
  rw [HR.out]
  exact ⟨rfl, below_alloc (Below.refl _ _) _⟩

set_option maxHeartbeats 1000000 in
set_option maxRecDepth 100000 in
theorem rv_fix (s : ByteArray) : RvCalls (.fix s) := by
  intro w v B r K vF vC d ht hr hl hv hd
  obtain ⟨a, cap, rfl, h1, h2, h3⟩ := ht
  have HR : Hid (rk K d (.fix s) = ⟨(K.fixed (s, d)).getD 0, (K.fixed (s, d)).isSome, 0⟩) := rfl
  simp only [plain, T.kind, T.s, T.n, T.k, List.length_nil]
  have HB : Hid (Below w.heap.size w (w.alloc (.cells #[.int .i64 12, .string s, .int .i64 0, .slice a 0 cap] 52))) := below_alloc (Below.refl _ _) _
  have HF := hidV (refFixed_any _ B r K vF vC (hr.below HB.out) s d hl)
  clear h3 hr hv hl
  generalize (K.fixed (s, d)).getD 0 = n at *
  generalize (K.fixed (s, d)).isSome = q at *
  go_enter Try.func17, Try.ntmps17
  go_wp2_with fail
  refine HF.out.mono ?_
  rintro e w1 ⟨rfl, hb⟩
  have HB1 := hidV (HB.out.trans (hb.mono HB.out.size))
  clear hb
  go_wp2_with fail
  go_ret3
  rw [HR.out]
  exact ⟨rfl, HB1.out⟩

set_option maxHeartbeats 2000000 in
set_option maxRecDepth 100000 in
theorem rv_neg (o : O) (hf : formB o = true) (ih : RvCalls o) : RvCalls (.neg o) := by
  intro w v B r K vF vC d ht hr hl hv hd
  obtain ⟨a, cap, rfl, h1, h2, h3⟩ := ht
  have HG := hidV (rk_good hv d o hf)
  have HR : Hid (rk K d (.neg o) = otherR (rk K d o)) := rfl
  simp only [plain, T.kind, T.s, T.n, T.k, List.length_singleton] at h1 h3 ⊢
  have HB : Hid (Below w.heap.size w (w.alloc (.cells #[.int .i64 14, .string ⟨#[]⟩, .int .i64 0, .slice a 1 cap] 52))) := below_alloc (Below.refl _ _) _
  obtain ⟨b, o', ka, ca, rfl, c0, c1, c2, c3, t0⟩ := (h3.below HB.out).cells (j := 0) (t := plain o) rfl
  simp only [Nat.zero_mul, Nat.add_zero] at c0 c1 c2 c3
  have HI := hidV (ih _ _ B r K vF vC d t0 (hr.below HB.out) hl hv hd)
  have HBLK : Hid ((w.alloc (.cells #[.int .i64 14, .string ⟨#[]⟩, .int .i64 0, .slice (some ⟨b, o', none⟩) 1 cap] 52)).heap[w.heap.size]? = some (.cells #[.int .i64 14, .string ⟨#[]⟩, .int .i64 0, .slice (some ⟨b, o', none⟩) 1 cap] 52)) := heap_alloc_new _ _
  clear h3 hr hv hl t0 ih
  generalize rk K d o = x at *
  go_enter Try.func17, Try.ntmps17
  go_wp2_with fail
  refine HI.out.mono ?_
  rintro e w1 ⟨rfl, hb⟩
  have HB1 := hidV (HB.out.trans (hb.mono HB.out.size))
  have HBLK1 := hidV ((hb.block _ (by simp)).trans HBLK.out)
  have k0 : w1.cell? ⟨w.heap.size, 0, none⟩ = some (.int .i64 14) := cell_of_row _ _ _ _ _ _ HBLK1.out
  clear hb c0 c1 c2 c3 HI
  obtain ⟨n, q, e⟩ := x
  unfold ofE
  by_cases he : e = 0
  · subst he
    have HQ : Hid (otherR ⟨n, q, 0⟩ = ⟨-n, q, 0⟩) := by
      unfold Hid otherR
      cases q
      · have := HG.out.unk rfl
        simp only at this
        subst this
        rfl
      · have := HG.out.val rfl
        simp only at this
        simp [negR, this, inR]
    have hn1 : -9223372036854775807 ≤ n ∧ n ≤ 9223372036854775807 := by
      cases q
      · have := HG.out.unk rfl
        simp only at this
        omega
      · have := HG.out.val rfl
        simp only at this
        rw [vB_iff] at this
        omega
    obtain ⟨hn1, hn2⟩ := hn1
    go_wp2_with fail
    go_ret3
    rw [HR.out, HQ.out]
    exact ⟨rfl, HB1.out⟩
  · have he' : (e != 0) = true := by simpa using he
    have HQ : Hid (otherR ⟨n, q, e⟩ = ⟨0, false, e⟩) := by
      unfold Hid otherR
      obtain ⟨h1, h2⟩ := HG.out.err he
      simp only at h1 h2
      subst h1 h2
      simp
    go_wp2_with fail
    go_ret3
    rw [HR.out, HQ.out]
    exact ⟨rfl, HB1.out⟩

set_option maxHeartbeats 4000000 in
set_option maxRecDepth 100000 in
theorem rv_add (l r' : O) (hfl : formB l = true) (hfr : formB r' = true) (ihl : RvCalls l) (ihr : RvCalls r') : RvCalls (.add l r') := by
  intro w v B r K vF vC d ht hr hl hv hd
  obtain ⟨a, cap, rfl, h1, h2, h3⟩ := ht
  have HGL := hidV (rk_good hv d l hfl)
  have HGR := hidV (rk_good hv d r' hfr)
  have HR : Hid (rk K d (.add l r') = bothR (rk K d l) (rk K d r') addR) := rfl
  simp only [plain, T.kind, T.s, T.n, T.k, List.length_cons, List.length_nil] at h1 h3 ⊢
  have HB : Hid (Below w.heap.size w (w.alloc (.cells #[.int .i64 13, .string ⟨#[]⟩, .int .i64 0, .slice a 2 cap] 52))) := below_alloc (Below.refl _ _) _
  obtain ⟨b, o', ka, ca, rfl, c0, c1, c2, c3, t0⟩ := (h3.below HB.out).cells (j := 0) (t := plain l) rfl
  obtain ⟨b', o2, kb, cb, e, d0, d1, d2, d3, t1⟩ := (h3.below HB.out).cells (j := 1) (t := plain r') rfl
  injection e with e
  injection e with e1 e2
  subst e1 e2
  simp only [Nat.zero_mul, Nat.add_zero, Nat.one_mul] at c0 c1 c2 c3 d0 d1 d2 d3
  have HI := hidV (ihl _ _ B r K vF vC d t0 (hr.below HB.out) hl hv hd)
  have HI2 := hidV (fun w' (vv : Value) (hw : Below w.heap.size w w') (h : TIn w' 0 (plain r') vv) => ihr w' vv B r K vF vC d h (hr.below hw) hl hv hd)
  have HBLK : Hid ((w.alloc (.cells #[.int .i64 13, .string ⟨#[]⟩, .int .i64 0, .slice (some ⟨b, o', none⟩) 2 cap] 52)).heap[w.heap.size]? = some (.cells #[.int .i64 13, .string ⟨#[]⟩, .int .i64 0, .slice (some ⟨b, o', none⟩) 2 cap] 52)) := heap_alloc_new _ _
  have HT1 := hidV t1
  have HLT := hidV (World.block_lt_of_cell? _ _ d0)
  have HD : Hid (∀ w', Below (w.alloc (.cells #[.int .i64 13, .string ⟨#[]⟩, .int .i64 0, .slice (some ⟨b, o', none⟩) 2 cap] 52)).heap.size (w.alloc (.cells #[.int .i64 13, .string ⟨#[]⟩, .int .i64 0, .slice (some ⟨b, o', none⟩) 2 cap] 52)) w' → w'.cell? ⟨b, o' + 4, none⟩ = some (.int .i64 (plain r').kind) ∧ w'.cell? ⟨b, o' + 4 + 1, none⟩ = some (.string (plain r').s) ∧ w'.cell? ⟨b, o' + 4 + 2, none⟩ = some (.int .i64 (plain r').n) ∧ w'.cell? ⟨b, o' + 4 + 3, none⟩ = some (.slice kb (plain r').k.length cb)) := fun w' h =>
    ⟨(h.cell (p := ⟨b, o' + 4, none⟩) HLT.out).trans d0, (h.cell (p := ⟨b, o' + 4 + 1, none⟩) HLT.out).trans d1, (h.cell (p := ⟨b, o' + 4 + 2, none⟩) HLT.out).trans d2, (h.cell (p := ⟨b, o' + 4 + 3, none⟩) HLT.out).trans d3⟩
  clear h3 hr hv hl t0 t1 d0 d1 d2 d3 ihl ihr
  generalize rk K d l = x at *
  generalize rk K d r' = y at *
  go_enter Try.func17, Try.ntmps17
  go_wp2_with fail
  refine HI.out.mono ?_
  rintro e w1 ⟨rfl, hb⟩
  have HB1 := hidV (HB.out.trans (hb.mono HB.out.size))
  have HBLK1 := hidV ((hb.block _ (by simp)).trans HBLK.out)
  have k0 : w1.cell? ⟨w.heap.size, 0, none⟩ = some (.int .i64 13) := cell_of_row _ _ _ _ _ _ HBLK1.out
  have k3 : w1.cell? ⟨w.heap.size, 3, none⟩ = some (.slice (some ⟨b, o', none⟩) 2 cap) := cell_of_row _ _ _ _ _ _ HBLK1.out
  obtain ⟨d0, d1, d2, d3⟩ := HD.out w1 hb
  have HT2 := hidV (HT1.out.below hb)
  clear hb c0 c1 c2 c3 HI HD HT1
  obtain ⟨n, q, e⟩ := x
  unfold ofE
  by_cases he : e = 0
  rotate_left
  · have he' : (e != 0) = true := by simpa using he
    have HQ : Hid (bothR ⟨n, q, e⟩ y addR = ⟨0, false, e⟩) := by
      unfold Hid bothR
      obtain ⟨h1, h2⟩ := HGL.out.err he
      simp only at h1 h2
      subst h1 h2
      simp [he]
    go_wp2_with fail
    go_ret3
    rw [HR.out, HQ.out]
    exact ⟨rfl, HB1.out⟩
  subst he
  go_wp2_with fail
  refine (HI2.out w1 _ HB1.out HT2.out).mono ?_
  rintro e w2 ⟨rfl, hb⟩
  have HB2 := hidV (HB1.out.trans (hb.mono HB1.out.size))
  have HBLK2 := hidV ((hb.block _ (Array.getElem?_eq_some_iff.1 HBLK1.out).1).trans HBLK1.out)
  have k0 : w2.cell? ⟨w.heap.size, 0, none⟩ = some (.int .i64 13) := cell_of_row _ _ _ _ _ _ HBLK2.out
  clear hb d0 d1 d2 d3 HI2 HT2 k3
  obtain ⟨m, z, e⟩ := y
  unfold ofE
  by_cases he : e = 0
  rotate_left
  · have he' : (e != 0) = true := by simpa using he
    have HQ : Hid (bothR ⟨n, q, 0⟩ ⟨m, z, e⟩ addR = ⟨0, false, e⟩) := by
      unfold Hid bothR
      obtain ⟨h1, h2⟩ := HGR.out.err he
      simp only at h1 h2
      subst h1 h2
      simp [he]
    go_wp2_with fail
    go_ret3
    rw [HR.out, HQ.out]
    exact ⟨rfl, HB2.out⟩
  subst he
  have HU : Hid ((q = false ∨ z = false) → bothR ⟨n, q, 0⟩ ⟨m, z, 0⟩ addR = ⟨0, false, 0⟩) := by
    intro h
    rcases h with rfl | rfl <;> simp [bothR]
  cases q
  · have HQ := hidV (HU.out (.inl rfl))
    go_wp2_with fail
    go_ret3
    rw [HR.out, HQ.out]
    exact ⟨rfl, HB2.out⟩
  cases z
  · have HQ := hidV (HU.out (.inr rfl))
    go_wp2_with fail
    go_ret3
    rw [HR.out, HQ.out]
    exact ⟨rfl, HB2.out⟩
  have HQ : Hid (bothR ⟨n, true, 0⟩ ⟨m, true, 0⟩ addR = inR (addR n m)) := by unfold Hid; simp [bothR]
  obtain ⟨ok, hok⟩ : ∃ ok, (addR n m).2 = ok := ⟨_, rfl⟩
  have HC := hidV (refAdd_any n m)
  rw [hok] at HC
  have HIN : Hid (inR (addR n m) = if ok = true then ⟨(addR n m).1, true, 0⟩ else ⟨0, false, 6⟩) := by unfold Hid inR; rw [hok]
  clear hok
  generalize (addR n m).1 = y at *
  rcases Int.lt_or_le n m with hnm | hnm
  all_goals
    cases ok
    all_goals
      go_wp2_with fail
      refine calls_same (HC.out _) ?_
      go_wp2_with fail
      go_ret3
      rw [HR.out, HQ.out, HIN.out]
      exact ⟨rfl, HB2.out⟩


set_option maxHeartbeats 4000000 in
set_option maxRecDepth 100000 in
theorem rv_mul (l r' : O) (hfl : formB l = true) (hfr : formB r' = true) (ihl : RvCalls l) (ihr : RvCalls r') : RvCalls (.mul l r') := by
  intro w v B r K vF vC d ht hr hl hv hd
  obtain ⟨a, cap, rfl, h1, h2, h3⟩ := ht
  have HGL := hidV (rk_good hv d l hfl)
  have HGR := hidV (rk_good hv d r' hfr)
  have HR : Hid (rk K d (.mul l r') = bothR (rk K d l) (rk K d r') mulR) := rfl
  simp only [plain, T.kind, T.s, T.n, T.k, List.length_cons, List.length_nil] at h1 h3 ⊢
  have HB : Hid (Below w.heap.size w (w.alloc (.cells #[.int .i64 15, .string ⟨#[]⟩, .int .i64 0, .slice a 2 cap] 52))) := below_alloc (Below.refl _ _) _
  obtain ⟨b, o', ka, ca, rfl, c0, c1, c2, c3, t0⟩ := (h3.below HB.out).cells (j := 0) (t := plain l) rfl
  obtain ⟨b', o2, kb, cb, e, d0, d1, d2, d3, t1⟩ := (h3.below HB.out).cells (j := 1) (t := plain r') rfl
  injection e with e
  injection e with e1 e2
  subst e1 e2
  simp only [Nat.zero_mul, Nat.add_zero, Nat.one_mul] at c0 c1 c2 c3 d0 d1 d2 d3
  have HI := hidV (ihl _ _ B r K vF vC d t0 (hr.below HB.out) hl hv hd)
  have HI2 := hidV (fun w' (vv : Value) (hw : Below w.heap.size w w') (h : TIn w' 0 (plain r') vv) => ihr w' vv B r K vF vC d h (hr.below hw) hl hv hd)
  have HBLK : Hid ((w.alloc (.cells #[.int .i64 15, .string ⟨#[]⟩, .int .i64 0, .slice (some ⟨b, o', none⟩) 2 cap] 52)).heap[w.heap.size]? = some (.cells #[.int .i64 15, .string ⟨#[]⟩, .int .i64 0, .slice (some ⟨b, o', none⟩) 2 cap] 52)) := heap_alloc_new _ _
  have HT1 := hidV t1
  have HLT := hidV (World.block_lt_of_cell? _ _ d0)
  have HD : Hid (∀ w', Below (w.alloc (.cells #[.int .i64 15, .string ⟨#[]⟩, .int .i64 0, .slice (some ⟨b, o', none⟩) 2 cap] 52)).heap.size (w.alloc (.cells #[.int .i64 15, .string ⟨#[]⟩, .int .i64 0, .slice (some ⟨b, o', none⟩) 2 cap] 52)) w' → w'.cell? ⟨b, o' + 4, none⟩ = some (.int .i64 (plain r').kind) ∧ w'.cell? ⟨b, o' + 4 + 1, none⟩ = some (.string (plain r').s) ∧ w'.cell? ⟨b, o' + 4 + 2, none⟩ = some (.int .i64 (plain r').n) ∧ w'.cell? ⟨b, o' + 4 + 3, none⟩ = some (.slice kb (plain r').k.length cb)) := fun w' h =>
    ⟨(h.cell (p := ⟨b, o' + 4, none⟩) HLT.out).trans d0, (h.cell (p := ⟨b, o' + 4 + 1, none⟩) HLT.out).trans d1, (h.cell (p := ⟨b, o' + 4 + 2, none⟩) HLT.out).trans d2, (h.cell (p := ⟨b, o' + 4 + 3, none⟩) HLT.out).trans d3⟩
  clear h3 hr hv hl t0 t1 d0 d1 d2 d3 ihl ihr
  generalize rk K d l = x at *
  generalize rk K d r' = y at *
  go_enter Try.func17, Try.ntmps17
  go_wp2_with fail
  refine HI.out.mono ?_
  rintro e w1 ⟨rfl, hb⟩
  have HB1 := hidV (HB.out.trans (hb.mono HB.out.size))
  have HBLK1 := hidV ((hb.block _ (by simp)).trans HBLK.out)
  have k0 : w1.cell? ⟨w.heap.size, 0, none⟩ = some (.int .i64 15) := cell_of_row _ _ _ _ _ _ HBLK1.out
  have k3 : w1.cell? ⟨w.heap.size, 3, none⟩ = some (.slice (some ⟨b, o', none⟩) 2 cap) := cell_of_row _ _ _ _ _ _ HBLK1.out
  obtain ⟨d0, d1, d2, d3⟩ := HD.out w1 hb
  have HT2 := hidV (HT1.out.below hb)
  clear hb c0 c1 c2 c3 HI HD HT1
  obtain ⟨n, q, e⟩ := x
  unfold ofE
  by_cases he : e = 0
  rotate_left
  · have he' : (e != 0) = true := by simpa using he
    have HQ : Hid (bothR ⟨n, q, e⟩ y mulR = ⟨0, false, e⟩) := by
      unfold Hid bothR
      obtain ⟨h1, h2⟩ := HGL.out.err he
      simp only at h1 h2
      subst h1 h2
      simp [he]
    go_wp2_with fail
    go_ret3
    rw [HR.out, HQ.out]
    exact ⟨rfl, HB1.out⟩
  subst he
  go_wp2_with fail
  refine (HI2.out w1 _ HB1.out HT2.out).mono ?_
  rintro e w2 ⟨rfl, hb⟩
  have HB2 := hidV (HB1.out.trans (hb.mono HB1.out.size))
  have HBLK2 := hidV ((hb.block _ (Array.getElem?_eq_some_iff.1 HBLK1.out).1).trans HBLK1.out)
  have k0 : w2.cell? ⟨w.heap.size, 0, none⟩ = some (.int .i64 15) := cell_of_row _ _ _ _ _ _ HBLK2.out
  clear hb d0 d1 d2 d3 HI2 HT2 k3
  obtain ⟨m, z, e⟩ := y
  unfold ofE
  by_cases he : e = 0
  rotate_left
  · have he' : (e != 0) = true := by simpa using he
    have HQ : Hid (bothR ⟨n, q, 0⟩ ⟨m, z, e⟩ mulR = ⟨0, false, e⟩) := by
      unfold Hid bothR
      obtain ⟨h1, h2⟩ := HGR.out.err he
      simp only at h1 h2
      subst h1 h2
      simp [he]
    go_wp2_with fail
    go_ret3
    rw [HR.out, HQ.out]
    exact ⟨rfl, HB2.out⟩
  subst he
  have HU : Hid ((q = false ∨ z = false) → bothR ⟨n, q, 0⟩ ⟨m, z, 0⟩ mulR = ⟨0, false, 0⟩) := by
    intro h
    rcases h with rfl | rfl <;> simp [bothR]
  cases q
  · have HQ := hidV (HU.out (.inl rfl))
    go_wp2_with fail
    go_ret3
    rw [HR.out, HQ.out]
    exact ⟨rfl, HB2.out⟩
  cases z
  · have HQ := hidV (HU.out (.inr rfl))
    go_wp2_with fail
    go_ret3
    rw [HR.out, HQ.out]
    exact ⟨rfl, HB2.out⟩
  have HQ : Hid (bothR ⟨n, true, 0⟩ ⟨m, true, 0⟩ mulR = inR (mulR n m)) := by unfold Hid; simp [bothR]
  obtain ⟨ok, hok⟩ : ∃ ok, (mulR n m).2 = ok := ⟨_, rfl⟩
  have HC := hidV (refMul_any n m)
  rw [hok] at HC
  have HIN : Hid (inR (mulR n m) = if ok = true then ⟨(mulR n m).1, true, 0⟩ else ⟨0, false, 6⟩) := by unfold Hid inR; rw [hok]
  clear hok
  generalize (mulR n m).1 = y at *
  rcases Int.lt_or_le n m with hnm | hnm
  all_goals
    cases ok
    all_goals
      go_wp2_with fail
      refine calls_same (HC.out _) ?_
      go_wp2_with fail
      go_ret3
      rw [HR.out, HQ.out, HIN.out]
      exact ⟨rfl, HB2.out⟩


set_option maxHeartbeats 4000000 in
set_option maxRecDepth 100000 in
theorem rv_max (l r' : O) (hfl : formB l = true) (hfr : formB r' = true) (ihl : RvCalls l) (ihr : RvCalls r') : RvCalls (.max l r') := by
  intro w v B r K vF vC d ht hr hl hv hd
  obtain ⟨a, cap, rfl, h1, h2, h3⟩ := ht
  have HGL := hidV (rk_good hv d l hfl)
  have HGR := hidV (rk_good hv d r' hfr)
  have HR : Hid (rk K d (.max l r') = bothR (rk K d l) (rk K d r') gtR) := rfl
  simp only [plain, T.kind, T.s, T.n, T.k, List.length_cons, List.length_nil] at h1 h3 ⊢
  have HB : Hid (Below w.heap.size w (w.alloc (.cells #[.int .i64 16, .string ⟨#[]⟩, .int .i64 0, .slice a 2 cap] 52))) := below_alloc (Below.refl _ _) _
  obtain ⟨b, o', ka, ca, rfl, c0, c1, c2, c3, t0⟩ := (h3.below HB.out).cells (j := 0) (t := plain l) rfl
  obtain ⟨b', o2, kb, cb, e, d0, d1, d2, d3, t1⟩ := (h3.below HB.out).cells (j := 1) (t := plain r') rfl
  injection e with e
  injection e with e1 e2
  subst e1 e2
  simp only [Nat.zero_mul, Nat.add_zero, Nat.one_mul] at c0 c1 c2 c3 d0 d1 d2 d3
  have HI := hidV (ihl _ _ B r K vF vC d t0 (hr.below HB.out) hl hv hd)
  have HI2 := hidV (fun w' (vv : Value) (hw : Below w.heap.size w w') (h : TIn w' 0 (plain r') vv) => ihr w' vv B r K vF vC d h (hr.below hw) hl hv hd)
  have HBLK : Hid ((w.alloc (.cells #[.int .i64 16, .string ⟨#[]⟩, .int .i64 0, .slice (some ⟨b, o', none⟩) 2 cap] 52)).heap[w.heap.size]? = some (.cells #[.int .i64 16, .string ⟨#[]⟩, .int .i64 0, .slice (some ⟨b, o', none⟩) 2 cap] 52)) := heap_alloc_new _ _
  have HT1 := hidV t1
  have HLT := hidV (World.block_lt_of_cell? _ _ d0)
  have HD : Hid (∀ w', Below (w.alloc (.cells #[.int .i64 16, .string ⟨#[]⟩, .int .i64 0, .slice (some ⟨b, o', none⟩) 2 cap] 52)).heap.size (w.alloc (.cells #[.int .i64 16, .string ⟨#[]⟩, .int .i64 0, .slice (some ⟨b, o', none⟩) 2 cap] 52)) w' → w'.cell? ⟨b, o' + 4, none⟩ = some (.int .i64 (plain r').kind) ∧ w'.cell? ⟨b, o' + 4 + 1, none⟩ = some (.string (plain r').s) ∧ w'.cell? ⟨b, o' + 4 + 2, none⟩ = some (.int .i64 (plain r').n) ∧ w'.cell? ⟨b, o' + 4 + 3, none⟩ = some (.slice kb (plain r').k.length cb)) := fun w' h =>
    ⟨(h.cell (p := ⟨b, o' + 4, none⟩) HLT.out).trans d0, (h.cell (p := ⟨b, o' + 4 + 1, none⟩) HLT.out).trans d1, (h.cell (p := ⟨b, o' + 4 + 2, none⟩) HLT.out).trans d2, (h.cell (p := ⟨b, o' + 4 + 3, none⟩) HLT.out).trans d3⟩
  clear h3 hr hv hl t0 t1 d0 d1 d2 d3 ihl ihr
  generalize rk K d l = x at *
  generalize rk K d r' = y at *
  go_enter Try.func17, Try.ntmps17
  go_wp2_with fail
  refine HI.out.mono ?_
  rintro e w1 ⟨rfl, hb⟩
  have HB1 := hidV (HB.out.trans (hb.mono HB.out.size))
  have HBLK1 := hidV ((hb.block _ (by simp)).trans HBLK.out)
  have k0 : w1.cell? ⟨w.heap.size, 0, none⟩ = some (.int .i64 16) := cell_of_row _ _ _ _ _ _ HBLK1.out
  have k3 : w1.cell? ⟨w.heap.size, 3, none⟩ = some (.slice (some ⟨b, o', none⟩) 2 cap) := cell_of_row _ _ _ _ _ _ HBLK1.out
  obtain ⟨d0, d1, d2, d3⟩ := HD.out w1 hb
  have HT2 := hidV (HT1.out.below hb)
  clear hb c0 c1 c2 c3 HI HD HT1
  obtain ⟨n, q, e⟩ := x
  unfold ofE
  by_cases he : e = 0
  rotate_left
  · have he' : (e != 0) = true := by simpa using he
    have HQ : Hid (bothR ⟨n, q, e⟩ y gtR = ⟨0, false, e⟩) := by
      unfold Hid bothR
      obtain ⟨h1, h2⟩ := HGL.out.err he
      simp only at h1 h2
      subst h1 h2
      simp [he]
    go_wp2_with fail
    go_ret3
    rw [HR.out, HQ.out]
    exact ⟨rfl, HB1.out⟩
  subst he
  go_wp2_with fail
  refine (HI2.out w1 _ HB1.out HT2.out).mono ?_
  rintro e w2 ⟨rfl, hb⟩
  have HB2 := hidV (HB1.out.trans (hb.mono HB1.out.size))
  have HBLK2 := hidV ((hb.block _ (Array.getElem?_eq_some_iff.1 HBLK1.out).1).trans HBLK1.out)
  have k0 : w2.cell? ⟨w.heap.size, 0, none⟩ = some (.int .i64 16) := cell_of_row _ _ _ _ _ _ HBLK2.out
  clear hb d0 d1 d2 d3 HI2 HT2 k3
  obtain ⟨m, z, e⟩ := y
  unfold ofE
  by_cases he : e = 0
  rotate_left
  · have he' : (e != 0) = true := by simpa using he
    have HQ : Hid (bothR ⟨n, q, 0⟩ ⟨m, z, e⟩ gtR = ⟨0, false, e⟩) := by
      unfold Hid bothR
      obtain ⟨h1, h2⟩ := HGR.out.err he
      simp only at h1 h2
      subst h1 h2
      simp [he]
    go_wp2_with fail
    go_ret3
    rw [HR.out, HQ.out]
    exact ⟨rfl, HB2.out⟩
  subst he
  have HU : Hid ((q = false ∨ z = false) → bothR ⟨n, q, 0⟩ ⟨m, z, 0⟩ gtR = ⟨0, false, 0⟩) := by
    intro h
    rcases h with rfl | rfl <;> simp [bothR]
  cases q
  · have HQ := hidV (HU.out (.inl rfl))
    go_wp2_with fail
    go_ret3
    rw [HR.out, HQ.out]
    exact ⟨rfl, HB2.out⟩
  cases z
  · have HQ := hidV (HU.out (.inr rfl))
    go_wp2_with fail
    go_ret3
    rw [HR.out, HQ.out]
    exact ⟨rfl, HB2.out⟩
  have HQ : Hid (bothR ⟨n, true, 0⟩ ⟨m, true, 0⟩ gtR = inR (gtR n m)) := by unfold Hid; simp [bothR]
  rcases Int.lt_or_le n m with hnm | hnm
  · have HM : Hid (Max.max n m = m) := by unfold Hid; omega
    go_wp2_with fail
    go_ret3
    rw [HR.out, HQ.out]
    refine ⟨?_, HB2.out⟩
    unfold gtR inR
    rw [HM.out]
    rfl
  · have HM : Hid (Max.max n m = n) := by unfold Hid; omega
    go_wp2_with fail
    go_ret3
    rw [HR.out, HQ.out]
    refine ⟨?_, HB2.out⟩
    unfold gtR inR
    rw [HM.out]
    rfl


/-- What the document's Value answers. -/
theorem refValue_any (o : O) : formB o = true → RvCalls o := by
  induction o with
  | const n => exact fun _ => rv_const n
  | fix s => exact fun _ => rv_fix s
  | add l r hl hr => intro hf; simp only [formB, Bool.and_eq_true] at hf; exact rv_add l r hf.1 hf.2 (hl hf.1) (hr hf.2)
  | neg o ho => intro hf; simp only [formB] at hf; exact rv_neg o hf (ho hf)
  | mul l r hl hr => intro hf; simp only [formB, Bool.and_eq_true] at hf; exact rv_mul l r hf.1 hf.2 (hl hf.1) (hr hf.2)
  | max l r hl hr => intro hf; simp only [formB, Bool.and_eq_true] at hf; exact rv_max l r hf.1 hf.2 (hl hf.1) (hr hf.2)
  | odd v => intro hf; simp [formB] at hf

end Go.Proofs.Ytdlflpnjmldakaa.Vl
