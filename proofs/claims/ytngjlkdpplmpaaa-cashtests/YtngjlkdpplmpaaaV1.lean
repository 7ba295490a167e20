/- What reckon answers of any number that may be, on any day, by what is known. -/
import Derived.Test.YtngjlkdpplmpaaaV0
import Derived.Test.YtngjlkdpplmpaaaMix
namespace Go.Proofs.Ytngjlkdpplmpaaa.Vl
open Go.RowKit Wd Cn
set_option linter.unusedVariables false

def dayOk (d : Int) : Prop := -9223372036854775808 ≤ d ∧ d ≤ 9223372036854775807
def RkPost (K : KW) (d : Int) (o : O) (w : World) (e : Ending) (w' : World) : Prop := e = .returned (rk K d o).val ∧ Below w.heap.size w w'
def RkCalls (o : O) : Prop := ∀ (w : World) (p f c : Nat) (K : KW) (d : Int), KIn w p f c K → dayOk d → Calls Try.prog 102 #[o.val, .int .i64 d, .pointer (some ⟨p, 0, none⟩)] w (RkPost K d o w)
theorem form_iface (o : O) (h : formB o = true) : ∃ t x, o.val = .iface t x := by
  cases o <;> first | exact ⟨_, _, rfl⟩ | simp [formB] at h
theorem alloc_0 (w : World) (a b : Obj) : ((w.alloc a).alloc b).heap[w.heap.size]? = some a :=
  (below_alloc (Below.refl _ _) b).block _ (by simp) |>.trans (heap_alloc_new _ _)
theorem heap_alloc_1 (w : World) (a b : Obj) : ((w.alloc a).alloc b).heap[w.heap.size + 1]? = some b := alloc_1 w a b
/-- What stays while a number of two parts is reckoned. -/
def BinC (w : World) (u v : Value) (T : TypeId) (w' : World) : Prop := Below w.heap.size w w' ∧ w'.heap[w.heap.size + 1]? = some (.cells #[u, v] T)
theorem BinC.step {w w' w'' : World} {u v : Value} {T : TypeId} (h : BinC w u v T w') (hb : Below w'.heap.size w' w'') : BinC w u v T w'' :=
  ⟨h.1.trans (hb.mono h.1.size), (hb.block _ (Array.getElem?_eq_some_iff.1 h.2).1).trans h.2⟩
theorem BinC.set3 {w w' : World} {u v : Value} {T : TypeId} (h : BinC w u v T w') (a b c : Value) : BinC w u v T (set3 w' w.heap.size a b c) :=
  ⟨set3_below h.1 (Nat.le_refl _) _ _ _, ((heap_setCell_other _ _ _ _ (by simp)).trans ((heap_setCell_other _ _ _ _ (by simp)).trans (heap_setCell_other _ _ _ _ (by simp)))).trans h.2⟩
theorem m_skip {P : Program} {ops : Array Oper} {C : World → Prop} {Q : Act → World → Prop} {o : Oper} {r : List (Oper × Bool)} {a : Act} {w w' : World} (hw : Region.wanted o (yielded ops a.tmps) = true) (h : (execOp a.eval o).run P w = .ok .skip w') (hC : C w') (hk : Mx.mix P ops C Q r (a.put o.dst undef) w') : Mx.mix P ops C Q ((o, true) :: r) a w := by
  refine ⟨hw, ?_⟩
  unfold Mx.stepK
  rw [h]
  exact ⟨hC, hk⟩
theorem assert_one {P : Program} {t : TypeId} {u : TypeDesc} (hu : P.underlying t = some u) (hn : ∀ m, u ≠ .interface m) (v : Value) (xT : TypeId) (w : World) :
    (Instr.typeAssert (.iface t v) xT t false).run P w = .ok v w := by
  cases u <;> first | (exfalso; exact hn _ rfl) | simp [Instr.typeAssert, run_underlying hu]
theorem isMax1 (v : Value) (xT : TypeId) (w : World) : (Instr.typeAssert (.iface 159 v) xT 159 false).run Try.prog w = .ok v w := assert_one Try.underlying159 (by intro m h; cases h) v xT w

set_option maxHeartbeats 1000000 in
set_option maxRecDepth 100000 in
theorem reckon_const (n : Int) : RkCalls (.const n) := by
  intro w p f c K d hk hd
  clear hk
  have h0 := fun v xT w => isConst v xT w
  unfold O.val
  go_enter Try.func102, Try.ntmps102
  go_wp2_with fail
  refine bodyPost_ret (ret_row rfl _ _ _ ⟨n, true, 0⟩ rfl (alloc_0 _ _ _)) rfl ?_
  exact ⟨rfl, below_alloc (below_alloc (Below.refl _ _) _) _⟩

set_option maxHeartbeats 1000000 in
set_option maxRecDepth 100000 in
theorem reckon_fix (s : ByteArray) (hok : (O.fix s).Ok) : RkCalls (.fix s) := by
  intro w p f c K d hk hd
  have HF : Hid (fixOk (s, d)) := ⟨Nat.le_trans hok (by decide), hd.1, hd.2⟩
  have HK : Hid (KIn w p f c K) := hk
  clear hk hok hd
  have h0 := fun v xT w => notConst 50 v xT w (by decide)
  have h1 := fun v xT w => isFix v xT w
  unfold O.val
  go_enter Try.func102, Try.ntmps102
  go_wp2_with fail
  refine (fixed_any _ p f c K (HK.out.below (below_alloc (below_alloc (Below.refl _ _) _) _)) s d HF.out).mono ?_
  rintro e w1 ⟨rfl, rfl⟩
  have HR : Hid (rk K d (.fix s) = ⟨(K.fixed (s, d)).getD 0, (K.fixed (s, d)).isSome, 0⟩) := rfl
  generalize (K.fixed (s, d)).getD 0 = n at *
  generalize (K.fixed (s, d)).isSome = q at *
  go_wp2_with fail
  refine bodyPost_ret (ret_row rfl _ _ _ ⟨n, q, 0⟩ rfl (alloc_0 _ _ _)) rfl ?_
  exact ⟨by rw [HR.out], below_alloc (below_alloc (Below.refl _ _) _) _⟩

set_option maxHeartbeats 1000000 in
set_option maxRecDepth 100000 in
theorem reckon_neg (o : O) (hf : formB o = true) (ih : RkCalls o) : RkCalls (.neg o) := by
  intro w p f c K d hk hd
  have HK : Hid (KIn w p f c K) := hk
  have HI : Hid (RkCalls o) := ih
  have HD : Hid (dayOk d) := hd
  clear hk ih hd
  have h0 := fun v xT w => notConst 157 v xT w (by decide)
  have h1 := fun v xT w => notFix 157 v xT w (by decide)
  have h2 := fun v xT w => isNeg v xT w
  obtain ⟨t, x, he⟩ := form_iface o hf
  have HE : Hid (o.val = .iface t x) := he
  clear hf
  unfold O.val
  rw [he]
  clear he
  go_enter Try.func102, Try.ntmps102
  go_wp2_with fail
  have hcall := HI.out _ p f c K d (HK.out.below (below_alloc (below_alloc (Below.refl _ _) (.cells #[.int .i64 0, .bool false, .int .i64 0] 210)) (.cells #[.iface t x] 157))) HD.out
  rw [HE.out] at hcall
  refine hcall.mono ?_
  clear hcall
  rintro e w1 ⟨rfl, hb⟩
  have HZ : Hid (w1.heap[w.heap.size]? = some (.cells #[.int .i64 0, .bool false, .int .i64 0] 210)) := (hb.block _ (by simp; omega)).trans (alloc_0 _ _ _)
  have HB : Hid (Below w.heap.size w w1) := (below_alloc (below_alloc (Below.refl _ _) _) _).trans (hb.mono (by simp; omega))
  clear hb
  go_wp2_with fail
  refine (other_any _ _).mono ?_
  rintro e w2 ⟨rfl, hb⟩
  have HZ2 : Hid (w2.heap[w.heap.size]? = some (.cells #[.int .i64 0, .bool false, .int .i64 0] 210)) := (hb.block _ (Array.getElem?_eq_some_iff.1 HZ.out).1).trans HZ.out
  have HB2 : Hid (Below w.heap.size w w2) := HB.out.trans (hb.mono HB.out.size)
  clear hb
  obtain ⟨c0, c1, c2, f0, f1, f2⟩ := row3_cells HZ2.out
  have HR : Hid (rk K d (.neg o) = otherR (rk K d o)) := rfl
  generalize otherR (rk K d o) = y at *
  unfold Rk.val Rk.cs
  go_wp2_with fail
  refine bodyPost_ret (ret_row rfl _ _ _ y rfl (set3_row HZ2.out _ _ _)) rfl ?_
  exact ⟨by rw [HR.out], set3_below HB2.out (by omega) _ _ _⟩

set_option maxHeartbeats 2000000 in
set_option maxRecDepth 100000 in
theorem reckon_add (l r : O) (hl : formB l = true) (hr : formB r = true) (ihl : RkCalls l) (ihr : RkCalls r) : RkCalls (.add l r) := by
  intro w p f c K d hk hd
  have HL : Hid (RkCalls l) := ihl
  have HRR : Hid (RkCalls r) := ihr
  have HD : Hid (dayOk d) := hd
  have h0 := fun v xT w => notConst 52 v xT w (by decide)
  have h1 := fun v xT w => notFix 52 v xT w (by decide)
  have h2 := fun v xT w => notNeg 52 v xT w (by decide)
  have h3 := fun v xT w => isAdd v xT w
  obtain ⟨t, x, he⟩ := form_iface l hl
  obtain ⟨t2, x2, he2⟩ := form_iface r hr
  have HE : Hid (l.val = .iface t x) := he
  have HE2 : Hid (r.val = .iface t2 x2) := he2
  have HK0 : Hid (KIn w p f c K) := hk
  clear hl hr hd ihl ihr hk
  unfold O.val
  rw [he, he2]
  clear he he2
  go_enter Try.func102, Try.ntmps102
  go_wp2_with fail
  have hz := alloc_0 w (.cells #[.int .i64 0, .bool false, .int .i64 0] 210) (.cells #[.iface t x, .iface t2 x2] 52)
  have hx := alloc_1 w (.cells #[.int .i64 0, .bool false, .int .i64 0] 210) (.cells #[.iface t x, .iface t2 x2] 52)
  have hb := below_alloc (below_alloc (Below.refl w.heap.size w) (.cells #[.int .i64 0, .bool false, .int .i64 0] 210)) (.cells #[.iface t x, .iface t2 x2] 52)
  generalize (w.alloc (.cells #[.int .i64 0, .bool false, .int .i64 0] 210)).alloc (.cells #[.iface t x, .iface t2 x2] 52) = W at *
  have HZ : Hid (W.heap[w.heap.size]? = some (.cells #[.int .i64 0, .bool false, .int .i64 0] 210)) := hz
  have HC0 : Hid (BinC w l.val r.val 52 W.drew) := by
    unfold Hid
    rw [HE.out, HE2.out]
    exact ⟨below_drew hb, hx⟩
  have HF : Hid (∀ w', BinC w l.val r.val 52 w' → w'.cell? ⟨w.heap.size + 1, 0, none⟩ = some l.val ∧ w'.cell? ⟨w.heap.size + 1, 1, none⟩ = some r.val) := fun w' hw' => ⟨cell_of_row _ _ _ _ _ _ hw'.2, cell_of_row _ _ _ _ _ _ hw'.2⟩
  clear hz hx hb
  have HRES : Hid (rk K d (.add l r) = bothR (rk K d l) (rk K d r) addR) := rfl
  refine Mx.wp_region_mix (fun w' => BinC w l.val r.val 52 w') [(0, false), (1, false), (2, false), (3, false), (5, false), (6, false), (7, false), (8, false), (4, true), (9, true), (10, true), (11, true)] (by kernel_rfl) (by kernel_rfl) HC0.out ?_ (by kernel_rfl)
  simp only [List.map_cons, List.map_nil, List.getD_cons_zero, List.getD_cons_succ]
  generalize hops : (#[_, _, _, _, _, _, _, _, _, _, _, _] : Array Oper) = ops
  clear hops
  refine Mx.m_pure (.pointer (some ⟨w.heap.size + 1, 0, none⟩)) (Mx.wanted_none rfl) (fun w' hw' => ?_) ?_
  · go_simp
  simp only [Act.put, List.setIfInBounds_toArray, List.set_cons_zero, List.set_cons_succ]
  refine Mx.m_pure (l.val) (Mx.wanted_none rfl) (fun w' hw' => ?_) ?_
  · obtain ⟨q0, q1⟩ := HF.out w' hw'
    go_simp
  simp only [Act.put, List.setIfInBounds_toArray, List.set_cons_zero, List.set_cons_succ]
  refine Mx.m_pure (.int .i64 d) (Mx.wanted_none rfl) (fun w' hw' => ?_) ?_
  · go_simp
  simp only [Act.put, List.setIfInBounds_toArray, List.set_cons_zero, List.set_cons_succ]
  refine Mx.m_pure (.pointer (some ⟨p, 0, none⟩)) (Mx.wanted_none rfl) (fun w' hw' => ?_) ?_
  · go_simp
  simp only [Act.put, List.setIfInBounds_toArray, List.set_cons_zero, List.set_cons_succ]
  refine Mx.m_pure (.pointer (some ⟨w.heap.size + 1, 1, none⟩)) (Mx.wanted_none rfl) (fun w' hw' => ?_) ?_
  · go_simp
  simp only [Act.put, List.setIfInBounds_toArray, List.set_cons_zero, List.set_cons_succ]
  refine Mx.m_pure (r.val) (Mx.wanted_none rfl) (fun w' hw' => ?_) ?_
  · obtain ⟨q0, q1⟩ := HF.out w' hw'
    go_simp
  simp only [Act.put, List.setIfInBounds_toArray, List.set_cons_zero, List.set_cons_succ]
  refine Mx.m_pure (.int .i64 d) (Mx.wanted_none rfl) (fun w' hw' => ?_) ?_
  · go_simp
  simp only [Act.put, List.setIfInBounds_toArray, List.set_cons_zero, List.set_cons_succ]
  refine Mx.m_pure (.pointer (some ⟨p, 0, none⟩)) (Mx.wanted_none rfl) (fun w' hw' => ?_) ?_
  · go_simp
  simp only [Act.put, List.setIfInBounds_toArray, List.set_cons_zero, List.set_cons_succ]
  refine Mx.m_call 102 #[l.val, .int .i64 d, .pointer (some ⟨p, 0, none⟩)] (Mx.wanted_none rfl) ?_ ?_
  · go_simp
  refine (HL.out _ p f c K d (HK0.out.below HC0.out.1) HD.out).mono ?_
  rintro e w1 ⟨rfl, hb⟩
  have HC1 : Hid (BinC w l.val r.val 52 w1) := HC0.out.step hb
  have HZ1 : Hid (w1.heap[w.heap.size]? = some (.cells #[.int .i64 0, .bool false, .int .i64 0] 210)) := (hb.block _ (Array.getElem?_eq_some_iff.1 HZ.out).1).trans HZ.out
  refine ⟨_, rfl, HC1.out, ?_⟩
  clear hb
  simp only [Act.put, List.setIfInBounds_toArray, List.set_cons_zero, List.set_cons_succ]
  refine Mx.m_call 102 #[r.val, .int .i64 d, .pointer (some ⟨p, 0, none⟩)] (Mx.wanted_none rfl) ?_ ?_
  · go_simp
  refine (HRR.out _ p f c K d (HK0.out.below HC1.out.1) HD.out).mono ?_
  rintro e w2 ⟨rfl, hb⟩
  have HC2 : Hid (BinC w l.val r.val 52 w2) := HC1.out.step hb
  have HZ2 : Hid (w2.heap[w.heap.size]? = some (.cells #[.int .i64 0, .bool false, .int .i64 0] 210)) := (hb.block _ (Array.getElem?_eq_some_iff.1 HZ1.out).1).trans HZ1.out
  refine ⟨_, rfl, HC2.out, ?_⟩
  clear hb
  simp only [Act.put, List.setIfInBounds_toArray, List.set_cons_zero, List.set_cons_succ]
  refine Mx.m_call 108 #[(rk K d l).val, (rk K d r).val, .func (.func 109) #[] #[]] (Mx.wanted_none rfl) ?_ ?_
  · go_simp
  refine (both_any _ _ _ addR (fun args w => rfl) add_any _).mono ?_
  rintro e w3 ⟨rfl, hb⟩
  have HC3 : Hid (BinC w l.val r.val 52 w3) := HC2.out.step hb
  refine ⟨_, rfl, HC3.out, ?_⟩
  have HZ3 : Hid (w3.heap[w.heap.size]? = some (.cells #[.int .i64 0, .bool false, .int .i64 0] 210)) := (hb.block _ (Array.getElem?_eq_some_iff.1 HZ2.out).1).trans HZ2.out
  clear hb
  obtain ⟨c0, c1, c2, f0, f1, f2⟩ := row3_cells HZ3.out
  generalize bothR (rk K d l) (rk K d r) addR = y at *
  unfold Rk.val Rk.cs
  simp only [Act.put, List.setIfInBounds_toArray, List.set_cons_zero, List.set_cons_succ]
  refine m_skip (Mx.wanted_none rfl) ?_ (HC3.out.set3 (.int .i64 y.n) (.bool y.known) (.int .i64 y.e)) ?_
  · unfold set3
    go_simp
  simp only [Act.put]
  refine Mx.m_nil ?_
  intro _
  go_wp2_with fail
  refine bodyPost_ret (ret_row rfl _ _ _ y rfl (set3_row HZ3.out _ _ _)) rfl ?_
  exact ⟨by rw [HRES.out], set3_below HC3.out.1 (Nat.le_refl _) _ _ _⟩

set_option maxHeartbeats 2000000 in
set_option maxRecDepth 100000 in
theorem reckon_mul (l r : O) (hl : formB l = true) (hr : formB r = true) (ihl : RkCalls l) (ihr : RkCalls r) : RkCalls (.mul l r) := by
  intro w p f c K d hk hd
  have HL : Hid (RkCalls l) := ihl
  have HRR : Hid (RkCalls r) := ihr
  have HD : Hid (dayOk d) := hd
  have h0 := fun v xT w => notConst 158 v xT w (by decide)
  have h1 := fun v xT w => notFix 158 v xT w (by decide)
  have h2 := fun v xT w => notNeg 158 v xT w (by decide)
  have h3 := fun v xT w => notAdd 158 v xT w (by decide)
  have h4 := fun v xT w => isMul v xT w
  obtain ⟨t, x, he⟩ := form_iface l hl
  obtain ⟨t2, x2, he2⟩ := form_iface r hr
  have HE : Hid (l.val = .iface t x) := he
  have HE2 : Hid (r.val = .iface t2 x2) := he2
  have HK0 : Hid (KIn w p f c K) := hk
  clear hl hr hd ihl ihr hk
  unfold O.val
  rw [he, he2]
  clear he he2
  go_enter Try.func102, Try.ntmps102
  go_wp2_with fail
  have hz := alloc_0 w (.cells #[.int .i64 0, .bool false, .int .i64 0] 210) (.cells #[.iface t x, .iface t2 x2] 158)
  have hx := alloc_1 w (.cells #[.int .i64 0, .bool false, .int .i64 0] 210) (.cells #[.iface t x, .iface t2 x2] 158)
  have hb := below_alloc (below_alloc (Below.refl w.heap.size w) (.cells #[.int .i64 0, .bool false, .int .i64 0] 210)) (.cells #[.iface t x, .iface t2 x2] 158)
  generalize (w.alloc (.cells #[.int .i64 0, .bool false, .int .i64 0] 210)).alloc (.cells #[.iface t x, .iface t2 x2] 158) = W at *
  have HZ : Hid (W.heap[w.heap.size]? = some (.cells #[.int .i64 0, .bool false, .int .i64 0] 210)) := hz
  have HC0 : Hid (BinC w l.val r.val 158 W.drew) := by
    unfold Hid
    rw [HE.out, HE2.out]
    exact ⟨below_drew hb, hx⟩
  have HF : Hid (∀ w', BinC w l.val r.val 158 w' → w'.cell? ⟨w.heap.size + 1, 0, none⟩ = some l.val ∧ w'.cell? ⟨w.heap.size + 1, 1, none⟩ = some r.val) := fun w' hw' => ⟨cell_of_row _ _ _ _ _ _ hw'.2, cell_of_row _ _ _ _ _ _ hw'.2⟩
  clear hz hx hb
  have HRES : Hid (rk K d (.mul l r) = bothR (rk K d l) (rk K d r) mulR) := rfl
  refine Mx.wp_region_mix (fun w' => BinC w l.val r.val 158 w') [(0, false), (1, false), (2, false), (3, false), (5, false), (6, false), (7, false), (8, false), (4, true), (9, true), (10, true), (11, true)] (by kernel_rfl) (by kernel_rfl) HC0.out ?_ (by kernel_rfl)
  simp only [List.map_cons, List.map_nil, List.getD_cons_zero, List.getD_cons_succ]
  generalize hops : (#[_, _, _, _, _, _, _, _, _, _, _, _] : Array Oper) = ops
  clear hops
  refine Mx.m_pure (.pointer (some ⟨w.heap.size + 1, 0, none⟩)) (Mx.wanted_none rfl) (fun w' hw' => ?_) ?_
  · go_simp
  simp only [Act.put, List.setIfInBounds_toArray, List.set_cons_zero, List.set_cons_succ]
  refine Mx.m_pure (l.val) (Mx.wanted_none rfl) (fun w' hw' => ?_) ?_
  · obtain ⟨q0, q1⟩ := HF.out w' hw'
    go_simp
  simp only [Act.put, List.setIfInBounds_toArray, List.set_cons_zero, List.set_cons_succ]
  refine Mx.m_pure (.int .i64 d) (Mx.wanted_none rfl) (fun w' hw' => ?_) ?_
  · go_simp
  simp only [Act.put, List.setIfInBounds_toArray, List.set_cons_zero, List.set_cons_succ]
  refine Mx.m_pure (.pointer (some ⟨p, 0, none⟩)) (Mx.wanted_none rfl) (fun w' hw' => ?_) ?_
  · go_simp
  simp only [Act.put, List.setIfInBounds_toArray, List.set_cons_zero, List.set_cons_succ]
  refine Mx.m_pure (.pointer (some ⟨w.heap.size + 1, 1, none⟩)) (Mx.wanted_none rfl) (fun w' hw' => ?_) ?_
  · go_simp
  simp only [Act.put, List.setIfInBounds_toArray, List.set_cons_zero, List.set_cons_succ]
  refine Mx.m_pure (r.val) (Mx.wanted_none rfl) (fun w' hw' => ?_) ?_
  · obtain ⟨q0, q1⟩ := HF.out w' hw'
    go_simp
  simp only [Act.put, List.setIfInBounds_toArray, List.set_cons_zero, List.set_cons_succ]
  refine Mx.m_pure (.int .i64 d) (Mx.wanted_none rfl) (fun w' hw' => ?_) ?_
  · go_simp
  simp only [Act.put, List.setIfInBounds_toArray, List.set_cons_zero, List.set_cons_succ]
  refine Mx.m_pure (.pointer (some ⟨p, 0, none⟩)) (Mx.wanted_none rfl) (fun w' hw' => ?_) ?_
  · go_simp
  simp only [Act.put, List.setIfInBounds_toArray, List.set_cons_zero, List.set_cons_succ]
  refine Mx.m_call 102 #[l.val, .int .i64 d, .pointer (some ⟨p, 0, none⟩)] (Mx.wanted_none rfl) ?_ ?_
  · go_simp
  refine (HL.out _ p f c K d (HK0.out.below HC0.out.1) HD.out).mono ?_
  rintro e w1 ⟨rfl, hb⟩
  have HC1 : Hid (BinC w l.val r.val 158 w1) := HC0.out.step hb
  have HZ1 : Hid (w1.heap[w.heap.size]? = some (.cells #[.int .i64 0, .bool false, .int .i64 0] 210)) := (hb.block _ (Array.getElem?_eq_some_iff.1 HZ.out).1).trans HZ.out
  refine ⟨_, rfl, HC1.out, ?_⟩
  clear hb
  simp only [Act.put, List.setIfInBounds_toArray, List.set_cons_zero, List.set_cons_succ]
  refine Mx.m_call 102 #[r.val, .int .i64 d, .pointer (some ⟨p, 0, none⟩)] (Mx.wanted_none rfl) ?_ ?_
  · go_simp
  refine (HRR.out _ p f c K d (HK0.out.below HC1.out.1) HD.out).mono ?_
  rintro e w2 ⟨rfl, hb⟩
  have HC2 : Hid (BinC w l.val r.val 158 w2) := HC1.out.step hb
  have HZ2 : Hid (w2.heap[w.heap.size]? = some (.cells #[.int .i64 0, .bool false, .int .i64 0] 210)) := (hb.block _ (Array.getElem?_eq_some_iff.1 HZ1.out).1).trans HZ1.out
  refine ⟨_, rfl, HC2.out, ?_⟩
  clear hb
  simp only [Act.put, List.setIfInBounds_toArray, List.set_cons_zero, List.set_cons_succ]
  refine Mx.m_call 108 #[(rk K d l).val, (rk K d r).val, .func (.func 81) #[] #[]] (Mx.wanted_none rfl) ?_ ?_
  · go_simp
  refine (both_any _ _ _ mulR (fun args w => rfl) mul_any _).mono ?_
  rintro e w3 ⟨rfl, hb⟩
  have HC3 : Hid (BinC w l.val r.val 158 w3) := HC2.out.step hb
  refine ⟨_, rfl, HC3.out, ?_⟩
  have HZ3 : Hid (w3.heap[w.heap.size]? = some (.cells #[.int .i64 0, .bool false, .int .i64 0] 210)) := (hb.block _ (Array.getElem?_eq_some_iff.1 HZ2.out).1).trans HZ2.out
  clear hb
  obtain ⟨c0, c1, c2, f0, f1, f2⟩ := row3_cells HZ3.out
  generalize bothR (rk K d l) (rk K d r) mulR = y at *
  unfold Rk.val Rk.cs
  simp only [Act.put, List.setIfInBounds_toArray, List.set_cons_zero, List.set_cons_succ]
  refine m_skip (Mx.wanted_none rfl) ?_ (HC3.out.set3 (.int .i64 y.n) (.bool y.known) (.int .i64 y.e)) ?_
  · unfold set3
    go_simp
  simp only [Act.put]
  refine Mx.m_nil ?_
  intro _
  go_wp2_with fail
  refine bodyPost_ret (ret_row rfl _ _ _ y rfl (set3_row HZ3.out _ _ _)) rfl ?_
  exact ⟨by rw [HRES.out], set3_below HC3.out.1 (Nat.le_refl _) _ _ _⟩

set_option maxHeartbeats 2000000 in
set_option maxRecDepth 100000 in
theorem reckon_max (l r : O) (hl : formB l = true) (hr : formB r = true) (ihl : RkCalls l) (ihr : RkCalls r) : RkCalls (.max l r) := by
  intro w p f c K d hk hd
  have HL : Hid (RkCalls l) := ihl
  have HRR : Hid (RkCalls r) := ihr
  have HD : Hid (dayOk d) := hd
  have h0 := fun v xT w => notConst 159 v xT w (by decide)
  have h1 := fun v xT w => notFix 159 v xT w (by decide)
  have h2 := fun v xT w => notNeg 159 v xT w (by decide)
  have h3 := fun v xT w => notAdd 159 v xT w (by decide)
  have h4 := fun v xT w => notMul 159 v xT w (by decide)
  have h5 := fun v xT w => isMax1 v xT w
  obtain ⟨t, x, he⟩ := form_iface l hl
  obtain ⟨t2, x2, he2⟩ := form_iface r hr
  have HE : Hid (l.val = .iface t x) := he
  have HE2 : Hid (r.val = .iface t2 x2) := he2
  have HK0 : Hid (KIn w p f c K) := hk
  clear hl hr hd ihl ihr hk
  unfold O.val
  rw [he, he2]
  clear he he2
  go_enter Try.func102, Try.ntmps102
  go_wp2_with fail
  have hz := alloc_0 w (.cells #[.int .i64 0, .bool false, .int .i64 0] 210) (.cells #[.iface t x, .iface t2 x2] 159)
  have hx := alloc_1 w (.cells #[.int .i64 0, .bool false, .int .i64 0] 210) (.cells #[.iface t x, .iface t2 x2] 159)
  have hb := below_alloc (below_alloc (Below.refl w.heap.size w) (.cells #[.int .i64 0, .bool false, .int .i64 0] 210)) (.cells #[.iface t x, .iface t2 x2] 159)
  generalize (w.alloc (.cells #[.int .i64 0, .bool false, .int .i64 0] 210)).alloc (.cells #[.iface t x, .iface t2 x2] 159) = W at *
  have HZ : Hid (W.heap[w.heap.size]? = some (.cells #[.int .i64 0, .bool false, .int .i64 0] 210)) := hz
  have HC0 : Hid (BinC w l.val r.val 159 W.drew) := by
    unfold Hid
    rw [HE.out, HE2.out]
    exact ⟨below_drew hb, hx⟩
  have HF : Hid (∀ w', BinC w l.val r.val 159 w' → w'.cell? ⟨w.heap.size + 1, 0, none⟩ = some l.val ∧ w'.cell? ⟨w.heap.size + 1, 1, none⟩ = some r.val) := fun w' hw' => ⟨cell_of_row _ _ _ _ _ _ hw'.2, cell_of_row _ _ _ _ _ _ hw'.2⟩
  clear hz hx hb
  have HRES : Hid (rk K d (.max l r) = bothR (rk K d l) (rk K d r) gtR) := rfl
  refine Mx.wp_region_mix (fun w' => BinC w l.val r.val 159 w') [(0, false), (1, false), (2, false), (3, false), (5, false), (6, false), (7, false), (8, false), (4, true), (9, true), (10, true), (11, true)] (by kernel_rfl) (by kernel_rfl) HC0.out ?_ (by kernel_rfl)
  simp only [List.map_cons, List.map_nil, List.getD_cons_zero, List.getD_cons_succ]
  generalize hops : (#[_, _, _, _, _, _, _, _, _, _, _, _] : Array Oper) = ops
  clear hops
  refine Mx.m_pure (.pointer (some ⟨w.heap.size + 1, 0, none⟩)) (Mx.wanted_none rfl) (fun w' hw' => ?_) ?_
  · go_simp
  simp only [Act.put, List.setIfInBounds_toArray, List.set_cons_zero, List.set_cons_succ]
  refine Mx.m_pure (l.val) (Mx.wanted_none rfl) (fun w' hw' => ?_) ?_
  · obtain ⟨q0, q1⟩ := HF.out w' hw'
    go_simp
  simp only [Act.put, List.setIfInBounds_toArray, List.set_cons_zero, List.set_cons_succ]
  refine Mx.m_pure (.int .i64 d) (Mx.wanted_none rfl) (fun w' hw' => ?_) ?_
  · go_simp
  simp only [Act.put, List.setIfInBounds_toArray, List.set_cons_zero, List.set_cons_succ]
  refine Mx.m_pure (.pointer (some ⟨p, 0, none⟩)) (Mx.wanted_none rfl) (fun w' hw' => ?_) ?_
  · go_simp
  simp only [Act.put, List.setIfInBounds_toArray, List.set_cons_zero, List.set_cons_succ]
  refine Mx.m_pure (.pointer (some ⟨w.heap.size + 1, 1, none⟩)) (Mx.wanted_none rfl) (fun w' hw' => ?_) ?_
  · go_simp
  simp only [Act.put, List.setIfInBounds_toArray, List.set_cons_zero, List.set_cons_succ]
  refine Mx.m_pure (r.val) (Mx.wanted_none rfl) (fun w' hw' => ?_) ?_
  · obtain ⟨q0, q1⟩ := HF.out w' hw'
    go_simp
  simp only [Act.put, List.setIfInBounds_toArray, List.set_cons_zero, List.set_cons_succ]
  refine Mx.m_pure (.int .i64 d) (Mx.wanted_none rfl) (fun w' hw' => ?_) ?_
  · go_simp
  simp only [Act.put, List.setIfInBounds_toArray, List.set_cons_zero, List.set_cons_succ]
  refine Mx.m_pure (.pointer (some ⟨p, 0, none⟩)) (Mx.wanted_none rfl) (fun w' hw' => ?_) ?_
  · go_simp
  simp only [Act.put, List.setIfInBounds_toArray, List.set_cons_zero, List.set_cons_succ]
  refine Mx.m_call 102 #[l.val, .int .i64 d, .pointer (some ⟨p, 0, none⟩)] (Mx.wanted_none rfl) ?_ ?_
  · go_simp
  refine (HL.out _ p f c K d (HK0.out.below HC0.out.1) HD.out).mono ?_
  rintro e w1 ⟨rfl, hb⟩
  have HC1 : Hid (BinC w l.val r.val 159 w1) := HC0.out.step hb
  have HZ1 : Hid (w1.heap[w.heap.size]? = some (.cells #[.int .i64 0, .bool false, .int .i64 0] 210)) := (hb.block _ (Array.getElem?_eq_some_iff.1 HZ.out).1).trans HZ.out
  refine ⟨_, rfl, HC1.out, ?_⟩
  clear hb
  simp only [Act.put, List.setIfInBounds_toArray, List.set_cons_zero, List.set_cons_succ]
  refine Mx.m_call 102 #[r.val, .int .i64 d, .pointer (some ⟨p, 0, none⟩)] (Mx.wanted_none rfl) ?_ ?_
  · go_simp
  refine (HRR.out _ p f c K d (HK0.out.below HC1.out.1) HD.out).mono ?_
  rintro e w2 ⟨rfl, hb⟩
  have HC2 : Hid (BinC w l.val r.val 159 w2) := HC1.out.step hb
  have HZ2 : Hid (w2.heap[w.heap.size]? = some (.cells #[.int .i64 0, .bool false, .int .i64 0] 210)) := (hb.block _ (Array.getElem?_eq_some_iff.1 HZ1.out).1).trans HZ1.out
  refine ⟨_, rfl, HC2.out, ?_⟩
  clear hb
  simp only [Act.put, List.setIfInBounds_toArray, List.set_cons_zero, List.set_cons_succ]
  refine Mx.m_call 108 #[(rk K d l).val, (rk K d r).val, .func (.func 110) #[] #[]] (Mx.wanted_none rfl) ?_ ?_
  · go_simp
  refine (both_any _ _ _ gtR (fun args w => rfl) gt_any _).mono ?_
  rintro e w3 ⟨rfl, hb⟩
  have HC3 : Hid (BinC w l.val r.val 159 w3) := HC2.out.step hb
  refine ⟨_, rfl, HC3.out, ?_⟩
  have HZ3 : Hid (w3.heap[w.heap.size]? = some (.cells #[.int .i64 0, .bool false, .int .i64 0] 210)) := (hb.block _ (Array.getElem?_eq_some_iff.1 HZ2.out).1).trans HZ2.out
  clear hb
  obtain ⟨c0, c1, c2, f0, f1, f2⟩ := row3_cells HZ3.out
  generalize bothR (rk K d l) (rk K d r) gtR = y at *
  unfold Rk.val Rk.cs
  simp only [Act.put, List.setIfInBounds_toArray, List.set_cons_zero, List.set_cons_succ]
  refine m_skip (Mx.wanted_none rfl) ?_ (HC3.out.set3 (.int .i64 y.n) (.bool y.known) (.int .i64 y.e)) ?_
  · unfold set3
    go_simp
  simp only [Act.put]
  refine Mx.m_nil ?_
  intro _
  go_wp2_with fail
  refine bodyPost_ret (ret_row rfl _ _ _ y rfl (set3_row HZ3.out _ _ _)) rfl ?_
  exact ⟨by rw [HRES.out], set3_below HC3.out.1 (Nat.le_refl _) _ _ _⟩

/-- What reckon answers. -/
theorem reckon_any (o : O) : o.Ok → formB o = true → RkCalls o := by
  induction o with
  | const n => exact fun _ _ => reckon_const n
  | fix s => exact fun h _ => reckon_fix s h
  | add l r hl hr => intro h hf; simp only [formB, Bool.and_eq_true] at hf; exact reckon_add l r hf.1 hf.2 (hl h.1 hf.1) (hr h.2 hf.2)
  | neg o ho => intro h hf; simp only [formB] at hf; exact reckon_neg o hf (ho h hf)
  | mul l r hl hr => intro h hf; simp only [formB, Bool.and_eq_true] at hf; exact reckon_mul l r hf.1 hf.2 (hl h.1 hf.1) (hr h.2 hf.2)
  | max l r hl hr => intro h hf; simp only [formB, Bool.and_eq_true] at hf; exact reckon_max l r hf.1 hf.2 (hl h.1 hf.1) (hr h.2 hf.2)
  | odd v => intro _ hf; simp [formB] at hf

end Go.Proofs.Ytngjlkdpplmpaaa.Vl
