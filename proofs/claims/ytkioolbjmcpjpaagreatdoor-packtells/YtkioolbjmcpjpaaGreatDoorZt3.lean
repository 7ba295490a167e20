/- The document's own Check of an event. -/
import Derived.Test.YtkioolbjmcpjpaaGreatDoorZe1
import Derived.Test.YtkioolbjmcpjpaaGreatDoorZt2
import Derived.Test.YtkioolbjmcpjpaaGreatDoorPlanArg
import Derived.Deep.CutBlock
import Derived.Test.YtkioolbjmcpjpaaGreatDoorPlainO2
import Derived.Test.YtkioolbjmcpjpaaGreatDoorMaker
import Derived.Test.YtkioolbjmcpjpaaGreatDoorTermWalk
namespace Go.Proofs.YtkioolbjmcpjpaaGreatDoor.Ev
open Go.RowKit
set_option linter.unusedVariables false
set_option linter.unusedSimpArgs false

/-- The document's event in memory. -/
def RIn (w : World) (B : Nat) (e : Ev) (r : Value) : Prop := ∃ ka kc, r = .agg #[.int .i64 e.k, .string e.i, .string e.n, .string e.l, .string e.u, .int .i64 e.d, .int .i64 e.v, .int .i64 (plainC e.t).kind, .string (plainC e.t).s, .int .i64 (plainC e.t).n, .slice ka (plainC e.t).k.length kc] ∧ TIn w B (plainC e.t) (.agg #[.int .i64 (plainC e.t).kind, .string (plainC e.t).s, .int .i64 (plainC e.t).n, .slice ka (plainC e.t).k.length kc])
structure Ev.Small (e : Ev) : Prop where
  i : e.i.size ≤ 2147483648
  n : e.n.size ≤ 2147483648
  l : e.l.size ≤ 2147483648
  u : e.u.size ≤ 2147483648
  w : e.t.weight ≤ 300000

theorem day_parts (d : Int) : dayB d = !(decide (d < 0) || decide (10000 < d)) := by
  unfold dayB
  by_cases h1 : 0 ≤ d <;> by_cases h2 : d ≤ 10000
  · simp [h1, h2, show ¬ d < 0 by omega, show ¬ 10000 < d by omega]
  · simp [h1, h2, show ¬ d < 0 by omega, show 10000 < d by omega]
  · simp [h1, h2, show d < 0 by omega]
  · simp [h1, h2, show d < 0 by omega]
theorem pick_parts (v : Int) : pickB v = !(decide (v < 0) || decide (1 < v)) := by
  unfold pickB
  by_cases h1 : v < 0
  · have a : (v == 0) = false := by rw [beq_eq_false_iff_ne]; omega
    have b : (v == 1) = false := by rw [beq_eq_false_iff_ne]; omega
    simp [a, b, h1]
  · by_cases h2 : 1 < v
    · have a : (v == 0) = false := by rw [beq_eq_false_iff_ne]; omega
      have b : (v == 1) = false := by rw [beq_eq_false_iff_ne]; omega
      simp [a, b, h2]
    · rcases (by omega : v = 0 ∨ v = 1) with rfl | rfl <;> decide
theorem fitI_not (n : Int) (h m : Bool) : fitI n h (!m) = !((h && m) || (!h && !(n == 0))) := by cases h <;> simp [fitI]
theorem fitI_not2 (n : Int) (h m : Bool) : fitI n h m = !((h && !m) || (!h && !(n == 0))) := by cases h <;> simp [fitI]
/-- The program's order of tests and the document's come to the same. -/
theorem form_parts (k d v : Int) (q fi fn fl fu hd hv ht nt tk is : Bool) (h : (tk || is) = !nt) :
    (!q && fi && fn && fl && fu && fitI d hd (dayB d) && fitI v hv (vB v) && (nt || ht) && (!(k == 4) || pickB v)) = !((q || !fi || !fn || !fl || !fu) || (((hd && (decide (d < 0) || decide (10000 < d))) || (!hd && !(d == 0)) || (hv && !(vB v)) || (!hv && !(v == 0))) || ((!ht && (tk || is)) || ((k == 4) && (decide (v < 0) || decide (1 < v)))))) := by
  rw [h, day_parts, pick_parts, fitI_not, fitI_not2, show (nt || ht) = !(!ht && !nt) by cases nt <;> cases ht <;> rfl, show (!(k == 4) || !(decide (v < 0) || decide (1 < v))) = !((k == 4) && (decide (v < 0) || decide (1 < v))) by simp]
  generalize (hd && (decide (d < 0) || decide (10000 < d))) = a
  generalize (!hd && !(d == 0)) = b
  generalize (hv && !(vB v)) = c
  generalize (!hv && !(v == 0)) = e
  generalize (!ht && !nt) = z
  generalize ((k == 4) && (decide (v < 0) || decide (1 < v))) = g
  simp only [Bool.not_or, Bool.not_not, Bool.and_assoc]

set_option maxHeartbeats 8000000 in
set_option maxRecDepth 100000 in
theorem refCheck11_any (e : Ev) (hok : e.Ok) (hsm : e.Small) (is : Bool) (his : (!((plainC e.t).kind == 0) || is) = !nilB e.t) (w : World) (r : Value) (hr : RIn w 0 e r) :
    Calls Tryz.prog 14 #[r, .bool is] w fun x w' => x = .returned (.int .i64 (chkE e)) ∧ Below w.heap.size w w' := by
  obtain ⟨ka, kc, rfl, ht⟩ := hr
  have HTI := hidIn (fun w' hw' => refWriteC_any e.t hok.t hsm.w w' _ (TIn.below ht hw'))
  have HR : Hid (chkE e = if formE e = true then (if e.k = 2 then wErrC e.t else 0) else 1) := rfl
  have HFE : Hid (formE e = (!((flds e.k).toList == [63]) && fitS e.i (hasB (flds e.k) 73) && fitS e.n (hasB (flds e.k) 78) && fitS e.l (hasB (flds e.k) 76) && fitS e.u (hasB (flds e.k) 67) && fitI e.d (hasB (flds e.k) 68) (dayB e.d) && fitI e.v (hasB (flds e.k) 86) (vB e.v) && (nilB e.t || hasB (flds e.k) 84) && (!(e.k == 4) || pickB e.v))) := rfl
  have hsi := hidIn hsm.i
  have hsn := hidIn hsm.n
  have hsl := hidIn hsm.l
  have hsu := hidIn hsm.u
  have HIS := hidIn his
  clear hok hsm his
  generalize chkE e = res at *
  generalize formE e = fe at *
  obtain ⟨k, i, n, l, u, d, v, t⟩ := e
  simp only at *
  generalize nilB t = nt at *
  generalize hwe : wErrC t = we at *
  generalize hwt : wTextC t = wt at *
  clear hwe hwt
  generalize (plainC t).kind = tk at *
  generalize (plainC t).s = ts at *
  generalize (plainC t).n = tn at *
  generalize (plainC t).k.length = kl at *
  obtain ⟨f, hf⟩ : ∃ x, flds k = x := ⟨_, rfl⟩
  have HFZ : Hid (f.size ≤ 1000) := by
    rw [← hf]
    unfold Hid flds
    repeat' split
    all_goals decide
  rw [hf] at HFE
  clear ht
  go_enter Tryz.func14, Tryz.ntmps14
  go_wp2_with fail
  refine calls_same (refFields_any k _) ?_
  rw [hf]
  clear hf
  have HX := hidIn (heap_alloc_new w (.cells #[.int .i64 k, .string i, .string n, .string l, .string u, .int .i64 d, .int .i64 v, .int .i64 tk, .string ts, .int .i64 tn, .slice ka kl kc] 35))
  have HBV : Hid (Below w.heap.size w (w.alloc (.cells #[.int .i64 k, .string i, .string n, .string l, .string u, .int .i64 d, .int .i64 v, .int .i64 tk, .string ts, .int .i64 tn, .slice ka kl kc] 35))) := below_alloc (Below.refl _ _) _
  generalize w.alloc (.cells #[.int .i64 k, .string i, .string n, .string l, .string u, .int .i64 d, .int .i64 v, .int .i64 tk, .string ts, .int .i64 tn, .slice ka kl kc] 35) = V at *
  have HF : Hid (∀ w', Below V.heap.size V w' → w'.cell? ⟨w.heap.size, 0, none⟩ = some (.int .i64 k) ∧ w'.cell? ⟨w.heap.size, 1, none⟩ = some (.string i) ∧ w'.cell? ⟨w.heap.size, 2, none⟩ = some (.string n) ∧ w'.cell? ⟨w.heap.size, 3, none⟩ = some (.string l) ∧ w'.cell? ⟨w.heap.size, 4, none⟩ = some (.string u) ∧ w'.cell? ⟨w.heap.size, 5, none⟩ = some (.int .i64 d) ∧ w'.cell? ⟨w.heap.size, 6, none⟩ = some (.int .i64 v) ∧ w'.cell? ⟨w.heap.size, 7, none⟩ = some (.int .i64 tk)) := fun w' hw' => by
    have h0 := (hw'.block _ (Array.getElem?_eq_some_iff.1 HX.out).1).trans HX.out
    exact ⟨cell_of_row _ _ 0 _ _ _ h0, cell_of_row _ _ 1 _ _ _ h0, cell_of_row _ _ 2 _ _ _ h0, cell_of_row _ _ 3 _ _ _ h0, cell_of_row _ _ 4 _ _ _ h0, cell_of_row _ _ 5 _ _ _ h0, cell_of_row _ _ 6 _ _ _ h0, cell_of_row _ _ 7 _ _ _ h0⟩
  have HF4 : Hid (∀ w', Below V.heap.size V w' → w'.cell? ⟨w.heap.size, 8, none⟩ = some (.string ts) ∧ w'.cell? ⟨w.heap.size, 9, none⟩ = some (.int .i64 tn) ∧ w'.cell? ⟨w.heap.size, 10, none⟩ = some (.slice ka kl kc)) := fun w' hw' => by
    have h0 := (hw'.block _ (Array.getElem?_eq_some_iff.1 HX.out).1).trans HX.out
    exact ⟨cell_of_row _ _ 8 _ _ _ h0, cell_of_row _ _ 9 _ _ _ h0, cell_of_row _ _ 10 _ _ _ h0⟩
  have HH : Hid (∀ (c : UInt8) (w' : World), Below V.heap.size V w' → Calls Tryz.prog 44 #[.string f, .int .u8 (c.toNat : Int)] w' fun e w2 => e = .returned (.bool (hasB f c)) ∧ Below V.heap.size V w2) := fun c w' hw' => (refHas_any f c w' HFZ.out).mono (by rintro e w2 ⟨rfl, rfl⟩; exact ⟨rfl, hw'⟩)
  have HS : Hid (∀ (s : ByteArray), s.size ≤ 2147483648 → ∀ (b : Bool) (w' : World), Below V.heap.size V w' → Calls Tryz.prog 43 #[.string s, .bool b] w' fun e w2 => e = .returned (.bool (fitS s b)) ∧ Below V.heap.size V w2) := fun s hs b w' hw' => (refText11_any s b w' hs).mono (by rintro e w2 ⟨rfl, hb⟩; exact ⟨rfl, hw'.trans (hb.mono hw'.size)⟩)
  have HV : Hid (∀ (x : Int) (w' : World), Below V.heap.size V w' → Calls Tryz.prog 45 #[.int .i64 x] w' fun e w2 => e = .returned (.bool (vB x)) ∧ Below V.heap.size V w2) := fun x w' hw' => (refValid_any x w').mono (by rintro e w2 ⟨rfl, rfl⟩; exact ⟨rfl, hw'⟩)
  clear HX HFZ
  go_upto_region 2 with fail
  obtain ⟨x12, hx12⟩ : ∃ x, (f.toList == [63]) = x := ⟨_, rfl⟩
  have Hx12 := hidIn hx12
  clear hx12
  obtain ⟨x17, hx17⟩ : ∃ x, (hasB f 73) = x := ⟨_, rfl⟩
  have Hx17 := hidIn hx17
  clear hx17
  obtain ⟨x18, hx18⟩ : ∃ x, (fitS i x17) = x := ⟨_, rfl⟩
  have Hx18 := hidIn hx18
  clear hx18
  obtain ⟨x19, hx19⟩ : ∃ x, (!x18) = x := ⟨_, rfl⟩
  have Hx19 := hidIn hx19
  clear hx19
  obtain ⟨x20, hx20⟩ : ∃ x, (x12 || x19) = x := ⟨_, rfl⟩
  have Hx20 := hidIn hx20
  clear hx20
  obtain ⟨x25, hx25⟩ : ∃ x, (hasB f 78) = x := ⟨_, rfl⟩
  have Hx25 := hidIn hx25
  clear hx25
  obtain ⟨x26, hx26⟩ : ∃ x, (fitS n x25) = x := ⟨_, rfl⟩
  have Hx26 := hidIn hx26
  clear hx26
  obtain ⟨x27, hx27⟩ : ∃ x, (!x26) = x := ⟨_, rfl⟩
  have Hx27 := hidIn hx27
  clear hx27
  obtain ⟨x28, hx28⟩ : ∃ x, (x20 || x27) = x := ⟨_, rfl⟩
  have Hx28 := hidIn hx28
  clear hx28
  obtain ⟨x33, hx33⟩ : ∃ x, (hasB f 76) = x := ⟨_, rfl⟩
  have Hx33 := hidIn hx33
  clear hx33
  obtain ⟨x34, hx34⟩ : ∃ x, (fitS l x33) = x := ⟨_, rfl⟩
  have Hx34 := hidIn hx34
  clear hx34
  obtain ⟨x35, hx35⟩ : ∃ x, (!x34) = x := ⟨_, rfl⟩
  have Hx35 := hidIn hx35
  clear hx35
  obtain ⟨x36, hx36⟩ : ∃ x, (x28 || x35) = x := ⟨_, rfl⟩
  have Hx36 := hidIn hx36
  clear hx36
  obtain ⟨x41, hx41⟩ : ∃ x, (hasB f 67) = x := ⟨_, rfl⟩
  have Hx41 := hidIn hx41
  clear hx41
  obtain ⟨x42, hx42⟩ : ∃ x, (fitS u x41) = x := ⟨_, rfl⟩
  have Hx42 := hidIn hx42
  clear hx42
  obtain ⟨x43, hx43⟩ : ∃ x, (!x42) = x := ⟨_, rfl⟩
  have Hx43 := hidIn hx43
  clear hx43
  obtain ⟨x44, hx44⟩ : ∃ x, (x36 || x43) = x := ⟨_, rfl⟩
  have Hx44 := hidIn hx44
  clear hx44
  refine wp_region_class (fun w' => Below V.heap.size V w') (by kernel_rfl) (by kernel_rfl) (below_drew (Below.refl _ _)) ?_
  generalize hops : (#[_, _, _, _, _, _, _, _, _, _, _, _, _, _, _, _, _, _, _, _, _, _, _, _, _, _, _, _, _, _, _, _, _, _] : Array Oper) = ops
  have HD2 : Hid ((ops[2]?).bind (·.dst) = some 13) := by rw [← hops]; exact rfl
  have HD10 : Hid ((ops[10]?).bind (·.dst) = some 21) := by rw [← hops]; exact rfl
  have HD18 : Hid ((ops[18]?).bind (·.dst) = some 29) := by rw [← hops]; exact rfl
  have HD26 : Hid ((ops[26]?).bind (·.dst) = some 37) := by rw [← hops]; exact rfl
  clear hops
  refine quiet_runs (.string f) (wanted_none rfl) (fun w' hw' => ?_) ?_
  · go_simp
  simp only [Act.put, List.setIfInBounds_toArray, List.set_cons_zero, List.set_cons_succ]
  refine quiet_runs (.bool x12) (wanted_none rfl) (fun w' hw' => ?_) ?_
  · rw [← Hx12.out]
    go_simp
  simp only [Act.put, List.setIfInBounds_toArray, List.set_cons_zero, List.set_cons_succ]
  refine quiet_runs (.bool x12) (wanted_none rfl) (fun w' hw' => ?_) ?_
  · go_simp
  simp only [Act.put, List.setIfInBounds_toArray, List.set_cons_zero, List.set_cons_succ]
  refine mb_runs (!x12) (.pointer (some ⟨w.heap.size, 1, none⟩)) (want_no 2 13 x12 rfl HD2.out rfl) (fun hb w' hw' => ?_) ?_
  · simp only [Bool.not_eq_true'] at hb
    subst hb
    try simp only [mb_true, Bool.not_false, Bool.not_true]
    go_simp
  simp only [Act.put, List.setIfInBounds_toArray, List.set_cons_zero, List.set_cons_succ]
  refine mb_runs (!x12) (.string i) (want_no 2 13 x12 rfl HD2.out rfl) (fun hb w' hw' => ?_) ?_
  · simp only [Bool.not_eq_true'] at hb
    subst hb
    try simp only [mb_true, Bool.not_false, Bool.not_true]
    have q0 := (HF.out w' hw').2.1
    go_simp
  simp only [Act.put, List.setIfInBounds_toArray, List.set_cons_zero, List.set_cons_succ]
  refine mb_runs (!x12) (.string f) (want_no 2 13 x12 rfl HD2.out rfl) (fun hb w' hw' => ?_) ?_
  · simp only [Bool.not_eq_true'] at hb
    subst hb
    try simp only [mb_true, Bool.not_false, Bool.not_true]
    go_simp
  simp only [Act.put, List.setIfInBounds_toArray, List.set_cons_zero, List.set_cons_succ]
  refine mb_calls (!x12) 44 #[.string f, .int .u8 73] (.bool x17) (want_no 2 13 x12 rfl HD2.out rfl) (fun hb w' hw' => ?_) (fun hb w' hw' => ?_) ?_
  · simp only [Bool.not_eq_true'] at hb
    subst hb
    try simp only [mb_true, Bool.not_false, Bool.not_true]
    go_simp
  · rw [← Hx17.out]
    exact HH.out 73 w' hw'
  simp only [Act.put, List.setIfInBounds_toArray, List.set_cons_zero, List.set_cons_succ]
  refine mb_calls (!x12) 43 #[.string i, .bool x17] (.bool x18) (want_no 2 13 x12 rfl HD2.out rfl) (fun hb w' hw' => ?_) (fun hb w' hw' => ?_) ?_
  · simp only [Bool.not_eq_true'] at hb
    subst hb
    try simp only [mb_true, Bool.not_false, Bool.not_true]
    go_simp
  · rw [← Hx18.out]
    exact HS.out i (by first | exact hsi.out | exact hsn.out | exact hsl.out | exact hsu.out) _ w' hw'
  simp only [Act.put, List.setIfInBounds_toArray, List.set_cons_zero, List.set_cons_succ]
  refine mb_runs (!x12) (.bool x19) (want_no 2 13 x12 rfl HD2.out rfl) (fun hb w' hw' => ?_) ?_
  · simp only [Bool.not_eq_true'] at hb
    subst hb
    try simp only [mb_true, Bool.not_false, Bool.not_true]
    rw [← Hx19.out]
    go_simp
  simp only [Act.put, List.setIfInBounds_toArray, List.set_cons_zero, List.set_cons_succ]
  refine quiet_runs (.bool x20) (wanted_none rfl) (fun w' hw' => ?_) ?_
  · rw [← Hx20.out]
    cases x12 <;> (simp only [mb_true, mb_false, Bool.true_and, Bool.not_true, Bool.not_false]; go_simp)
  simp only [Act.put, List.setIfInBounds_toArray, List.set_cons_zero, List.set_cons_succ]
  refine quiet_runs (.bool x20) (wanted_none rfl) (fun w' hw' => ?_) ?_
  · go_simp
  simp only [Act.put, List.setIfInBounds_toArray, List.set_cons_zero, List.set_cons_succ]
  refine mb_runs (!x20) (.pointer (some ⟨w.heap.size, 2, none⟩)) (want_no 10 21 x20 rfl HD10.out rfl) (fun hb w' hw' => ?_) ?_
  · simp only [Bool.not_eq_true'] at hb
    subst hb
    try simp only [mb_true, Bool.not_false, Bool.not_true]
    go_simp
  simp only [Act.put, List.setIfInBounds_toArray, List.set_cons_zero, List.set_cons_succ]
  refine mb_runs (!x20) (.string n) (want_no 10 21 x20 rfl HD10.out rfl) (fun hb w' hw' => ?_) ?_
  · simp only [Bool.not_eq_true'] at hb
    subst hb
    try simp only [mb_true, Bool.not_false, Bool.not_true]
    have q0 := (HF.out w' hw').2.2.1
    go_simp
  simp only [Act.put, List.setIfInBounds_toArray, List.set_cons_zero, List.set_cons_succ]
  refine mb_runs (!x20) (.string f) (want_no 10 21 x20 rfl HD10.out rfl) (fun hb w' hw' => ?_) ?_
  · simp only [Bool.not_eq_true'] at hb
    subst hb
    try simp only [mb_true, Bool.not_false, Bool.not_true]
    go_simp
  simp only [Act.put, List.setIfInBounds_toArray, List.set_cons_zero, List.set_cons_succ]
  refine mb_calls (!x20) 44 #[.string f, .int .u8 78] (.bool x25) (want_no 10 21 x20 rfl HD10.out rfl) (fun hb w' hw' => ?_) (fun hb w' hw' => ?_) ?_
  · simp only [Bool.not_eq_true'] at hb
    subst hb
    try simp only [mb_true, Bool.not_false, Bool.not_true]
    go_simp
  · rw [← Hx25.out]
    exact HH.out 78 w' hw'
  simp only [Act.put, List.setIfInBounds_toArray, List.set_cons_zero, List.set_cons_succ]
  refine mb_calls (!x20) 43 #[.string n, .bool x25] (.bool x26) (want_no 10 21 x20 rfl HD10.out rfl) (fun hb w' hw' => ?_) (fun hb w' hw' => ?_) ?_
  · simp only [Bool.not_eq_true'] at hb
    subst hb
    try simp only [mb_true, Bool.not_false, Bool.not_true]
    go_simp
  · rw [← Hx26.out]
    exact HS.out n (by first | exact hsi.out | exact hsn.out | exact hsl.out | exact hsu.out) _ w' hw'
  simp only [Act.put, List.setIfInBounds_toArray, List.set_cons_zero, List.set_cons_succ]
  refine mb_runs (!x20) (.bool x27) (want_no 10 21 x20 rfl HD10.out rfl) (fun hb w' hw' => ?_) ?_
  · simp only [Bool.not_eq_true'] at hb
    subst hb
    try simp only [mb_true, Bool.not_false, Bool.not_true]
    rw [← Hx27.out]
    go_simp
  simp only [Act.put, List.setIfInBounds_toArray, List.set_cons_zero, List.set_cons_succ]
  refine quiet_runs (.bool x28) (wanted_none rfl) (fun w' hw' => ?_) ?_
  · rw [← Hx28.out]
    cases x20 <;> (simp only [mb_true, mb_false, Bool.true_and, Bool.not_true, Bool.not_false]; go_simp)
  simp only [Act.put, List.setIfInBounds_toArray, List.set_cons_zero, List.set_cons_succ]
  refine quiet_runs (.bool x28) (wanted_none rfl) (fun w' hw' => ?_) ?_
  · go_simp
  simp only [Act.put, List.setIfInBounds_toArray, List.set_cons_zero, List.set_cons_succ]
  refine mb_runs (!x28) (.pointer (some ⟨w.heap.size, 3, none⟩)) (want_no 18 29 x28 rfl HD18.out rfl) (fun hb w' hw' => ?_) ?_
  · simp only [Bool.not_eq_true'] at hb
    subst hb
    try simp only [mb_true, Bool.not_false, Bool.not_true]
    go_simp
  simp only [Act.put, List.setIfInBounds_toArray, List.set_cons_zero, List.set_cons_succ]
  refine mb_runs (!x28) (.string l) (want_no 18 29 x28 rfl HD18.out rfl) (fun hb w' hw' => ?_) ?_
  · simp only [Bool.not_eq_true'] at hb
    subst hb
    try simp only [mb_true, Bool.not_false, Bool.not_true]
    have q0 := (HF.out w' hw').2.2.2.1
    go_simp
  simp only [Act.put, List.setIfInBounds_toArray, List.set_cons_zero, List.set_cons_succ]
  refine mb_runs (!x28) (.string f) (want_no 18 29 x28 rfl HD18.out rfl) (fun hb w' hw' => ?_) ?_
  · simp only [Bool.not_eq_true'] at hb
    subst hb
    try simp only [mb_true, Bool.not_false, Bool.not_true]
    go_simp
  simp only [Act.put, List.setIfInBounds_toArray, List.set_cons_zero, List.set_cons_succ]
  refine mb_calls (!x28) 44 #[.string f, .int .u8 76] (.bool x33) (want_no 18 29 x28 rfl HD18.out rfl) (fun hb w' hw' => ?_) (fun hb w' hw' => ?_) ?_
  · simp only [Bool.not_eq_true'] at hb
    subst hb
    try simp only [mb_true, Bool.not_false, Bool.not_true]
    go_simp
  · rw [← Hx33.out]
    exact HH.out 76 w' hw'
  simp only [Act.put, List.setIfInBounds_toArray, List.set_cons_zero, List.set_cons_succ]
  refine mb_calls (!x28) 43 #[.string l, .bool x33] (.bool x34) (want_no 18 29 x28 rfl HD18.out rfl) (fun hb w' hw' => ?_) (fun hb w' hw' => ?_) ?_
  · simp only [Bool.not_eq_true'] at hb
    subst hb
    try simp only [mb_true, Bool.not_false, Bool.not_true]
    go_simp
  · rw [← Hx34.out]
    exact HS.out l (by first | exact hsi.out | exact hsn.out | exact hsl.out | exact hsu.out) _ w' hw'
  simp only [Act.put, List.setIfInBounds_toArray, List.set_cons_zero, List.set_cons_succ]
  refine mb_runs (!x28) (.bool x35) (want_no 18 29 x28 rfl HD18.out rfl) (fun hb w' hw' => ?_) ?_
  · simp only [Bool.not_eq_true'] at hb
    subst hb
    try simp only [mb_true, Bool.not_false, Bool.not_true]
    rw [← Hx35.out]
    go_simp
  simp only [Act.put, List.setIfInBounds_toArray, List.set_cons_zero, List.set_cons_succ]
  refine quiet_runs (.bool x36) (wanted_none rfl) (fun w' hw' => ?_) ?_
  · rw [← Hx36.out]
    cases x28 <;> (simp only [mb_true, mb_false, Bool.true_and, Bool.not_true, Bool.not_false]; go_simp)
  simp only [Act.put, List.setIfInBounds_toArray, List.set_cons_zero, List.set_cons_succ]
  refine quiet_runs (.bool x36) (wanted_none rfl) (fun w' hw' => ?_) ?_
  · go_simp
  simp only [Act.put, List.setIfInBounds_toArray, List.set_cons_zero, List.set_cons_succ]
  refine mb_runs (!x36) (.pointer (some ⟨w.heap.size, 4, none⟩)) (want_no 26 37 x36 rfl HD26.out rfl) (fun hb w' hw' => ?_) ?_
  · simp only [Bool.not_eq_true'] at hb
    subst hb
    try simp only [mb_true, Bool.not_false, Bool.not_true]
    go_simp
  simp only [Act.put, List.setIfInBounds_toArray, List.set_cons_zero, List.set_cons_succ]
  refine mb_runs (!x36) (.string u) (want_no 26 37 x36 rfl HD26.out rfl) (fun hb w' hw' => ?_) ?_
  · simp only [Bool.not_eq_true'] at hb
    subst hb
    try simp only [mb_true, Bool.not_false, Bool.not_true]
    have q0 := (HF.out w' hw').2.2.2.2.1
    go_simp
  simp only [Act.put, List.setIfInBounds_toArray, List.set_cons_zero, List.set_cons_succ]
  refine mb_runs (!x36) (.string f) (want_no 26 37 x36 rfl HD26.out rfl) (fun hb w' hw' => ?_) ?_
  · simp only [Bool.not_eq_true'] at hb
    subst hb
    try simp only [mb_true, Bool.not_false, Bool.not_true]
    go_simp
  simp only [Act.put, List.setIfInBounds_toArray, List.set_cons_zero, List.set_cons_succ]
  refine mb_calls (!x36) 44 #[.string f, .int .u8 67] (.bool x41) (want_no 26 37 x36 rfl HD26.out rfl) (fun hb w' hw' => ?_) (fun hb w' hw' => ?_) ?_
  · simp only [Bool.not_eq_true'] at hb
    subst hb
    try simp only [mb_true, Bool.not_false, Bool.not_true]
    go_simp
  · rw [← Hx41.out]
    exact HH.out 67 w' hw'
  simp only [Act.put, List.setIfInBounds_toArray, List.set_cons_zero, List.set_cons_succ]
  refine mb_calls (!x36) 43 #[.string u, .bool x41] (.bool x42) (want_no 26 37 x36 rfl HD26.out rfl) (fun hb w' hw' => ?_) (fun hb w' hw' => ?_) ?_
  · simp only [Bool.not_eq_true'] at hb
    subst hb
    try simp only [mb_true, Bool.not_false, Bool.not_true]
    go_simp
  · rw [← Hx42.out]
    exact HS.out u (by first | exact hsi.out | exact hsn.out | exact hsl.out | exact hsu.out) _ w' hw'
  simp only [Act.put, List.setIfInBounds_toArray, List.set_cons_zero, List.set_cons_succ]
  refine mb_runs (!x36) (.bool x43) (want_no 26 37 x36 rfl HD26.out rfl) (fun hb w' hw' => ?_) ?_
  · simp only [Bool.not_eq_true'] at hb
    subst hb
    try simp only [mb_true, Bool.not_false, Bool.not_true]
    rw [← Hx43.out]
    go_simp
  simp only [Act.put, List.setIfInBounds_toArray, List.set_cons_zero, List.set_cons_succ]
  refine quiet_runs (.bool x44) (wanted_none rfl) (fun w' hw' => ?_) ?_
  · rw [← Hx44.out]
    cases x36 <;> (simp only [mb_true, mb_false, Bool.true_and, Bool.not_true, Bool.not_false]; go_simp)
  simp only [Act.put, List.setIfInBounds_toArray, List.set_cons_zero, List.set_cons_succ]
  refine wpQuiet_nil ?_
  intro w9 hw9
  have HW9 := hidIn hw9
  clear hw9
  have HE1 : Hid (x44 = ((f.toList == [63]) || !(fitS i (hasB f 73)) || !(fitS n (hasB f 78)) || !(fitS l (hasB f 76)) || !(fitS u (hasB f 67)))) := by unfold Hid; rw [← Hx44.out, ← Hx43.out, ← Hx42.out, ← Hx41.out, ← Hx36.out, ← Hx35.out, ← Hx34.out, ← Hx33.out, ← Hx28.out, ← Hx27.out, ← Hx26.out, ← Hx25.out, ← Hx20.out, ← Hx19.out, ← Hx18.out, ← Hx17.out, ← Hx12.out]
  clear Hx12 Hx17 Hx18 Hx19 Hx20 Hx25 Hx26 Hx27 Hx28 Hx33 Hx34 Hx35 Hx36 Hx41 Hx42 Hx43 Hx44
  have HFN := hidIn (form_parts k d v (f.toList == [63]) (fitS i (hasB f 73)) (fitS n (hasB f 78)) (fitS l (hasB f 76)) (fitS u (hasB f 67)) (hasB f 68) (hasB f 86) (hasB f 84) nt (!(tk == 0)) is HIS.out)
  rw [← HFE.out, ← HE1.out] at HFN
  cases x44
  rotate_left
  · rw [Bool.true_or] at HFN
    have hfe : fe = false := HFN.out
    rw [hfe] at HR
    have HB := hidIn (HBV.out.trans (HW9.out.mono HBV.out.size))
    go_wp2_with fail
    go_ret
    exact ⟨by rw [HR.out]; rfl, HB.out⟩
  · rw [Bool.false_or] at HFN
    go_upto_region 4 with fail
    obtain ⟨y46, hy46⟩ : ∃ x, (hasB f 68) = x := ⟨_, rfl⟩
    have Hy46 := hidIn hy46
    clear hy46
    obtain ⟨y50, hy50⟩ : ∃ x, (decide (d < 0)) = x := ⟨_, rfl⟩
    have Hy50 := hidIn hy50
    clear hy50
    obtain ⟨y54, hy54⟩ : ∃ x, (decide (10000 < d)) = x := ⟨_, rfl⟩
    have Hy54 := hidIn hy54
    clear hy54
    obtain ⟨y55, hy55⟩ : ∃ x, (y50 || y54) = x := ⟨_, rfl⟩
    have Hy55 := hidIn hy55
    clear hy55
    obtain ⟨y56, hy56⟩ : ∃ x, (y46 && y55) = x := ⟨_, rfl⟩
    have Hy56 := hidIn hy56
    clear hy56
    obtain ⟨y59, hy59⟩ : ∃ x, (hasB f 68) = x := ⟨_, rfl⟩
    have Hy59 := hidIn hy59
    clear hy59
    obtain ⟨y60, hy60⟩ : ∃ x, (!y59) = x := ⟨_, rfl⟩
    have Hy60 := hidIn hy60
    clear hy60
    obtain ⟨y64, hy64⟩ : ∃ x, (!(d == 0)) = x := ⟨_, rfl⟩
    have Hy64 := hidIn hy64
    clear hy64
    obtain ⟨y65, hy65⟩ : ∃ x, (y60 && y64) = x := ⟨_, rfl⟩
    have Hy65 := hidIn hy65
    clear hy65
    obtain ⟨y66, hy66⟩ : ∃ x, (y56 || y65) = x := ⟨_, rfl⟩
    have Hy66 := hidIn hy66
    clear hy66
    obtain ⟨y69, hy69⟩ : ∃ x, (hasB f 86) = x := ⟨_, rfl⟩
    have Hy69 := hidIn hy69
    clear hy69
    obtain ⟨y73, hy73⟩ : ∃ x, (vB v) = x := ⟨_, rfl⟩
    have Hy73 := hidIn hy73
    clear hy73
    obtain ⟨y74, hy74⟩ : ∃ x, (!y73) = x := ⟨_, rfl⟩
    have Hy74 := hidIn hy74
    clear hy74
    obtain ⟨y75, hy75⟩ : ∃ x, (y69 && y74) = x := ⟨_, rfl⟩
    have Hy75 := hidIn hy75
    clear hy75
    obtain ⟨y76, hy76⟩ : ∃ x, (y66 || y75) = x := ⟨_, rfl⟩
    have Hy76 := hidIn hy76
    clear hy76
    obtain ⟨y79, hy79⟩ : ∃ x, (hasB f 86) = x := ⟨_, rfl⟩
    have Hy79 := hidIn hy79
    clear hy79
    obtain ⟨y80, hy80⟩ : ∃ x, (!y79) = x := ⟨_, rfl⟩
    have Hy80 := hidIn hy80
    clear hy80
    obtain ⟨y84, hy84⟩ : ∃ x, (!(v == 0)) = x := ⟨_, rfl⟩
    have Hy84 := hidIn hy84
    clear hy84
    obtain ⟨y85, hy85⟩ : ∃ x, (y80 && y84) = x := ⟨_, rfl⟩
    have Hy85 := hidIn hy85
    clear hy85
    obtain ⟨y86, hy86⟩ : ∃ x, (y76 || y85) = x := ⟨_, rfl⟩
    have Hy86 := hidIn hy86
    clear hy86
    refine wp_region_calm (fun w' => Below V.heap.size V w') HW9.out ?_
    generalize hops : (#[_, _, _, _, _, _, _, _, _, _, _, _, _, _, _, _, _, _, _, _, _, _, _, _, _, _, _, _, _, _, _, _, _, _, _, _, _, _, _, _, _, _] : Array Oper) = ops
    have HD2 : Hid ((ops[2]?).bind (·.dst) = some 47) := by rw [← hops]; exact rfl
    have HD6 : Hid ((ops[6]?).bind (·.dst) = some 51) := by rw [← hops]; exact rfl
    have HD12 : Hid ((ops[12]?).bind (·.dst) = some 57) := by rw [← hops]; exact rfl
    have HD16 : Hid ((ops[16]?).bind (·.dst) = some 61) := by rw [← hops]; exact rfl
    have HD22 : Hid ((ops[22]?).bind (·.dst) = some 67) := by rw [← hops]; exact rfl
    have HD25 : Hid ((ops[25]?).bind (·.dst) = some 70) := by rw [← hops]; exact rfl
    have HD32 : Hid ((ops[32]?).bind (·.dst) = some 77) := by rw [← hops]; exact rfl
    have HD36 : Hid ((ops[36]?).bind (·.dst) = some 81) := by rw [← hops]; exact rfl
    clear hops
    refine quiet_runs (.string f) (wanted_none rfl) (fun w' hw' => ?_) ?_
    · go_simp
    simp only [Act.put, List.setIfInBounds_toArray, List.set_cons_zero, List.set_cons_succ]
    refine quiet_calls 44 #[.string f, .int .u8 68] (.bool y46) (wanted_none rfl) (fun w' hw' => ?_) (fun w' hw' => ?_) ?_
    · go_simp
    · rw [← Hy46.out]
      exact HH.out 68 w' hw'
    simp only [Act.put, List.setIfInBounds_toArray, List.set_cons_zero, List.set_cons_succ]
    refine quiet_runs (.bool y46) (wanted_none rfl) (fun w' hw' => ?_) ?_
    · go_simp
    simp only [Act.put, List.setIfInBounds_toArray, List.set_cons_zero, List.set_cons_succ]
    refine mb_runs y46 (.pointer (some ⟨w.heap.size, 5, none⟩)) (want_yes 2 47 y46 rfl HD2.out rfl) (fun hb w' hw' => ?_) ?_
    · subst hb
      try simp only [mb_true]
      go_simp
    simp only [Act.put, List.setIfInBounds_toArray, List.set_cons_zero, List.set_cons_succ]
    refine mb_runs y46 (.int .i64 d) (want_yes 2 47 y46 rfl HD2.out rfl) (fun hb w' hw' => ?_) ?_
    · subst hb
      try simp only [mb_true]
      have q0 := (HF.out w' hw').2.2.2.2.2.1
      go_simp
    simp only [Act.put, List.setIfInBounds_toArray, List.set_cons_zero, List.set_cons_succ]
    refine mb_runs y46 (.bool y50) (want_yes 2 47 y46 rfl HD2.out rfl) (fun hb w' hw' => ?_) ?_
    · subst hb
      try simp only [mb_true]
      rw [← Hy50.out]
      go_simp
    simp only [Act.put, List.setIfInBounds_toArray, List.set_cons_zero, List.set_cons_succ]
    refine mb_runs y46 (.bool y50) (want_yes 2 47 y46 rfl HD2.out rfl) (fun hb w' hw' => ?_) ?_
    · subst hb
      try simp only [mb_true]
      go_simp
    simp only [Act.put, List.setIfInBounds_toArray, List.set_cons_zero, List.set_cons_succ]
    refine mb_runs (y46 && !y50) (.pointer (some ⟨w.heap.size, 5, none⟩)) (want_mb_no 6 51 y46 y50 rfl HD6.out rfl) (fun hb w' hw' => ?_) ?_
    · simp only [Bool.and_eq_true, Bool.not_eq_true'] at hb
      obtain ⟨hb1, hb2⟩ := hb
      subst hb1 hb2
      try simp only [mb_true, Bool.true_and, Bool.and_true, Bool.not_false, Bool.not_true]
      go_simp
    simp only [Act.put, List.setIfInBounds_toArray, List.set_cons_zero, List.set_cons_succ]
    refine mb_runs (y46 && !y50) (.int .i64 d) (want_mb_no 6 51 y46 y50 rfl HD6.out rfl) (fun hb w' hw' => ?_) ?_
    · simp only [Bool.and_eq_true, Bool.not_eq_true'] at hb
      obtain ⟨hb1, hb2⟩ := hb
      subst hb1 hb2
      try simp only [mb_true, Bool.true_and, Bool.and_true, Bool.not_false, Bool.not_true]
      have q0 := (HF.out w' hw').2.2.2.2.2.1
      go_simp
    simp only [Act.put, List.setIfInBounds_toArray, List.set_cons_zero, List.set_cons_succ]
    refine mb_runs (y46 && !y50) (.bool y54) (want_mb_no 6 51 y46 y50 rfl HD6.out rfl) (fun hb w' hw' => ?_) ?_
    · simp only [Bool.and_eq_true, Bool.not_eq_true'] at hb
      obtain ⟨hb1, hb2⟩ := hb
      subst hb1 hb2
      try simp only [mb_true, Bool.true_and, Bool.and_true, Bool.not_false, Bool.not_true]
      rw [← Hy54.out]
      go_simp
    simp only [Act.put, List.setIfInBounds_toArray, List.set_cons_zero, List.set_cons_succ]
    refine mb_runs y46 (.bool y55) (want_yes 2 47 y46 rfl HD2.out rfl) (fun hb w' hw' => ?_) ?_
    · subst hb
      try simp only [mb_true]
      rw [← Hy55.out]
      cases y50 <;> (simp only [mb_true, mb_false, Bool.true_and, Bool.not_true, Bool.not_false]; go_simp)
    simp only [Act.put, List.setIfInBounds_toArray, List.set_cons_zero, List.set_cons_succ]
    refine quiet_runs (.bool y56) (wanted_none rfl) (fun w' hw' => ?_) ?_
    · rw [← Hy56.out]
      cases y46 <;> (simp only [mb_true, mb_false, Bool.true_and, Bool.not_true, Bool.not_false]; go_simp)
    simp only [Act.put, List.setIfInBounds_toArray, List.set_cons_zero, List.set_cons_succ]
    refine quiet_runs (.bool y56) (wanted_none rfl) (fun w' hw' => ?_) ?_
    · go_simp
    simp only [Act.put, List.setIfInBounds_toArray, List.set_cons_zero, List.set_cons_succ]
    refine mb_runs (!y56) (.string f) (want_no 12 57 y56 rfl HD12.out rfl) (fun hb w' hw' => ?_) ?_
    · simp only [Bool.not_eq_true'] at hb
      subst hb
      try simp only [mb_true, Bool.not_false, Bool.not_true]
      go_simp
    simp only [Act.put, List.setIfInBounds_toArray, List.set_cons_zero, List.set_cons_succ]
    refine mb_calls (!y56) 44 #[.string f, .int .u8 68] (.bool y59) (want_no 12 57 y56 rfl HD12.out rfl) (fun hb w' hw' => ?_) (fun hb w' hw' => ?_) ?_
    · simp only [Bool.not_eq_true'] at hb
      subst hb
      try simp only [mb_true, Bool.not_false, Bool.not_true]
      go_simp
    · rw [← Hy59.out]
      exact HH.out 68 w' hw'
    simp only [Act.put, List.setIfInBounds_toArray, List.set_cons_zero, List.set_cons_succ]
    refine mb_runs (!y56) (.bool y60) (want_no 12 57 y56 rfl HD12.out rfl) (fun hb w' hw' => ?_) ?_
    · simp only [Bool.not_eq_true'] at hb
      subst hb
      try simp only [mb_true, Bool.not_false, Bool.not_true]
      rw [← Hy60.out]
      go_simp
    simp only [Act.put, List.setIfInBounds_toArray, List.set_cons_zero, List.set_cons_succ]
    refine mb_runs (!y56) (.bool y60) (want_no 12 57 y56 rfl HD12.out rfl) (fun hb w' hw' => ?_) ?_
    · simp only [Bool.not_eq_true'] at hb
      subst hb
      try simp only [mb_true, Bool.not_false, Bool.not_true]
      go_simp
    simp only [Act.put, List.setIfInBounds_toArray, List.set_cons_zero, List.set_cons_succ]
    refine mb_runs (!y56 && y60) (.pointer (some ⟨w.heap.size, 5, none⟩)) (want_mb_yes 16 61 (!y56) y60 rfl HD16.out rfl) (fun hb w' hw' => ?_) ?_
    · simp only [Bool.and_eq_true, Bool.not_eq_true'] at hb
      obtain ⟨hb1, hb2⟩ := hb
      subst hb1 hb2
      try simp only [mb_true, Bool.true_and, Bool.and_true, Bool.not_false, Bool.not_true]
      go_simp
    simp only [Act.put, List.setIfInBounds_toArray, List.set_cons_zero, List.set_cons_succ]
    refine mb_runs (!y56 && y60) (.int .i64 d) (want_mb_yes 16 61 (!y56) y60 rfl HD16.out rfl) (fun hb w' hw' => ?_) ?_
    · simp only [Bool.and_eq_true, Bool.not_eq_true'] at hb
      obtain ⟨hb1, hb2⟩ := hb
      subst hb1 hb2
      try simp only [mb_true, Bool.true_and, Bool.and_true, Bool.not_false, Bool.not_true]
      have q0 := (HF.out w' hw').2.2.2.2.2.1
      go_simp
    simp only [Act.put, List.setIfInBounds_toArray, List.set_cons_zero, List.set_cons_succ]
    refine mb_runs (!y56 && y60) (.bool y64) (want_mb_yes 16 61 (!y56) y60 rfl HD16.out rfl) (fun hb w' hw' => ?_) ?_
    · simp only [Bool.and_eq_true, Bool.not_eq_true'] at hb
      obtain ⟨hb1, hb2⟩ := hb
      subst hb1 hb2
      try simp only [mb_true, Bool.true_and, Bool.and_true, Bool.not_false, Bool.not_true]
      rw [← Hy64.out]
      go_simp
      try rfl
    simp only [Act.put, List.setIfInBounds_toArray, List.set_cons_zero, List.set_cons_succ]
    refine mb_runs (!y56) (.bool y65) (want_no 12 57 y56 rfl HD12.out rfl) (fun hb w' hw' => ?_) ?_
    · simp only [Bool.not_eq_true'] at hb
      subst hb
      try simp only [mb_true, Bool.not_false, Bool.not_true]
      rw [← Hy65.out]
      cases y60 <;> (simp only [mb_true, mb_false, Bool.true_and, Bool.not_true, Bool.not_false]; go_simp)
    simp only [Act.put, List.setIfInBounds_toArray, List.set_cons_zero, List.set_cons_succ]
    refine quiet_runs (.bool y66) (wanted_none rfl) (fun w' hw' => ?_) ?_
    · rw [← Hy66.out]
      cases y56 <;> (simp only [mb_true, mb_false, Bool.true_and, Bool.not_true, Bool.not_false]; go_simp)
    simp only [Act.put, List.setIfInBounds_toArray, List.set_cons_zero, List.set_cons_succ]
    refine quiet_runs (.bool y66) (wanted_none rfl) (fun w' hw' => ?_) ?_
    · go_simp
    simp only [Act.put, List.setIfInBounds_toArray, List.set_cons_zero, List.set_cons_succ]
    refine mb_runs (!y66) (.string f) (want_no 22 67 y66 rfl HD22.out rfl) (fun hb w' hw' => ?_) ?_
    · simp only [Bool.not_eq_true'] at hb
      subst hb
      try simp only [mb_true, Bool.not_false, Bool.not_true]
      go_simp
    simp only [Act.put, List.setIfInBounds_toArray, List.set_cons_zero, List.set_cons_succ]
    refine mb_calls (!y66) 44 #[.string f, .int .u8 86] (.bool y69) (want_no 22 67 y66 rfl HD22.out rfl) (fun hb w' hw' => ?_) (fun hb w' hw' => ?_) ?_
    · simp only [Bool.not_eq_true'] at hb
      subst hb
      try simp only [mb_true, Bool.not_false, Bool.not_true]
      go_simp
    · rw [← Hy69.out]
      exact HH.out 86 w' hw'
    simp only [Act.put, List.setIfInBounds_toArray, List.set_cons_zero, List.set_cons_succ]
    refine mb_runs (!y66) (.bool y69) (want_no 22 67 y66 rfl HD22.out rfl) (fun hb w' hw' => ?_) ?_
    · simp only [Bool.not_eq_true'] at hb
      subst hb
      try simp only [mb_true, Bool.not_false, Bool.not_true]
      go_simp
    simp only [Act.put, List.setIfInBounds_toArray, List.set_cons_zero, List.set_cons_succ]
    refine mb_runs (!y66 && y69) (.pointer (some ⟨w.heap.size, 6, none⟩)) (want_mb_yes 25 70 (!y66) y69 rfl HD25.out rfl) (fun hb w' hw' => ?_) ?_
    · simp only [Bool.and_eq_true, Bool.not_eq_true'] at hb
      obtain ⟨hb1, hb2⟩ := hb
      subst hb1 hb2
      try simp only [mb_true, Bool.true_and, Bool.and_true, Bool.not_false, Bool.not_true]
      go_simp
    simp only [Act.put, List.setIfInBounds_toArray, List.set_cons_zero, List.set_cons_succ]
    refine mb_runs (!y66 && y69) (.int .i64 v) (want_mb_yes 25 70 (!y66) y69 rfl HD25.out rfl) (fun hb w' hw' => ?_) ?_
    · simp only [Bool.and_eq_true, Bool.not_eq_true'] at hb
      obtain ⟨hb1, hb2⟩ := hb
      subst hb1 hb2
      try simp only [mb_true, Bool.true_and, Bool.and_true, Bool.not_false, Bool.not_true]
      have q0 := (HF.out w' hw').2.2.2.2.2.2.1
      go_simp
    simp only [Act.put, List.setIfInBounds_toArray, List.set_cons_zero, List.set_cons_succ]
    refine mb_calls (!y66 && y69) 45 #[.int .i64 v] (.bool y73) (want_mb_yes 25 70 (!y66) y69 rfl HD25.out rfl) (fun hb w' hw' => ?_) (fun hb w' hw' => ?_) ?_
    · simp only [Bool.and_eq_true, Bool.not_eq_true'] at hb
      obtain ⟨hb1, hb2⟩ := hb
      subst hb1 hb2
      try simp only [mb_true, Bool.true_and, Bool.and_true, Bool.not_false, Bool.not_true]
      go_simp
    · rw [← Hy73.out]
      exact HV.out v w' hw'
    simp only [Act.put, List.setIfInBounds_toArray, List.set_cons_zero, List.set_cons_succ]
    refine mb_runs (!y66 && y69) (.bool y74) (want_mb_yes 25 70 (!y66) y69 rfl HD25.out rfl) (fun hb w' hw' => ?_) ?_
    · simp only [Bool.and_eq_true, Bool.not_eq_true'] at hb
      obtain ⟨hb1, hb2⟩ := hb
      subst hb1 hb2
      try simp only [mb_true, Bool.true_and, Bool.and_true, Bool.not_false, Bool.not_true]
      rw [← Hy74.out]
      go_simp
    simp only [Act.put, List.setIfInBounds_toArray, List.set_cons_zero, List.set_cons_succ]
    refine mb_runs (!y66) (.bool y75) (want_no 22 67 y66 rfl HD22.out rfl) (fun hb w' hw' => ?_) ?_
    · simp only [Bool.not_eq_true'] at hb
      subst hb
      try simp only [mb_true, Bool.not_false, Bool.not_true]
      rw [← Hy75.out]
      cases y69 <;> (simp only [mb_true, mb_false, Bool.true_and, Bool.not_true, Bool.not_false]; go_simp)
    simp only [Act.put, List.setIfInBounds_toArray, List.set_cons_zero, List.set_cons_succ]
    refine quiet_runs (.bool y76) (wanted_none rfl) (fun w' hw' => ?_) ?_
    · rw [← Hy76.out]
      cases y66 <;> (simp only [mb_true, mb_false, Bool.true_and, Bool.not_true, Bool.not_false]; go_simp)
    simp only [Act.put, List.setIfInBounds_toArray, List.set_cons_zero, List.set_cons_succ]
    refine quiet_runs (.bool y76) (wanted_none rfl) (fun w' hw' => ?_) ?_
    · go_simp
    simp only [Act.put, List.setIfInBounds_toArray, List.set_cons_zero, List.set_cons_succ]
    refine mb_runs (!y76) (.string f) (want_no 32 77 y76 rfl HD32.out rfl) (fun hb w' hw' => ?_) ?_
    · simp only [Bool.not_eq_true'] at hb
      subst hb
      try simp only [mb_true, Bool.not_false, Bool.not_true]
      go_simp
    simp only [Act.put, List.setIfInBounds_toArray, List.set_cons_zero, List.set_cons_succ]
    refine mb_calls (!y76) 44 #[.string f, .int .u8 86] (.bool y79) (want_no 32 77 y76 rfl HD32.out rfl) (fun hb w' hw' => ?_) (fun hb w' hw' => ?_) ?_
    · simp only [Bool.not_eq_true'] at hb
      subst hb
      try simp only [mb_true, Bool.not_false, Bool.not_true]
      go_simp
    · rw [← Hy79.out]
      exact HH.out 86 w' hw'
    simp only [Act.put, List.setIfInBounds_toArray, List.set_cons_zero, List.set_cons_succ]
    refine mb_runs (!y76) (.bool y80) (want_no 32 77 y76 rfl HD32.out rfl) (fun hb w' hw' => ?_) ?_
    · simp only [Bool.not_eq_true'] at hb
      subst hb
      try simp only [mb_true, Bool.not_false, Bool.not_true]
      rw [← Hy80.out]
      go_simp
    simp only [Act.put, List.setIfInBounds_toArray, List.set_cons_zero, List.set_cons_succ]
    refine mb_runs (!y76) (.bool y80) (want_no 32 77 y76 rfl HD32.out rfl) (fun hb w' hw' => ?_) ?_
    · simp only [Bool.not_eq_true'] at hb
      subst hb
      try simp only [mb_true, Bool.not_false, Bool.not_true]
      go_simp
    simp only [Act.put, List.setIfInBounds_toArray, List.set_cons_zero, List.set_cons_succ]
    refine mb_runs (!y76 && y80) (.pointer (some ⟨w.heap.size, 6, none⟩)) (want_mb_yes 36 81 (!y76) y80 rfl HD36.out rfl) (fun hb w' hw' => ?_) ?_
    · simp only [Bool.and_eq_true, Bool.not_eq_true'] at hb
      obtain ⟨hb1, hb2⟩ := hb
      subst hb1 hb2
      try simp only [mb_true, Bool.true_and, Bool.and_true, Bool.not_false, Bool.not_true]
      go_simp
    simp only [Act.put, List.setIfInBounds_toArray, List.set_cons_zero, List.set_cons_succ]
    refine mb_runs (!y76 && y80) (.int .i64 v) (want_mb_yes 36 81 (!y76) y80 rfl HD36.out rfl) (fun hb w' hw' => ?_) ?_
    · simp only [Bool.and_eq_true, Bool.not_eq_true'] at hb
      obtain ⟨hb1, hb2⟩ := hb
      subst hb1 hb2
      try simp only [mb_true, Bool.true_and, Bool.and_true, Bool.not_false, Bool.not_true]
      have q0 := (HF.out w' hw').2.2.2.2.2.2.1
      go_simp
    simp only [Act.put, List.setIfInBounds_toArray, List.set_cons_zero, List.set_cons_succ]
    refine mb_runs (!y76 && y80) (.bool y84) (want_mb_yes 36 81 (!y76) y80 rfl HD36.out rfl) (fun hb w' hw' => ?_) ?_
    · simp only [Bool.and_eq_true, Bool.not_eq_true'] at hb
      obtain ⟨hb1, hb2⟩ := hb
      subst hb1 hb2
      try simp only [mb_true, Bool.true_and, Bool.and_true, Bool.not_false, Bool.not_true]
      rw [← Hy84.out]
      go_simp
      try rfl
    simp only [Act.put, List.setIfInBounds_toArray, List.set_cons_zero, List.set_cons_succ]
    refine mb_runs (!y76) (.bool y85) (want_no 32 77 y76 rfl HD32.out rfl) (fun hb w' hw' => ?_) ?_
    · simp only [Bool.not_eq_true'] at hb
      subst hb
      try simp only [mb_true, Bool.not_false, Bool.not_true]
      rw [← Hy85.out]
      cases y80 <;> (simp only [mb_true, mb_false, Bool.true_and, Bool.not_true, Bool.not_false]; go_simp)
    simp only [Act.put, List.setIfInBounds_toArray, List.set_cons_zero, List.set_cons_succ]
    refine quiet_runs (.bool y86) (wanted_none rfl) (fun w' hw' => ?_) ?_
    · rw [← Hy86.out]
      cases y76 <;> (simp only [mb_true, mb_false, Bool.true_and, Bool.not_true, Bool.not_false]; go_simp)
    simp only [Act.put, List.setIfInBounds_toArray, List.set_cons_zero, List.set_cons_succ]
    refine wpQuiet_nil ?_
    intro w10 hw9
    have HW10 := hidIn hw9
    clear hw9
    have HE2 : Hid (y86 = ((hasB f 68 && (decide (d < 0) || decide (10000 < d))) || (!(hasB f 68) && !(d == 0)) || (hasB f 86 && !(vB v)) || (!(hasB f 86) && !(v == 0)))) := by unfold Hid; rw [← Hy86.out, ← Hy85.out, ← Hy84.out, ← Hy80.out, ← Hy79.out, ← Hy76.out, ← Hy75.out, ← Hy74.out, ← Hy73.out, ← Hy69.out, ← Hy66.out, ← Hy65.out, ← Hy64.out, ← Hy60.out, ← Hy59.out, ← Hy56.out, ← Hy55.out, ← Hy54.out, ← Hy50.out, ← Hy46.out]
    clear Hy46 Hy50 Hy54 Hy55 Hy56 Hy59 Hy60 Hy64 Hy65 Hy66 Hy69 Hy73 Hy74 Hy75 Hy76 Hy79 Hy80 Hy84 Hy85 Hy86
    rw [← HE2.out] at HFN
    cases y86
    rotate_left
    · rw [Bool.true_or] at HFN
      have hfe : fe = false := HFN.out
      rw [hfe] at HR
      have HB := hidIn (HBV.out.trans (HW10.out.mono HBV.out.size))
      go_wp2_with fail
      go_ret
      exact ⟨by rw [HR.out]; rfl, HB.out⟩
    · rw [Bool.false_or] at HFN
      go_upto_region 6 with fail
      obtain ⟨z88, hz88⟩ : ∃ x, (hasB f 84) = x := ⟨_, rfl⟩
      have Hz88 := hidIn hz88
      clear hz88
      obtain ⟨z89, hz89⟩ : ∃ x, (!z88) = x := ⟨_, rfl⟩
      have Hz89 := hidIn hz89
      clear hz89
      obtain ⟨z94, hz94⟩ : ∃ x, (!(tk == 0)) = x := ⟨_, rfl⟩
      have Hz94 := hidIn hz94
      clear hz94
      obtain ⟨z97, hz97⟩ : ∃ x, (z94 || is) = x := ⟨_, rfl⟩
      have Hz97 := hidIn hz97
      clear hz97
      obtain ⟨z98, hz98⟩ : ∃ x, (z89 && z97) = x := ⟨_, rfl⟩
      have Hz98 := hidIn hz98
      clear hz98
      obtain ⟨z102, hz102⟩ : ∃ x, (k == 4) = x := ⟨_, rfl⟩
      have Hz102 := hidIn hz102
      clear hz102
      obtain ⟨z106, hz106⟩ : ∃ x, (decide (v < 0)) = x := ⟨_, rfl⟩
      have Hz106 := hidIn hz106
      clear hz106
      obtain ⟨z110, hz110⟩ : ∃ x, (decide (1 < v)) = x := ⟨_, rfl⟩
      have Hz110 := hidIn hz110
      clear hz110
      obtain ⟨z111, hz111⟩ : ∃ x, (z106 || z110) = x := ⟨_, rfl⟩
      have Hz111 := hidIn hz111
      clear hz111
      obtain ⟨z112, hz112⟩ : ∃ x, (z102 && z111) = x := ⟨_, rfl⟩
      have Hz112 := hidIn hz112
      clear hz112
      obtain ⟨z113, hz113⟩ : ∃ x, (z98 || z112) = x := ⟨_, rfl⟩
      have Hz113 := hidIn hz113
      clear hz113
      refine wp_region_calm (fun w' => Below V.heap.size V w') HW10.out ?_
      generalize hops : (#[_, _, _, _, _, _, _, _, _, _, _, _, _, _, _, _, _, _, _, _, _, _, _, _, _, _, _] : Array Oper) = ops
      have HD3 : Hid ((ops[3]?).bind (·.dst) = some 90) := by rw [← hops]; exact rfl
      have HD8 : Hid ((ops[8]?).bind (·.dst) = some 95) := by rw [← hops]; exact rfl
      have HD12 : Hid ((ops[12]?).bind (·.dst) = some 99) := by rw [← hops]; exact rfl
      have HD16 : Hid ((ops[16]?).bind (·.dst) = some 103) := by rw [← hops]; exact rfl
      have HD20 : Hid ((ops[20]?).bind (·.dst) = some 107) := by rw [← hops]; exact rfl
      clear hops
      refine quiet_runs (.string f) (wanted_none rfl) (fun w' hw' => ?_) ?_
      · go_simp
      simp only [Act.put, List.setIfInBounds_toArray, List.set_cons_zero, List.set_cons_succ]
      refine quiet_calls 44 #[.string f, .int .u8 84] (.bool z88) (wanted_none rfl) (fun w' hw' => ?_) (fun w' hw' => ?_) ?_
      · go_simp
      · rw [← Hz88.out]
        exact HH.out 84 w' hw'
      simp only [Act.put, List.setIfInBounds_toArray, List.set_cons_zero, List.set_cons_succ]
      refine quiet_runs (.bool z89) (wanted_none rfl) (fun w' hw' => ?_) ?_
      · rw [← Hz89.out]
        go_simp
      simp only [Act.put, List.setIfInBounds_toArray, List.set_cons_zero, List.set_cons_succ]
      refine quiet_runs (.bool z89) (wanted_none rfl) (fun w' hw' => ?_) ?_
      · go_simp
      simp only [Act.put, List.setIfInBounds_toArray, List.set_cons_zero, List.set_cons_succ]
      refine mb_runs z89 (.pointer (some ⟨w.heap.size, 7, none⟩)) (want_yes 3 90 z89 rfl HD3.out rfl) (fun hb w' hw' => ?_) ?_
      · subst hb
        try simp only [mb_true]
        go_simp
      simp only [Act.put, List.setIfInBounds_toArray, List.set_cons_zero, List.set_cons_succ]
      refine mb_runs z89 (.pointer (some ⟨w.heap.size, 7, none⟩)) (want_yes 3 90 z89 rfl HD3.out rfl) (fun hb w' hw' => ?_) ?_
      · subst hb
        try simp only [mb_true]
        go_simp
      simp only [Act.put, List.setIfInBounds_toArray, List.set_cons_zero, List.set_cons_succ]
      refine mb_runs z89 (.int .i64 tk) (want_yes 3 90 z89 rfl HD3.out rfl) (fun hb w' hw' => ?_) ?_
      · subst hb
        try simp only [mb_true]
        have q0 := (HF.out w' hw').2.2.2.2.2.2.2
        go_simp
      simp only [Act.put, List.setIfInBounds_toArray, List.set_cons_zero, List.set_cons_succ]
      refine mb_runs z89 (.bool z94) (want_yes 3 90 z89 rfl HD3.out rfl) (fun hb w' hw' => ?_) ?_
      · subst hb
        try simp only [mb_true]
        rw [← Hz94.out]
        go_simp
        try rfl
      simp only [Act.put, List.setIfInBounds_toArray, List.set_cons_zero, List.set_cons_succ]
      refine mb_runs z89 (.bool z94) (want_yes 3 90 z89 rfl HD3.out rfl) (fun hb w' hw' => ?_) ?_
      · subst hb
        try simp only [mb_true]
        go_simp
      simp only [Act.put, List.setIfInBounds_toArray, List.set_cons_zero, List.set_cons_succ]
      refine mb_runs (z89 && !z94) (.bool is) (want_mb_no 8 95 z89 z94 rfl HD8.out rfl) (fun hb w' hw' => ?_) ?_
      · simp only [Bool.and_eq_true, Bool.not_eq_true'] at hb
        obtain ⟨hb1, hb2⟩ := hb
        subst hb1 hb2
        try simp only [mb_true, Bool.true_and, Bool.and_true, Bool.not_false, Bool.not_true]
        go_simp
      simp only [Act.put, List.setIfInBounds_toArray, List.set_cons_zero, List.set_cons_succ]
      refine mb_runs z89 (.bool z97) (want_yes 3 90 z89 rfl HD3.out rfl) (fun hb w' hw' => ?_) ?_
      · subst hb
        try simp only [mb_true]
        rw [← Hz97.out]
        cases z94 <;> (simp only [mb_true, mb_false, Bool.true_and, Bool.not_true, Bool.not_false]; go_simp)
      simp only [Act.put, List.setIfInBounds_toArray, List.set_cons_zero, List.set_cons_succ]
      refine quiet_runs (.bool z98) (wanted_none rfl) (fun w' hw' => ?_) ?_
      · rw [← Hz98.out]
        cases z89 <;> (simp only [mb_true, mb_false, Bool.true_and, Bool.not_true, Bool.not_false]; go_simp)
      simp only [Act.put, List.setIfInBounds_toArray, List.set_cons_zero, List.set_cons_succ]
      refine quiet_runs (.bool z98) (wanted_none rfl) (fun w' hw' => ?_) ?_
      · go_simp
      simp only [Act.put, List.setIfInBounds_toArray, List.set_cons_zero, List.set_cons_succ]
      refine mb_runs (!z98) (.pointer (some ⟨w.heap.size, 0, none⟩)) (want_no 12 99 z98 rfl HD12.out rfl) (fun hb w' hw' => ?_) ?_
      · simp only [Bool.not_eq_true'] at hb
        subst hb
        try simp only [mb_true, Bool.not_false, Bool.not_true]
        go_simp
      simp only [Act.put, List.setIfInBounds_toArray, List.set_cons_zero, List.set_cons_succ]
      refine mb_runs (!z98) (.int .i64 k) (want_no 12 99 z98 rfl HD12.out rfl) (fun hb w' hw' => ?_) ?_
      · simp only [Bool.not_eq_true'] at hb
        subst hb
        try simp only [mb_true, Bool.not_false, Bool.not_true]
        have q0 := (HF.out w' hw').1
        go_simp
      simp only [Act.put, List.setIfInBounds_toArray, List.set_cons_zero, List.set_cons_succ]
      refine mb_runs (!z98) (.bool z102) (want_no 12 99 z98 rfl HD12.out rfl) (fun hb w' hw' => ?_) ?_
      · simp only [Bool.not_eq_true'] at hb
        subst hb
        try simp only [mb_true, Bool.not_false, Bool.not_true]
        rw [← Hz102.out]
        go_simp
      simp only [Act.put, List.setIfInBounds_toArray, List.set_cons_zero, List.set_cons_succ]
      refine mb_runs (!z98) (.bool z102) (want_no 12 99 z98 rfl HD12.out rfl) (fun hb w' hw' => ?_) ?_
      · simp only [Bool.not_eq_true'] at hb
        subst hb
        try simp only [mb_true, Bool.not_false, Bool.not_true]
        go_simp
      simp only [Act.put, List.setIfInBounds_toArray, List.set_cons_zero, List.set_cons_succ]
      refine mb_runs (!z98 && z102) (.pointer (some ⟨w.heap.size, 6, none⟩)) (want_mb_yes 16 103 (!z98) z102 rfl HD16.out rfl) (fun hb w' hw' => ?_) ?_
      · simp only [Bool.and_eq_true, Bool.not_eq_true'] at hb
        obtain ⟨hb1, hb2⟩ := hb
        subst hb1 hb2
        try simp only [mb_true, Bool.true_and, Bool.and_true, Bool.not_false, Bool.not_true]
        go_simp
      simp only [Act.put, List.setIfInBounds_toArray, List.set_cons_zero, List.set_cons_succ]
      refine mb_runs (!z98 && z102) (.int .i64 v) (want_mb_yes 16 103 (!z98) z102 rfl HD16.out rfl) (fun hb w' hw' => ?_) ?_
      · simp only [Bool.and_eq_true, Bool.not_eq_true'] at hb
        obtain ⟨hb1, hb2⟩ := hb
        subst hb1 hb2
        try simp only [mb_true, Bool.true_and, Bool.and_true, Bool.not_false, Bool.not_true]
        have q0 := (HF.out w' hw').2.2.2.2.2.2.1
        go_simp
      simp only [Act.put, List.setIfInBounds_toArray, List.set_cons_zero, List.set_cons_succ]
      refine mb_runs (!z98 && z102) (.bool z106) (want_mb_yes 16 103 (!z98) z102 rfl HD16.out rfl) (fun hb w' hw' => ?_) ?_
      · simp only [Bool.and_eq_true, Bool.not_eq_true'] at hb
        obtain ⟨hb1, hb2⟩ := hb
        subst hb1 hb2
        try simp only [mb_true, Bool.true_and, Bool.and_true, Bool.not_false, Bool.not_true]
        rw [← Hz106.out]
        go_simp
      simp only [Act.put, List.setIfInBounds_toArray, List.set_cons_zero, List.set_cons_succ]
      refine mb_runs (!z98 && z102) (.bool z106) (want_mb_yes 16 103 (!z98) z102 rfl HD16.out rfl) (fun hb w' hw' => ?_) ?_
      · simp only [Bool.and_eq_true, Bool.not_eq_true'] at hb
        obtain ⟨hb1, hb2⟩ := hb
        subst hb1 hb2
        try simp only [mb_true, Bool.true_and, Bool.and_true, Bool.not_false, Bool.not_true]
        go_simp
      simp only [Act.put, List.setIfInBounds_toArray, List.set_cons_zero, List.set_cons_succ]
      refine mb_runs ((!z98 && z102) && !z106) (.pointer (some ⟨w.heap.size, 6, none⟩)) (want_mb_no 20 107 (!z98 && z102) z106 rfl HD20.out rfl) (fun hb w' hw' => ?_) ?_
      · simp only [Bool.and_eq_true, Bool.not_eq_true'] at hb
        obtain ⟨⟨hb1, hb2⟩, hb3⟩ := hb
        subst hb1 hb2 hb3
        try simp only [mb_true, Bool.true_and, Bool.and_true, Bool.not_false, Bool.not_true]
        go_simp
      simp only [Act.put, List.setIfInBounds_toArray, List.set_cons_zero, List.set_cons_succ]
      refine mb_runs ((!z98 && z102) && !z106) (.int .i64 v) (want_mb_no 20 107 (!z98 && z102) z106 rfl HD20.out rfl) (fun hb w' hw' => ?_) ?_
      · simp only [Bool.and_eq_true, Bool.not_eq_true'] at hb
        obtain ⟨⟨hb1, hb2⟩, hb3⟩ := hb
        subst hb1 hb2 hb3
        try simp only [mb_true, Bool.true_and, Bool.and_true, Bool.not_false, Bool.not_true]
        have q0 := (HF.out w' hw').2.2.2.2.2.2.1
        go_simp
      simp only [Act.put, List.setIfInBounds_toArray, List.set_cons_zero, List.set_cons_succ]
      refine mb_runs ((!z98 && z102) && !z106) (.bool z110) (want_mb_no 20 107 (!z98 && z102) z106 rfl HD20.out rfl) (fun hb w' hw' => ?_) ?_
      · simp only [Bool.and_eq_true, Bool.not_eq_true'] at hb
        obtain ⟨⟨hb1, hb2⟩, hb3⟩ := hb
        subst hb1 hb2 hb3
        try simp only [mb_true, Bool.true_and, Bool.and_true, Bool.not_false, Bool.not_true]
        rw [← Hz110.out]
        go_simp
      simp only [Act.put, List.setIfInBounds_toArray, List.set_cons_zero, List.set_cons_succ]
      refine mb_runs (!z98 && z102) (.bool z111) (want_mb_yes 16 103 (!z98) z102 rfl HD16.out rfl) (fun hb w' hw' => ?_) ?_
      · simp only [Bool.and_eq_true, Bool.not_eq_true'] at hb
        obtain ⟨hb1, hb2⟩ := hb
        subst hb1 hb2
        try simp only [mb_true, Bool.true_and, Bool.and_true, Bool.not_false, Bool.not_true]
        rw [← Hz111.out]
        cases z106 <;> (simp only [mb_true, mb_false, Bool.true_and, Bool.not_true, Bool.not_false]; go_simp)
      simp only [Act.put, List.setIfInBounds_toArray, List.set_cons_zero, List.set_cons_succ]
      refine mb_runs (!z98) (.bool z112) (want_no 12 99 z98 rfl HD12.out rfl) (fun hb w' hw' => ?_) ?_
      · simp only [Bool.not_eq_true'] at hb
        subst hb
        try simp only [mb_true, Bool.not_false, Bool.not_true]
        rw [← Hz112.out]
        cases z102 <;> (simp only [mb_true, mb_false, Bool.true_and, Bool.not_true, Bool.not_false]; go_simp)
      simp only [Act.put, List.setIfInBounds_toArray, List.set_cons_zero, List.set_cons_succ]
      refine quiet_runs (.bool z113) (wanted_none rfl) (fun w' hw' => ?_) ?_
      · rw [← Hz113.out]
        cases z98 <;> (simp only [mb_true, mb_false, Bool.true_and, Bool.not_true, Bool.not_false]; go_simp)
      simp only [Act.put, List.setIfInBounds_toArray, List.set_cons_zero, List.set_cons_succ]
      refine wpQuiet_nil ?_
      intro w11 hw9
      have HW11 := hidIn hw9
      clear hw9
      have HE3 : Hid (z113 = ((!(hasB f 84) && (!(tk == 0) || is)) || ((k == 4) && (decide (v < 0) || decide (1 < v))))) := by unfold Hid; rw [← Hz113.out, ← Hz112.out, ← Hz111.out, ← Hz110.out, ← Hz106.out, ← Hz102.out, ← Hz98.out, ← Hz97.out, ← Hz94.out, ← Hz89.out, ← Hz88.out]
      clear Hz88 Hz89 Hz94 Hz97 Hz98 Hz102 Hz106 Hz110 Hz111 Hz112 Hz113
      rw [← HE3.out] at HFN
      have HB := hidIn (HBV.out.trans (HW11.out.mono HBV.out.size))
      have HRZ : Hid (res = if z113 = true then 1 else (if k = 2 then we else 0)) := by unfold Hid; rw [HR.out, HFN.out]; cases z113 <;> rfl
      clear HR HFN HFE HE1 HE2 HE3
      cases z113
      rotate_left
      · go_wp2_with fail
        go_ret
        exact ⟨by rw [HRZ.out]; rfl, HB.out⟩
      · obtain ⟨q0, q1, q2, q3, q4, q5, q6, q7⟩ := HF.out _ HW11.out
        obtain ⟨q8, q9, q10⟩ := HF4.out _ HW11.out
        by_cases hk : k = 2
        · subst hk
          go_wp2_with fail
          refine (HTI.out w11 HB.out).mono ?_
          rintro e w12 ⟨rfl, hb12⟩
          have HB2 := hidIn (HB.out.trans (hb12.mono HB.out.size))
          clear hb12
          go_wp2_with fail
          go_ret
          exact ⟨by rw [HRZ.out]; rfl, HB2.out⟩
        · have HK2 := hidIn hk
          have e2 : (k == 2) = false := by simpa using hk
          clear hk
          go_wp2_with fail
          go_ret
          exact ⟨by rw [HRZ.out, if_neg (by simp), if_neg HK2.out]; rfl, HB.out⟩

end Go.Proofs.YtkioolbjmcpjpaaGreatDoor.Ev
namespace Go.Proofs.YtkioolbjmcpjpaaGreatDoor.Ev
open Go.RowKit
set_option linter.unusedVariables false

/-- A command. -/
structure Cm where
  k : Int
  a : Int
  b : Int
  d : Int
  v : Int
  s : ByteArray
  p : Pl
def Cm.cs (c : Cm) : Array Value := #[.int .i64 c.k, .int .i64 c.a, .int .i64 c.b, .int .i64 c.d, .int .i64 c.v, .string c.s, .slice c.p.na c.p.nl c.p.nc, .slice c.p.wa c.p.wl c.p.wc]
structure Cm.In (w : World) (c : Cm) : Prop where
  k1 : -9223372036854775808 ≤ c.k
  k2 : c.k ≤ 9223372036854775807
  a1 : -9223372036854775808 ≤ c.a
  a2 : c.a ≤ 9223372036854775807
  b1 : -9223372036854775808 ≤ c.b
  b2 : c.b ≤ 9223372036854775807
  d1 : -9223372036854775808 ≤ c.d
  d2 : c.d ≤ 9223372036854775807
  v1 : -9223372036854775808 ≤ c.v
  v2 : c.v ≤ 9223372036854775807
  s : c.s.size ≤ maxLen
  p : PlanIn w c.p
def zero11 : Array Value := #[.int .i64 0, .string ⟨#[]⟩, .string ⟨#[]⟩, .string ⟨#[]⟩, .string ⟨#[]⟩, .int .i64 0, .int .i64 0, .int .i64 0, .string ⟨#[]⟩, .int .i64 0, .slice none 0 0]
/-- The three blocks of the call: the command, the result, the event. -/
structure DoSt (w : World) (cc x : Array Value) (W : World) : Prop where
  c : W.heap[w.heap.size]? = some (.cells cc 27)
  r : W.heap[w.heap.size + 1]? = some (.cells zero11 35)
  e : W.heap[w.heap.size + 2]? = some (.cells x 35)
  b : Below w.heap.size w W
  z : w.heap.size + 3 ≤ W.heap.size
theorem DoSt.set {w W : World} {cc x : Array Value} (h : DoSt w cc x W) (j : Nat) (v : Value) : DoSt w cc (x.setIfInBounds j v) (W.setCell ⟨w.heap.size + 2, j, none⟩ v) :=
  ⟨(heap_setCell_other _ ⟨w.heap.size + 2, j, none⟩ _ v (by show w.heap.size ≠ w.heap.size + 2; omega)).trans h.c, (heap_setCell_other _ ⟨w.heap.size + 2, j, none⟩ _ v (by show w.heap.size + 1 ≠ w.heap.size + 2; omega)).trans h.r, heap_setCell_same _ (w.heap.size + 2) j _ _ v h.e, h.b.setCell (show w.heap.size ≤ w.heap.size + 2 by omega) v, by rw [World.size_setCell]; exact h.z⟩
theorem DoSt.below {w W W' : World} {cc x : Array Value} (h : DoSt w cc x W) (hb : Below W.heap.size W W') : DoSt w cc x W' :=
  ⟨(hb.block _ (Array.getElem?_eq_some_iff.1 h.c).1).trans h.c, (hb.block _ (Array.getElem?_eq_some_iff.1 h.r).1).trans h.r, (hb.block _ (Array.getElem?_eq_some_iff.1 h.e).1).trans h.e, h.b.trans (hb.mono h.b.size), Nat.le_trans h.z hb.size⟩
theorem DoSt.drew {w W : World} {cc x : Array Value} (h : DoSt w cc x W) : DoSt w cc x W.drew := ⟨h.c, h.r, h.e, below_drew h.b, h.z⟩
theorem DoSt.at {w W : World} {cc : Array Value} {k i n l u d v tk ts tn tr : Value} (h : DoSt w cc #[k, i, n, l, u, d, v, tk, ts, tn, tr] W) :
    (∀ j, W.frozen? ⟨w.heap.size + 2, j, none⟩ = false) ∧ W.cell? ⟨w.heap.size + 2, 0, none⟩ = some k ∧ W.cell? ⟨w.heap.size + 2, 1, none⟩ = some i ∧ W.cell? ⟨w.heap.size + 2, 2, none⟩ = some n ∧ W.cell? ⟨w.heap.size + 2, 3, none⟩ = some l ∧ W.cell? ⟨w.heap.size + 2, 4, none⟩ = some u ∧ W.cell? ⟨w.heap.size + 2, 5, none⟩ = some d ∧ W.cell? ⟨w.heap.size + 2, 6, none⟩ = some v ∧ W.cell? ⟨w.heap.size + 2, 7, none⟩ = some tk ∧ W.cell? ⟨w.heap.size + 2, 8, none⟩ = some ts ∧ W.cell? ⟨w.heap.size + 2, 9, none⟩ = some tn ∧ W.cell? ⟨w.heap.size + 2, 10, none⟩ = some tr :=
  ⟨fun j => frozen_of_row _ _ _ _ _ h.e, cell_of_row _ _ 0 _ _ _ h.e, cell_of_row _ _ 1 _ _ _ h.e, cell_of_row _ _ 2 _ _ _ h.e, cell_of_row _ _ 3 _ _ _ h.e, cell_of_row _ _ 4 _ _ _ h.e, cell_of_row _ _ 5 _ _ _ h.e, cell_of_row _ _ 6 _ _ _ h.e, cell_of_row _ _ 7 _ _ _ h.e, cell_of_row _ _ 8 _ _ _ h.e, cell_of_row _ _ 9 _ _ _ h.e, cell_of_row _ _ 10 _ _ _ h.e⟩
theorem DoSt.com {w W : World} {c : Cm} {x : Array Value} (h : DoSt w c.cs x W) :
    W.cell? ⟨w.heap.size, 0, none⟩ = some (.int .i64 c.k) ∧ W.cell? ⟨w.heap.size, 1, none⟩ = some (.int .i64 c.a) ∧ W.cell? ⟨w.heap.size, 2, none⟩ = some (.int .i64 c.b) ∧ W.cell? ⟨w.heap.size, 3, none⟩ = some (.int .i64 c.d) ∧ W.cell? ⟨w.heap.size, 4, none⟩ = some (.int .i64 c.v) ∧ W.cell? ⟨w.heap.size, 5, none⟩ = some (.string c.s) ∧ W.cell? ⟨w.heap.size, 6, none⟩ = some (.slice c.p.na c.p.nl c.p.nc) ∧ W.cell? ⟨w.heap.size, 7, none⟩ = some (.slice c.p.wa c.p.wl c.p.wc) :=
  ⟨cell_of_row _ _ 0 _ _ _ h.c, cell_of_row _ _ 1 _ _ _ h.c, cell_of_row _ _ 2 _ _ _ h.c, cell_of_row _ _ 3 _ _ _ h.c, cell_of_row _ _ 4 _ _ _ h.c, cell_of_row _ _ 5 _ _ _ h.c, cell_of_row _ _ 6 _ _ _ h.c, cell_of_row _ _ 7 _ _ _ h.c⟩
/-- The document's event, its row. -/
def Ev.rcs (e : Ev) (ka : Option Addr) (kc : Nat) : Array Value := #[.int .i64 e.k, .string e.i, .string e.n, .string e.l, .string e.u, .int .i64 e.d, .int .i64 e.v, .int .i64 (plainC e.t).kind, .string (plainC e.t).s, .int .i64 (plainC e.t).n, .slice ka (plainC e.t).k.length kc]
/-- What is known of an event that a command makes: its term is a contract of a plan, or none. -/
structure Ev.Made (e : Ev) : Prop where
  ok : e.Ok
  i : e.i.size ≤ 1000
  n : e.n.size ≤ 1000
  l : e.l.size ≤ 1000
  u : e.u.size ≤ 1000
  t : e.t = none' ∨ (e.t.whole ∧ e.t.weight ≤ 630)
/-- Where a command's event stands once it is made. -/
def DoEnd (w : World) (cc : Array Value) (W : World) : Prop := ∃ (e : Ev) (ka : Option Addr) (kc : Nat), e.Made ∧ DoSt w cc (e.rcs ka kc) W ∧ TIn W (w.heap.size + 3) (plainC e.t) (.agg (four (plainC e.t) ka kc))
theorem none_in (W : World) (B : Nat) : TIn W B (plainC none') (.agg (four (plainC none') none 0)) := ⟨none, 0, rfl, Nat.le_refl _, by decide, trivial⟩
def DoPost (w : World) (r : Ending) (w' : World) : Prop := ∃ (e : Ev) (v : Value), r = .returned v ∧ e.Made ∧ RIn w' 0 e v ∧ Below w.heap.size w w'

end Go.Proofs.YtkioolbjmcpjpaaGreatDoor.Ev
namespace Go.Proofs.YtkioolbjmcpjpaaGreatDoor.Iv
open Go.RowKit Mx
set_option linter.unusedVariables false

/-- One operation more is done. -/
def fset (f : Nat → Bool) (i : Nat) : Nat → Bool := fun j => if j = i then true else f j
def doneF (listed : Array Bool) : Nat → Bool := fun j => listed.getD j false
theorem done_set (listed : Array Bool) (i : Nat) (h : i < listed.size) : doneF (listed.setIfInBounds i true) = fset (doneF listed) i := by
  funext j
  unfold doneF fset
  by_cases hj : j = i
  · subst hj
    rw [if_pos rfl]
    simp [h]
  · rw [if_neg hj]
    exact getD_set_ne false (Ne.symm hj)
section
variable {P : Program} {ops : Array Oper}
def dstOf (ops : Array Oper) (i : Nat) : Option Tmp := (ops[i]?).bind (·.dst)
def putAll (ops : Array Oper) (val : Nat → Value) : List Nat → Act → Act
  | [], a => a
  | i :: r, a => putAll ops val r (a.put (dstOf ops i) (val i))
/-- What an operation looks at is done ahead of it; no two have one place. -/
def fitB (ops : Array Oper) : Bool :=
  (List.range ops.size).all fun i => (List.range ops.size).all fun j =>
    match ops[i]?, ops[j]? with
    | some o, some p =>
      (match p.dst with
       | some d => (!(o.looksAt ops).contains d || o.after.any (fun e => e.on == j && Region.binds .any e)) && (i == j || o.dst != some d)
       | none => true)
    | _, _ => true
theorem fit_spec (h : fitB ops = true) {i j : Nat} {o p : Oper} {d : Tmp} (hi : ops[i]? = some o) (hj : ops[j]? = some p) (hd : p.dst = some d) :
    (d ∈ o.looksAt ops → ∃ e ∈ o.after, e.on = j ∧ Region.binds .any e = true) ∧ (i ≠ j → o.dst ≠ some d) := by
  have hil := (Array.getElem?_eq_some_iff.1 hi).1
  have hjl := (Array.getElem?_eq_some_iff.1 hj).1
  unfold fitB at h
  rw [List.all_eq_true] at h
  have h1 := h i (List.mem_range.2 hil)
  rw [List.all_eq_true] at h1
  have h2 := h1 j (List.mem_range.2 hjl)
  simp only [hi, hj, hd, Bool.and_eq_true, Bool.or_eq_true, Bool.not_eq_true', bne_iff_ne, beq_iff_eq] at h2
  refine ⟨fun hm => ?_, fun hne => ?_⟩
  · rcases h2.1 with h3 | h3
    · rw [List.contains_iff_mem.2 hm] at h3; cases h3
    · rw [Array.any_eq_true'] at h3
      obtain ⟨e, he, h4⟩ := h3
      rw [Bool.and_eq_true, beq_iff_eq] at h4
      exact ⟨e, he, h4.1, h4.2⟩
  · rcases h2.2 with h3 | h3
    · exact absurd h3 hne
    · exact h3
theorem dst_ne (h : fitB ops = true) {i j : Nat} (hne : i ≠ j) : ∀ d, dstOf ops i = some d → dstOf ops j ≠ some d := by
  intro d hd hd'
  unfold dstOf at hd hd'
  cases hi : ops[i]? with
  | none => rw [hi] at hd; cases hd
  | some o =>
    cases hj : ops[j]? with
    | none => rw [hj] at hd'; cases hd'
    | some p =>
      rw [hi] at hd
      rw [hj] at hd'
      exact (fit_spec h hi hj hd').2 hne hd
theorem putAll_put (h : fitB ops = true) (val : Nat → Value) : ∀ (L : List Nat) (i : Nat) (a : Act), i ∉ L → putAll ops val L (a.put (dstOf ops i) (val i)) = (putAll ops val L a).put (dstOf ops i) (val i)
  | [], _, _, _ => rfl
  | j :: r, i, a, hi => by
    simp only [List.mem_cons, not_or] at hi
    unfold putAll
    rw [Act.put_comm a _ _ (dst_ne h hi.1), putAll_put h val r i _ hi.2]
theorem putAll_erase (h : fitB ops = true) (val : Nat → Value) : ∀ (L : List Nat) (i : Nat) (a : Act), L.Nodup → i ∈ L → putAll ops val (L.erase i) (a.put (dstOf ops i) (val i)) = putAll ops val L a
  | [], _, _, _, hi => by cases hi
  | j :: r, i, a, hn, hi => by
    rw [List.nodup_cons] at hn
    by_cases hij : j = i
    · subst hij
      rw [List.erase_cons_head]
      rfl
    · rw [List.erase_cons_tail (by simpa using hij)]
      unfold putAll
      rw [Act.put_comm a _ _ (dst_ne h (Ne.symm hij))]
      rcases List.mem_cons.1 hi with e | e
      · exact absurd e.symm hij
      · exact putAll_erase h val r i _ hn.2 e
/-- What is left to be done. -/
def left (ops : Array Oper) (listed : Array Bool) : List Nat := (List.range ops.size).filter fun j => !listed.getD j true
theorem left_nodup (listed : Array Bool) : (left ops listed).Nodup := List.nodup_range.filter _
theorem left_set (listed : Array Bool) (i : Nat) (h : i < listed.size) : left ops (listed.setIfInBounds i true) = (left ops listed).erase i := by
  rw [(left_nodup listed).erase_eq_filter]
  unfold left
  rw [List.filter_filter]
  apply List.filter_congr
  intro j _
  by_cases hj : j = i
  · subst hj
    simp [h]
  · rw [getD_set_ne true (Ne.symm hj)]
    simp [hj]
theorem exec_final (h : fitB ops = true) (hsel : ∀ (j : Nat) (o : Oper) cs b, ops[j]? = some o → o.op ≠ .select cs b) (val : Nat → Value) {i : Nat} {o : Oper} (hi : ops[i]? = some o) : ∀ (L : List Nat) (a : Act), (∀ j ∈ L, ∀ e ∈ o.after, Region.binds .any e = true → e.on ≠ j) →
    execOp (putAll ops val L a).eval o = execOp a.eval o ∧ Region.wanted o (yielded ops (putAll ops val L a).tmps) = Region.wanted o (yielded ops a.tmps)
  | [], a, _ => ⟨rfl, rfl⟩
  | j :: r, a, hL => by
    have hno : ∀ d, dstOf ops j = some d → d ∉ o.looksAt ops := fun d hd hm => by
      unfold dstOf at hd
      cases hj : ops[j]? with
      | none => rw [hj] at hd; cases hd
      | some p =>
        rw [hj] at hd
        obtain ⟨e, he, h1, h2⟩ := (fit_spec h hi hj hd).1 hm
        exact hL j (List.mem_cons_self ..) e he h2 h1
    obtain ⟨h1, h2⟩ := exec_final h hsel val hi r (a.put (dstOf ops j) (val j)) (fun k hk => hL k (List.mem_cons_of_mem _ hk))
    unfold putAll
    exact ⟨h1.trans (execOp_put o (fun cs b => hsel i o cs b hi) a _ _ hno), h2.trans (wanted_put o a _ _ hno)⟩
/-- An operation, in the frame in which all is done: one value, and what is known then. -/
def stepI (P : Program) (ops : Array Oper) (AF : Act) (val : Nat → Value) (Inv : (Nat → Bool) → World → Prop) (i : Nat) (o : Oper) : Prop :=
  ∀ (f : Nat → Bool) (w : World), f i = false → (∀ e ∈ o.after, Region.binds .any e = true → f e.on = true) → Inv f w →
    (Region.wanted o (yielded ops AF.tmps) = true ∧ stepK P o AF w (fun u w' => u = val i ∧ Inv (fset f i) w')) ∨ (Region.wanted o (yielded ops AF.tmps) = false ∧ val i = undef ∧ Inv (fset f i) w)
/-- What binds an operation stands ahead of it. -/
def backB (ops : Array Oper) : Bool := (List.range ops.size).all fun i => ((ops[i]?).map fun o => o.after.all fun e => !Region.binds .any e || decide (e.on < i)).getD true
theorem back_spec (h : backB ops = true) {i : Nat} {o : Oper} (hi : ops[i]? = some o) : ∀ e ∈ o.after, Region.binds .any e = true → e.on < i := by
  intro e he hb
  unfold backB at h
  rw [List.all_eq_true] at h
  have h1 := h i (List.mem_range.2 (Array.getElem?_eq_some_iff.1 hi).1)
  simp only [hi, Option.map_some, Option.getD_some] at h1
  rw [Array.all_eq_true'] at h1
  have h2 := h1 e he
  rw [hb] at h2
  simpa using h2
theorem mem_left {listed : Array Bool} {j : Nat} : j ∈ left ops listed ↔ j < ops.size ∧ listed.getD j true = false := by
  unfold left
  rw [List.mem_filter, List.mem_range]
  simp
theorem least (P : Nat → Prop) (h : ∃ n, P n) : ∃ n, P n ∧ ∀ m, m < n → ¬ P m := by
  obtain ⟨n, hn⟩ := h
  induction n using Nat.strongRecOn with
  | _ n ih =>
    by_cases hm : ∃ m, m < n ∧ P m
    · obtain ⟨m, h1, h2⟩ := hm
      exact ih m h1 h2
    · exact ⟨n, hn, fun m h1 h2 => hm ⟨m, h1, h2⟩⟩
theorem none_ready (h : backB ops = true) {listed : Array Bool} (hz : listed.size = ops.size) (hr : Region.ready .any ops listed = []) : left ops listed = [] := by
  by_cases hl : left ops listed = []
  · exact hl
  · exfalso
    obtain ⟨j0, hj0⟩ := List.exists_mem_of_ne_nil _ hl
    obtain ⟨j, hj, hmin⟩ := least (fun j => j ∈ left ops listed) ⟨j0, hj0⟩
    obtain ⟨hjl, hju⟩ := mem_left.1 hj
    have : j ∈ Region.ready .any ops listed := by
      rw [mem_ready]
      refine ⟨hju, ops[j], Array.getElem?_eq_getElem hjl, fun e he hb => ?_⟩
      have hlt := back_spec h (Array.getElem?_eq_getElem hjl) e he hb
      have hn := hmin e.on hlt
      rw [mem_left] at hn
      have h3 : e.on < listed.size := by omega
      have h4 : ¬ listed.getD e.on true = false := fun h5 => hn ⟨by omega, h5⟩
      simp [h3] at h4 ⊢
      exact h4
    rw [hr] at this
    cases this
theorem any_inv (hB : fitB ops = true) (hbk : backB ops = true) (hsel : ∀ (j : Nat) (o : Oper) cs b, ops[j]? = some o → o.op ≠ .select cs b) (val : Nat → Value) (Inv : (Nat → Bool) → World → Prop) {Q : Exit → Act → World → Prop} {AF : Act}
    (hs : ∀ i o, ops[i]? = some o → stepI P ops AF val Inv i o)
    (hend : ∀ f w, (∀ i, i < ops.size → f i = true) → Inv f w → Q .normal AF w) :
    ∀ (fuel : Nat) (listed : Array Bool) (a : Act) (w : World), listed.size = ops.size → (left ops listed).length = fuel → putAll ops val (left ops listed) a = AF → Inv (doneF listed) w → wpAny P .any ops Q fuel listed a w
  | 0, listed, a, w, hz, hl, hp, hI => by
    have hnil := List.length_eq_zero_iff.1 hl
    rw [hnil] at hp
    refine ⟨?_, ?_⟩
    · cases hr : Region.ready .any ops listed with
      | nil => rfl
      | cons j r =>
        exfalso
        have hj : j ∈ Region.ready .any ops listed := by rw [hr]; exact List.mem_cons_self ..
        obtain ⟨h1, o, ho, _⟩ := mem_ready.1 hj
        have : j ∈ left ops listed := mem_left.2 ⟨(Array.getElem?_eq_some_iff.1 ho).1, h1⟩
        rw [hnil] at this
        cases this
    · unfold putAll at hp
      subst hp
      refine hend (doneF listed) w (fun i hi => ?_) hI
      have h1 : ¬ i ∈ left ops listed := by rw [hnil]; exact List.not_mem_nil
      rw [mem_left] at h1
      have h3 : i < listed.size := by omega
      have h4 : ¬ listed.getD i true = false := fun h5 => h1 ⟨hi, h5⟩
      unfold doneF
      simp [h3] at h4 ⊢
      exact h4
  | fuel + 1, listed, a, w, hz, hl, hp, hI => by
    refine ⟨fun hr => ?_, fun i hi => ?_⟩
    · rw [none_ready hbk hz hr] at hl
      cases hl
    · obtain ⟨hun, o, ho, hall⟩ := mem_ready.1 hi
      have hil := (Array.getElem?_eq_some_iff.1 ho).1
      have him : i ∈ left ops listed := mem_left.2 ⟨hil, hun⟩
      have hne : ∀ j ∈ left ops listed, ∀ e ∈ o.after, Region.binds .any e = true → e.on ≠ j := fun j hj e he hb heq => by
        have h1 := hall e he hb
        have h2 := (mem_left.1 hj).2
        have h3 : j < listed.size := by have := (mem_left.1 hj).1; omega
        rw [heq] at h1
        simp [h3] at h1 h2
        rw [h1] at h2
        cases h2
      obtain ⟨e1, e2⟩ := exec_final hB hsel val ho (left ops listed) a hne
      rw [hp] at e1 e2
      have hfi : doneF listed i = false := by
        have h3 : i < listed.size := by omega
        unfold doneF
        simp [h3] at hun ⊢
        exact hun
      have next : ∀ w', Inv (fset (doneF listed) i) w' → wpAny P .any ops Q fuel (listed.setIfInBounds i true) (a.put o.dst (val i)) w' := fun w' h => by
        have hd : o.dst = dstOf ops i := by unfold dstOf; rw [ho]; rfl
        refine any_inv hB hbk hsel val Inv hs hend fuel _ _ w' (by simpa using hz) ?_ ?_ ?_
        · rw [left_set listed i (by omega), List.length_erase_of_mem him, hl]
          rfl
        · rw [left_set listed i (by omega), hd, putAll_erase hB val _ i a (left_nodup listed) him]
          exact hp
        · rw [done_set listed i (by omega)]
          exact h
      unfold wpOp
      simp only [ho]
      rcases hs i o ho (doneF listed) w hfi hall hI with ⟨h1, h2⟩ | ⟨h1, h2, h3⟩
      · rw [if_pos (by rw [← e2]; exact h1)]
        refine .inl (wp_of_stepK ?_)
        unfold stepK at h2 ⊢
        rw [← e1]
        exact stepK_mono (o := o) (a := AF) (fun u w' hk => by rw [hk.1]; exact next w' hk.2) h2
      · rw [if_neg (by rw [← e2, h1]; decide), ← h2]
        exact next w h3
/-- All operations, one by one. -/
def stepsI (P : Program) (ops : Array Oper) (AF : Act) (val : Nat → Value) (Inv : (Nat → Bool) → World → Prop) : Nat → List Oper → Prop
  | _, [] => True
  | i, o :: r => stepI P ops AF val Inv i o ∧ stepsI P ops AF val Inv (i + 1) r
theorem stepsI_at {AF : Act} {val : Nat → Value} {Inv : (Nat → Bool) → World → Prop} : ∀ (l : List Oper) (k : Nat), stepsI P ops AF val Inv k l → ∀ (i : Nat) (o : Oper), l[i]? = some o → stepI P ops AF val Inv (k + i) o
  | [], _, _, i, o, h => by simp at h
  | x :: r, k, h, 0, o, ho => by
    simp at ho
    subst ho
    exact h.1
  | x :: r, k, h, i + 1, o, ho => by
    have := stepsI_at r (k + 1) h.2 i o (by simpa using ho)
    rwa [show k + 1 + i = k + (i + 1) by omega] at this
theorem left_all (ops : Array Oper) : left ops (Array.replicate ops.size false) = List.range ops.size := by
  unfold left
  rw [List.filter_eq_self]
  intro j hj
  have := List.mem_range.1 hj
  simp [this]
/-- One look at each operation serves every order. -/
theorem wp_region_inv {id : Nat} {Q : Exit → Act → World → Prop} {a AF : Act} {w : World} {l : List Oper} (val : Nat → Value) (Inv : (Nat → Bool) → World → Prop) (hm : P.follows .mixedOrders = true)
    (hB : (Region.noSelect l.toArray && fitB l.toArray && backB l.toArray) = true) (hAF : putAll l.toArray val (List.range l.length) a = AF) (h0 : Inv (fun _ => false) w.drew)
    (hs : ∀ ops : Array Oper, ops = l.toArray → stepsI P ops AF val Inv 0 l) (hend : ∀ f w', (∀ i, i < l.length → f i = true) → Inv f w' → Q .normal AF w') : (Code.region id l.toArray true).wp P Q a w := by
  simp only [Bool.and_eq_true] at hB
  refine wp_region_any hm ?_
  refine any_inv hB.1.2 hB.2 (Region.noSelect_spec hB.1.1) val Inv (fun i o ho => ?_) (fun f w' hf hI => hend f w' (by simpa using hf) hI) _ _ _ _ (by simp) (by rw [left_all]; simp) (by rw [left_all]; simpa using hAF) ?_
  · have := stepsI_at l 0 (hs _ rfl) i o (by simpa using ho)
    rwa [Nat.zero_add] at this
  · have : doneF (Array.replicate l.toArray.size false) = fun _ => false := by
      funext j
      unfold doneF
      by_cases hj : j < l.toArray.size
      · simp at hj
        simp [hj]
      · simp at hj
        simp [Nat.not_lt.2 hj]
    rw [this]
    exact h0
def putL : List (Option Tmp × Value) → Act → Act
  | [], a => a
  | p :: r, a => putL r (a.put p.1 p.2)
theorem putL_all : ∀ (l : List Oper) (k : Nat) (vs : List (Option Tmp × Value)) (a : Act) (val : Nat → Value), (∀ i, l[i]? = ops[k + i]?) → vs.map (·.1) = l.map (·.dst) → (∀ i p, vs[i]? = some p → val (k + i) = p.2) → putAll ops val (List.range' k l.length) a = putL vs a
  | [], k, vs, a, val, _, hv, _ => by
    cases vs with
    | nil => rfl
    | cons p r => simp at hv
  | o :: l, k, vs, a, val, hl, hv, hp => by
    cases vs with
    | nil => simp at hv
    | cons p r =>
      simp only [List.map_cons, List.cons.injEq] at hv
      have h0 : dstOf ops k = o.dst := by
        have := hl 0
        simp at this
        unfold dstOf
        rw [← this]
        rfl
      have h1 : val k = p.2 := hp 0 p rfl
      rw [List.length_cons, List.range'_succ]
      unfold putAll putL
      rw [h0, h1, ← hv.1]
      exact putL_all l (k + 1) r _ val (fun i => by have := hl (i + 1); simpa [Nat.add_assoc, Nat.add_comm 1 i] using this) hv.2 (fun i q hq => by have := hp (i + 1) q (by simpa using hq); rwa [show k + (i + 1) = k + 1 + i by omega] at this)
/-- The same, the values laid in a row. -/
theorem wp_region_invL {id : Nat} {Q : Exit → Act → World → Prop} {a : Act} {w : World} {l : List Oper} (vs : List (Option Tmp × Value)) (Inv : (Nat → Bool) → World → Prop) (hm : P.follows .mixedOrders = true)
    (hB : (Region.noSelect l.toArray && fitB l.toArray && backB l.toArray) = true) (hv : vs.map (·.1) = l.map (·.dst)) (h0 : Inv (fun _ => false) w.drew)
    (hs : ∀ (ops : Array Oper) (AF : Act), ops = l.toArray → AF = putL vs a → stepsI P ops AF (fun i => (vs.getD i (none, undef)).2) Inv 0 l) (hend : ∀ f w', (∀ i, i < l.length → f i = true) → Inv f w' → Q .normal (putL vs a) w') : (Code.region id l.toArray true).wp P Q a w := by
  refine wp_region_inv (AF := putL vs a) (fun i => (vs.getD i (none, undef)).2) Inv hm hB ?_ h0 (fun ops hops => hs ops _ hops rfl) hend
  rw [List.range_eq_range']
  exact putL_all l 0 vs a _ (fun i => by simp) hv (fun i p hp => by simp [List.getD, hp])
section
variable {AF : Act} {val : Nat → Value} {Inv : (Nat → Bool) → World → Prop}
/-- An operation that leaves the world. -/
theorem i_pure {i : Nat} {o : Oper} (hw : Region.wanted o (yielded ops AF.tmps) = true) (h : ∀ f w, (∀ e ∈ o.after, Region.binds .any e = true → f e.on = true) → Inv f w → (execOp AF.eval o).run P w = .ok (.value (val i)) w) (hI : ∀ f w, Inv f w → Inv (fset f i) w) : stepI P ops AF val Inv i o :=
  fun f w h0 ha hi => .inl ⟨hw, by unfold stepK; rw [h f w ha hi]; exact ⟨rfl, hI f w hi⟩⟩
/-- A call that leaves the world. -/
theorem i_reads {i : Nat} {o : Oper} (F : FuncId) (args : Array Value) (hw : Region.wanted o (yielded ops AF.tmps) = true) (h : ∀ w, (execOp AF.eval o).run P w = .ok (.enter F args) w) (hc : ∀ w, Calls P F args w (fun e w' => e = .returned (val i) ∧ w' = w)) (hI : ∀ f w, Inv f w → Inv (fset f i) w) : stepI P ops AF val Inv i o :=
  fun f w h0 ha hi => .inl ⟨hw, by unfold stepK; rw [h w]; exact ⟨rfl, (hc w).mono fun e w' h2 => ⟨_, h2.1, rfl, by rw [h2.2]; exact hI f w hi⟩⟩⟩
/-- A call that makes memory, or turns it. -/
theorem i_call {i : Nat} {o : Oper} (F : FuncId) (args : Array Value) (hw : Region.wanted o (yielded ops AF.tmps) = true) (h : ∀ w, (execOp AF.eval o).run P w = .ok (.enter F args) w) (hc : ∀ f w, f i = false → (∀ e ∈ o.after, Region.binds .any e = true → f e.on = true) → Inv f w → Calls P F args w (fun e w' => e = .returned (val i) ∧ Inv (fset f i) w')) : stepI P ops AF val Inv i o :=
  fun f w h0 ha hi => .inl ⟨hw, by unfold stepK; rw [h w]; exact ⟨rfl, (hc f w h0 ha hi).mono fun e w' h2 => ⟨_, h2.1, rfl, h2.2⟩⟩⟩
/-- An operation that makes memory, or turns it. -/
theorem i_run {i : Nat} {o : Oper} (hw : Region.wanted o (yielded ops AF.tmps) = true) (h : ∀ f w, f i = false → (∀ e ∈ o.after, Region.binds .any e = true → f e.on = true) → Inv f w → ∃ w', (execOp AF.eval o).run P w = .ok (.value (val i)) w' ∧ Inv (fset f i) w') : stepI P ops AF val Inv i o :=
  fun f w h0 ha hi => .inl ⟨hw, by obtain ⟨w', h1, h2⟩ := h f w h0 ha hi; unfold stepK; rw [h1]; exact ⟨rfl, h2⟩⟩
/-- A store. -/
theorem i_store {i : Nat} {o : Oper} (hv : val i = undef) (hw : Region.wanted o (yielded ops AF.tmps) = true) (h : ∀ f w, f i = false → (∀ e ∈ o.after, Region.binds .any e = true → f e.on = true) → Inv f w → ∃ w', (execOp AF.eval o).run P w = .ok .skip w' ∧ Inv (fset f i) w') : stepI P ops AF val Inv i o :=
  fun f w h0 ha hi => .inl ⟨hw, by obtain ⟨w', h1, h2⟩ := h f w h0 ha hi; unfold stepK; rw [h1]; exact ⟨hv.symm, h2⟩⟩
/-- What is left out. -/
theorem i_skip {i : Nat} {o : Oper} (hv : val i = undef) (hw : Region.wanted o (yielded ops AF.tmps) = false) (hI : ∀ f w, Inv f w → Inv (fset f i) w) : stepI P ops AF val Inv i o :=
  fun f w h0 ha hi => .inr ⟨hw, hv, hI f w hi⟩
end
end

end Go.Proofs.YtkioolbjmcpjpaaGreatDoor.Iv
namespace Go.Proofs.YtkioolbjmcpjpaaGreatDoor.Ev
open Go.RowKit
set_option linter.unusedVariables false

theorem tset {W : World} {B M : Nat} {t : T} {v : Value} (h : TIn W B t v) (j : Nat) (x : Value) (hM : M < B) : TIn (W.setCell ⟨M, j, none⟩ x) B t v := h.kept (Nat.le_refl _) (fun b o y hb hc => by
  have hne : b ≠ M := by omega
  have e := heap_setCell_other W ⟨M, j, none⟩ b x hne
  simp only [World.cell?, e] at hc ⊢
  exact hc)
theorem made_none {e : Ev} (hok : e.Ok) (hi : e.i.size ≤ 1000) (hn : e.n.size ≤ 1000) (hl : e.l.size ≤ 1000) (hu : e.u.size ≤ 1000) (ht : e.t = none') : e.Made := ⟨hok, hi, hn, hl, hu, .inl ht⟩
theorem ev_ok {k d v : Int} {i n l u : ByteArray} {t : C} (hk : -9223372036854775808 ≤ k ∧ k ≤ 9223372036854775807) (hd : -9223372036854775808 ≤ d ∧ d ≤ 9223372036854775807) (hv : -9223372036854775808 ≤ v ∧ v ≤ 9223372036854775807) (hi : i.size ≤ 1000) (hn : n.size ≤ 1000) (hl : l.size ≤ 1000) (hu : u.size ≤ 1000) (ht : t.Ok) (hw : t.weight ≤ 1000) : (Ev.mk k i n l u d v t).Ok :=
  ⟨hk.1, hk.2, hd.1, hd.2, hv.1, hv.2, Nat.le_trans hi (by decide), Nat.le_trans hn (by decide), Nat.le_trans hl (by decide), Nat.le_trans hu (by decide), ht, Nat.le_trans hw (by omega)⟩
theorem ev_made {k d v : Int} {i n l u : ByteArray} (hk : -9223372036854775808 ≤ k ∧ k ≤ 9223372036854775807) (hd : -9223372036854775808 ≤ d ∧ d ≤ 9223372036854775807) (hv : -9223372036854775808 ≤ v ∧ v ≤ 9223372036854775807) (hi : i.size ≤ 1000) (hn : n.size ≤ 1000) (hl : l.size ≤ 1000) (hu : u.size ≤ 1000) : (Ev.mk k i n l u d v none').Made :=
  ⟨ev_ok hk hd hv hi hn hl hu none_ok (by decide), hi, hn, hl, hu, .inl rfl⟩
theorem made_trade {s : ByteArray} {c : C} (hs : s.size ≤ 1000) (hw : c.whole) (h : c.weight ≤ 630) : (Ev.mk 2 s ⟨#[]⟩ ⟨#[]⟩ ⟨#[]⟩ 0 0 c).Made :=
  ⟨ev_ok (by omega) (by omega) (by omega) hs (by decide) (by decide) (by decide) (cwhole_ok c hw) (by omega), hs, (by decide : (⟨#[]⟩ : ByteArray).size ≤ 1000), (by decide : (⟨#[]⟩ : ByteArray).size ≤ 1000), (by decide : (⟨#[]⟩ : ByteArray).size ≤ 1000), .inr ⟨hw, h⟩⟩
def nm3 (k : Nat) : ByteArray := if k = 0 then ⟨#[108, 105, 98, 111, 114]⟩ else if k = 1 then ⟨#[114, 97, 105, 110]⟩ else ⟨#[195, 182, 108]⟩
theorem nm3_small (k : Nat) : (nm3 k).size ≤ 1000 := by unfold nm3; split; decide; split <;> decide
def row14 (f : Nat → Bool) (nm : ByteArray) (dd vv : Int) : Array Value := #[.int .i64 (bif f 16 then 3 else 0), .string ⟨#[]⟩, .string (bif f 18 then nm else ⟨#[]⟩), .string ⟨#[]⟩, .string ⟨#[]⟩, .int .i64 (bif f 20 then dd else 0), .int .i64 (bif f 22 then vv else 0), .int .i64 0, .string ⟨#[]⟩, .int .i64 0, .slice none 0 0]
structure Inv14 (w : World) (c : Cm) (n0 : Nat) (nm : ByteArray) (dd vv : Int) (f : Nat → Bool) (W : World) : Prop where
  st : DoSt w c.cs (row14 f nm dd vv) W
  z : W.heap.size = n0 + (bif f 0 then 1 else 0)
  s : f 0 = true → W.heap[n0]? = some (.cells #[.string ⟨#[108, 105, 98, 111, 114]⟩, .string ⟨#[114, 97, 105, 110]⟩, .string ⟨#[195, 182, 108]⟩] 9)
  d : f 4 = true → f 0 = true
theorem Inv14.name {w W : World} {c : Cm} {n0 q : Nat} {nm : ByteArray} {dd vv : Int} {f : Nat → Bool} (h : Inv14 w c n0 nm dd vv f W) (h0 : f 0 = true) (hq : q < 3) : W.cell? ⟨n0, q, none⟩ = some (.string (nm3 q)) := by
  have hs := h.s h0
  rcases (by omega : q = 0 ∨ q = 1 ∨ q = 2) with rfl | rfl | rfl <;> exact cell_of_row _ _ _ _ _ _ hs
def row25 (f : Nat → Bool) (s lb : ByteArray) (vv : Int) : Array Value := #[.int .i64 (bif f 11 then 4 else 0), .string (bif f 13 then s else ⟨#[]⟩), .string ⟨#[]⟩, .string (bif f 15 then lb else ⟨#[]⟩), .string ⟨#[]⟩, .int .i64 0, .int .i64 (bif f 17 then vv else 0), .int .i64 0, .string ⟨#[]⟩, .int .i64 0, .slice none 0 0]
structure Inv25 (w : World) (c : Cm) (s lb : ByteArray) (vv : Int) (f : Nat → Bool) (W : World) : Prop where
  st : DoSt w c.cs (row25 f s lb vv) W
def cu3 (k : Nat) : ByteArray := if k = 0 then ⟨#[117, 115, 100]⟩ else if k = 1 then ⟨#[101, 117, 114]⟩ else ⟨#[103, 98, 112]⟩
theorem cu3_small (k : Nat) : (cu3 k).size ≤ 1000 := by unfold cu3; split; decide; split <;> decide
def row41 (f : Nat → Bool) (dd : Int) (cu : ByteArray) : Array Value := #[.int .i64 (bif f 12 then 6 else 0), .string ⟨#[]⟩, .string ⟨#[]⟩, .string ⟨#[]⟩, .string (bif f 16 then cu else ⟨#[]⟩), .int .i64 (bif f 14 then dd else 0), .int .i64 0, .int .i64 0, .string ⟨#[]⟩, .int .i64 0, .slice none 0 0]
structure Inv41 (w : World) (c : Cm) (n0 : Nat) (dd : Int) (cu : ByteArray) (f : Nat → Bool) (W : World) : Prop where
  st : DoSt w c.cs (row41 f dd cu) W
  z : W.heap.size = n0 + (bif f 5 then 1 else 0)
  s : f 5 = true → W.heap[n0]? = some (.cells #[.string ⟨#[117, 115, 100]⟩, .string ⟨#[101, 117, 114]⟩, .string ⟨#[103, 98, 112]⟩] 9)
  d : f 9 = true → f 5 = true
theorem Inv41.name {w W : World} {c : Cm} {n0 q : Nat} {dd : Int} {cu : ByteArray} {f : Nat → Bool} (h : Inv41 w c n0 dd cu f W) (h0 : f 5 = true) (hq : q < 3) : W.cell? ⟨n0, q, none⟩ = some (.string (cu3 q)) := by
  have hs := h.s h0
  rcases (by omega : q = 0 ∨ q = 1 ∨ q = 2) with rfl | rfl | rfl <;> exact cell_of_row _ _ _ _ _ _ hs
def row6 (f : Nat → Bool) (k9 d v : Int) (s : ByteArray) : Array Value := #[.int .i64 (bif f 11 then k9 else 0), .string (bif f 11 then s else ⟨#[]⟩), .string ⟨#[]⟩, .string ⟨#[]⟩, .string ⟨#[]⟩, .int .i64 (bif f 11 then d else 0), .int .i64 (bif f 11 then v else 0), .int .i64 0, .string ⟨#[]⟩, .int .i64 0, .slice none 0 0]
structure Inv6 (w : World) (c : Cm) (k9 : Int) (s : ByteArray) (f : Nat → Bool) (W : World) : Prop where
  st : DoSt w c.cs (row6 f k9 c.d c.v s) W
theorem infoE : (Tryz.prog.info? 35).map (·.size) = some 11 := by kernel_rfl
theorem exec_store_row {o : Oper} {a : Act} {W : World} (ty : TypeId) (x y : Operand) (ho : o.op = .store ty x y) (g : Nat) (cells : Array Value) (hx : a.eval x = .pointer (some ⟨g, 0, none⟩)) (hy : a.eval y = .agg cells) (t : TypeId) (old : Array Value)
    (hg : W.heap[g]? = some (.cells old t (0, 0))) (hi : (Tryz.prog.info? ty).map (·.size) = some cells.size) (hold : old.size = cells.size) (h1 : cells.all (·.oneCell') = true) : (execOp a.eval o).run Tryz.prog W = .ok .skip (W.setRow g cells) := by
  unfold execOp
  simp only [ho, hx, hy, Instr.storeAt, Instr.sureAddr, Sem.run_bind, Sem.run_pure, Result.andThen_ok, run_storeVar_row W g t ty old cells hg hi hold h1]
theorem below_setRow {B g : Nat} {w W : World} (h : Below B w W) (hg : B ≤ g) (cs : Array Value) : Below B w (W.setRow g cs) :=
  ⟨h.os, h.tape, h.output, by rw [size_setRow]; exact h.size, fun k hk => (setRow_other W g k cs (by omega)).trans (h.block k hk)⟩
theorem DoSt.row {w W : World} {cc x : Array Value} (h : DoSt w cc x W) (y : Array Value) : DoSt w cc y (W.setRow (w.heap.size + 2) y) :=
  ⟨(setRow_other W _ _ y (by omega)).trans h.c, (setRow_other W _ _ y (by omega)).trans h.r, setRow_heap W _ _ y _ _ h.e, below_setRow h.b (by omega) y, by rw [size_setRow]; exact h.z⟩
theorem trow {W : World} {B M : Nat} {t : T} {v : Value} (h : TIn W B t v) (y : Array Value) (hM : M < B) : TIn (W.setRow M y) B t v := h.kept (Nat.le_refl _) (fun b o z hb hc => by
  have hne : b ≠ M := by omega
  have e := setRow_other W M b y hne
  simp only [World.cell?, e] at hc ⊢
  exact hc)
theorem e0_small : (⟨#[]⟩ : ByteArray).size ≤ 1000 := by decide

end Go.Proofs.YtkioolbjmcpjpaaGreatDoor.Ev
namespace Go.Proofs.YtkioolbjmcpjpaaGreatDoor.Ev
open Go.RowKit
set_option linter.unusedVariables false

theorem infoA : (Tryz.prog.info? 30).map (·.size) = some 8 := by kernel_rfl
structure BkInv (w : World) (rc cs : Array Value) (f : Nat → Bool) (W : World) : Prop where
  c : W.heap[w.heap.size]? = some (.cells rc 35)
  r : W.heap[w.heap.size + 1]? = some (.cells (bif f 18 then cs else #[.int .i64 0, .string ⟨#[]⟩, .string ⟨#[]⟩, .string ⟨#[]⟩, .string ⟨#[]⟩, .int .i64 0, .int .i64 0, .nilIface]) 30)
  b : Below w.heap.size w W
theorem BkInv.cells {w W : World} {cs : Array Value} {f : Nat → Bool} {a b c d e g h i j k l : Value} (hh : BkInv w #[a, b, c, d, e, g, h, i, j, k, l] cs f W) : W.cell? ⟨w.heap.size, 0, none⟩ = some a ∧ W.cell? ⟨w.heap.size, 1, none⟩ = some b ∧ W.cell? ⟨w.heap.size, 2, none⟩ = some c ∧ W.cell? ⟨w.heap.size, 3, none⟩ = some d ∧ W.cell? ⟨w.heap.size, 4, none⟩ = some e ∧ W.cell? ⟨w.heap.size, 5, none⟩ = some g ∧ W.cell? ⟨w.heap.size, 6, none⟩ = some h ∧ W.cell? ⟨w.heap.size, 7, none⟩ = some i ∧ W.cell? ⟨w.heap.size, 8, none⟩ = some j ∧ W.cell? ⟨w.heap.size, 9, none⟩ = some k ∧ W.cell? ⟨w.heap.size, 10, none⟩ = some l :=
  ⟨cell_of_row _ _ 0 _ _ _ hh.c, cell_of_row _ _ 1 _ _ _ hh.c, cell_of_row _ _ 2 _ _ _ hh.c, cell_of_row _ _ 3 _ _ _ hh.c, cell_of_row _ _ 4 _ _ _ hh.c, cell_of_row _ _ 5 _ _ _ hh.c, cell_of_row _ _ 6 _ _ _ hh.c, cell_of_row _ _ 7 _ _ _ hh.c, cell_of_row _ _ 8 _ _ _ hh.c, cell_of_row _ _ 9 _ _ _ hh.c, cell_of_row _ _ 10 _ _ _ hh.c⟩
theorem BkInv.below {w W W' : World} {rc cs : Array Value} {f : Nat → Bool} (h : BkInv w rc cs f W) (hb : Below W.heap.size W W') : BkInv w rc cs f W' :=
  ⟨(hb.block _ (Array.getElem?_eq_some_iff.1 h.c).1).trans h.c, (hb.block _ (Array.getElem?_eq_some_iff.1 h.r).1).trans h.r, h.b.trans (hb.mono h.b.size)⟩
theorem BkInv.row {w W : World} {rc cs : Array Value} {f : Nat → Bool} (h : BkInv w rc cs f W) : BkInv w rc cs (Iv.fset f 18) (W.setRow (w.heap.size + 1) cs) :=
  ⟨(setRow_other W _ _ cs (by omega)).trans h.c, setRow_heap W _ _ cs _ _ h.r, row_below h.b (by omega) cs⟩

set_option maxHeartbeats 8000000 in
set_option maxRecDepth 100000 in
theorem back_any (e : Ev) (ht : e.t = none' ∨ e.t.whole) (w : World) (r : Value) (hr : RIn w 0 e r) : Calls Tryz.prog 12 #[r] w fun x w' => x = .returned e.val ∧ Below w.heap.size w w' := by
  obtain ⟨ka, kc, rfl, htin⟩ := hr
  have hok : e.t.Ok := by rcases ht with h | h; rw [h]; exact none_ok; exact cwhole_ok _ h
  have hto : termOf (plainC e.t) = e.t := by
    rcases ht with h | h
    · rw [h]; rfl
    · exact termOf_whole _ h
  have HTM := hidIn (fun (W : World) (hW : Below w.heap.size w W) => termT_any (sc_plain e.t hok) W _ (TIn.below htin hW))
  rw [hto] at HTM
  unfold TermPost at HTM
  obtain ⟨nb, -, hv⟩ := nil_runs e.t hok
  clear ht htin hto hok
  obtain ⟨k, i, n, l, u, d, v, t⟩ := e
  unfold Ev.val Ev.cs
  simp only at *
  generalize (plainC t).kind = tk at *
  generalize (plainC t).s = ts at *
  generalize (plainC t).n = tn at *
  generalize (plainC t).k.length = kl at *
  have HV : Hid (∀ cs, BkInv w #[.int .i64 k, .string i, .string n, .string l, .string u, .int .i64 d, .int .i64 v, .int .i64 tk, .string ts, .int .i64 tn, .slice ka kl kc] cs (fun _ => false) ((w.alloc (.cells #[.int .i64 k, .string i, .string n, .string l, .string u, .int .i64 d, .int .i64 v, .int .i64 tk, .string ts, .int .i64 tn, .slice ka kl kc] 35)).alloc (.cells #[.int .i64 0, .string ⟨#[]⟩, .string ⟨#[]⟩, .string ⟨#[]⟩, .string ⟨#[]⟩, .int .i64 0, .int .i64 0, .nilIface] 30))) := fun cs => by
    refine ⟨heap_keeps (heap_alloc_new _ _) _, ?_, below_alloc (below_alloc (Below.refl _ _) _) _⟩
    have h := heap_alloc_new (w.alloc (.cells #[.int .i64 k, .string i, .string n, .string l, .string u, .int .i64 d, .int .i64 v, .int .i64 tk, .string ts, .int .i64 tn, .slice ka kl kc] 35)) (.cells #[.int .i64 0, .string ⟨#[]⟩, .string ⟨#[]⟩, .string ⟨#[]⟩, .string ⟨#[]⟩, .int .i64 0, .int .i64 0, .nilIface] 30)
    rwa [show (w.alloc (.cells #[.int .i64 k, .string i, .string n, .string l, .string u, .int .i64 d, .int .i64 v, .int .i64 tk, .string ts, .int .i64 tn, .slice ka kl kc] 35)).heap.size = w.heap.size + 1 by simp] at h
  generalize t.val = tv at *
  rcases hv with ⟨-, rfl⟩ | ⟨-, xt, xv, rfl⟩
  · have HV := hidIn (HV.out #[.int .i64 k, .string i, .string n, .string l, .string u, .int .i64 d, .int .i64 v, .nilIface])
    go_enter Tryz.func12, Tryz.ntmps12
    go_wp2_with fail
    generalize (w.alloc (.cells #[.int .i64 k, .string i, .string n, .string l, .string u, .int .i64 d, .int .i64 v, .int .i64 tk, .string ts, .int .i64 tn, .slice ka kl kc] 35)).alloc (.cells #[.int .i64 0, .string ⟨#[]⟩, .string ⟨#[]⟩, .string ⟨#[]⟩, .string ⟨#[]⟩, .int .i64 0, .int .i64 0, .nilIface] 30) = V at *
    refine Iv.wp_region_invL [(some 3, .pointer (some ⟨w.heap.size, 0, none⟩)), (some 4, .int .i64 k), (some 5, .pointer (some ⟨w.heap.size, 1, none⟩)), (some 6, .string i), (some 7, .pointer (some ⟨w.heap.size, 2, none⟩)), (some 8, .string n), (some 9, .pointer (some ⟨w.heap.size, 3, none⟩)), (some 10, .string l), (some 11, .pointer (some ⟨w.heap.size, 4, none⟩)), (some 12, .string u), (some 13, .pointer (some ⟨w.heap.size, 5, none⟩)), (some 14, .int .i64 d), (some 15, .pointer (some ⟨w.heap.size, 6, none⟩)), (some 16, .int .i64 v), (some 17, .pointer (some ⟨w.heap.size, 7, none⟩)), (some 18, .agg #[.int .i64 tk, .string ts, .int .i64 tn, .slice ka kl kc]), (some 19, .nilIface), (some 20, .agg #[.int .i64 k, .string i, .string n, .string l, .string u, .int .i64 d, .int .i64 v, .nilIface]), (none, undef)] (BkInv w #[.int .i64 k, .string i, .string n, .string l, .string u, .int .i64 d, .int .i64 v, .int .i64 tk, .string ts, .int .i64 tn, .slice ka kl kc] #[.int .i64 k, .string i, .string n, .string l, .string u, .int .i64 d, .int .i64 v, .nilIface]) (by kernel_rfl) (by kernel_rfl) rfl ⟨HV.out.c, HV.out.r, below_drew HV.out.b⟩ ?_ ?_
    · intro ops AF hops hAF
      simp only [Iv.putL, Act.put, List.setIfInBounds_toArray, List.set_cons_zero, List.set_cons_succ] at hAF
      subst hAF
      clear hops
      refine And.intro (Iv.i_pure (wanted_none rfl) (fun f W ha hi => ?_) (fun f W h => ⟨h.c, h.r, h.b⟩)) ?_
      · show Sem.run _ _ W = Result.ok (Next.value (.pointer (some ⟨w.heap.size, 0, none⟩))) W
        go_simp
      refine And.intro (Iv.i_pure (wanted_none rfl) (fun f W ha hi => ?_) (fun f W h => ⟨h.c, h.r, h.b⟩)) ?_
      · show Sem.run _ _ W = Result.ok (Next.value (.int .i64 k)) W
        obtain ⟨x0, x1, x2, x3, x4, x5, x6, x7, x8, x9, x10⟩ := hi.cells
        go_simp
      refine And.intro (Iv.i_pure (wanted_none rfl) (fun f W ha hi => ?_) (fun f W h => ⟨h.c, h.r, h.b⟩)) ?_
      · show Sem.run _ _ W = Result.ok (Next.value (.pointer (some ⟨w.heap.size, 1, none⟩))) W
        go_simp
      refine And.intro (Iv.i_pure (wanted_none rfl) (fun f W ha hi => ?_) (fun f W h => ⟨h.c, h.r, h.b⟩)) ?_
      · show Sem.run _ _ W = Result.ok (Next.value (.string i)) W
        obtain ⟨x0, x1, x2, x3, x4, x5, x6, x7, x8, x9, x10⟩ := hi.cells
        go_simp
      refine And.intro (Iv.i_pure (wanted_none rfl) (fun f W ha hi => ?_) (fun f W h => ⟨h.c, h.r, h.b⟩)) ?_
      · show Sem.run _ _ W = Result.ok (Next.value (.pointer (some ⟨w.heap.size, 2, none⟩))) W
        go_simp
      refine And.intro (Iv.i_pure (wanted_none rfl) (fun f W ha hi => ?_) (fun f W h => ⟨h.c, h.r, h.b⟩)) ?_
      · show Sem.run _ _ W = Result.ok (Next.value (.string n)) W
        obtain ⟨x0, x1, x2, x3, x4, x5, x6, x7, x8, x9, x10⟩ := hi.cells
        go_simp
      refine And.intro (Iv.i_pure (wanted_none rfl) (fun f W ha hi => ?_) (fun f W h => ⟨h.c, h.r, h.b⟩)) ?_
      · show Sem.run _ _ W = Result.ok (Next.value (.pointer (some ⟨w.heap.size, 3, none⟩))) W
        go_simp
      refine And.intro (Iv.i_pure (wanted_none rfl) (fun f W ha hi => ?_) (fun f W h => ⟨h.c, h.r, h.b⟩)) ?_
      · show Sem.run _ _ W = Result.ok (Next.value (.string l)) W
        obtain ⟨x0, x1, x2, x3, x4, x5, x6, x7, x8, x9, x10⟩ := hi.cells
        go_simp
      refine And.intro (Iv.i_pure (wanted_none rfl) (fun f W ha hi => ?_) (fun f W h => ⟨h.c, h.r, h.b⟩)) ?_
      · show Sem.run _ _ W = Result.ok (Next.value (.pointer (some ⟨w.heap.size, 4, none⟩))) W
        go_simp
      refine And.intro (Iv.i_pure (wanted_none rfl) (fun f W ha hi => ?_) (fun f W h => ⟨h.c, h.r, h.b⟩)) ?_
      · show Sem.run _ _ W = Result.ok (Next.value (.string u)) W
        obtain ⟨x0, x1, x2, x3, x4, x5, x6, x7, x8, x9, x10⟩ := hi.cells
        go_simp
      refine And.intro (Iv.i_pure (wanted_none rfl) (fun f W ha hi => ?_) (fun f W h => ⟨h.c, h.r, h.b⟩)) ?_
      · show Sem.run _ _ W = Result.ok (Next.value (.pointer (some ⟨w.heap.size, 5, none⟩))) W
        go_simp
      refine And.intro (Iv.i_pure (wanted_none rfl) (fun f W ha hi => ?_) (fun f W h => ⟨h.c, h.r, h.b⟩)) ?_
      · show Sem.run _ _ W = Result.ok (Next.value (.int .i64 d)) W
        obtain ⟨x0, x1, x2, x3, x4, x5, x6, x7, x8, x9, x10⟩ := hi.cells
        go_simp
      refine And.intro (Iv.i_pure (wanted_none rfl) (fun f W ha hi => ?_) (fun f W h => ⟨h.c, h.r, h.b⟩)) ?_
      · show Sem.run _ _ W = Result.ok (Next.value (.pointer (some ⟨w.heap.size, 6, none⟩))) W
        go_simp
      refine And.intro (Iv.i_pure (wanted_none rfl) (fun f W ha hi => ?_) (fun f W h => ⟨h.c, h.r, h.b⟩)) ?_
      · show Sem.run _ _ W = Result.ok (Next.value (.int .i64 v)) W
        obtain ⟨x0, x1, x2, x3, x4, x5, x6, x7, x8, x9, x10⟩ := hi.cells
        go_simp
      refine And.intro (Iv.i_pure (wanted_none rfl) (fun f W ha hi => ?_) (fun f W h => ⟨h.c, h.r, h.b⟩)) ?_
      · show Sem.run _ _ W = Result.ok (Next.value (.pointer (some ⟨w.heap.size, 7, none⟩))) W
        go_simp
      refine And.intro (Iv.i_pure (wanted_none rfl) (fun f W ha hi => ?_) (fun f W h => ⟨h.c, h.r, h.b⟩)) ?_
      · show Sem.run _ _ W = Result.ok (Next.value (.agg #[.int .i64 tk, .string ts, .int .i64 tn, .slice ka kl kc])) W
        obtain ⟨x0, x1, x2, x3, x4, x5, x6, x7, x8, x9, x10⟩ := hi.cells
        go_simp
      refine And.intro (Iv.i_call 18 #[.agg #[.int .i64 tk, .string ts, .int .i64 tn, .slice ka kl kc]] (wanted_none rfl) (fun W => ?_) (fun f W h1 ha hi => ?_)) ?_
      · go_simp
      · refine (HTM.out W hi.b).mono ?_
        rintro e w2 ⟨rfl, hb⟩
        exact ⟨rfl, ⟨(hi.below hb).c, (hi.below hb).r, (hi.below hb).b⟩⟩
      refine And.intro (Iv.i_pure (wanted_none rfl) (fun f W ha hi => ?_) (fun f W h => ⟨h.c, h.r, h.b⟩)) ?_
      · show Sem.run _ _ W = Result.ok (Next.value (.agg #[.int .i64 k, .string i, .string n, .string l, .string u, .int .i64 d, .int .i64 v, .nilIface])) W
        go_simp
      refine And.intro (Iv.i_store rfl (wanted_none rfl) (fun f W h1 ha hi => ?_)) ?_
      · exact ⟨_, store_row_run 30 (.tmp 2) (.tmp 20) rfl (w.heap.size + 1) #[.int .i64 k, .string i, .string n, .string l, .string u, .int .i64 d, .int .i64 v, .nilIface] rfl rfl _ _ hi.r infoA (by cases f 18 <;> rfl) (by first | rfl | simp [Value.oneCell']), hi.row⟩
      exact trivial
    · intro f w2 hf hi
      have f18 := hf 18 (by decide)
      have hr := hi.r
      rw [f18] at hr
      simp only [Iv.putL, Act.put, List.setIfInBounds_toArray, List.set_cons_zero, List.set_cons_succ]
      have HR := hidIn hr
      have HBE := hidIn hi.b
      clear hr hi hf f18
      go_wp2_with fail
      refine bodyPost_ret (results_cell_row rfl _ _ (w.heap.size + 1) 30 #[.int .i64 k, .string i, .string n, .string l, .string u, .int .i64 d, .int .i64 v, .nilIface] (0, 0) _ rfl HR.out Tryz.underlying30 rfl infoA) rfl ?_
      exact ⟨rfl, HBE.out⟩
  · have HV := hidIn (HV.out #[.int .i64 k, .string i, .string n, .string l, .string u, .int .i64 d, .int .i64 v, .iface xt xv])
    go_enter Tryz.func12, Tryz.ntmps12
    go_wp2_with fail
    generalize (w.alloc (.cells #[.int .i64 k, .string i, .string n, .string l, .string u, .int .i64 d, .int .i64 v, .int .i64 tk, .string ts, .int .i64 tn, .slice ka kl kc] 35)).alloc (.cells #[.int .i64 0, .string ⟨#[]⟩, .string ⟨#[]⟩, .string ⟨#[]⟩, .string ⟨#[]⟩, .int .i64 0, .int .i64 0, .nilIface] 30) = V at *
    refine Iv.wp_region_invL [(some 3, .pointer (some ⟨w.heap.size, 0, none⟩)), (some 4, .int .i64 k), (some 5, .pointer (some ⟨w.heap.size, 1, none⟩)), (some 6, .string i), (some 7, .pointer (some ⟨w.heap.size, 2, none⟩)), (some 8, .string n), (some 9, .pointer (some ⟨w.heap.size, 3, none⟩)), (some 10, .string l), (some 11, .pointer (some ⟨w.heap.size, 4, none⟩)), (some 12, .string u), (some 13, .pointer (some ⟨w.heap.size, 5, none⟩)), (some 14, .int .i64 d), (some 15, .pointer (some ⟨w.heap.size, 6, none⟩)), (some 16, .int .i64 v), (some 17, .pointer (some ⟨w.heap.size, 7, none⟩)), (some 18, .agg #[.int .i64 tk, .string ts, .int .i64 tn, .slice ka kl kc]), (some 19, .iface xt xv), (some 20, .agg #[.int .i64 k, .string i, .string n, .string l, .string u, .int .i64 d, .int .i64 v, .iface xt xv]), (none, undef)] (BkInv w #[.int .i64 k, .string i, .string n, .string l, .string u, .int .i64 d, .int .i64 v, .int .i64 tk, .string ts, .int .i64 tn, .slice ka kl kc] #[.int .i64 k, .string i, .string n, .string l, .string u, .int .i64 d, .int .i64 v, .iface xt xv]) (by kernel_rfl) (by kernel_rfl) rfl ⟨HV.out.c, HV.out.r, below_drew HV.out.b⟩ ?_ ?_
    · intro ops AF hops hAF
      simp only [Iv.putL, Act.put, List.setIfInBounds_toArray, List.set_cons_zero, List.set_cons_succ] at hAF
      subst hAF
      clear hops
      refine And.intro (Iv.i_pure (wanted_none rfl) (fun f W ha hi => ?_) (fun f W h => ⟨h.c, h.r, h.b⟩)) ?_
      · show Sem.run _ _ W = Result.ok (Next.value (.pointer (some ⟨w.heap.size, 0, none⟩))) W
        go_simp
      refine And.intro (Iv.i_pure (wanted_none rfl) (fun f W ha hi => ?_) (fun f W h => ⟨h.c, h.r, h.b⟩)) ?_
      · show Sem.run _ _ W = Result.ok (Next.value (.int .i64 k)) W
        obtain ⟨x0, x1, x2, x3, x4, x5, x6, x7, x8, x9, x10⟩ := hi.cells
        go_simp
      refine And.intro (Iv.i_pure (wanted_none rfl) (fun f W ha hi => ?_) (fun f W h => ⟨h.c, h.r, h.b⟩)) ?_
      · show Sem.run _ _ W = Result.ok (Next.value (.pointer (some ⟨w.heap.size, 1, none⟩))) W
        go_simp
      refine And.intro (Iv.i_pure (wanted_none rfl) (fun f W ha hi => ?_) (fun f W h => ⟨h.c, h.r, h.b⟩)) ?_
      · show Sem.run _ _ W = Result.ok (Next.value (.string i)) W
        obtain ⟨x0, x1, x2, x3, x4, x5, x6, x7, x8, x9, x10⟩ := hi.cells
        go_simp
      refine And.intro (Iv.i_pure (wanted_none rfl) (fun f W ha hi => ?_) (fun f W h => ⟨h.c, h.r, h.b⟩)) ?_
      · show Sem.run _ _ W = Result.ok (Next.value (.pointer (some ⟨w.heap.size, 2, none⟩))) W
        go_simp
      refine And.intro (Iv.i_pure (wanted_none rfl) (fun f W ha hi => ?_) (fun f W h => ⟨h.c, h.r, h.b⟩)) ?_
      · show Sem.run _ _ W = Result.ok (Next.value (.string n)) W
        obtain ⟨x0, x1, x2, x3, x4, x5, x6, x7, x8, x9, x10⟩ := hi.cells
        go_simp
      refine And.intro (Iv.i_pure (wanted_none rfl) (fun f W ha hi => ?_) (fun f W h => ⟨h.c, h.r, h.b⟩)) ?_
      · show Sem.run _ _ W = Result.ok (Next.value (.pointer (some ⟨w.heap.size, 3, none⟩))) W
        go_simp
      refine And.intro (Iv.i_pure (wanted_none rfl) (fun f W ha hi => ?_) (fun f W h => ⟨h.c, h.r, h.b⟩)) ?_
      · show Sem.run _ _ W = Result.ok (Next.value (.string l)) W
        obtain ⟨x0, x1, x2, x3, x4, x5, x6, x7, x8, x9, x10⟩ := hi.cells
        go_simp
      refine And.intro (Iv.i_pure (wanted_none rfl) (fun f W ha hi => ?_) (fun f W h => ⟨h.c, h.r, h.b⟩)) ?_
      · show Sem.run _ _ W = Result.ok (Next.value (.pointer (some ⟨w.heap.size, 4, none⟩))) W
        go_simp
      refine And.intro (Iv.i_pure (wanted_none rfl) (fun f W ha hi => ?_) (fun f W h => ⟨h.c, h.r, h.b⟩)) ?_
      · show Sem.run _ _ W = Result.ok (Next.value (.string u)) W
        obtain ⟨x0, x1, x2, x3, x4, x5, x6, x7, x8, x9, x10⟩ := hi.cells
        go_simp
      refine And.intro (Iv.i_pure (wanted_none rfl) (fun f W ha hi => ?_) (fun f W h => ⟨h.c, h.r, h.b⟩)) ?_
      · show Sem.run _ _ W = Result.ok (Next.value (.pointer (some ⟨w.heap.size, 5, none⟩))) W
        go_simp
      refine And.intro (Iv.i_pure (wanted_none rfl) (fun f W ha hi => ?_) (fun f W h => ⟨h.c, h.r, h.b⟩)) ?_
      · show Sem.run _ _ W = Result.ok (Next.value (.int .i64 d)) W
        obtain ⟨x0, x1, x2, x3, x4, x5, x6, x7, x8, x9, x10⟩ := hi.cells
        go_simp
      refine And.intro (Iv.i_pure (wanted_none rfl) (fun f W ha hi => ?_) (fun f W h => ⟨h.c, h.r, h.b⟩)) ?_
      · show Sem.run _ _ W = Result.ok (Next.value (.pointer (some ⟨w.heap.size, 6, none⟩))) W
        go_simp
      refine And.intro (Iv.i_pure (wanted_none rfl) (fun f W ha hi => ?_) (fun f W h => ⟨h.c, h.r, h.b⟩)) ?_
      · show Sem.run _ _ W = Result.ok (Next.value (.int .i64 v)) W
        obtain ⟨x0, x1, x2, x3, x4, x5, x6, x7, x8, x9, x10⟩ := hi.cells
        go_simp
      refine And.intro (Iv.i_pure (wanted_none rfl) (fun f W ha hi => ?_) (fun f W h => ⟨h.c, h.r, h.b⟩)) ?_
      · show Sem.run _ _ W = Result.ok (Next.value (.pointer (some ⟨w.heap.size, 7, none⟩))) W
        go_simp
      refine And.intro (Iv.i_pure (wanted_none rfl) (fun f W ha hi => ?_) (fun f W h => ⟨h.c, h.r, h.b⟩)) ?_
      · show Sem.run _ _ W = Result.ok (Next.value (.agg #[.int .i64 tk, .string ts, .int .i64 tn, .slice ka kl kc])) W
        obtain ⟨x0, x1, x2, x3, x4, x5, x6, x7, x8, x9, x10⟩ := hi.cells
        go_simp
      refine And.intro (Iv.i_call 18 #[.agg #[.int .i64 tk, .string ts, .int .i64 tn, .slice ka kl kc]] (wanted_none rfl) (fun W => ?_) (fun f W h1 ha hi => ?_)) ?_
      · go_simp
      · refine (HTM.out W hi.b).mono ?_
        rintro e w2 ⟨rfl, hb⟩
        exact ⟨rfl, ⟨(hi.below hb).c, (hi.below hb).r, (hi.below hb).b⟩⟩
      refine And.intro (Iv.i_pure (wanted_none rfl) (fun f W ha hi => ?_) (fun f W h => ⟨h.c, h.r, h.b⟩)) ?_
      · show Sem.run _ _ W = Result.ok (Next.value (.agg #[.int .i64 k, .string i, .string n, .string l, .string u, .int .i64 d, .int .i64 v, .iface xt xv])) W
        go_simp
      refine And.intro (Iv.i_store rfl (wanted_none rfl) (fun f W h1 ha hi => ?_)) ?_
      · exact ⟨_, store_row_run 30 (.tmp 2) (.tmp 20) rfl (w.heap.size + 1) #[.int .i64 k, .string i, .string n, .string l, .string u, .int .i64 d, .int .i64 v, .iface xt xv] rfl rfl _ _ hi.r infoA (by cases f 18 <;> rfl) (by first | rfl | simp [Value.oneCell']), hi.row⟩
      exact trivial
    · intro f w2 hf hi
      have f18 := hf 18 (by decide)
      have hr := hi.r
      rw [f18] at hr
      simp only [Iv.putL, Act.put, List.setIfInBounds_toArray, List.set_cons_zero, List.set_cons_succ]
      have HR := hidIn hr
      have HBE := hidIn hi.b
      clear hr hi hf f18
      go_wp2_with fail
      refine bodyPost_ret (results_cell_row rfl _ _ (w.heap.size + 1) 30 #[.int .i64 k, .string i, .string n, .string l, .string u, .int .i64 d, .int .i64 v, .iface xt xv] (0, 0) _ rfl HR.out Tryz.underlying30 rfl infoA) rfl ?_
      exact ⟨rfl, HBE.out⟩

end Go.Proofs.YtkioolbjmcpjpaaGreatDoor.Ev
namespace Go.Proofs.YtkioolbjmcpjpaaGreatDoor
open Go.RowKit
set_option linter.unusedVariables false

/-- What is known of the calls on the parts. -/
def MakesC (c : C) : Prop := ∀ w : World, Calls Tryz.prog 65 #[c.val] w (TreePost w (plainC c))
set_option maxHeartbeats 1000000 in
set_option maxRecDepth 100000 in
theorem plainC_zero : MakesC C.zero := by
  intro w
  have a0 := fun v xT w => isZero v xT w
  unfold C.val
  go_enter Tryz.func65, Tryz.ntmps65
  go_wp2_with fail
  refine bodyPost_ret (results_cell_row rfl _ _ w.heap.size 33 #[.int .i64 1, .string ⟨#[]⟩, .int .i64 0, .slice none 0 0] (0, 0) _ rfl ?blk Tryz.underlying33 rfl infoT) rfl ?post
  case blk => change Blk _ _ _ _; (first | exact blk_keep (blk_new rfl) _ | exact blk_new rfl)
  case post => exact tree_leaf _ _ _ _ _ (by repeat first | exact Below.refl _ _ | refine below_alloc ?_ _)
set_option maxHeartbeats 1000000 in
set_option maxRecDepth 100000 in
theorem plainC_one (s : ByteArray) : MakesC (C.one s) := by
  intro w
  have a0 := fun v xT w => notZero 97 v xT w (by decide)
  have a1 := fun v xT w => isOne v xT w
  unfold C.val
  go_enter Tryz.func65, Tryz.ntmps65
  go_wp2_with fail
  refine bodyPost_ret (results_cell_row rfl _ _ w.heap.size 33 #[.int .i64 2, .string s, .int .i64 0, .slice none 0 0] (0, 0) _ rfl ?blk Tryz.underlying33 rfl infoT) rfl ?post
  case blk => change Blk _ _ _ _; (first | exact blk_keep (blk_new rfl) _ | exact blk_new rfl)
  case post => exact tree_leaf _ _ _ _ _ (by repeat first | exact Below.refl _ _ | refine below_alloc ?_ _)
set_option maxHeartbeats 1000000 in
set_option maxRecDepth 100000 in
theorem plainC_odd (v : Value) (h : StrangeC v) : MakesC (.odd v) := by
  intro w
  show Calls _ _ #[v] _ _
  rcases h with rfl | ⟨t, x, rfl, h0, h1, h2, h3, h4, h5, h6, h7⟩
  · have a0 := nilZero
    have a1 := nilOne
    have a2 := nilGive
    have a3 := nilAnd
    have a4 := nilOr
    have a5 := nilScale
    have a6 := nilWhen
    have a7 := nilIf
    go_enter Tryz.func65, Tryz.ntmps65
    go_wp2_with fail
    refine bodyPost_ret (results_cell_row rfl _ _ w.heap.size 33 #[.int .i64 0, .string ⟨#[]⟩, .int .i64 0, .slice none 0 0] (0, 0) _ rfl ?blk Tryz.underlying33 rfl infoT) rfl ?post
    case blk => change Blk _ _ _ _; exact blk_new rfl
    case post => exact tree_leaf _ _ _ _ _ (by repeat first | exact Below.refl _ _ | refine below_alloc ?_ _)
  · have a0 := fun v xT w => notZero t v xT w h0
    have a1 := fun v xT w => notOne t v xT w h1
    have a2 := fun v xT w => notGive t v xT w h2
    have a3 := fun v xT w => notAnd t v xT w h3
    have a4 := fun v xT w => notOr t v xT w h4
    have a5 := fun v xT w => notScale t v xT w h5
    have a6 := fun v xT w => notWhen t v xT w h6
    have a7 := fun v xT w => notIf t v xT w h7
    go_enter Tryz.func65, Tryz.ntmps65
    go_wp2_with fail
    refine bodyPost_ret (results_cell_row rfl _ _ w.heap.size 33 #[.int .i64 0, .string ⟨#[]⟩, .int .i64 0, .slice none 0 0] (0, 0) _ rfl ?blk Tryz.underlying33 rfl infoT) rfl ?post
    case blk => change Blk _ _ _ _; exact blk_new rfl
    case post => exact tree_leaf _ _ _ _ _ (by repeat first | exact Below.refl _ _ | refine below_alloc ?_ _)
set_option maxHeartbeats 1000000 in
set_option maxRecDepth 100000 in
theorem plainC_give (c : C) (q : One' c.val) (ih : MakesC c) : MakesC (.give c) := by
  intro w
  have a0 := fun v xT w => notZero 99 v xT w (by decide)
  have a1 := fun v xT w => notOne 99 v xT w (by decide)
  have a2 := fun v xT w => isGive v xT w
  have HIH := hidIn ih
  have hs0 := q.store
  have cv0 := q.cells
  have mv0 := q.cells
  unfold Value.cells at mv0
  unfold C.val
  clear ih q
  go_enter Tryz.func65, Tryz.ntmps65
  go_wp2_with fail
  obtain ⟨W, hW⟩ : ∃ W, W = (w.alloc (.cells #[.int .i64 0, .string ⟨#[]⟩, .int .i64 0, .slice none 0 0] 33)).alloc (.cells #[c.val] 99) := ⟨_, rfl⟩
  have HB : Hid (Below w.heap.size w W) := by rw [hW]; exact below_alloc (below_alloc (Below.refl _ _) _) _
  have HZ : Hid (Blk W w.heap.size 33 zeroT) := by rw [hW]; exact blk_keep (blk_new rfl) _
  have HX : Hid (Blk W (w.heap.size + 1) 99 #[c.val]) := by rw [hW]; exact blk_new (by simp)
  have HWS : Hid (W.heap.size = w.heap.size + 2) := by unfold Hid; rw [hW]; simp
  rw [← hW]
  clear hW
  refine (HIH.out W).mono ?_
  rintro e w1 ⟨ka, kc, rfl, ht1, hb1⟩
  have HT1 := hidIn ht1
  have HB1 := hidIn hb1
  have hZ1 := HZ.out.below hb1 HZ.out.lt
  obtain ⟨⟨z0, z1, z2, z3⟩, f0, f1, f2, f3⟩ := blk_zero hZ1
  have HZ1 := hidIn hZ1
  have hlt := hZ1.lt
  have hne : w.heap.size ≠ w1.heap.size := by omega
  have hfr : ∀ (o : Obj) (k : Nat), (w1.alloc o).frozen? ⟨w.heap.size, k, none⟩ = w1.frozen? ⟨w.heap.size, k, none⟩ := fun o k => (below_alloc (Below.refl _ _) o).frozen (p := ⟨w.heap.size, k, none⟩) hlt
  clear hb1 ht1 hZ1
  go_wp2_with fail
  refine bodyPost_ret (results_cell_row rfl _ _ w.heap.size 33 #[.int .i64 3, .string ⟨#[]⟩, .int .i64 0, .slice (some ⟨w1.heap.size, 0, none⟩) 1 1] (0, 0) _ rfl ?blk Tryz.underlying33 rfl infoT) rfl ?post
  case blk => change Blk _ _ _ _; (first | with_reducible exact blk_set4 HZ1.out _ _ _ _ _ | with_reducible exact blk_set4' (blk_keep HZ1.out _) _ _ _ _)
  case post =>
    have hbw : Below w.heap.size w w1 := HB.out.trans (HB1.out.mono HB.out.size)
    have hWS := HWS.out
    have hs1 := HB1.out.size
    refine tree_one (w := w) (w3 := w1.alloc (.cells (four (plainC c) ka kc) 33)) (B := W.heap.size) (t := plainC c) (kat_one (HT1.out.below (below_alloc (Below.refl _ _) _)) hs1 (blk_new rfl)) ?_ (by omega) ?_
    · intro k x v hk hv
      first
        | (rw [cell_alloc_set4 (by omega)]; exact hv)
        | (rw [set4_cell' (by omega)]; exact hv)
    · (repeat first | with_reducible exact hbw | with_reducible refine below_alloc ?_ _ | with_reducible refine below_set ?_ (by omega) _ _)

end Go.Proofs.YtkioolbjmcpjpaaGreatDoor
namespace Go.Proofs.YtkioolbjmcpjpaaGreatDoor
open Go.RowKit
set_option linter.unusedVariables false

set_option maxHeartbeats 4000000 in
set_option maxRecDepth 100000 in
theorem plainC_and (l r : C) (q1 : One' l.val) (q2 : One' r.val) (ih1 : MakesC l) (ih2 : MakesC r) : MakesC (.and l r) := by
  intro w
  have a0 := fun v xT w => notZero 101 v xT w (by decide)
  have a1 := fun v xT w => notOne 101 v xT w (by decide)
  have a2 := fun v xT w => notGive 101 v xT w (by decide)
  have a3 := fun v xT w => isAnd v xT w
  have hs1 := q1.store
  have cv1 := q1.cells
  have mv1 := q1.cells
  unfold Value.cells at mv1
  have hs2 := q2.store
  have cv2 := q2.cells
  have mv2 := q2.cells
  unfold Value.cells at mv2
  unfold C.val
  have HI1 := hidIn ih1
  have HI2 := hidIn ih2
  clear ih1 ih2 q1 q2
  go_enter Tryz.func65, Tryz.ntmps65
  go_wp2_with fail
  obtain ⟨W, hW⟩ : ∃ W, W = (w.alloc (.cells #[.int .i64 0, .string ⟨#[]⟩, .int .i64 0, .slice none 0 0] 33)).alloc (.cells #[l.val, r.val] 101) := ⟨_, rfl⟩
  have HB : Hid (Below w.heap.size w W) := by rw [hW]; exact below_alloc (below_alloc (Below.refl _ _) _) _
  have HZ : Hid (Blk W w.heap.size 33 zeroT) := by rw [hW]; exact blk_keep (blk_new rfl) _
  have HX : Hid (Blk W (w.heap.size + 1) 101 #[l.val, r.val]) := by rw [hW]; exact blk_new (by simp)
  have HWS : Hid (W.heap.size = w.heap.size + 2) := by unfold Hid; rw [hW]; simp
  rw [← hW]
  clear hW
  have x1 : W.cell? ⟨w.heap.size + 1, 0, none⟩ = some l.val := HX.out.cell 0
  have x2 : W.cell? ⟨w.heap.size + 1, 1, none⟩ = some r.val := HX.out.cell 1
  have HC1 : Hid (∀ X, Below W.heap.size W X → Calls Tryz.prog 65 #[l.val] X (fun e w1 => ∃ ka kc, e = .returned (.agg #[.int .i64 (plainC l).kind, .string (plainC l).s, .int .i64 (plainC l).n, .slice ka (plainC l).k.length kc]) ∧ TIn w1 W.heap.size (plainC l) (.agg (four (plainC l) ka kc)) ∧ Below W.heap.size W w1)) := by
    intro X hX 
    refine (HI1.out X).mono ?_
    rintro e w1 ⟨ka, kc, rfl, ht, hb⟩
    exact ⟨ka, kc, rfl, ht.low hX.size, hX.trans (hb.mono hX.size)⟩
  have HC2 : Hid (∀ X (t1 : T) (v1 : Value), Below W.heap.size W X → TIn X W.heap.size t1 v1 → Calls Tryz.prog 65 #[r.val] X (fun e w1 => ∃ ka kc, e = .returned (.agg #[.int .i64 (plainC r).kind, .string (plainC r).s, .int .i64 (plainC r).n, .slice ka (plainC r).k.length kc]) ∧ TIn w1 W.heap.size (plainC r) (.agg (four (plainC r) ka kc)) ∧ TIn w1 W.heap.size t1 v1 ∧ Below W.heap.size W w1)) := by
    intro X t1 v1 hX hk1
    refine (HI2.out X).mono ?_
    rintro e w1 ⟨ka, kc, rfl, ht, hb⟩
    exact ⟨ka, kc, rfl, ht.low hX.size, hk1.below hb, hX.trans (hb.mono hX.size)⟩
  clear HI1 HI2
  have HPL : Hid (plainC (.and l r) = .mk 4 ⟨#[]⟩ 0 [plainC l, plainC r]) := rfl
  generalize l.val = va at *
  generalize r.val = vb at *
  generalize plainC l = ta at *
  generalize plainC r = tb at *
  clear hs1 cv1 mv1 hs2 cv2 mv2 a0 a1 a2 a3
  go_region_with (first
    | (go_at_call 65; (with_reducible show Calls _ _ #[va] _ _); refine (HC1.out _ (by first | with_reducible exact below_drew (Below.refl _ _) | with_reducible exact Below.refl _ _)).mono ?_; rintro e w1 ⟨ka, kc, rfl, ht1, hb1⟩; have y2 : w1.cell? ⟨w.heap.size + 1, 1, none⟩ = some vb := (HX.out.below hb1 HX.out.lt).cell 1; have HT1 := hidIn ht1; have HB1 := hidIn hb1; clear ht1 hb1)
    | (go_at_call 65; (with_reducible show Calls _ _ #[vb] _ _); refine (HC2.out _ ta (.agg (four ta ka kc)) (by first | with_reducible exact HB1.out | with_reducible exact below_drew HB1.out) (by first | with_reducible exact HT1.out | with_reducible exact HT1.out.below (below_drew (Below.refl _ _)))).mono ?_; rintro e w2 ⟨la, lc, rfl, ht2, ht3, hb2⟩; have HT2 := hidIn ht2; have HT3 := hidIn ht3; have HB2 := hidIn hb2; clear ht2 ht3 hb2)
    | (go_at_call 105; refine (treeTwo_any 4 ta tb ka la kc lc W.heap.size _ (by first | with_reducible exact HB2.out.size | with_reducible exact (below_drew HB2.out).size) (by first | with_reducible exact HT3.out | with_reducible exact HT3.out.below (below_drew (Below.refl _ _))) (by first | with_reducible exact HT2.out | with_reducible exact HT2.out.below (below_drew (Below.refl _ _)))).mono ?_; rintro e w3 ⟨b, rfl, hkat, hb3⟩; have hb3' : Below W.heap.size W w3 := (by first | exact HB2.out.trans (hb3.mono HB2.out.size) | exact (below_drew HB2.out).trans (hb3.mono HB2.out.size)); have hz3 := HZ.out.below hb3' HZ.out.lt; obtain ⟨⟨z0, z1, z2, z3⟩, f0, f1, f2, f3⟩ := blk_zero hz3; have HZ3 := hidIn hz3; have HB3 := hidIn hb3'; have HKAT := hidIn hkat; clear hz3 hb3 hb3' hkat))
  all_goals
    go_wp2_with fail
    refine bodyPost_ret (results_cell_row rfl _ _ w.heap.size 33 #[.int .i64 4, .string ⟨#[]⟩, .int .i64 0, .slice (some ⟨b, 0, none⟩) 2 2] (0, 0) _ rfl ?blk Tryz.underlying33 rfl infoT) rfl ?post
    case blk => change Blk _ _ _ _; (with_reducible exact blk_set4' HZ3.out _ _ _ _)
    case post =>
      have hbw : Below w.heap.size w w3 := HB.out.trans (HB3.out.mono HB.out.size)
      have hWS := HWS.out
      rw [HPL.out]
      refine tree_two (w := w) (B := W.heap.size) (t := ta) (u := tb) HKAT.out ?_ (by omega) ?_
      · intro k x v hk hv
        rw [set4_cell' (by omega)]
        exact hv
      · (repeat first | with_reducible exact hbw | with_reducible refine below_set ?_ (by omega) _ _)
set_option maxHeartbeats 4000000 in
set_option maxRecDepth 100000 in
theorem plainC_scale (n : O) (c : C) (q1 : One' n.val) (q2 : One' c.val) (ih1 : MakesO n) (ih2 : MakesC c) : MakesC (.scale n c) := by
  intro w
  have a0 := fun v xT w => notZero 107 v xT w (by decide)
  have a1 := fun v xT w => notOne 107 v xT w (by decide)
  have a2 := fun v xT w => notGive 107 v xT w (by decide)
  have a3 := fun v xT w => notAnd 107 v xT w (by decide)
  have a4 := fun v xT w => notOr 107 v xT w (by decide)
  have a5 := fun v xT w => isScale v xT w
  have hs1 := q1.store
  have cv1 := q1.cells
  have mv1 := q1.cells
  unfold Value.cells at mv1
  have hs2 := q2.store
  have cv2 := q2.cells
  have mv2 := q2.cells
  unfold Value.cells at mv2
  unfold C.val
  have HI1 := hidIn ih1
  have HI2 := hidIn ih2
  clear ih1 ih2 q1 q2
  go_enter Tryz.func65, Tryz.ntmps65
  go_wp2_with fail
  obtain ⟨W, hW⟩ : ∃ W, W = (w.alloc (.cells #[.int .i64 0, .string ⟨#[]⟩, .int .i64 0, .slice none 0 0] 33)).alloc (.cells #[n.val, c.val] 107) := ⟨_, rfl⟩
  have HB : Hid (Below w.heap.size w W) := by rw [hW]; exact below_alloc (below_alloc (Below.refl _ _) _) _
  have HZ : Hid (Blk W w.heap.size 33 zeroT) := by rw [hW]; exact blk_keep (blk_new rfl) _
  have HX : Hid (Blk W (w.heap.size + 1) 107 #[n.val, c.val]) := by rw [hW]; exact blk_new (by simp)
  have HWS : Hid (W.heap.size = w.heap.size + 2) := by unfold Hid; rw [hW]; simp
  rw [← hW]
  clear hW
  have x1 : W.cell? ⟨w.heap.size + 1, 0, none⟩ = some n.val := HX.out.cell 0
  have x2 : W.cell? ⟨w.heap.size + 1, 1, none⟩ = some c.val := HX.out.cell 1
  have HC1 : Hid (∀ X, Below W.heap.size W X → Calls Tryz.prog 106 #[n.val] X (fun e w1 => ∃ ka kc, e = .returned (.agg #[.int .i64 (plain n).kind, .string (plain n).s, .int .i64 (plain n).n, .slice ka (plain n).k.length kc]) ∧ TIn w1 W.heap.size (plain n) (.agg (four (plain n) ka kc)) ∧ Below W.heap.size W w1)) := by
    intro X hX 
    refine (HI1.out X).mono ?_
    rintro e w1 ⟨ka, kc, rfl, ht, hb⟩
    exact ⟨ka, kc, rfl, ht.low hX.size, hX.trans (hb.mono hX.size)⟩
  have HC2 : Hid (∀ X (t1 : T) (v1 : Value), Below W.heap.size W X → TIn X W.heap.size t1 v1 → Calls Tryz.prog 65 #[c.val] X (fun e w1 => ∃ ka kc, e = .returned (.agg #[.int .i64 (plainC c).kind, .string (plainC c).s, .int .i64 (plainC c).n, .slice ka (plainC c).k.length kc]) ∧ TIn w1 W.heap.size (plainC c) (.agg (four (plainC c) ka kc)) ∧ TIn w1 W.heap.size t1 v1 ∧ Below W.heap.size W w1)) := by
    intro X t1 v1 hX hk1
    refine (HI2.out X).mono ?_
    rintro e w1 ⟨ka, kc, rfl, ht, hb⟩
    exact ⟨ka, kc, rfl, ht.low hX.size, hk1.below hb, hX.trans (hb.mono hX.size)⟩
  clear HI1 HI2
  have HPL : Hid (plainC (.scale n c) = .mk 6 ⟨#[]⟩ 0 [plain n, plainC c]) := rfl
  generalize n.val = va at *
  generalize c.val = vb at *
  generalize plain n = ta at *
  generalize plainC c = tb at *
  clear hs1 cv1 mv1 hs2 cv2 mv2 a0 a1 a2 a3 a4 a5
  go_region_with (first
    | (go_at_call 106; (with_reducible show Calls _ _ #[va] _ _); refine (HC1.out _ (by first | with_reducible exact below_drew (Below.refl _ _) | with_reducible exact Below.refl _ _)).mono ?_; rintro e w1 ⟨ka, kc, rfl, ht1, hb1⟩; have y2 : w1.cell? ⟨w.heap.size + 1, 1, none⟩ = some vb := (HX.out.below hb1 HX.out.lt).cell 1; have HT1 := hidIn ht1; have HB1 := hidIn hb1; clear ht1 hb1)
    | (go_at_call 65; (with_reducible show Calls _ _ #[vb] _ _); refine (HC2.out _ ta (.agg (four ta ka kc)) (by first | with_reducible exact HB1.out | with_reducible exact below_drew HB1.out) (by first | with_reducible exact HT1.out | with_reducible exact HT1.out.below (below_drew (Below.refl _ _)))).mono ?_; rintro e w2 ⟨la, lc, rfl, ht2, ht3, hb2⟩; have HT2 := hidIn ht2; have HT3 := hidIn ht3; have HB2 := hidIn hb2; clear ht2 ht3 hb2)
    | (go_at_call 105; refine (treeTwo_any 6 ta tb ka la kc lc W.heap.size _ (by first | with_reducible exact HB2.out.size | with_reducible exact (below_drew HB2.out).size) (by first | with_reducible exact HT3.out | with_reducible exact HT3.out.below (below_drew (Below.refl _ _))) (by first | with_reducible exact HT2.out | with_reducible exact HT2.out.below (below_drew (Below.refl _ _)))).mono ?_; rintro e w3 ⟨b, rfl, hkat, hb3⟩; have hb3' : Below W.heap.size W w3 := (by first | exact HB2.out.trans (hb3.mono HB2.out.size) | exact (below_drew HB2.out).trans (hb3.mono HB2.out.size)); have hz3 := HZ.out.below hb3' HZ.out.lt; obtain ⟨⟨z0, z1, z2, z3⟩, f0, f1, f2, f3⟩ := blk_zero hz3; have HZ3 := hidIn hz3; have HB3 := hidIn hb3'; have HKAT := hidIn hkat; clear hz3 hb3 hb3' hkat))
  all_goals
    go_wp2_with fail
    refine bodyPost_ret (results_cell_row rfl _ _ w.heap.size 33 #[.int .i64 6, .string ⟨#[]⟩, .int .i64 0, .slice (some ⟨b, 0, none⟩) 2 2] (0, 0) _ rfl ?blk Tryz.underlying33 rfl infoT) rfl ?post
    case blk => change Blk _ _ _ _; (with_reducible exact blk_set4' HZ3.out _ _ _ _)
    case post =>
      have hbw : Below w.heap.size w w3 := HB.out.trans (HB3.out.mono HB.out.size)
      have hWS := HWS.out
      rw [HPL.out]
      refine tree_two (w := w) (B := W.heap.size) (t := ta) (u := tb) HKAT.out ?_ (by omega) ?_
      · intro k x v hk hv
        rw [set4_cell' (by omega)]
        exact hv
      · (repeat first | with_reducible exact hbw | with_reducible refine below_set ?_ (by omega) _ _)

end Go.Proofs.YtkioolbjmcpjpaaGreatDoor
namespace Go.Proofs.YtkioolbjmcpjpaaGreatDoor.Ivl
open Go.RowKit
set_option linter.unusedVariables false

/-- What is known of an operation's value: which it may be, and what is known of it from then on. -/
structure Mode where
  ok : Value → Prop
  some' : ∃ u, ok u
  fact : Value → Nat × Nat → World → Prop
/-- What is known of the slots. -/
abbrev Kn := Nat → Nat × Nat → World → Prop
def kput (k : Kn) : Option Tmp → (Nat × Nat → World → Prop) → Kn
  | none, _ => k
  | some d, f => fun s => if s = d then f else k s
theorem kput_ne (k : Kn) (dst : Option Tmp) (f : Nat × Nat → World → Prop) (s : Nat) (h : dst ≠ some s) : kput k dst f s = k s := by
  cases dst with
  | none => rfl
  | some d => simp only [kput]; rw [if_neg (fun e => h (by rw [e]))]
theorem kput_comm (k : Kn) (d e : Option Tmp) (f g : Nat × Nat → World → Prop) (h : ∀ x, d = some x → e ≠ some x) : kput (kput k d f) e g = kput (kput k e g) d f := by
  cases d with
  | none => rfl
  | some d =>
    cases e with
    | none => rfl
    | some e =>
      have hne : e ≠ d := fun x => h d rfl (by rw [x])
      funext s
      simp only [kput]
      by_cases h1 : s = e
      · subst h1; rw [if_pos rfl, if_neg hne, if_pos rfl]
      · by_cases h2 : s = d
        · subst h2; rw [if_neg h1, if_pos rfl, if_pos rfl]
        · rw [if_neg h1, if_neg h2, if_neg h2, if_neg h1]

/-- What an operation reads. -/
def reads (ops : Array Oper) (o : Oper) (a : Act) : List Value := (o.looksAt ops).map fun s => a.tmps.getD s undef
theorem reads_put (ops : Array Oper) (o : Oper) (a : Act) (dst : Option Tmp) (v : Value) (h : ∀ d, dst = some d → d ∉ o.looksAt ops) : reads ops o (a.put dst v) = reads ops o a := by
  unfold reads
  refine List.map_congr_left (fun s hs => ?_)
  cases dst with
  | none => rfl
  | some d =>
    have hne : d ≠ s := fun e => h d rfl (e ▸ hs)
    simp [Act.put, Array.getElem?_setIfInBounds_ne hne]
section
variable {P : Program} {ops : Array Oper} {md : Region.Mode} {C : World → Prop} {Le : World → World → Prop} {M : Nat → List Value → Mode} {n : Nat}

def growUpon (P : Program) (Le : World → World → Prop) (m : Mode) (w : World) : Result Next → Prop
  | .ok (.value u) w' => Le w w' ∧ m.ok u ∧ m.fact u (w.heap.size, w'.heap.size) w'
  | .ok .skip w' => Le w w' ∧ m.ok undef ∧ m.fact undef (w.heap.size, w'.heap.size) w'
  | .ok (.enter f args) w' => w' = w ∧ Calls P f args w (fun e w'' => ∃ v, e = .returned v ∧ Le w w'' ∧ m.ok v ∧ m.fact v (w.heap.size, w''.heap.size) w'')
  | _ => False
def growAt (P : Program) (o : Oper) (a : Act) (Le : World → World → Prop) (m : Mode) (w : World) : Prop := growUpon P Le m w ((execOp a.eval o).run P w)
/-- What is asked of an operation that comes up. -/
def grow (P : Program) (ops : Array Oper) (C : World → Prop) (Le : World → World → Prop) (m : Mode) (o : Oper) (a : Act) (k : Kn) (K : Act → Kn → Prop) : Prop :=
  (∀ u I w w', Le w w' → m.fact u I w → m.fact u I w') ∧ (∀ w, C w → (∀ s ∈ o.looksAt ops, ∃ I, k s I w) → growAt P o a Le m w) ∧ ∀ u, m.ok u → K (a.put o.dst u) (kput k o.dst (m.fact u))
def wpGrow (P : Program) (ops : Array Oper) (C : World → Prop) (Le : World → World → Prop) (M : Nat → List Value → Mode) (Q : Act → Kn → Prop) : Nat → List Oper → Act → Kn → Prop
  | _, [], a, k => Q a k
  | i, o :: rest, a, k => if Region.wanted o (yielded ops a.tmps) then grow P ops C Le (M i (reads ops o a)) o a k (wpGrow P ops C Le M Q (i + 1) rest) else wpGrow P ops C Le M Q (i + 1) rest (a.put o.dst undef) (kput k o.dst (fun _ _ => True))
def gOp (P : Program) (ops : Array Oper) (C : World → Prop) (Le : World → World → Prop) (M : Nat → List Value → Mode) (i : Nat) (K : Act → Kn → Prop) (a : Act) (k : Kn) : Prop :=
  match ops[i]? with
  | none => K a k
  | some o => if Region.wanted o (yielded ops a.tmps) then grow P ops C Le (M i (reads ops o a)) o a k K else K (a.put o.dst undef) (kput k o.dst (fun _ _ => True))
theorem grow_mono {m : Mode} {o : Oper} {a : Act} {k : Kn} {K K' : Act → Kn → Prop} (h : ∀ a k, K a k → K' a k) (hh : grow P ops C Le m o a k K) : grow P ops C Le m o a k K' :=
  ⟨hh.1, hh.2.1, fun u hu => h _ _ (hh.2.2 u hu)⟩
theorem gOp_mono {i : Nat} {a : Act} {k : Kn} {K K' : Act → Kn → Prop} (h : ∀ a k, K a k → K' a k) (hh : gOp P ops C Le M i K a k) : gOp P ops C Le M i K' a k := by
  unfold gOp at *
  split
  · exact h _ _ (by simpa [*] using hh)
  · rename_i o ho
    simp only [ho] at hh
    split
    · rename_i hw; simp only [hw, if_true] at hh; exact grow_mono h hh
    · rename_i hw; simp only [hw] at hh; exact h _ _ hh
def Stays (Le : World → World → Prop) (k : Kn) : Prop := ∀ s I w w', Le w w' → k s I w → k s I w'
theorem Stays.put {k : Kn} (h : Stays Le k) (dst : Option Tmp) {f : Nat × Nat → World → Prop} (hf : ∀ I w w', Le w w' → f I w → f I w') : Stays Le (kput k dst f) := by
  cases dst with
  | none => exact h
  | some d =>
    intro s I w w' hle hk
    simp only [kput] at hk ⊢
    split
    · rename_i e; rw [if_pos e] at hk; exact hf I w w' hle hk
    · rename_i e; rw [if_neg e] at hk; exact h s I w w' hle hk
/-- Which blocks each slot's value was made in. -/
def putL (L : Nat → Nat × Nat) : Option Tmp → Nat × Nat → Nat → Nat × Nat
  | none, _ => L
  | some d, I => fun s => if s = d then I else L s
/-- All of them made by now, no two in one. -/
def Apt (L : Nat → Nat × Nat) (w : World) : Prop := (∀ s, (L s).2 ≤ w.heap.size) ∧ ∀ s t, s ≠ t → (L s).2 ≤ (L t).1 ∨ (L t).2 ≤ (L s).1
theorem Apt.put {L : Nat → Nat × Nat} {w w' : World} (h : Apt L w) (hs : w.heap.size ≤ w'.heap.size) (dst : Option Tmp) : Apt (putL L dst (w.heap.size, w'.heap.size)) w' := by
  cases dst with
  | none => exact ⟨fun s => Nat.le_trans (h.1 s) hs, h.2⟩
  | some d =>
    constructor
    · intro s
      simp only [putL]
      split
      · exact Nat.le_refl _
      · exact Nat.le_trans (h.1 s) hs
    · intro s t hst
      have h1 := h.1 s
      have h2 := h.1 t
      simp only [putL]
      by_cases e1 : s = d
      · by_cases e2 : t = d
        · exact absurd (e1.trans e2.symm) hst
        · rw [if_pos e1, if_neg e2]; exact .inr h2
      · by_cases e2 : t = d
        · rw [if_neg e1, if_pos e2]; exact .inl h1
        · rw [if_neg e1, if_neg e2]; exact h.2 s t hst
theorem all_put {k : Kn} {L : Nat → Nat × Nat} {w : World} (h : ∀ s, k s (L s) w) (dst : Option Tmp) {f : Nat × Nat → World → Prop} {I : Nat × Nat} (hf : f I w) : ∀ s, kput k dst f s (putL L dst I s) w := by
  cases dst with
  | none => exact h
  | some d =>
    intro s
    simp only [kput, putL]
    split
    · exact hf
    · exact h s
theorem all_true {k : Kn} {L : Nat → Nat × Nat} {w : World} (h : ∀ s, k s (L s) w) (dst : Option Tmp) : ∀ s, kput k dst (fun _ _ => True) s (L s) w := by
  cases dst with
  | none => exact h
  | some d =>
    intro s
    simp only [kput]
    split
    · trivial
    · exact h s
theorem wp_of_grow {o : Oper} {m : Mode} {a : Act} {k : Kn} {L : Nat → Nat × Nat} {K : Act → Kn → Prop} {K' : Act → World → Prop} {Q' : Exit → Act → World → Prop} {w : World} (hLS : ∀ w w', Le w w' → w.heap.size ≤ w'.heap.size) (hCL : ∀ w w', C w → Le w w' → C w') (hs : Stays Le k) (hw : C w) (hk : ∀ s, k s (L s) w) (hL : Apt L w)
    (h : ∀ a k L w', Stays Le k → C w' → (∀ s, k s (L s) w') → Apt L w' → K a k → K' a w') (hh : grow P ops C Le m o a k K) : o.wp P a w K' Q' := by
  obtain ⟨h0, h1, h2⟩ := hh
  have h3 := h1 w hw (fun s _ => ⟨_, hk s⟩)
  unfold growAt at h3
  unfold Oper.wp
  generalize (execOp a.eval o).run P w = r at *
  cases r with
  | ok n w' =>
    cases n <;> simp only [growUpon] at h3 <;> simp only [Oper.upon]
    case value u =>
      obtain ⟨e1, e2, e3⟩ := h3
      exact h _ _ _ _ (hs.put o.dst (h0 u)) (hCL w w' hw e1) (all_put (fun s => hs s _ w w' e1 (hk s)) o.dst e3) (hL.put (hLS _ _ e1) o.dst) (h2 u e2)
    case skip =>
      obtain ⟨e1, e2, e3⟩ := h3
      exact h _ _ _ _ (hs.put o.dst (h0 undef)) (hCL w w' hw e1) (all_put (fun s => hs s _ w w' e1 (hk s)) o.dst e3) (hL.put (hLS _ _ e1) o.dst) (h2 undef e2)
    case enter f args =>
      obtain ⟨e1, hc⟩ := h3
      rw [e1]
      refine hc.mono fun e w'' ⟨v, he, e1, e2, e3⟩ => ?_
      subst he
      exact h _ _ _ _ (hs.put o.dst (h0 v)) (hCL w w'' hw e1) (all_put (fun s => hs s _ w w'' e1 (hk s)) o.dst e3) (hL.put (hLS _ _ e1) o.dst) (h2 v e2)
  | halt x w' => simp only [growUpon] at h3
theorem wpOp_of_gOp {i : Nat} {a : Act} {k : Kn} {L : Nat → Nat × Nat} {K : Act → Kn → Prop} {K' : Act → World → Prop} {Q' : Exit → Act → World → Prop} {w : World} (hLS : ∀ w w', Le w w' → w.heap.size ≤ w'.heap.size) (hCL : ∀ w w', C w → Le w w' → C w') (hs : Stays Le k) (hw : C w) (hk : ∀ s, k s (L s) w) (hL : Apt L w)
    (h : ∀ a k L w', Stays Le k → C w' → (∀ s, k s (L s) w') → Apt L w' → K a k → K' a w') (hh : gOp P ops C Le M i K a k) : wpOp P ops Q' i K' a w := by
  unfold gOp at hh
  unfold wpOp
  split
  · rename_i ho; simp only [ho] at hh; exact h _ _ _ _ hs hw hk hL hh
  · rename_i o ho
    simp only [ho] at hh
    split
    · rename_i hwt; simp only [hwt, if_true] at hh; exact .inl (wp_of_grow hLS hCL hs hw hk hL h hh)
    · rename_i hwt; simp only [hwt] at hh; exact h _ _ _ _ (hs.put o.dst (fun _ _ _ _ h => h)) hw (all_true hk o.dst) hL hh
/-- What an operation yields: the values that it may, and what is known of them. -/
def YieldsG (P : Program) (ops : Array Oper) (C : World → Prop) (Le : World → World → Prop) (m : Mode) (o : Oper) (ok : Value → Prop) (f : Value → Nat × Nat → World → Prop) (a : Act) (k : Kn) : Prop :=
  (Region.wanted o (yielded ops a.tmps) = true ∧ ok = m.ok ∧ f = m.fact ∧ (∀ u I w w', Le w w' → m.fact u I w → m.fact u I w') ∧ ∀ w, C w → (∀ s ∈ o.looksAt ops, ∃ I, k s I w) → growAt P o a Le m w) ∨
  (Region.wanted o (yielded ops a.tmps) = false ∧ ok = (fun u => u = undef) ∧ f = fun _ _ _ => True)
theorem YieldsG.gOp {i : Nat} {o : Oper} {ok : Value → Prop} {f : Value → Nat × Nat → World → Prop} {a : Act} {k : Kn} (hi : ops[i]? = some o) (hy : YieldsG P ops C Le (M i (reads ops o a)) o ok f a k) {K : Act → Kn → Prop} (h : ∀ u, ok u → K (a.put o.dst u) (kput k o.dst (f u))) : gOp P ops C Le M i K a k := by
  unfold Go.Proofs.YtkioolbjmcpjpaaGreatDoor.Ivl.gOp
  simp only [hi]
  rcases hy with ⟨hw, rfl, rfl, h0, hv⟩ | ⟨hw, rfl, rfl⟩
  · simp only [hw, if_true]; exact ⟨h0, hv, h⟩
  · simp only [hw, Bool.false_eq_true, if_false]; exact h undef rfl
theorem looks_put {o : Oper} {k : Kn} {dst : Option Tmp} {f : Nat × Nat → World → Prop} {w : World} (h : ∀ d, dst = some d → d ∉ o.looksAt ops) : (∀ s ∈ o.looksAt ops, ∃ I, kput k dst f s I w) ↔ ∀ s ∈ o.looksAt ops, ∃ I, k s I w := by
  constructor
  · intro hk s hs
    have := hk s hs
    rwa [kput_ne k dst f s (fun e => h s e hs)] at this
  · intro hk s hs
    rw [kput_ne k dst f s (fun e => h s e hs)]
    exact hk s hs
theorem YieldsG.of_same {m : Mode} {o : Oper} {ok : Value → Prop} {f : Value → Nat × Nat → World → Prop} {a a' : Act} {k k' : Kn} (hy : YieldsG P ops C Le m o ok f a k) (he : execOp a'.eval o = execOp a.eval o)
    (hw : Region.wanted o (yielded ops a'.tmps) = Region.wanted o (yielded ops a.tmps)) (hk : ∀ w, (∀ s ∈ o.looksAt ops, ∃ I, k' s I w) → ∀ s ∈ o.looksAt ops, ∃ I, k s I w) : YieldsG P ops C Le m o ok f a' k' := by
  rcases hy with ⟨h1, h2, h3, h4, h5⟩ | ⟨h1, h2, h3⟩
  · refine .inl ⟨by rw [hw]; exact h1, h2, h3, h4, fun w hC hl => ?_⟩
    have := h5 w hC (hk w hl)
    unfold growAt at *
    rwa [he]
  · exact .inr ⟨by rw [hw]; exact h1, h2, h3⟩
theorem yields_some {m : Mode} {o : Oper} {ok : Value → Prop} {f : Value → Nat × Nat → World → Prop} {a : Act} {k : Kn} (hy : YieldsG P ops C Le m o ok f a k) : ∃ u, ok u := by
  rcases hy with ⟨_, rfl, _⟩ | ⟨_, rfl, _⟩
  · exact m.some'
  · exact ⟨_, rfl⟩
theorem gOp_put {j : Nat} {m : Mode} {oi oj : Oper} {ok : Value → Prop} {f : Value → Nat × Nat → World → Prop} (hj : ops[j]? = some oj) (hap : oi.apart ops oj = true)
    (hsi : ∀ cs b, oi.op ≠ .select cs b) (hsj : ∀ cs b, oj.op ≠ .select cs b) {K : Act → Kn → Prop} {a : Act} {k : Kn}
    (hy : YieldsG P ops C Le m oi ok f a k) (h : ∀ u, ok u → gOp P ops C Le M j K (a.put oi.dst u) (kput k oi.dst (f u))) :
    gOp P ops C Le M j (fun a' k' => reads ops oi a' = reads ops oi a ∧ YieldsG P ops C Le m oi ok f a' k' ∧ ∀ u, ok u → K (a'.put oi.dst u) (kput k' oi.dst (f u))) a k := by
  obtain ⟨h1, h2, h3⟩ := Oper.apart_spec hap
  have keep : ∀ u g, YieldsG P ops C Le m oi ok f (a.put oj.dst u) (kput k oj.dst g) := fun u g =>
    hy.of_same (execOp_put oi hsi a oj.dst u h3) (wanted_put oi a oj.dst u h3) (fun w hl => (looks_put h3).1 hl)
  obtain ⟨u0, hu0⟩ := yields_some hy
  unfold gOp at *
  simp only [hj] at *
  by_cases hw : Region.wanted oj (yielded ops a.tmps) = true
  · simp only [hw, if_true]
    have hw' : ∀ u, Region.wanted oj (yielded ops (a.put oi.dst u).tmps) = true := fun u => by rw [wanted_put oj a oi.dst u h1]; exact hw
    simp only [hw', if_true] at h
    have hrd : ∀ u, reads ops oj (a.put oi.dst u) = reads ops oj a := fun u => reads_put ops oj a oi.dst u h1
    simp only [hrd] at h
    refine ⟨(h u0 hu0).1, fun w hC hl => ?_, fun u' hu' => ⟨reads_put ops oi a oj.dst u' h3, keep u' _, fun u hu => ?_⟩⟩
    · have := (h u0 hu0).2.1 w hC ((looks_put h1).2 hl)
      unfold growAt at *
      rwa [execOp_put oj hsj a oi.dst u0 h1] at this
    · have := (h u hu).2.2 u' hu'
      rw [← Act.put_comm a u u' h2, ← kput_comm k oi.dst oj.dst _ _ h2]
      exact this
  · have hwf : Region.wanted oj (yielded ops a.tmps) = false := by simpa using hw
    simp only [hwf, Bool.false_eq_true, if_false]
    have hw' : ∀ u, Region.wanted oj (yielded ops (a.put oi.dst u).tmps) = false := fun u => by rw [wanted_put oj a oi.dst u h1]; exact hwf
    simp only [hw', Bool.false_eq_true, if_false] at h
    refine ⟨reads_put ops oi a oj.dst _ h3, keep _ _, fun u hu => ?_⟩
    have := h u hu
    rw [← Act.put_comm a u undef h2, ← kput_comm k oi.dst oj.dst _ _ h2]
    exact this
theorem yieldsG_of_gOp {i : Nat} {o : Oper} {a : Act} {k : Kn} {K : Act → Kn → Prop} (hi : ops[i]? = some o) (h : gOp P ops C Le M i K a k) : ∃ ok f, YieldsG P ops C Le (M i (reads ops o a)) o ok f a k ∧ ∀ u, ok u → K (a.put o.dst u) (kput k o.dst (f u)) := by
  unfold gOp at h
  simp only [hi] at h
  by_cases hw : Region.wanted o (yielded ops a.tmps) = true
  · simp only [hw, if_true] at h
    exact ⟨_, _, .inl ⟨hw, rfl, rfl, h.1, h.2.1⟩, h.2.2⟩
  · simp only [hw] at h
    exact ⟨_, _, .inr ⟨by simpa using hw, rfl, rfl⟩, fun u hu => by subst hu; exact h⟩
def wpAnyL (P : Program) (md : Region.Mode) (ops : Array Oper) (C : World → Prop) (Le : World → World → Prop) (M : Nat → List Value → Mode) (n : Nat) (Q : Act → Kn → Prop) : Nat → Array Bool → Act → Kn → Prop
  | 0, listed, a, k => Region.ready md ops listed ≠ [] ∧ (∀ j ∈ Region.ready md ops listed, j = n) ∧ Region.ready md ops (listed.setIfInBounds n true) = [] ∧ Q a k
  | fuel + 1, listed, a, k => Region.ready md ops listed ≠ [] ∧ (∀ j ∈ Region.ready md ops listed, j ≠ n) ∧ ∀ i ∈ Region.ready md ops listed, gOp P ops C Le M i (wpAnyL P md ops C Le M n Q fuel (listed.setIfInBounds i true)) a k
theorem wpAny_of_growL {Q : Act → Kn → Prop} {Q' : Exit → Act → World → Prop} (hLS : ∀ w w', Le w w' → w.heap.size ≤ w'.heap.size) (hCL : ∀ w w', C w → Le w w' → C w') (hQ : ∀ a k L w, C w → (∀ s, k s (L s) w) → Apt L w → Q a k → wpOp P ops Q' n (fun a w => Q' .normal a w) a w) : ∀ (fuel : Nat) (listed : Array Bool) (a : Act) (k : Kn) (L : Nat → Nat × Nat) (w : World), Stays Le k → C w → (∀ s, k s (L s) w) → Apt L w →
    wpAnyL P md ops C Le M n Q fuel listed a k → wpAny P md ops Q' (fuel + 1) listed a w
  | 0, _, _, _, _, _, hs, hw, hk, hL, h => ⟨fun h0 => absurd h0 h.1, fun i hi => by
      have := h.2.1 i hi
      subst this
      exact wpOp_mono (fun a w hq => ⟨h.2.2.1, hq⟩) (hQ _ _ _ _ hw hk hL h.2.2.2)⟩
  | fuel + 1, _, _, _, _, _, hs, hw, hk, hL, h => ⟨fun h0 => absurd h0 h.1, fun i hi => wpOp_of_gOp hLS hCL hs hw hk hL (fun a' k' L' w' hs' hw' hk' hL' => wpAny_of_growL hLS hCL hQ fuel _ a' k' L' w' hs' hw' hk' hL') (h.2.2 i hi)⟩
theorem wpAnyL_first {Q : Act → Kn → Prop} {i : Nat} {oi : Oper} {ok : Value → Prop} {f : Value → Nat × Nat → World → Prop} (hwt : waitsAll md ops n = true) (hin : i < n) (hi : ops[i]? = some oi) (hsel : ∀ (j : Nat) (o : Oper) cs b, ops[j]? = some o → o.op ≠ .select cs b) :
    ∀ (fuel : Nat) (listed : Array Bool) (a : Act) (k : Kn),
      (∀ j oj, ops[j]? = some oj → j ≠ i → listed.getD j true = false → (∀ e ∈ oj.after, Region.binds md e = true → e.on ≠ i) → oi.apart ops oj = true) →
      i ∈ Region.ready md ops listed → YieldsG P ops C Le (M i (reads ops oi a)) oi ok f a k →
      (∀ u, ok u → wpAnyL P md ops C Le M n Q fuel (listed.setIfInBounds i true) (a.put oi.dst u) (kput k oi.dst (f u))) → wpAnyL P md ops C Le M n Q (fuel + 1) listed a k := by
  intro fuel
  induction fuel with
  | zero =>
    intro listed a k _ hr hy H
    have hnl : ∀ j ∈ Region.ready md ops listed, j ≠ n := fun j hj e => last_waits hwt hin (mem_ready.1 hr).1 (e ▸ hj)
    refine ⟨fun h => (by rw [h] at hr; cases hr), hnl, fun j hj => ?_⟩
    by_cases hji : j = i
    · subst hji; exact hy.gOp hi H
    · obtain ⟨u0, hu0⟩ := yields_some hy
      exact absurd ((H u0 hu0).2.1 j (ready_mono hj hji)) (hnl j hj)
  | succ fuel ih =>
    intro listed a k hfree hr hy H
    have hnl : ∀ j ∈ Region.ready md ops listed, j ≠ n := fun j hj e => last_waits hwt hin (mem_ready.1 hr).1 (e ▸ hj)
    refine ⟨fun h => (by rw [h] at hr; cases hr), hnl, fun j hj => ?_⟩
    by_cases hji : j = i
    · subst hji; exact hy.gOp hi H
    · have h1 : ∀ u, ok u → _ := fun u hu => (H u hu).2.2 j (ready_mono hj hji)
      obtain ⟨hjun, oj, hoj, hall⟩ := mem_ready.1 hj
      have hnot : ∀ e ∈ oj.after, Region.binds md e = true → e.on ≠ i := fun e he hb heq => by
        have h1 := hall e he hb
        have h0 := (mem_ready.1 hr).1
        rw [heq] at h1
        rcases Nat.lt_or_ge i listed.size with h' | h'
        · simp [h'] at h0 h1; rw [h0] at h1; cases h1
        · simp [Array.getElem?_eq_none h'] at h1
      have h2 := gOp_put hoj (hfree j oj hoj hji hjun hnot) (fun cs b => hsel i oi cs b hi) (fun cs b => hsel j oj cs b hoj) hy h1
      have hfree' : ∀ k ok, ops[k]? = some ok → k ≠ i → (listed.setIfInBounds j true).getD k true = false →
          (∀ e ∈ ok.after, Region.binds md e = true → e.on ≠ i) → oi.apart ops ok = true := fun k ok hk hki hun hno => by
        refine hfree k ok hk hki ?_ hno
        by_cases hjk : j = k
        · subst hjk; exact hjun
        · rw [getD_set_ne true hjk] at hun; exact hun
      refine gOp_mono (fun a' k' h3 => ih (listed.setIfInBounds j true) a' k' hfree' (ready_mono hr (Ne.symm hji)) (by rw [h3.1]; exact h3.2.1) (fun u hu => ?_)) h2
      rw [Array.setIfInBounds_comm _ _ hji]
      exact h3.2.2 u hu
theorem wpAnyL_lex {Q : Act → Kn → Prop} (hs : Region.noSelect ops = true) (hwt : waitsAll md ops n = true) : ∀ (l : List Oper) (i : Nat) (listed : Array Bool) (a : Act) (k : Kn), i + l.length = n → (∀ j, j < l.length → l[j]? = ops[i + j]?) →
    Region.lexFrom md ops (l.length + 1) i listed = true → wpGrow P ops C Le M Q i l a k → wpAnyL P md ops C Le M n Q l.length listed a k
  | [], i, listed, _, _, hn, _, hB, h => by
    have hin : i = n := by simpa using hn
    subst hin
    simp only [List.length_nil, Region.lexFrom, Bool.and_eq_true, List.isEmpty_iff] at hB
    obtain ⟨⟨hr, hf⟩, he⟩ := hB
    have hr' : i ∈ Region.ready md ops listed := by simpa using hr
    refine ⟨fun h0 => (by rw [h0] at hr'; cases hr'), fun j hj => ?_, he, h⟩
    by_cases hji : j = i
    · exact hji
    · have := ready_mono hj hji
      rw [he] at this
      cases this
  | o :: l, i, listed, a, k, hn, hl, hB, h => by
    have h0 : ops[i]? = some o := by simpa using (hl 0 (by simp)).symm
    simp only [List.length_cons] at hn
    rw [List.length_cons] at hB
    unfold Region.lexFrom at hB
    simp only [Bool.and_eq_true] at hB
    obtain ⟨⟨hr, hf⟩, hB'⟩ := hB
    have hst : gOp P ops C Le M i (wpGrow P ops C Le M Q (i + 1) l) a k := by unfold gOp; simp only [h0]; exact h
    obtain ⟨ok, f, hy, hK⟩ := yieldsG_of_gOp h0 hst
    exact wpAnyL_first hwt (by omega) h0 (Region.noSelect_spec hs) l.length listed a k (Region.free_spec h0 hf) (by simpa using hr) hy
      (fun u hu => wpAnyL_lex hs hwt l (i + 1) _ _ _ (by omega) (fun j hj => by have := hl (j + 1) (by simp; omega); simpa [Nat.add_assoc, Nat.add_comm 1 j] using this) hB' (hK u hu))
/-- All but the last in the text's order, then the last; what was made by two of them lies apart. -/
theorem wp_region_growI {id : Nat} {Q : Exit → Act → World → Prop} {a : Act} {w : World} {l : List Oper} {o : Oper} {L : List Oper} (C : World → Prop) (Le : World → World → Prop) (M : Nat → List Value → Mode) (hm : P.follows .mixedOrders = true) (hL : L = l ++ [o]) (hB : Region.lexB .any L.toArray = true) (hwt : waitsAll .any L.toArray l.length = true) (hLS : ∀ w w', Le w w' → w.heap.size ≤ w'.heap.size) (hCL : ∀ w w', C w → Le w w' → C w') (hC : C w.drew)
    (h : wpGrow P L.toArray C Le M (fun a' k' => ∀ I w', C w' → (∀ s, k' s (I s) w') → Apt I w' → wpList P L.toArray Q [o] a' w') 0 l a (fun _ _ _ => True)) : (Code.region id L.toArray true).wp P Q a w := by
  simp only [Region.lexB, Bool.and_eq_true] at hB
  have hsz : L.toArray.size = l.length + 1 := by rw [hL]; simp
  have ho : L.toArray[l.length]? = some o := by rw [hL]; simp
  refine wp_region_any hm ?_
  rw [hsz]
  refine wpAny_of_growL (M := M) (n := l.length) (Q := fun a' k' => ∀ I w', C w' → (∀ s, k' s (I s) w') → Apt I w' → wpList P L.toArray Q [o] a' w') hLS hCL (fun a k I w' hw' hk hA h => ?_) _ _ _ (fun _ _ _ => True) (fun _ => (0, 0)) _ (fun _ _ _ _ _ h => h) hC (fun _ => trivial) ⟨fun _ => Nat.zero_le _, fun _ _ _ => .inl (Nat.le_refl _)⟩ ?_
  · have := h I w' hw' hk hA
    unfold wpList at this
    unfold wpOp
    simp only [ho]
    exact this
  · have hB2 := hB.2
    rw [hsz] at hB2
    exact wpAnyL_lex (C := C) (Le := Le) (M := M) (md := .any) hB.1 hwt l 0 _ a (fun _ _ _ => True) (by simp) (fun j hj => by rw [hL]; simp [List.getElem?_append_left hj]) hB2 h
end
/-- One value. -/
def one (v : Value) : Mode := ⟨fun u => u = v, ⟨v, rfl⟩, fun _ _ _ => True⟩
/-- Any value of which something is known, and in which blocks it was made. -/
def loose (f : Value → Nat × Nat → World → Prop) : Mode := ⟨fun _ => True, ⟨undef, trivial⟩, f⟩
def modes (l : List (List Value → Mode)) (i : Nat) : List Value → Mode := l.getD i (fun _ => one undef)
section
variable {P : Program} {ops : Array Oper} {C : World → Prop} {Le : World → World → Prop} {M : Nat → List Value → Mode} {Q : Act → Kn → Prop}
theorem g_runs {i : Nat} {o : Oper} {rest : List Oper} {a : Act} {k : Kn} (v : Value) (hR : ∀ w, Le w w) (hM : M i (reads ops o a) = one v) (hw : Region.wanted o (yielded ops a.tmps) = true)
    (h : ∀ w, C w → (execOp a.eval o).run P w = .ok (.value v) w) (hk : wpGrow P ops C Le M Q (i + 1) rest (a.put o.dst v) (kput k o.dst (fun _ _ => True))) : wpGrow P ops C Le M Q i (o :: rest) a k := by
  unfold wpGrow
  rw [if_pos hw, hM]
  refine ⟨fun _ _ _ _ _ h => h, fun w hC _ => ?_, fun u hu => ?_⟩
  · unfold growAt
    rw [h w hC]
    exact ⟨hR w, rfl, trivial⟩
  · cases hu
    exact hk
theorem g_loose {i : Nat} {o : Oper} {rest : List Oper} {a : Act} {k : Kn} (f : FuncId) (args : Array Value) (φ : Value → Nat × Nat → World → Prop) (hM : M i (reads ops o a) = loose φ) (hφ : ∀ u I w w', Le w w' → φ u I w → φ u I w') (hw : Region.wanted o (yielded ops a.tmps) = true)
    (h : ∀ w, C w → (execOp a.eval o).run P w = .ok (.enter f args) w) (hc : ∀ w, C w → (∀ s ∈ o.looksAt ops, ∃ I, k s I w) → Calls P f args w (fun e w' => ∃ v, e = .returned v ∧ Le w w' ∧ φ v (w.heap.size, w'.heap.size) w')) (hk : ∀ u, wpGrow P ops C Le M Q (i + 1) rest (a.put o.dst u) (kput k o.dst (φ u))) : wpGrow P ops C Le M Q i (o :: rest) a k := by
  unfold wpGrow
  rw [if_pos hw, hM]
  refine ⟨hφ, fun w hC hl => ?_, fun u _ => hk u⟩
  unfold growAt
  rw [h w hC]
  exact ⟨rfl, (hc w hC hl).mono fun e w' ⟨v, h1, h2, h3⟩ => ⟨v, h1, h2, trivial, h3⟩⟩
theorem g_makes {i : Nat} {o : Oper} {rest : List Oper} {a : Act} {k : Kn} (φ : Value → Nat × Nat → World → Prop) (hM : M i (reads ops o a) = loose φ) (hφ : ∀ u I w w', Le w w' → φ u I w → φ u I w') (hw : Region.wanted o (yielded ops a.tmps) = true)
    (h : ∀ w, C w → (∀ s ∈ o.looksAt ops, ∃ I, k s I w) → ∃ u w', (execOp a.eval o).run P w = .ok (.value u) w' ∧ Le w w' ∧ φ u (w.heap.size, w'.heap.size) w') (hk : ∀ u, wpGrow P ops C Le M Q (i + 1) rest (a.put o.dst u) (kput k o.dst (φ u))) : wpGrow P ops C Le M Q i (o :: rest) a k := by
  unfold wpGrow
  rw [if_pos hw, hM]
  refine ⟨hφ, fun w hC hl => ?_, fun u _ => hk u⟩
  obtain ⟨u, w', h1, h2, h3⟩ := h w hC hl
  unfold growAt
  rw [h1]
  exact ⟨h2, trivial, h3⟩
theorem g_nil {i : Nat} {a : Act} {k : Kn} (h : Q a k) : wpGrow P ops C Le M Q i [] a k := h
end

end Go.Proofs.YtkioolbjmcpjpaaGreatDoor.Ivl
namespace Go.Proofs.YtkioolbjmcpjpaaGreatDoor
open Go.RowKit
set_option linter.unusedVariables false

set_option maxHeartbeats 1000000 in
set_option maxRecDepth 100000 in
theorem two_raw (kind : Int) (t u : T) (ka la : Option Addr) (kc lc : Nat) (w : World) :
    Calls Tryz.prog 105 #[.int .i64 kind, .agg #[.int .i64 t.kind, .string t.s, .int .i64 t.n, .slice ka t.k.length kc], .agg #[.int .i64 u.kind, .string u.s, .int .i64 u.n, .slice la u.k.length lc]] w fun e w' => ∃ b, e = .returned (.agg #[.int .i64 kind, .string ⟨#[]⟩, .int .i64 0, .slice (some ⟨b, 0, none⟩) 2 2]) ∧ w.heap.size ≤ b ∧ Blk w' b 33 (eight t ka kc u la lc) ∧ Up w w' := by
  go_enter Tryz.func105, Tryz.ntmps105
  go_wp2_with fail
  refine bodyPost_ret (results_cell_row rfl _ _ (w.heap.size + 1 + 1) 33 #[.int .i64 kind, .string ⟨#[]⟩, .int .i64 0, .slice (some ⟨w.heap.size + 1 + 1 + 1, 0, none⟩) 2 2] (0, 0) _ rfl ?blk Tryz.underlying33 rfl infoT) rfl ?post
  case blk => exact blk_keep (blk_new (by simp)) _
  case post => exact ⟨_, rfl, by omega, blk_new (by simp), below_alloc (below_alloc (below_alloc (below_alloc (Below.refl _ _) _) _) _) _⟩
theorem cell_nine {W : World} {R g : Nat} {a b c d e a' b' c' d' : Value} {k o : Nat} (h1 : k ≠ g) (h2 : k ≠ R) : (((((((((W.setCell ⟨g, 0, none⟩ a).setCell ⟨g, 1, none⟩ b).setCell ⟨g, 2, none⟩ c).setCell ⟨g, 3, none⟩ d).setCell ⟨g, 1, none⟩ e).setCell ⟨R, 0, none⟩ a').setCell ⟨R, 1, none⟩ b').setCell ⟨R, 2, none⟩ c').setCell ⟨R, 3, none⟩ d').cell? ⟨k, o, none⟩ = W.cell? ⟨k, o, none⟩ := by
  rw [set4_cell' h2, World.cell?_setCell_other _ _ _ _ (by intro e; injection e with e; exact h1 e.symm), set4_cell' h1]
/-- A tree that was made in these blocks. -/
def treeI (B : Nat) (t : T) (v : Value) (I : Nat × Nat) (w : World) : Prop := ∃ ka kc, v = .agg #[.int .i64 t.kind, .string t.s, .int .i64 t.n, .slice ka t.k.length kc] ∧ B ≤ I.1 ∧ ∀ X : World, (∀ b o c, I.1 ≤ b → b < I.2 → w.cell? ⟨b, o, none⟩ = some c → X.cell? ⟨b, o, none⟩ = some c) → TIn X I.1 t (.agg (four t ka kc))
theorem treeI_stays (B : Nat) (t : T) : ∀ u I w w', Up w w' → treeI B t u I w → treeI B t u I w' := fun u I w w' h ⟨ka, kc, e, hB, ht⟩ => ⟨ka, kc, e, hB, fun X hX => ht X (fun b o c h1 h2 hc => hX b o c h1 h2 ((Below.cell h (p := ⟨b, o, none⟩) (World.block_lt_of_cell? w _ hc)).trans hc))⟩
theorem treeI_made {B : Nat} {w w' : World} {t : T} {ka : Option Addr} {kc : Nat} (hB : B ≤ w.heap.size) (ht : TIn w' w.heap.size t (.agg (four t ka kc))) : treeI B t (.agg #[.int .i64 t.kind, .string t.s, .int .i64 t.n, .slice ka t.k.length kc]) (w.heap.size, w'.heap.size) w' :=
  ⟨ka, kc, rfl, hB, fun X hX => ht.kept (Nat.le_refl _) (fun b o c hb hc => hX b o c hb (World.block_lt_of_cell? w' _ hc) hc)⟩
/-- The row of two trees. -/
def rowI (B : Nat) (ta tb : T) (r : List Value) (v : Value) (I : Nat × Nat) (w : World) : Prop := ∃ ka kc la lc b, r = [.agg #[.int .i64 ta.kind, .string ta.s, .int .i64 ta.n, .slice ka ta.k.length kc], .agg #[.int .i64 tb.kind, .string tb.s, .int .i64 tb.n, .slice la tb.k.length lc]] ∧ v = .agg #[.int .i64 5, .string ⟨#[]⟩, .int .i64 0, .slice (some ⟨b, 0, none⟩) 2 2] ∧ B ≤ b ∧ I.1 ≤ b ∧ b < I.2 ∧ Blk w b 33 (eight ta ka kc tb la lc)
theorem rowI_stays (B : Nat) (ta tb : T) (r : List Value) : ∀ u I w w', Up w w' → rowI B ta tb r u I w → rowI B ta tb r u I w' := fun u I w w' h ⟨ka, kc, la, lc, b, e1, e2, h0, h1, h2, hb⟩ => ⟨ka, kc, la, lc, b, e1, e2, h0, h1, h2, hb.below h hb.lt⟩
/-- A struct of its own, empty. -/
def zeroI (B : Nat) (v : Value) (I : Nat × Nat) (w : World) : Prop := v = .pointer (some ⟨I.1, 0, none⟩) ∧ B ≤ I.1 ∧ I.1 < I.2 ∧ Blk w I.1 33 zeroT
theorem zeroI_stays (B : Nat) : ∀ u I w w', Up w w' → zeroI B u I w → zeroI B u I w' := fun u I w w' h ⟨e, h1, h2, hb⟩ => ⟨e, h1, h2, hb.below h hb.lt⟩
set_option maxHeartbeats 1000000 in
set_option maxRecDepth 100000 in
theorem plainC_or (s : ByteArray) (l r : C) (q1 : One' l.val) (q2 : One' r.val) (ih1 : MakesC l) (ih2 : MakesC r) : MakesC (.or s l r) := by
  intro w
  have a0 := fun v xT w => notZero 103 v xT w (by decide)
  have a1 := fun v xT w => notOne 103 v xT w (by decide)
  have a2 := fun v xT w => notGive 103 v xT w (by decide)
  have a3 := fun v xT w => notAnd 103 v xT w (by decide)
  have a4 := fun v xT w => isOr v xT w
  have hs1 := q1.store
  have cv1 := q1.cells
  have mv1 := q1.cells
  unfold Value.cells at mv1
  have hs2 := q2.store
  have cv2 := q2.cells
  have mv2 := q2.cells
  unfold Value.cells at mv2
  unfold C.val
  clear q1 q2
  go_enter Tryz.func65, Tryz.ntmps65
  go_wp2_with fail
  obtain ⟨W, hW⟩ : ∃ W, W = (w.alloc (.cells #[.int .i64 0, .string ⟨#[]⟩, .int .i64 0, .slice none 0 0] 33)).alloc (.cells #[.string s, l.val, r.val] 103) := ⟨_, rfl⟩
  have HB : Hid (Below w.heap.size w W) := by rw [hW]; exact below_alloc (below_alloc (Below.refl _ _) _) _
  have HZ : Hid (Blk W w.heap.size 33 zeroT) := by rw [hW]; exact blk_keep (blk_new rfl) _
  have HX : Hid (Blk W (w.heap.size + 1) 103 #[.string s, l.val, r.val]) := by rw [hW]; exact blk_new (by simp)
  have HWS : Hid (W.heap.size = w.heap.size + 2) := by unfold Hid; rw [hW]; simp
  rw [← hW]
  clear hW
  have HI1 : Hid (∀ w, Calls Tryz.prog 65 #[l.val] w (TreePost w (plainC l))) := ih1
  have HI2 : Hid (∀ w, Calls Tryz.prog 65 #[r.val] w (TreePost w (plainC r))) := ih2
  have HPL : Hid (plainC (.or s l r) = .mk 5 s 0 [plainC l, plainC r]) := rfl
  have HF : Hid (∀ w', Below W.heap.size W w' → w'.cell? ⟨w.heap.size + 1, 0, none⟩ = some (.string s) ∧ w'.cell? ⟨w.heap.size + 1, 1, none⟩ = some l.val ∧ w'.cell? ⟨w.heap.size + 1, 2, none⟩ = some r.val) := fun w' hw' => ⟨(HX.out.below hw' HX.out.lt).cell 0, (HX.out.below hw' HX.out.lt).cell 1, (HX.out.below hw' HX.out.lt).cell 2⟩
  clear ih1 ih2
  generalize l.val = va at *
  generalize r.val = vb at *
  generalize plainC l = ta at *
  generalize plainC r = tb at *
  clear hs1 cv1 mv1 hs2 cv2 mv2 a0 a1 a2 a3 a4
  refine Ivl.wp_region_growI (l := [_, _, _, _, _, _, _, _]) (fun w' => Below W.heap.size W w') Up (Ivl.modes [fun _ => Ivl.one (.pointer (some ⟨w.heap.size + 1, 1, none⟩)), fun _ => Ivl.one va, fun _ => Ivl.loose (treeI W.heap.size ta), fun _ => Ivl.one (.pointer (some ⟨w.heap.size + 1, 2, none⟩)), fun _ => Ivl.one vb, fun _ => Ivl.loose (treeI W.heap.size tb), fun r => Ivl.loose (rowI W.heap.size ta tb r), fun _ => Ivl.loose (zeroI W.heap.size)]) (by kernel_rfl) rfl (by kernel_rfl) (by kernel_rfl) (fun _ _ h => Below.size h) (up_class _) (below_drew (Below.refl _ _)) ?_
  generalize hops : (#[_, _, _, _, _, _, _, _, _] : Array Oper) = ops
  clear hops
  refine Ivl.g_runs (.pointer (some ⟨w.heap.size + 1, 1, none⟩)) Up.refl rfl (wanted_none rfl) (fun w' hw' => ?_) ?_
  · go_simp
  simp only [Act.put, List.setIfInBounds_toArray, List.set_cons_zero, List.set_cons_succ]
  refine Ivl.g_runs (va) Up.refl rfl (wanted_none rfl) (fun w' hw' => ?_) ?_
  · obtain ⟨y0, y1, y2⟩ := HF.out w' hw'
    go_simp
  simp only [Act.put, List.setIfInBounds_toArray, List.set_cons_zero, List.set_cons_succ]
  refine Ivl.g_loose 65 #[va] (treeI W.heap.size ta) rfl (treeI_stays _ _) (wanted_none rfl) (fun w' hw' => ?_) (fun w' hw' hk => ?_) (fun u46 => ?_)
  · go_simp
  · refine (HI1.out w').mono ?_
    rintro e w3 ⟨ka, kc, rfl, ht, hb⟩
    exact ⟨_, rfl, hb, treeI_made hw'.size ht⟩
  simp only [Act.put, List.setIfInBounds_toArray, List.set_cons_zero, List.set_cons_succ]
  refine Ivl.g_runs (.pointer (some ⟨w.heap.size + 1, 2, none⟩)) Up.refl rfl (wanted_none rfl) (fun w' hw' => ?_) ?_
  · go_simp
  simp only [Act.put, List.setIfInBounds_toArray, List.set_cons_zero, List.set_cons_succ]
  refine Ivl.g_runs (vb) Up.refl rfl (wanted_none rfl) (fun w' hw' => ?_) ?_
  · obtain ⟨y0, y1, y2⟩ := HF.out w' hw'
    go_simp
  simp only [Act.put, List.setIfInBounds_toArray, List.set_cons_zero, List.set_cons_succ]
  refine Ivl.g_loose 65 #[vb] (treeI W.heap.size tb) rfl (treeI_stays _ _) (wanted_none rfl) (fun w' hw' => ?_) (fun w' hw' hk => ?_) (fun u49 => ?_)
  · go_simp
  · refine (HI2.out w').mono ?_
    rintro e w3 ⟨ka, kc, rfl, ht, hb⟩
    exact ⟨_, rfl, hb, treeI_made hw'.size ht⟩
  simp only [Act.put, List.setIfInBounds_toArray, List.set_cons_zero, List.set_cons_succ]
  refine Ivl.g_loose 105 #[.int .i64 5, u46, u49] (rowI W.heap.size ta tb [u46, u49]) rfl (rowI_stays _ _ _ _) (wanted_none rfl) (fun w' hw' => ?_) (fun w' hw' hk => ?_) (fun u50 => ?_)
  · go_simp
  · obtain ⟨_, ka, kc, rfl, _, _⟩ : ∃ I, treeI W.heap.size ta u46 I w' := hk 46 (looks_at (by simp [Op.operands, Call.operands]))
    obtain ⟨_, la, lc, rfl, _, _⟩ : ∃ I, treeI W.heap.size tb u49 I w' := hk 49 (looks_at (by simp [Op.operands, Call.operands]))
    refine (two_raw 5 ta tb ka la kc lc w').mono ?_
    rintro e w3 ⟨b, rfl, hbb, hblk, hb⟩
    exact ⟨_, rfl, hb, ka, kc, la, lc, b, rfl, rfl, Nat.le_trans hw'.size hbb, hbb, hblk.lt, hblk⟩
  simp only [Act.put, List.setIfInBounds_toArray, List.set_cons_zero, List.set_cons_succ]
  refine Ivl.g_makes (zeroI W.heap.size) rfl (zeroI_stays _) (wanted_none rfl) (fun w' hw' hk => ?_) (fun u8 => ?_)
  · refine ⟨.pointer (some ⟨w'.heap.size, 0, none⟩), w'.alloc (.cells zeroT 33), ?_, below_alloc (Below.refl _ _) _, rfl, hw'.size, ?_, blk_new rfl⟩
    · unfold zeroT
      go_simp
    · show w'.heap.size < (w'.alloc _).heap.size
      rw [World.size_alloc]
      exact Nat.lt_succ_self _
  simp only [Act.put, List.setIfInBounds_toArray, List.set_cons_zero, List.set_cons_succ]
  refine Ivl.g_nil ?_
  intro I w9 hw9 hk9 hA
  obtain ⟨ka, kc, e46, b46, t46⟩ : treeI W.heap.size ta u46 (I 46) w9 := hk9 46
  obtain ⟨la, lc, e49, b49, t49⟩ : treeI W.heap.size tb u49 (I 49) w9 := hk9 49
  obtain ⟨ka', kc', la', lc', b, e50, f50, b0, b1, b2, hblk⟩ : rowI W.heap.size ta tb [u46, u49] u50 (I 50) w9 := hk9 50
  obtain ⟨f8, b8, c8, hz8⟩ : zeroI W.heap.size u8 (I 8) w9 := hk9 8
  have d1 := hA.2 46 8 (by decide)
  have d2 := hA.2 49 8 (by decide)
  have d3 := hA.2 50 8 (by decide)
  have d4 := hA.2 46 50 (by decide)
  rw [e46, e49] at e50
  simp only [List.cons.injEq, Value.agg.injEq, and_true] at e50
  have hka : ka' = ka ∧ kc' = kc ∧ la' = la ∧ lc' = lc := by
    obtain ⟨h1, h2⟩ := e50
    simp at h1 h2
    exact ⟨h1.1.symm, h1.2.symm, h2.1.symm, h2.2.symm⟩
  obtain ⟨rfl, rfl, rfl, rfl⟩ := hka
  subst f50 f8 e46 e49
  have hws := HWS.out
  generalize hg : (I 8).1 = g at *
  have ng0 : ¬ g = w.heap.size := by omega
  have ng1 : ¬ g = w.heap.size + 1 := by omega
  have ng2 : ¬ w.heap.size = g := by omega
  have ng3 : ¬ w.heap.size + 1 = g := by omega
  obtain ⟨⟨g0, g1, g2, g3⟩, k0, k1, k2, k3⟩ := blk_zero hz8
  have hz9 := HZ.out.below hw9 HZ.out.lt
  obtain ⟨⟨z0, z1, z2, z3⟩, f0, f1, f2, f3⟩ := blk_zero hz9
  obtain ⟨y0, _, _⟩ := HF.out w9 hw9
  have HZ9 := hidIn hz9
  have HZ8 := hidIn hz8
  have HB9 := hidIn hw9
  have HT46 := hidIn t46
  have HT49 := hidIn t49
  have HBLK := hidIn hblk
  have HNUM : Hid (W.heap.size ≤ (I 46).1 ∧ W.heap.size ≤ (I 49).1 ∧ (I 50).1 ≤ b ∧ b < (I 50).2 ∧ W.heap.size ≤ g ∧ ((I 46).2 ≤ g ∨ g < (I 46).1) ∧ ((I 49).2 ≤ g ∨ g < (I 49).1) ∧ ((I 50).2 ≤ g ∨ g < (I 50).1)) := ⟨b46, b49, b1, b2, b8, by omega, by omega, by omega⟩
  have HBL : Hid (W.heap.size ≤ b) := b0
  have HG := hidIn hws
  clear hz8 hz9 hw9 t46 t49 hblk hk9 hA d1 d2 d3 d4 b46 b49 b0 b1 b2 b8 c8 e50 hws hg
  go_upto_region 17 with fail
  obtain ⟨w10, h10⟩ : ∃ y, y = (((w9.setCell ⟨g, 0, none⟩ (.int .i64 5)).setCell ⟨g, 1, none⟩ (.string ⟨#[]⟩)).setCell ⟨g, 2, none⟩ (.int .i64 0)).setCell ⟨g, 3, none⟩ (.slice (some ⟨b, 0, none⟩) 2 2) := ⟨_, rfl⟩
  have hg10 : Blk w10 g 33 #[.int .i64 5, .string ⟨#[]⟩, .int .i64 0, .slice (some ⟨b, 0, none⟩) 2 2] := by rw [h10]; exact blk_set4' HZ8.out _ _ _ _
  have hr10 : Blk w10 w.heap.size 33 zeroT := by rw [h10]; exact blk_other (blk_other (blk_other (blk_other HZ9.out ng2 _ _) ng2 _ _) ng2 _ _) ng2 _ _
  have HC10 : Hid (∀ k x, k ≠ g → w10.cell? ⟨k, x, none⟩ = w9.cell? ⟨k, x, none⟩) := by intro k x hk; rw [h10]; exact set4_cell' hk
  have HB10 : Hid (Below w.heap.size w w10) := by
    have hbw : Below w.heap.size w w9 := HB.out.trans (HB9.out.mono HB.out.size)
    have hws := HG.out
    obtain ⟨m1, m2, m3, m4, m5, m6, m7, m8⟩ := HNUM.out
    rw [h10]
    exact below_set (below_set (below_set (below_set hbw (by omega) _ _) (by omega) _ _) (by omega) _ _) (by omega) _ _
  have HBLK10 : Hid (Blk w10 b 33 (eight ta ka' kc' tb la' lc')) := by
    obtain ⟨m1, m2, m3, m4, m5, m6, m7, m8⟩ := HNUM.out
    rw [h10]
    exact blk_other (blk_other (blk_other (blk_other HBLK.out (by omega) _ _) (by omega) _ _) (by omega) _ _) (by omega) _ _
  rw [← h10]
  have y10 : w10.cell? ⟨w.heap.size + 1, 0, none⟩ = some (.string s) := (HC10.out _ _ ng3).trans y0
  clear h10 g0 g1 g2 g3 k0 k1 k2 k3 z0 z1 z2 z3 f0 f1 f2 f3 y0
  have g0 : w10.cell? ⟨g, 0, none⟩ = some (.int .i64 5) := hg10.cell 0
  have g1 : w10.cell? ⟨g, 1, none⟩ = some (.string ⟨#[]⟩) := hg10.cell 1
  have g2 : w10.cell? ⟨g, 2, none⟩ = some (.int .i64 0) := hg10.cell 2
  have g3 : w10.cell? ⟨g, 3, none⟩ = some (.slice (some ⟨b, 0, none⟩) 2 2) := hg10.cell 3
  have k1 := hg10.frozen 1
  obtain ⟨⟨z0, z1, z2, z3⟩, f0, f1, f2, f3⟩ := blk_zero hr10
  have HR10 := hidIn hr10
  clear hg10 hr10
  go_wp2_with fail
  refine bodyPost_ret (results_cell_row rfl _ _ w.heap.size 33 #[.int .i64 5, .string s, .int .i64 0, .slice (some ⟨b, 0, none⟩) 2 2] (0, 0) _ rfl ?blk Tryz.underlying33 rfl infoT) rfl ?post
  case blk => change Blk _ _ _ _; (with_reducible refine blk_set4' ?_ _ _ _ _); (repeat first | with_reducible exact HR10.out | with_reducible refine blk_other ?_ ng2 _ _)
  case post =>
    have hws := HG.out
    obtain ⟨m1, m2, m3, m4, m5, m6, m7, m8⟩ := HNUM.out
    have m9 := HBL.out
    rw [HPL.out]
    have hcl : ∀ k x c, k ≠ g → k ≠ w.heap.size → w9.cell? ⟨k, x, none⟩ = some c → ((((((w10.setCell ⟨g, 1, none⟩ (.string s)).setCell ⟨w.heap.size, 0, none⟩ (.int .i64 5)).setCell ⟨w.heap.size, 1, none⟩ (.string s)).setCell ⟨w.heap.size, 2, none⟩ (.int .i64 0)).setCell ⟨w.heap.size, 3, none⟩ (.slice (some ⟨b, 0, none⟩) 2 2)).cell? ⟨k, x, none⟩) = some c := by
      intro k x c h1 h2 hc
      rw [set4_cell' h2, World.cell?_setCell_other _ _ _ _ (by intro e; injection e with e; exact h1 e.symm), HC10.out k x h1]
      exact hc
    refine ⟨some ⟨b, 0, none⟩, 2, rfl, ⟨some ⟨b, 0, none⟩, 2, rfl, Nat.le_refl _, by omega, kat_two ((HT46.out _ (fun k x c h1 h2 hc => ?_)).low (by omega)) ((HT49.out _ (fun k x c h1 h2 hc => ?_)).low (by omega)) (by omega) ?_⟩, ?_⟩
    · exact hcl k x c (by omega) (by omega) hc
    · exact hcl k x c (by omega) (by omega) hc
    · (repeat first | with_reducible exact HBLK10.out | with_reducible refine blk_other ?_ (by omega) _ _)
    · (repeat first | with_reducible exact HB10.out | with_reducible refine below_set ?_ (by omega) _ _)

end Go.Proofs.YtkioolbjmcpjpaaGreatDoor
namespace Go.Proofs.YtkioolbjmcpjpaaGreatDoor
open Go.RowKit
set_option linter.unusedVariables false

/-- A tree in new memory. -/
def treeF (B : Nat) (t : T) (v : Value) (w : World) : Prop := ∃ ka kc, v = .agg #[.int .i64 t.kind, .string t.s, .int .i64 t.n, .slice ka t.k.length kc] ∧ TIn w B t (.agg (four t ka kc))
theorem treeF_stays (B : Nat) (t : T) : ∀ u w w', Up w w' → treeF B t u w → treeF B t u w' := fun u w w' h ⟨ka, kc, e, ht⟩ => ⟨ka, kc, e, ht.below h⟩
/-- Trees one behind another in new memory. -/
def kidsF (B : Nat) (l : List T) (n : Nat) (v : Value) (w : World) : Prop := ∃ b, v = .slice (some ⟨b, 0, none⟩) n n ∧ KAt w B l (some ⟨b, 0, none⟩) 0
theorem kidsF_stays (B : Nat) (l : List T) (n : Nat) : ∀ u w w', Up w w' → kidsF B l n u w → kidsF B l n u w' := fun u w w' h ⟨b, e, ht⟩ => ⟨b, e, ht.below h⟩
def madeF (B : Nat) (kind : Int) (d : Int) (l : List T) (n : Nat) (v : Value) (w : World) : Prop := ∃ b, v = .agg #[.int .i64 kind, .string ⟨#[]⟩, .int .i64 d, .slice (some ⟨b, 0, none⟩) n n] ∧ KAt w B l (some ⟨b, 0, none⟩) 0
theorem madeF_stays (B : Nat) (kind d : Int) (l : List T) (n : Nat) : ∀ u w w', Up w w' → madeF B kind d l n u w → madeF B kind d l n u w' := fun u w w' h ⟨b, e, ht⟩ => ⟨b, e, ht.below h⟩
set_option maxHeartbeats 4000000 in
set_option maxRecDepth 100000 in
theorem plainC_when (d : Int) (c : C) (q1 : One' c.val) (ih1 : MakesC c) : MakesC (.when d c) := by
  intro w
  have a0 := fun v xT w => notZero 109 v xT w (by decide)
  have a1 := fun v xT w => notOne 109 v xT w (by decide)
  have a2 := fun v xT w => notGive 109 v xT w (by decide)
  have a3 := fun v xT w => notAnd 109 v xT w (by decide)
  have a4 := fun v xT w => notOr 109 v xT w (by decide)
  have a5 := fun v xT w => notScale 109 v xT w (by decide)
  have a6 := fun v xT w => isWhen v xT w
  have hs1 := q1.store
  have cv1 := q1.cells
  have mv1 := q1.cells
  unfold Value.cells at mv1
  unfold C.val
  have HI1 := hidIn ih1
  clear q1
  go_enter Tryz.func65, Tryz.ntmps65
  go_wp2_with fail
  obtain ⟨W, hW⟩ : ∃ W, W = (w.alloc (.cells #[.int .i64 0, .string ⟨#[]⟩, .int .i64 0, .slice none 0 0] 33)).alloc (.cells #[.int .i64 d, c.val] 109) := ⟨_, rfl⟩
  have HB : Hid (Below w.heap.size w W) := by rw [hW]; exact below_alloc (below_alloc (Below.refl _ _) _) _
  have HZ : Hid (Blk W w.heap.size 33 zeroT) := by rw [hW]; exact blk_keep (blk_new rfl) _
  have HX : Hid (Blk W (w.heap.size + 1) 109 #[.int .i64 d, c.val]) := by rw [hW]; exact blk_new (by simp)
  have HWS : Hid (W.heap.size = w.heap.size + 2) := by unfold Hid; rw [hW]; simp
  rw [← hW]
  clear hW
  have HI1 : Hid (∀ w, Calls Tryz.prog 65 #[c.val] w (TreePost w (plainC c))) := ih1
  have HPL : Hid (plainC (.when d c) = .mk 7 ⟨#[]⟩ d [plainC c]) := rfl
  have HF : Hid (∀ w', Below W.heap.size W w' → w'.cell? ⟨w.heap.size + 1, 0, none⟩ = some (.int .i64 d) ∧ w'.cell? ⟨w.heap.size + 1, 1, none⟩ = some c.val) := fun w' hw' => ⟨(HX.out.below hw' HX.out.lt).cell 0, (HX.out.below hw' HX.out.lt).cell 1⟩
  clear ih1
  generalize c.val = vc at *
  generalize plainC c = tc at *
  clear hs1 cv1 mv1 a0 a1 a2 a3 a4 a5 a6
  refine wp_region_growL (l := [_, _, _, _, _, _, _]) (fun w' => Below W.heap.size W w') Up (modes [one (.pointer (some ⟨w.heap.size + 1, 0, none⟩)), one (.int .i64 d), one (.pointer (some ⟨w.heap.size + 1, 1, none⟩)), one (vc), loose (treeF W.heap.size tc), loose (kidsF W.heap.size [tc] 1), loose (madeF W.heap.size 7 d [tc] 1)]) (by kernel_rfl) rfl (by kernel_rfl) (by kernel_rfl) (up_class _) (below_drew (Below.refl _ _)) ?_
  generalize hops : (#[_, _, _, _, _, _, _, _] : Array Oper) = ops
  clear hops
  refine g_runs (.pointer (some ⟨w.heap.size + 1, 0, none⟩)) grow_end Up.refl rfl (wanted_none rfl) (by intro d hd w; cases hd; exact trivial) (fun w' hw' => ?_) ?_
  · go_simp
  simp only [Act.put, List.setIfInBounds_toArray, List.set_cons_zero, List.set_cons_succ]
  refine g_runs (.int .i64 d) grow_end Up.refl rfl (wanted_none rfl) (by intro d hd w; cases hd; exact trivial) (fun w' hw' => ?_) ?_
  · obtain ⟨y0, y1⟩ := HF.out w' hw'
    go_simp
  simp only [Act.put, List.setIfInBounds_toArray, List.set_cons_zero, List.set_cons_succ]
  refine g_runs (.pointer (some ⟨w.heap.size + 1, 1, none⟩)) grow_end Up.refl rfl (wanted_none rfl) (by intro d hd w; cases hd; exact trivial) (fun w' hw' => ?_) ?_
  · go_simp
  simp only [Act.put, List.setIfInBounds_toArray, List.set_cons_zero, List.set_cons_succ]
  refine g_runs (vc) grow_end Up.refl rfl (wanted_none rfl) (by intro d hd w; cases hd; exact trivial) (fun w' hw' => ?_) ?_
  · obtain ⟨y0, y1⟩ := HF.out w' hw'
    go_simp
  simp only [Act.put, List.setIfInBounds_toArray, List.set_cons_zero, List.set_cons_succ]
  refine g_loose 65 #[vc] (treeF W.heap.size tc) rfl (treeF_stays _ _) (wanted_none rfl) (fun w' hw' => ?_) (fun w' hw' hk => ?_) (fun u72 => ?_)
  · go_simp
  · refine (HI1.out w').mono ?_
    rintro e w3 ⟨ka, kc, rfl, ht, hb⟩
    exact ⟨_, rfl, hb, ka, kc, rfl, ht.low hw'.size⟩
  simp only [Act.put, List.setIfInBounds_toArray, List.set_cons_zero, List.set_cons_succ]
  refine g_makes (kidsF W.heap.size [tc] 1) rfl (kidsF_stays _ _ _) (wanted_none rfl) (fun w' hw' hk => ?_) (fun u73 => ?_)
  · obtain ⟨ka72, kc72, rfl, ht72⟩ : treeF W.heap.size tc u72 w' := hk 72 (looks_at (by simp [Op.operands]))
    refine ⟨.slice (some ⟨w'.heap.size, 0, none⟩) 1 1, w'.alloc (.cells (four tc ka72 kc72) 33), ?_, below_alloc (Below.refl _ _) _, w'.heap.size, rfl, kat_one (ht72.below (below_alloc (Below.refl _ _) _)) hw'.size (blk_new rfl)⟩
    unfold four
    go_simp
  simp only [Act.put, List.setIfInBounds_toArray, List.set_cons_zero, List.set_cons_succ]
  refine g_makes (madeF W.heap.size 7 d [tc] 1) rfl (madeF_stays _ _ _ _ _) (wanted_none rfl) (fun w' hw' hk => ?_) (fun u74 => ?_)
  · obtain ⟨b, rfl, hb⟩ : kidsF W.heap.size [tc] 1 u73 w' := hk 73 (looks_at (by simp [Op.operands]))
    refine ⟨_, w', ?_, Up.refl _, b, rfl, hb⟩
    go_simp
  simp only [Act.put, List.setIfInBounds_toArray, List.set_cons_zero, List.set_cons_succ]
  refine g_nil ?_
  intro w9 hw9 hk9
  obtain ⟨b, rfl, hkat⟩ : madeF W.heap.size 7 d [tc] 1 u74 w9 := hk9 74
  have hz9 := HZ.out.below hw9 HZ.out.lt
  obtain ⟨⟨z0, z1, z2, z3⟩, f0, f1, f2, f3⟩ := blk_zero hz9
  have HZ9 := hidIn hz9
  have HB9 := hidIn hw9
  have HK9 := hidIn hkat
  clear hz9 hw9 hkat hk9
  go_wp2_with fail
  refine bodyPost_ret (results_cell_row rfl _ _ w.heap.size 33 #[.int .i64 7, .string ⟨#[]⟩, .int .i64 d, .slice (some ⟨b, 0, none⟩) 1 1] (0, 0) _ rfl ?blk Tryz.underlying33 rfl infoT) rfl ?post
  case blk => change Blk _ _ _ _; (with_reducible exact blk_set4' HZ9.out _ _ _ _)
  case post =>
    have hbw : Below w.heap.size w w9 := HB.out.trans (HB9.out.mono HB.out.size)
    have hWS := HWS.out
    rw [HPL.out]
    refine ⟨some ⟨b, 0, none⟩, 1, rfl, ⟨some ⟨b, 0, none⟩, 1, rfl, Nat.le_refl _, by omega, HK9.out.kept (by omega) (fun k x v hk hv => ?_)⟩, ?_⟩
    · rw [set4_cell' (by omega)]
      exact hv
    · (repeat first | with_reducible exact hbw | with_reducible refine below_set ?_ (by omega) _ _)
set_option maxHeartbeats 4000000 in
set_option maxRecDepth 100000 in
theorem plainC_iff (n : O) (l r : C) (q1 : One' n.val) (q2 : One' l.val) (q3 : One' r.val) (ih1 : MakesO n) (ih2 : MakesC l) (ih3 : MakesC r) : MakesC (.iff n l r) := by
  intro w
  have a0 := fun v xT w => notZero 111 v xT w (by decide)
  have a1 := fun v xT w => notOne 111 v xT w (by decide)
  have a2 := fun v xT w => notGive 111 v xT w (by decide)
  have a3 := fun v xT w => notAnd 111 v xT w (by decide)
  have a4 := fun v xT w => notOr 111 v xT w (by decide)
  have a5 := fun v xT w => notScale 111 v xT w (by decide)
  have a6 := fun v xT w => notWhen 111 v xT w (by decide)
  have a7 := fun v xT w => isIf v xT w
  have hs1 := q1.store
  have cv1 := q1.cells
  have mv1 := q1.cells
  unfold Value.cells at mv1
  have hs2 := q2.store
  have cv2 := q2.cells
  have mv2 := q2.cells
  unfold Value.cells at mv2
  have hs3 := q3.store
  have cv3 := q3.cells
  have mv3 := q3.cells
  unfold Value.cells at mv3
  unfold C.val
  clear q1 q2 q3
  go_enter Tryz.func65, Tryz.ntmps65
  go_wp2_with fail
  obtain ⟨W, hW⟩ : ∃ W, W = (w.alloc (.cells #[.int .i64 0, .string ⟨#[]⟩, .int .i64 0, .slice none 0 0] 33)).alloc (.cells #[n.val, l.val, r.val] 111) := ⟨_, rfl⟩
  have HB : Hid (Below w.heap.size w W) := by rw [hW]; exact below_alloc (below_alloc (Below.refl _ _) _) _
  have HZ : Hid (Blk W w.heap.size 33 zeroT) := by rw [hW]; exact blk_keep (blk_new rfl) _
  have HX : Hid (Blk W (w.heap.size + 1) 111 #[n.val, l.val, r.val]) := by rw [hW]; exact blk_new (by simp)
  have HWS : Hid (W.heap.size = w.heap.size + 2) := by unfold Hid; rw [hW]; simp
  rw [← hW]
  clear hW
  have HI1 : Hid (∀ w, Calls Tryz.prog 106 #[n.val] w (TreePost w (plain n))) := ih1
  have HI2 : Hid (∀ w, Calls Tryz.prog 65 #[l.val] w (TreePost w (plainC l))) := ih2
  have HI3 : Hid (∀ w, Calls Tryz.prog 65 #[r.val] w (TreePost w (plainC r))) := ih3
  have HPL : Hid (plainC (.iff n l r) = .mk 8 ⟨#[]⟩ 0 [plain n, plainC l, plainC r]) := rfl
  have HF : Hid (∀ w', Below W.heap.size W w' → w'.cell? ⟨w.heap.size + 1, 0, none⟩ = some n.val ∧ w'.cell? ⟨w.heap.size + 1, 1, none⟩ = some l.val ∧ w'.cell? ⟨w.heap.size + 1, 2, none⟩ = some r.val) := fun w' hw' => ⟨(HX.out.below hw' HX.out.lt).cell 0, (HX.out.below hw' HX.out.lt).cell 1, (HX.out.below hw' HX.out.lt).cell 2⟩
  clear ih1 ih2 ih3
  generalize n.val = vn at *
  generalize l.val = vl at *
  generalize r.val = vr at *
  generalize plain n = tn at *
  generalize plainC l = tl at *
  generalize plainC r = tr at *
  clear hs1 cv1 mv1 hs2 cv2 mv2 hs3 cv3 mv3 a0 a1 a2 a3 a4 a5 a6 a7
  refine wp_region_growL (l := [_, _, _, _, _, _, _, _, _, _, _]) (fun w' => Below W.heap.size W w') Up (modes [one (.pointer (some ⟨w.heap.size + 1, 0, none⟩)), one (vn), loose (treeF W.heap.size tn), one (.pointer (some ⟨w.heap.size + 1, 1, none⟩)), one (vl), loose (treeF W.heap.size tl), one (.pointer (some ⟨w.heap.size + 1, 2, none⟩)), one (vr), loose (treeF W.heap.size tr), loose (kidsF W.heap.size [tn, tl, tr] 3), loose (madeF W.heap.size 8 0 [tn, tl, tr] 3)]) (by kernel_rfl) rfl (by kernel_rfl) (by kernel_rfl) (up_class _) (below_drew (Below.refl _ _)) ?_
  generalize hops : (#[_, _, _, _, _, _, _, _, _, _, _, _] : Array Oper) = ops
  clear hops
  refine g_runs (.pointer (some ⟨w.heap.size + 1, 0, none⟩)) grow_end Up.refl rfl (wanted_none rfl) (by intro d hd w; cases hd; exact trivial) (fun w' hw' => ?_) ?_
  · go_simp
  simp only [Act.put, List.setIfInBounds_toArray, List.set_cons_zero, List.set_cons_succ]
  refine g_runs (vn) grow_end Up.refl rfl (wanted_none rfl) (by intro d hd w; cases hd; exact trivial) (fun w' hw' => ?_) ?_
  · obtain ⟨y0, y1, y2⟩ := HF.out w' hw'
    go_simp
  simp only [Act.put, List.setIfInBounds_toArray, List.set_cons_zero, List.set_cons_succ]
  refine g_loose 106 #[vn] (treeF W.heap.size tn) rfl (treeF_stays _ _) (wanted_none rfl) (fun w' hw' => ?_) (fun w' hw' hk => ?_) (fun u80 => ?_)
  · go_simp
  · refine (HI1.out w').mono ?_
    rintro e w3 ⟨ka, kc, rfl, ht, hb⟩
    exact ⟨_, rfl, hb, ka, kc, rfl, ht.low hw'.size⟩
  simp only [Act.put, List.setIfInBounds_toArray, List.set_cons_zero, List.set_cons_succ]
  refine g_runs (.pointer (some ⟨w.heap.size + 1, 1, none⟩)) grow_end Up.refl rfl (wanted_none rfl) (by intro d hd w; cases hd; exact trivial) (fun w' hw' => ?_) ?_
  · go_simp
  simp only [Act.put, List.setIfInBounds_toArray, List.set_cons_zero, List.set_cons_succ]
  refine g_runs (vl) grow_end Up.refl rfl (wanted_none rfl) (by intro d hd w; cases hd; exact trivial) (fun w' hw' => ?_) ?_
  · obtain ⟨y0, y1, y2⟩ := HF.out w' hw'
    go_simp
  simp only [Act.put, List.setIfInBounds_toArray, List.set_cons_zero, List.set_cons_succ]
  refine g_loose 65 #[vl] (treeF W.heap.size tl) rfl (treeF_stays _ _) (wanted_none rfl) (fun w' hw' => ?_) (fun w' hw' hk => ?_) (fun u83 => ?_)
  · go_simp
  · refine (HI2.out w').mono ?_
    rintro e w3 ⟨ka, kc, rfl, ht, hb⟩
    exact ⟨_, rfl, hb, ka, kc, rfl, ht.low hw'.size⟩
  simp only [Act.put, List.setIfInBounds_toArray, List.set_cons_zero, List.set_cons_succ]
  refine g_runs (.pointer (some ⟨w.heap.size + 1, 2, none⟩)) grow_end Up.refl rfl (wanted_none rfl) (by intro d hd w; cases hd; exact trivial) (fun w' hw' => ?_) ?_
  · go_simp
  simp only [Act.put, List.setIfInBounds_toArray, List.set_cons_zero, List.set_cons_succ]
  refine g_runs (vr) grow_end Up.refl rfl (wanted_none rfl) (by intro d hd w; cases hd; exact trivial) (fun w' hw' => ?_) ?_
  · obtain ⟨y0, y1, y2⟩ := HF.out w' hw'
    go_simp
  simp only [Act.put, List.setIfInBounds_toArray, List.set_cons_zero, List.set_cons_succ]
  refine g_loose 65 #[vr] (treeF W.heap.size tr) rfl (treeF_stays _ _) (wanted_none rfl) (fun w' hw' => ?_) (fun w' hw' hk => ?_) (fun u86 => ?_)
  · go_simp
  · refine (HI3.out w').mono ?_
    rintro e w3 ⟨ka, kc, rfl, ht, hb⟩
    exact ⟨_, rfl, hb, ka, kc, rfl, ht.low hw'.size⟩
  simp only [Act.put, List.setIfInBounds_toArray, List.set_cons_zero, List.set_cons_succ]
  refine g_makes (kidsF W.heap.size [tn, tl, tr] 3) rfl (kidsF_stays _ _ _) (wanted_none rfl) (fun w' hw' hk => ?_) (fun u87 => ?_)
  · obtain ⟨ka80, kc80, rfl, ht80⟩ : treeF W.heap.size tn u80 w' := hk 80 (looks_at (by simp [Op.operands]))
    obtain ⟨ka83, kc83, rfl, ht83⟩ : treeF W.heap.size tl u83 w' := hk 83 (looks_at (by simp [Op.operands]))
    obtain ⟨ka86, kc86, rfl, ht86⟩ : treeF W.heap.size tr u86 w' := hk 86 (looks_at (by simp [Op.operands]))
    refine ⟨.slice (some ⟨w'.heap.size, 0, none⟩) 3 3, w'.alloc (.cells (twelve tn ka80 kc80 tl ka83 kc83 tr ka86 kc86) 33), ?_, below_alloc (Below.refl _ _) _, w'.heap.size, rfl, kat_three (ht80.below (below_alloc (Below.refl _ _) _)) (ht83.below (below_alloc (Below.refl _ _) _)) (ht86.below (below_alloc (Below.refl _ _) _)) hw'.size (blk_new rfl)⟩
    unfold twelve
    go_simp
  simp only [Act.put, List.setIfInBounds_toArray, List.set_cons_zero, List.set_cons_succ]
  refine g_makes (madeF W.heap.size 8 0 [tn, tl, tr] 3) rfl (madeF_stays _ _ _ _ _) (wanted_none rfl) (fun w' hw' hk => ?_) (fun u88 => ?_)
  · obtain ⟨b, rfl, hb⟩ : kidsF W.heap.size [tn, tl, tr] 3 u87 w' := hk 87 (looks_at (by simp [Op.operands]))
    refine ⟨_, w', ?_, Up.refl _, b, rfl, hb⟩
    go_simp
  simp only [Act.put, List.setIfInBounds_toArray, List.set_cons_zero, List.set_cons_succ]
  refine g_nil ?_
  intro w9 hw9 hk9
  obtain ⟨b, rfl, hkat⟩ : madeF W.heap.size 8 0 [tn, tl, tr] 3 u88 w9 := hk9 88
  have hz9 := HZ.out.below hw9 HZ.out.lt
  obtain ⟨⟨z0, z1, z2, z3⟩, f0, f1, f2, f3⟩ := blk_zero hz9
  have HZ9 := hidIn hz9
  have HB9 := hidIn hw9
  have HK9 := hidIn hkat
  clear hz9 hw9 hkat hk9
  go_wp2_with fail
  refine bodyPost_ret (results_cell_row rfl _ _ w.heap.size 33 #[.int .i64 8, .string ⟨#[]⟩, .int .i64 0, .slice (some ⟨b, 0, none⟩) 3 3] (0, 0) _ rfl ?blk Tryz.underlying33 rfl infoT) rfl ?post
  case blk => change Blk _ _ _ _; (with_reducible exact blk_set4' HZ9.out _ _ _ _)
  case post =>
    have hbw : Below w.heap.size w w9 := HB.out.trans (HB9.out.mono HB.out.size)
    have hWS := HWS.out
    rw [HPL.out]
    refine ⟨some ⟨b, 0, none⟩, 3, rfl, ⟨some ⟨b, 0, none⟩, 3, rfl, Nat.le_refl _, by omega, HK9.out.kept (by omega) (fun k x v hk hv => ?_)⟩, ?_⟩
    · rw [set4_cell' (by omega)]
      exact hv
    · (repeat first | with_reducible exact hbw | with_reducible refine below_set ?_ (by omega) _ _)

end Go.Proofs.YtkioolbjmcpjpaaGreatDoor
namespace Go.Proofs.YtkioolbjmcpjpaaGreatDoor
open Go.RowKit
set_option linter.unusedVariables false

theorem plainCC_any (c : C) (h : c.Ok) : MakesC c := by
  induction c with
  | zero => exact plainC_zero
  | one s => exact plainC_one s
  | odd v => exact plainC_odd v h
  | give c ih => exact plainC_give c (c.one' h) (ih h)
  | and l r ihl ihr => exact plainC_and l r (l.one' h.1) (r.one' h.2) (ihl h.1) (ihr h.2)
  | or s l r ihl ihr => exact plainC_or s l r (l.one' h.2.1) (r.one' h.2.2) (ihl h.2.1) (ihr h.2.2)
  | scale o c ih => exact plainC_scale o c (o.one' h.1) (c.one' h.2) (plainO_any o h.1) (ih h.2)
  | when d c ih => exact plainC_when d c (c.one' h.2) (ih h.2)
  | iff o l r ihl ihr => exact plainC_iff o l r (o.one' h.1) (l.one' h.2.1) (r.one' h.2.2) (plainO_any o h.1) (ihl h.2.1) (ihr h.2.2)

end Go.Proofs.YtkioolbjmcpjpaaGreatDoor
namespace Go.Proofs.YtkioolbjmcpjpaaGreatDoor.Ev
open Go.RowKit
set_option linter.unusedVariables false

theorem infoE11 : (Tryz.prog.info? 35).map (·.size) = some 11 := by kernel_rfl
theorem m_skip11 {P : Program} {ops : Array Oper} {C : World → Prop} {Q : Act → World → Prop} {o : Oper} {r : List (Oper × Bool)} {a : Act} {w w' : World} (hw : Region.wanted o (yielded ops a.tmps) = true) (h : (execOp a.eval o).run P w = .ok .skip w') (hC : C w') (hk : Mx.mix P ops C Q r (a.put o.dst undef) w') : Mx.mix P ops C Q ((o, true) :: r) a w := by
  refine ⟨hw, ?_⟩
  unfold Mx.stepK
  rw [h]
  exact ⟨hC, hk⟩
theorem trow11 {W : World} {B M : Nat} {t : T} {v : Value} {B' : Nat} (h : TIn W B t v) (y : Array Value) (hM : M < B) (hB : B' ≤ B) : TIn (W.setRow M y) B' t v := (h.kept hB (fun b o z hb hc => by
  have hne : b ≠ M := by omega
  have e := setRow_other W M b y hne
  simp only [World.cell?, e] at hc ⊢
  exact hc))

set_option maxHeartbeats 8000000 in
set_option maxRecDepth 100000 in
theorem event_any (e : Ev) (hok : e.t.Ok) (w : World) : Calls Tryz.prog 37 #[e.val] w fun x w' => ∃ r, x = .returned r ∧ RIn w' w.heap.size e r ∧ Below w.heap.size w w' := by
  have HPL := hidIn (plainCC_any e.t hok)
  unfold MakesC TreePost at HPL
  obtain ⟨nb, -, hv⟩ := nil_runs e.t hok
  obtain ⟨k, i, n, l, u, d, v, t⟩ := e
  unfold Ev.val Ev.cs RIn
  simp only at *
  generalize t.val = tv at *
  generalize htk : (plainC t).kind = tk at *
  generalize hts : (plainC t).s = ts at *
  generalize htn : (plainC t).n = tn at *
  generalize hkl : (plainC t).k.length = kl at *
  have HFR : Hid (∀ ka kc, four (plainC t) ka kc = #[.int .i64 tk, .string ts, .int .i64 tn, .slice ka kl kc]) := fun ka kc => by unfold four; rw [htk, hts, htn, hkl]
  simp only [HFR.out] at HPL
  clear htk hts htn hkl HFR hok
  rcases hv with ⟨-, rfl⟩ | ⟨-, xt, xv, rfl⟩
  · have hx0 : ((w.alloc (.cells #[.int .i64 k, .string i, .string n, .string l, .string u, .int .i64 d, .int .i64 v, .nilIface] 30)).alloc (.cells #[.int .i64 0, .string ⟨#[]⟩, .string ⟨#[]⟩, .string ⟨#[]⟩, .string ⟨#[]⟩, .int .i64 0, .int .i64 0, .int .i64 0, .string ⟨#[]⟩, .int .i64 0, .slice none 0 0] 35)).heap[w.heap.size]? = some (.cells #[.int .i64 k, .string i, .string n, .string l, .string u, .int .i64 d, .int .i64 v, .nilIface] 30) := heap_keeps (heap_alloc_new _ _) _
    have hx1 : ((w.alloc (.cells #[.int .i64 k, .string i, .string n, .string l, .string u, .int .i64 d, .int .i64 v, .nilIface] 30)).alloc (.cells #[.int .i64 0, .string ⟨#[]⟩, .string ⟨#[]⟩, .string ⟨#[]⟩, .string ⟨#[]⟩, .int .i64 0, .int .i64 0, .int .i64 0, .string ⟨#[]⟩, .int .i64 0, .slice none 0 0] 35)).heap[w.heap.size + 1]? = some (.cells #[.int .i64 0, .string ⟨#[]⟩, .string ⟨#[]⟩, .string ⟨#[]⟩, .string ⟨#[]⟩, .int .i64 0, .int .i64 0, .int .i64 0, .string ⟨#[]⟩, .int .i64 0, .slice none 0 0] 35) := by
      have h := heap_alloc_new (w.alloc (.cells #[.int .i64 k, .string i, .string n, .string l, .string u, .int .i64 d, .int .i64 v, .nilIface] 30)) (.cells #[.int .i64 0, .string ⟨#[]⟩, .string ⟨#[]⟩, .string ⟨#[]⟩, .string ⟨#[]⟩, .int .i64 0, .int .i64 0, .int .i64 0, .string ⟨#[]⟩, .int .i64 0, .slice none 0 0] 35)
      rwa [show (w.alloc (.cells #[.int .i64 k, .string i, .string n, .string l, .string u, .int .i64 d, .int .i64 v, .nilIface] 30)).heap.size = w.heap.size + 1 by simp] at h
    have HA := hidIn hx0
    have HR := hidIn hx1
    have HBV : Hid (Below w.heap.size w ((w.alloc (.cells #[.int .i64 k, .string i, .string n, .string l, .string u, .int .i64 d, .int .i64 v, .nilIface] 30)).alloc (.cells #[.int .i64 0, .string ⟨#[]⟩, .string ⟨#[]⟩, .string ⟨#[]⟩, .string ⟨#[]⟩, .int .i64 0, .int .i64 0, .int .i64 0, .string ⟨#[]⟩, .int .i64 0, .slice none 0 0] 35))) := below_alloc (below_alloc (Below.refl _ _) _) _
    have HVZ : Hid (w.heap.size + 1 < ((w.alloc (.cells #[.int .i64 k, .string i, .string n, .string l, .string u, .int .i64 d, .int .i64 v, .nilIface] 30)).alloc (.cells #[.int .i64 0, .string ⟨#[]⟩, .string ⟨#[]⟩, .string ⟨#[]⟩, .string ⟨#[]⟩, .int .i64 0, .int .i64 0, .int .i64 0, .string ⟨#[]⟩, .int .i64 0, .slice none 0 0] 35)).heap.size) := by unfold Hid; simp
    clear hx0 hx1
    go_enter Tryz.func37, Tryz.ntmps37
    go_wp2_with fail
    generalize (w.alloc (.cells #[.int .i64 k, .string i, .string n, .string l, .string u, .int .i64 d, .int .i64 v, .nilIface] 30)).alloc (.cells #[.int .i64 0, .string ⟨#[]⟩, .string ⟨#[]⟩, .string ⟨#[]⟩, .string ⟨#[]⟩, .int .i64 0, .int .i64 0, .int .i64 0, .string ⟨#[]⟩, .int .i64 0, .slice none 0 0] 35) = V at *
    refine Mx.wp_region_mix (fun W => W.heap[w.heap.size]? = some (.cells #[.int .i64 k, .string i, .string n, .string l, .string u, .int .i64 d, .int .i64 v, .nilIface] 30)) [(0, false), (1, false), (2, false), (3, false), (4, false), (5, false), (6, false), (7, false), (8, false), (9, false), (10, false), (11, false), (12, false), (13, false), (14, false), (15, false), (16, true), (17, true), (18, true)] (by kernel_rfl) (by kernel_rfl) HA.out ?_ (by kernel_rfl)
    simp only [List.map_cons, List.map_nil, List.getD_cons_zero, List.getD_cons_succ]
    generalize hops : (#[_, _, _, _, _, _, _, _, _, _, _, _, _, _, _, _, _, _, _] : Array Oper) = ops
    clear hops
    refine Mx.m_pure (.pointer (some ⟨w.heap.size, 0, none⟩)) (Mx.wanted_none rfl) (fun W hW => ?_) ?_
    · go_simp
    simp only [Act.put, List.setIfInBounds_toArray, List.set_cons_zero, List.set_cons_succ]
    refine Mx.m_pure (.int .i64 k) (Mx.wanted_none rfl) (fun W hW => ?_) ?_
    · have x := cell_of_row _ _ 0 _ _ _ hW
      go_simp
    simp only [Act.put, List.setIfInBounds_toArray, List.set_cons_zero, List.set_cons_succ]
    refine Mx.m_pure (.pointer (some ⟨w.heap.size, 1, none⟩)) (Mx.wanted_none rfl) (fun W hW => ?_) ?_
    · go_simp
    simp only [Act.put, List.setIfInBounds_toArray, List.set_cons_zero, List.set_cons_succ]
    refine Mx.m_pure (.string i) (Mx.wanted_none rfl) (fun W hW => ?_) ?_
    · have x := cell_of_row _ _ 1 _ _ _ hW
      go_simp
    simp only [Act.put, List.setIfInBounds_toArray, List.set_cons_zero, List.set_cons_succ]
    refine Mx.m_pure (.pointer (some ⟨w.heap.size, 2, none⟩)) (Mx.wanted_none rfl) (fun W hW => ?_) ?_
    · go_simp
    simp only [Act.put, List.setIfInBounds_toArray, List.set_cons_zero, List.set_cons_succ]
    refine Mx.m_pure (.string n) (Mx.wanted_none rfl) (fun W hW => ?_) ?_
    · have x := cell_of_row _ _ 2 _ _ _ hW
      go_simp
    simp only [Act.put, List.setIfInBounds_toArray, List.set_cons_zero, List.set_cons_succ]
    refine Mx.m_pure (.pointer (some ⟨w.heap.size, 3, none⟩)) (Mx.wanted_none rfl) (fun W hW => ?_) ?_
    · go_simp
    simp only [Act.put, List.setIfInBounds_toArray, List.set_cons_zero, List.set_cons_succ]
    refine Mx.m_pure (.string l) (Mx.wanted_none rfl) (fun W hW => ?_) ?_
    · have x := cell_of_row _ _ 3 _ _ _ hW
      go_simp
    simp only [Act.put, List.setIfInBounds_toArray, List.set_cons_zero, List.set_cons_succ]
    refine Mx.m_pure (.pointer (some ⟨w.heap.size, 4, none⟩)) (Mx.wanted_none rfl) (fun W hW => ?_) ?_
    · go_simp
    simp only [Act.put, List.setIfInBounds_toArray, List.set_cons_zero, List.set_cons_succ]
    refine Mx.m_pure (.string u) (Mx.wanted_none rfl) (fun W hW => ?_) ?_
    · have x := cell_of_row _ _ 4 _ _ _ hW
      go_simp
    simp only [Act.put, List.setIfInBounds_toArray, List.set_cons_zero, List.set_cons_succ]
    refine Mx.m_pure (.pointer (some ⟨w.heap.size, 5, none⟩)) (Mx.wanted_none rfl) (fun W hW => ?_) ?_
    · go_simp
    simp only [Act.put, List.setIfInBounds_toArray, List.set_cons_zero, List.set_cons_succ]
    refine Mx.m_pure (.int .i64 d) (Mx.wanted_none rfl) (fun W hW => ?_) ?_
    · have x := cell_of_row _ _ 5 _ _ _ hW
      go_simp
    simp only [Act.put, List.setIfInBounds_toArray, List.set_cons_zero, List.set_cons_succ]
    refine Mx.m_pure (.pointer (some ⟨w.heap.size, 6, none⟩)) (Mx.wanted_none rfl) (fun W hW => ?_) ?_
    · go_simp
    simp only [Act.put, List.setIfInBounds_toArray, List.set_cons_zero, List.set_cons_succ]
    refine Mx.m_pure (.int .i64 v) (Mx.wanted_none rfl) (fun W hW => ?_) ?_
    · have x := cell_of_row _ _ 6 _ _ _ hW
      go_simp
    simp only [Act.put, List.setIfInBounds_toArray, List.set_cons_zero, List.set_cons_succ]
    refine Mx.m_pure (.pointer (some ⟨w.heap.size, 7, none⟩)) (Mx.wanted_none rfl) (fun W hW => ?_) ?_
    · go_simp
    simp only [Act.put, List.setIfInBounds_toArray, List.set_cons_zero, List.set_cons_succ]
    refine Mx.m_pure (.nilIface) (Mx.wanted_none rfl) (fun W hW => ?_) ?_
    · have x := cell_of_row _ _ 7 _ _ _ hW
      go_simp
    simp only [Act.put, List.setIfInBounds_toArray, List.set_cons_zero, List.set_cons_succ]
    refine Mx.m_call 65 #[.nilIface] (Mx.wanted_none rfl) ?_ ?_
    · go_simp
    refine (HPL.out V.drew).mono ?_
    rintro e w2 ⟨ka, kc, rfl, ht, hb⟩
    have HTI := hidIn ht
    have HB2 := hidIn (HBV.out.trans ((show Below V.heap.size V w2 from ⟨hb.os, hb.tape, hb.output, hb.size, hb.block⟩).mono HBV.out.size))
    have HA2 : Hid (w2.heap[w.heap.size]? = some (.cells #[.int .i64 k, .string i, .string n, .string l, .string u, .int .i64 d, .int .i64 v, .nilIface] 30)) := (hb.block _ (Array.getElem?_eq_some_iff.1 HA.out).1).trans HA.out
    have HR2 : Hid (w2.heap[w.heap.size + 1]? = some (.cells #[.int .i64 0, .string ⟨#[]⟩, .string ⟨#[]⟩, .string ⟨#[]⟩, .string ⟨#[]⟩, .int .i64 0, .int .i64 0, .int .i64 0, .string ⟨#[]⟩, .int .i64 0, .slice none 0 0] 35)) := (hb.block _ (Array.getElem?_eq_some_iff.1 HR.out).1).trans HR.out
    refine ⟨_, rfl, HA2.out, ?_⟩
    clear hb ht
    simp only [Act.put, List.setIfInBounds_toArray, List.set_cons_zero, List.set_cons_succ]
    refine Mx.m_run (.agg #[.int .i64 k, .string i, .string n, .string l, .string u, .int .i64 d, .int .i64 v, .int .i64 tk, .string ts, .int .i64 tn, .slice ka kl kc]) (Mx.wanted_none rfl) (w' := w2) ?_ HA2.out ?_
    · go_simp
    simp only [Act.put, List.setIfInBounds_toArray, List.set_cons_zero, List.set_cons_succ]
    refine m_skip11 (Mx.wanted_none rfl) (store_row_run 35 (.tmp 2) (.tmp 20) rfl (w.heap.size + 1) #[.int .i64 k, .string i, .string n, .string l, .string u, .int .i64 d, .int .i64 v, .int .i64 tk, .string ts, .int .i64 tn, .slice ka kl kc] rfl rfl _ _ HR2.out infoE11 rfl (by first | rfl | simp [Value.oneCell'])) ((setRow_other _ _ _ _ (by omega)).trans HA2.out) ?_
    refine Mx.m_nil (fun _ => ?_)
    simp only [Act.put]
    go_wp2_with fail
    refine bodyPost_ret (results_cell_row rfl _ _ (w.heap.size + 1) 35 #[.int .i64 k, .string i, .string n, .string l, .string u, .int .i64 d, .int .i64 v, .int .i64 tk, .string ts, .int .i64 tn, .slice ka kl kc] (0, 0) _ rfl (setRow_heap _ _ _ _ _ _ HR2.out) Tryz.underlying35 rfl infoE11) rfl ?_
    exact ⟨_, rfl, ⟨ka, kc, rfl, trow11 HTI.out _ HVZ.out (by have := HVZ.out; show w.heap.size ≤ V.heap.size; omega)⟩, row_below HB2.out (by omega) _⟩
  · have hx0 : ((w.alloc (.cells #[.int .i64 k, .string i, .string n, .string l, .string u, .int .i64 d, .int .i64 v, .iface xt xv] 30)).alloc (.cells #[.int .i64 0, .string ⟨#[]⟩, .string ⟨#[]⟩, .string ⟨#[]⟩, .string ⟨#[]⟩, .int .i64 0, .int .i64 0, .int .i64 0, .string ⟨#[]⟩, .int .i64 0, .slice none 0 0] 35)).heap[w.heap.size]? = some (.cells #[.int .i64 k, .string i, .string n, .string l, .string u, .int .i64 d, .int .i64 v, .iface xt xv] 30) := heap_keeps (heap_alloc_new _ _) _
    have hx1 : ((w.alloc (.cells #[.int .i64 k, .string i, .string n, .string l, .string u, .int .i64 d, .int .i64 v, .iface xt xv] 30)).alloc (.cells #[.int .i64 0, .string ⟨#[]⟩, .string ⟨#[]⟩, .string ⟨#[]⟩, .string ⟨#[]⟩, .int .i64 0, .int .i64 0, .int .i64 0, .string ⟨#[]⟩, .int .i64 0, .slice none 0 0] 35)).heap[w.heap.size + 1]? = some (.cells #[.int .i64 0, .string ⟨#[]⟩, .string ⟨#[]⟩, .string ⟨#[]⟩, .string ⟨#[]⟩, .int .i64 0, .int .i64 0, .int .i64 0, .string ⟨#[]⟩, .int .i64 0, .slice none 0 0] 35) := by
      have h := heap_alloc_new (w.alloc (.cells #[.int .i64 k, .string i, .string n, .string l, .string u, .int .i64 d, .int .i64 v, .iface xt xv] 30)) (.cells #[.int .i64 0, .string ⟨#[]⟩, .string ⟨#[]⟩, .string ⟨#[]⟩, .string ⟨#[]⟩, .int .i64 0, .int .i64 0, .int .i64 0, .string ⟨#[]⟩, .int .i64 0, .slice none 0 0] 35)
      rwa [show (w.alloc (.cells #[.int .i64 k, .string i, .string n, .string l, .string u, .int .i64 d, .int .i64 v, .iface xt xv] 30)).heap.size = w.heap.size + 1 by simp] at h
    have HA := hidIn hx0
    have HR := hidIn hx1
    have HBV : Hid (Below w.heap.size w ((w.alloc (.cells #[.int .i64 k, .string i, .string n, .string l, .string u, .int .i64 d, .int .i64 v, .iface xt xv] 30)).alloc (.cells #[.int .i64 0, .string ⟨#[]⟩, .string ⟨#[]⟩, .string ⟨#[]⟩, .string ⟨#[]⟩, .int .i64 0, .int .i64 0, .int .i64 0, .string ⟨#[]⟩, .int .i64 0, .slice none 0 0] 35))) := below_alloc (below_alloc (Below.refl _ _) _) _
    have HVZ : Hid (w.heap.size + 1 < ((w.alloc (.cells #[.int .i64 k, .string i, .string n, .string l, .string u, .int .i64 d, .int .i64 v, .iface xt xv] 30)).alloc (.cells #[.int .i64 0, .string ⟨#[]⟩, .string ⟨#[]⟩, .string ⟨#[]⟩, .string ⟨#[]⟩, .int .i64 0, .int .i64 0, .int .i64 0, .string ⟨#[]⟩, .int .i64 0, .slice none 0 0] 35)).heap.size) := by unfold Hid; simp
    clear hx0 hx1
    go_enter Tryz.func37, Tryz.ntmps37
    go_wp2_with fail
    generalize (w.alloc (.cells #[.int .i64 k, .string i, .string n, .string l, .string u, .int .i64 d, .int .i64 v, .iface xt xv] 30)).alloc (.cells #[.int .i64 0, .string ⟨#[]⟩, .string ⟨#[]⟩, .string ⟨#[]⟩, .string ⟨#[]⟩, .int .i64 0, .int .i64 0, .int .i64 0, .string ⟨#[]⟩, .int .i64 0, .slice none 0 0] 35) = V at *
    refine Mx.wp_region_mix (fun W => W.heap[w.heap.size]? = some (.cells #[.int .i64 k, .string i, .string n, .string l, .string u, .int .i64 d, .int .i64 v, .iface xt xv] 30)) [(0, false), (1, false), (2, false), (3, false), (4, false), (5, false), (6, false), (7, false), (8, false), (9, false), (10, false), (11, false), (12, false), (13, false), (14, false), (15, false), (16, true), (17, true), (18, true)] (by kernel_rfl) (by kernel_rfl) HA.out ?_ (by kernel_rfl)
    simp only [List.map_cons, List.map_nil, List.getD_cons_zero, List.getD_cons_succ]
    generalize hops : (#[_, _, _, _, _, _, _, _, _, _, _, _, _, _, _, _, _, _, _] : Array Oper) = ops
    clear hops
    refine Mx.m_pure (.pointer (some ⟨w.heap.size, 0, none⟩)) (Mx.wanted_none rfl) (fun W hW => ?_) ?_
    · go_simp
    simp only [Act.put, List.setIfInBounds_toArray, List.set_cons_zero, List.set_cons_succ]
    refine Mx.m_pure (.int .i64 k) (Mx.wanted_none rfl) (fun W hW => ?_) ?_
    · have x := cell_of_row _ _ 0 _ _ _ hW
      go_simp
    simp only [Act.put, List.setIfInBounds_toArray, List.set_cons_zero, List.set_cons_succ]
    refine Mx.m_pure (.pointer (some ⟨w.heap.size, 1, none⟩)) (Mx.wanted_none rfl) (fun W hW => ?_) ?_
    · go_simp
    simp only [Act.put, List.setIfInBounds_toArray, List.set_cons_zero, List.set_cons_succ]
    refine Mx.m_pure (.string i) (Mx.wanted_none rfl) (fun W hW => ?_) ?_
    · have x := cell_of_row _ _ 1 _ _ _ hW
      go_simp
    simp only [Act.put, List.setIfInBounds_toArray, List.set_cons_zero, List.set_cons_succ]
    refine Mx.m_pure (.pointer (some ⟨w.heap.size, 2, none⟩)) (Mx.wanted_none rfl) (fun W hW => ?_) ?_
    · go_simp
    simp only [Act.put, List.setIfInBounds_toArray, List.set_cons_zero, List.set_cons_succ]
    refine Mx.m_pure (.string n) (Mx.wanted_none rfl) (fun W hW => ?_) ?_
    · have x := cell_of_row _ _ 2 _ _ _ hW
      go_simp
    simp only [Act.put, List.setIfInBounds_toArray, List.set_cons_zero, List.set_cons_succ]
    refine Mx.m_pure (.pointer (some ⟨w.heap.size, 3, none⟩)) (Mx.wanted_none rfl) (fun W hW => ?_) ?_
    · go_simp
    simp only [Act.put, List.setIfInBounds_toArray, List.set_cons_zero, List.set_cons_succ]
    refine Mx.m_pure (.string l) (Mx.wanted_none rfl) (fun W hW => ?_) ?_
    · have x := cell_of_row _ _ 3 _ _ _ hW
      go_simp
    simp only [Act.put, List.setIfInBounds_toArray, List.set_cons_zero, List.set_cons_succ]
    refine Mx.m_pure (.pointer (some ⟨w.heap.size, 4, none⟩)) (Mx.wanted_none rfl) (fun W hW => ?_) ?_
    · go_simp
    simp only [Act.put, List.setIfInBounds_toArray, List.set_cons_zero, List.set_cons_succ]
    refine Mx.m_pure (.string u) (Mx.wanted_none rfl) (fun W hW => ?_) ?_
    · have x := cell_of_row _ _ 4 _ _ _ hW
      go_simp
    simp only [Act.put, List.setIfInBounds_toArray, List.set_cons_zero, List.set_cons_succ]
    refine Mx.m_pure (.pointer (some ⟨w.heap.size, 5, none⟩)) (Mx.wanted_none rfl) (fun W hW => ?_) ?_
    · go_simp
    simp only [Act.put, List.setIfInBounds_toArray, List.set_cons_zero, List.set_cons_succ]
    refine Mx.m_pure (.int .i64 d) (Mx.wanted_none rfl) (fun W hW => ?_) ?_
    · have x := cell_of_row _ _ 5 _ _ _ hW
      go_simp
    simp only [Act.put, List.setIfInBounds_toArray, List.set_cons_zero, List.set_cons_succ]
    refine Mx.m_pure (.pointer (some ⟨w.heap.size, 6, none⟩)) (Mx.wanted_none rfl) (fun W hW => ?_) ?_
    · go_simp
    simp only [Act.put, List.setIfInBounds_toArray, List.set_cons_zero, List.set_cons_succ]
    refine Mx.m_pure (.int .i64 v) (Mx.wanted_none rfl) (fun W hW => ?_) ?_
    · have x := cell_of_row _ _ 6 _ _ _ hW
      go_simp
    simp only [Act.put, List.setIfInBounds_toArray, List.set_cons_zero, List.set_cons_succ]
    refine Mx.m_pure (.pointer (some ⟨w.heap.size, 7, none⟩)) (Mx.wanted_none rfl) (fun W hW => ?_) ?_
    · go_simp
    simp only [Act.put, List.setIfInBounds_toArray, List.set_cons_zero, List.set_cons_succ]
    refine Mx.m_pure (.iface xt xv) (Mx.wanted_none rfl) (fun W hW => ?_) ?_
    · have x := cell_of_row _ _ 7 _ _ _ hW
      go_simp
    simp only [Act.put, List.setIfInBounds_toArray, List.set_cons_zero, List.set_cons_succ]
    refine Mx.m_call 65 #[.iface xt xv] (Mx.wanted_none rfl) ?_ ?_
    · go_simp
    refine (HPL.out V.drew).mono ?_
    rintro e w2 ⟨ka, kc, rfl, ht, hb⟩
    have HTI := hidIn ht
    have HB2 := hidIn (HBV.out.trans ((show Below V.heap.size V w2 from ⟨hb.os, hb.tape, hb.output, hb.size, hb.block⟩).mono HBV.out.size))
    have HA2 : Hid (w2.heap[w.heap.size]? = some (.cells #[.int .i64 k, .string i, .string n, .string l, .string u, .int .i64 d, .int .i64 v, .iface xt xv] 30)) := (hb.block _ (Array.getElem?_eq_some_iff.1 HA.out).1).trans HA.out
    have HR2 : Hid (w2.heap[w.heap.size + 1]? = some (.cells #[.int .i64 0, .string ⟨#[]⟩, .string ⟨#[]⟩, .string ⟨#[]⟩, .string ⟨#[]⟩, .int .i64 0, .int .i64 0, .int .i64 0, .string ⟨#[]⟩, .int .i64 0, .slice none 0 0] 35)) := (hb.block _ (Array.getElem?_eq_some_iff.1 HR.out).1).trans HR.out
    refine ⟨_, rfl, HA2.out, ?_⟩
    clear hb ht
    simp only [Act.put, List.setIfInBounds_toArray, List.set_cons_zero, List.set_cons_succ]
    refine Mx.m_run (.agg #[.int .i64 k, .string i, .string n, .string l, .string u, .int .i64 d, .int .i64 v, .int .i64 tk, .string ts, .int .i64 tn, .slice ka kl kc]) (Mx.wanted_none rfl) (w' := w2) ?_ HA2.out ?_
    · go_simp
    simp only [Act.put, List.setIfInBounds_toArray, List.set_cons_zero, List.set_cons_succ]
    refine m_skip11 (Mx.wanted_none rfl) (store_row_run 35 (.tmp 2) (.tmp 20) rfl (w.heap.size + 1) #[.int .i64 k, .string i, .string n, .string l, .string u, .int .i64 d, .int .i64 v, .int .i64 tk, .string ts, .int .i64 tn, .slice ka kl kc] rfl rfl _ _ HR2.out infoE11 rfl (by first | rfl | simp [Value.oneCell'])) ((setRow_other _ _ _ _ (by omega)).trans HA2.out) ?_
    refine Mx.m_nil (fun _ => ?_)
    simp only [Act.put]
    go_wp2_with fail
    refine bodyPost_ret (results_cell_row rfl _ _ (w.heap.size + 1) 35 #[.int .i64 k, .string i, .string n, .string l, .string u, .int .i64 d, .int .i64 v, .int .i64 tk, .string ts, .int .i64 tn, .slice ka kl kc] (0, 0) _ rfl (setRow_heap _ _ _ _ _ _ HR2.out) Tryz.underlying35 rfl infoE11) rfl ?_
    exact ⟨_, rfl, ⟨ka, kc, rfl, trow11 HTI.out _ HVZ.out (by have := HVZ.out; show w.heap.size ≤ V.heap.size; omega)⟩, row_below HB2.out (by omega) _⟩

end Go.Proofs.YtkioolbjmcpjpaaGreatDoor.Ev
namespace Go.Proofs.YtkioolbjmcpjpaaGreatDoor
open Go.RowKit
set_option linter.unusedVariables false

/-- What becomes of a tree that is spoilt itself. -/
def spoilHead (q : Nat) (v : Int) (s : ByteArray) (t : T) : T :=
  if q = 0 then .mk 0 ⟨#[]⟩ 0 [] else if q = 1 then .mk t.kind (cutTo s 20) t.n t.k else if q = 2 then .mk t.kind t.s v t.k
  else if q = 3 then (if 11 ≤ t.kind then .mk 1 ⟨#[]⟩ 0 [] else .mk 11 ⟨#[]⟩ 1 []) else t
mutual
/-- A tree that is spoilt at a place, and what is left of the place's number. -/
def spoilT (q : Nat) (v : Int) (s : ByteArray) : T → Int → T × Int
  | .mk kind s0 n k, a => if a = 0 then (spoilHead q v s (.mk kind s0 n k), -1) else (.mk kind s0 n (spoilL q v s k (a - 1)).1, (spoilL q v s k (a - 1)).2)
def spoilL (q : Nat) (v : Int) (s : ByteArray) : List T → Int → List T × Int
  | [], a => ([], a)
  | t :: l, a => if 0 ≤ a then ((spoilT q v s t a).1 :: (spoilL q v s l (spoilT q v s t a).2).1, (spoilL q v s l (spoilT q v s t a).2).2) else (t :: l, a)
end
theorem spoilL_snoc (q : Nat) (v : Int) (s : ByteArray) (t : T) (l : List T) : ∀ a : Int, spoilL q v s (l ++ [t]) a = if 0 ≤ (spoilL q v s l a).2 then ((spoilL q v s l a).1 ++ [(spoilT q v s t (spoilL q v s l a).2).1], (spoilT q v s t (spoilL q v s l a).2).2) else ((spoilL q v s l a).1 ++ [t], (spoilL q v s l a).2) := by
  induction l with
  | nil => intro a; simp only [List.nil_append, spoilL]; by_cases h : 0 ≤ a <;> simp [h]
  | cons x l ih =>
    intro a
    simp only [List.cons_append, spoilL]
    by_cases h : 0 ≤ a
    · simp only [if_pos h]
      rw [ih]
      split <;> rfl
    · simp only [if_neg h, List.cons_append]
theorem spoilL_len (q : Nat) (v : Int) (s : ByteArray) (l : List T) : ∀ a, (spoilL q v s l a).1.length = l.length := by
  induction l with
  | nil => intro a; simp [spoilL]
  | cons x l ih => intro a; simp only [spoilL]; split <;> simp [ih]
theorem spoilT_bd (q : Nat) (v : Int) (s : ByteArray) (t : T) : ∀ a, 0 ≤ a → -1 ≤ (spoilT q v s t a).2 ∧ (spoilT q v s t a).2 ≤ a := by
  induction t using T.ind with
  | _ kind s0 n k ih =>
    have hL : ∀ a, -1 ≤ a → -1 ≤ (spoilL q v s k a).2 ∧ (spoilL q v s k a).2 ≤ a := by
      induction k with
      | nil => intro a h; simp only [spoilL]; omega
      | cons x l ihl =>
        intro a h
        simp only [spoilL]
        split
        · rename_i h0
          have h1 := ih x (by simp) a h0
          have h2 := ihl (fun t ht => ih t (by simp [ht])) (spoilT q v s x a).2 h1.1
          simp only
          omega
        · simp only; omega
    intro a h
    unfold spoilT
    split
    · simp only; omega
    · have := hL (a - 1) (by omega)
      simp only
      omega
theorem spoilL_bd (q : Nat) (v : Int) (s : ByteArray) (l : List T) : ∀ a, -1 ≤ a → -1 ≤ (spoilL q v s l a).2 ∧ (spoilL q v s l a).2 ≤ a := by
  induction l with
  | nil => intro a h; simp only [spoilL]; omega
  | cons x l ihl =>
    intro a h
    simp only [spoilL]
    split
    · rename_i h0
      have h1 := spoilT_bd q v s x a h0
      have h2 := ihl (spoilT q v s x a).2 h1.1
      simp only
      omega
    · simp only; omega
theorem head_kind (q : Nat) (v : Int) (s : ByteArray) (t : T) : (spoilHead q v s t).kind = t.kind ∧ (spoilHead q v s t).k = t.k ∨ ((spoilHead q v s t).kind = 0 ∨ (spoilHead q v s t).kind = 1 ∨ (spoilHead q v s t).kind = 11) ∧ (spoilHead q v s t).k = [] := by
  unfold spoilHead
  split
  · exact .inr ⟨.inl rfl, rfl⟩
  · split
    · exact .inl ⟨rfl, rfl⟩
    · split
      · exact .inl ⟨rfl, rfl⟩
      · split
        · split
          · exact .inr ⟨.inr (.inl rfl), rfl⟩
          · exact .inr ⟨.inr (.inr rfl), rfl⟩
        · exact .inl ⟨rfl, rfl⟩
theorem head_s (q : Nat) (v : Int) (s : ByteArray) (t : T) (h : t.s.size ≤ 2147483648) : (spoilHead q v s t).s.size ≤ 2147483648 := by
  have he : (⟨#[]⟩ : ByteArray).size ≤ 2147483648 := by decide
  unfold spoilHead
  split
  · exact he
  · split
    · have := cutTo_size s 20
      show (cutTo s 20).size ≤ _
      omega
    · split
      · exact h
      · split
        · split
          · exact he
          · exact he
        · exact h
theorem head_n (q : Nat) (v : Int) (s : ByteArray) (t : T) (hv : -9223372036854775808 ≤ v ∧ v ≤ 9223372036854775807) (h : -9223372036854775808 ≤ t.n ∧ t.n ≤ 9223372036854775807) : -9223372036854775808 ≤ (spoilHead q v s t).n ∧ (spoilHead q v s t).n ≤ 9223372036854775807 := by
  unfold spoilHead
  split
  · exact ⟨by decide, by decide⟩
  · split
    · exact h
    · split
      · exact hv
      · split
        · split
          · exact ⟨by decide, by decide⟩
          · exact ⟨by decide, by decide⟩
        · exact h
theorem shaped_iff (t : T) : t.Shaped ↔ (t.kind = 13 ∨ t.kind = 15 ∨ t.kind = 16 → t.k.length = 2) ∧ (t.kind = 14 → t.k.length = 1) ∧ (t.kind = 13 ∨ t.kind = 14 ∨ t.kind = 15 ∨ t.kind = 16 ∨ t.k = []) ∧ -9223372036854775808 ≤ t.n ∧ t.n ≤ 9223372036854775807 ∧ t.s.size ≤ 2147483648 ∧ ShapedL t.k := by
  cases t
  unfold T.Shaped
  exact Iff.rfl
theorem shapedL_of : ∀ {l : List T}, (∀ t ∈ l, t.Shaped) → ShapedL l := by
  intro l
  induction l with
  | nil => intro _; unfold ShapedL; trivial
  | cons x l ih => intro h; unfold ShapedL; exact ⟨h x (by simp), ih (fun t ht => h t (by simp [ht]))⟩
theorem spoilL_all {P : T → Prop} (q : Nat) (v : Int) (s : ByteArray) (l : List T) (h : ∀ t ∈ l, P t ∧ ∀ a, P (spoilT q v s t a).1) : ∀ a, ∀ t ∈ (spoilL q v s l a).1, P t := by
  induction l with
  | nil => intro a t ht; simp [spoilL] at ht
  | cons x l ih =>
    intro a t ht
    simp only [spoilL] at ht
    split at ht
    · simp only [List.mem_cons] at ht
      rcases ht with rfl | ht
      · exact (h x (by simp)).2 a
      · exact ih (fun t ht => h t (by simp [ht])) _ t ht
    · exact (h t ht).1
theorem spoil_shaped (q : Nat) (v : Int) (s : ByteArray) (hv : -9223372036854775808 ≤ v ∧ v ≤ 9223372036854775807) (t : T) : t.Shaped → ∀ a, (spoilT q v s t a).1.Shaped := by
  induction t using T.ind with
  | _ kind s0 n k ih =>
    intro h a
    have h' := (shaped_iff _).1 h
    obtain ⟨h2, h1, h3, hn1, hn2, hs, hk⟩ := h'
    unfold spoilT
    split
    · rw [shaped_iff]
      simp only
      have hs' := head_s q v s (.mk kind s0 n k) hs
      have hn' := head_n q v s (.mk kind s0 n k) hv ⟨hn1, hn2⟩
      rcases head_kind q v s (.mk kind s0 n k) with ⟨e1, e2⟩ | ⟨e1, e2⟩
      · rw [e1, e2]; exact ⟨h2, h1, h3, hn'.1, hn'.2, hs', hk⟩
      · rw [e2]; exact ⟨fun h => by omega, fun h => by omega, .inr (.inr (.inr (.inr rfl))), hn'.1, hn'.2, hs', by unfold ShapedL; trivial⟩
    · rw [shaped_iff]
      have hl := spoilL_len q v s k (a - 1)
      simp only [T.kind, T.k, T.s, T.n] at *
      refine ⟨fun h => by rw [hl]; exact h2 h, fun h => by rw [hl]; exact h1 h, ?_, hn1, hn2, hs, shapedL_of (spoilL_all q v s k (fun t ht => ⟨shapedL_mem hk t ht, ih t ht (shapedL_mem hk t ht)⟩) _)⟩
      rcases h3 with h | h | h | h | h
      · exact .inl h
      · exact .inr (.inl h)
      · exact .inr (.inr (.inl h))
      · exact .inr (.inr (.inr (.inl h)))
      · refine .inr (.inr (.inr (.inr ?_)))
        subst h
        simp [spoilL]
theorem head_cnt (q : Nat) (v : Int) (s : ByteArray) (t : T) : (spoilHead q v s t).cnt ≤ t.cnt := by
  have h1 : 1 ≤ t.cnt := by cases t; unfold T.cnt; omega
  unfold spoilHead
  split
  · simp [T.cnt, cntL]; exact h1
  · split
    · cases t; simp [T.cnt, T.k]
    · split
      · cases t; simp [T.cnt, T.k]
      · split
        · split
          · simp [T.cnt, cntL]; exact h1
          · simp [T.cnt, cntL]; exact h1
        · exact Nat.le_refl _
theorem spoil_cnt (q : Nat) (v : Int) (s : ByteArray) (t : T) : ∀ a, (spoilT q v s t a).1.cnt ≤ t.cnt := by
  induction t using T.ind with
  | _ kind s0 n k ih =>
    have hL : ∀ a, cntL (spoilL q v s k a).1 ≤ cntL k := by
      induction k with
      | nil => intro a; simp [spoilL]
      | cons x l ihl =>
        intro a
        simp only [spoilL]
        split
        · have h1 := ih x (by simp) a
          have h2 := ihl (fun t ht => ih t (by simp [ht])) (spoilT q v s x a).2
          simp only [cntL]
          omega
        · exact Nat.le_refl _
    intro a
    unfold spoilT
    split
    · exact head_cnt q v s _
    · have := hL (a - 1)
      simp only [T.cnt]
      omega
theorem obsL_len (l : List T) : (obsL l).length = l.length := by
  induction l with
  | nil => rfl
  | cons x l ih => simp [obsL, ih]
theorem obsOf_nodes (t : T) : (obsOf t).nodes ≤ t.cnt := by
  induction t using T.ind with
  | _ kind s n k ih =>
    unfold obsOf T.cnt
    split
    · simp [O.nodes]
    · split
      · simp [O.nodes]
      · match k, ih with
        | [], _ => simp [obsL, O.nodes]
        | [a], ih =>
          have h1 := ih a (by simp)
          simp only [obsL, cntL]
          split
          · simp only [O.nodes]; omega
          · simp [O.nodes]
        | [a, b], ih =>
          have h1 := ih a (by simp)
          have h2 := ih b (by simp)
          simp only [obsL, cntL]
          split
          · simp only [O.nodes]; omega
          · split
            · simp only [O.nodes]; omega
            · split
              · simp only [O.nodes]; omega
              · simp [O.nodes]
        | a :: b :: c :: l, _ => simp [obsL, O.nodes]

end Go.Proofs.YtkioolbjmcpjpaaGreatDoor
namespace Go.Proofs.YtkioolbjmcpjpaaGreatDoor
open Go.RowKit
set_option linter.unusedVariables false

def OddPostC (w : World) (e : Ending) (w' : World) : Prop := ∃ c : C, e = .returned c.val ∧ c.Ok ∧ c.weight ≤ 10 ∧ Below w.heap.size w w'
theorem strangeC_of (t : TypeId) (x : Value) (h0 : t ≠ 40) (h1 : t ≠ 97) (h2 : t ≠ 99) (h3 : t ≠ 101) (h4 : t ≠ 103) (h5 : t ≠ 107) (h6 : t ≠ 109) (h7 : t ≠ 111) : (C.odd (.iface t x)).Ok := .inr ⟨t, x, rfl, h0, h1, h2, h3, h4, h5, h6, h7⟩

set_option maxHeartbeats 2000000 in
set_option maxRecDepth 100000 in
theorem oddC_any (n : Int) (w : World) (h1 : -9223372036854775808 ≤ n) (h2 : n ≤ 9223372036854775807) : Calls Tryz.prog 40 #[.int .i64 n] w (OddPostC w) := by
  obtain ⟨q, hq⟩ : ∃ q : Nat, n % 9 = q := ⟨(n % 9).toNat, by omega⟩
  have hq9 : q = 0 ∨ q = 1 ∨ q = 2 ∨ q = 3 ∨ q = 4 ∨ q = 5 ∨ q = 6 ∨ q = 7 ∨ q = 8 := by omega
  have hmm := @run_makeMap Tryz.prog
  go_enter Tryz.func40, Tryz.ntmps40
  go_wp2_with fail
  refine calls_same (within_any _ 9 _ (by omega) (by omega) h1 h2) ?_
  rw [hq]
  clear h1 h2 hq
  rcases hq9 with rfl | rfl | rfl | rfl | rfl | rfl | rfl | rfl | rfl
  all_goals
    go_wp2_with fail
    go_ret
    first
      | exact ⟨.odd .nilIface, rfl, .inl rfl, by simp [C.weight], by repeat first | exact Below.refl _ _ | refine below_alloc ?_ _⟩
      | exact ⟨.odd (.iface _ _), rfl, strangeC_of _ _ (by decide) (by decide) (by decide) (by decide) (by decide) (by decide) (by decide) (by decide), by simp [C.weight], by repeat first | exact Below.refl _ _ | refine below_alloc ?_ _⟩
theorem termOf_weight (t : T) (h : SC t) : (termOf t).weight ≤ 2 * t.cnt := by
  induction h with
  | leaf kind s n k h hs =>
    unfold termOf T.cnt
    split
    · simp only [C.weight]; omega
    · split
      · simp only [C.weight]; omega
      · split <;> first | omega | (simp only [C.weight]; omega)
  | give s n a ha iha => show (C.give (termOf a)).weight ≤ _; simp only [C.weight, T.cnt, cntL] at *; omega
  | and s n a b ha hb iha ihb => show (C.and (termOf a) (termOf b)).weight ≤ _; simp only [C.weight, T.cnt, cntL] at *; omega
  | or s n a b hs ha hb iha ihb => show (C.or s (termOf a) (termOf b)).weight ≤ _; simp only [C.weight, T.cnt, cntL] at *; omega
  | scale s n o a ho ha iha => have := obsOf_nodes o; show (C.scale (obsOf o) (termOf a)).weight ≤ _; simp only [C.weight, T.cnt, cntL] at *; omega
  | when s n a hn ha iha => show (C.when n (termOf a)).weight ≤ _; simp only [C.weight, T.cnt, cntL] at *; omega
  | iff s n o a b ho ha hb iha ihb => have := obsOf_nodes o; show (C.iff (obsOf o) (termOf a) (termOf b)).weight ≤ _; simp only [C.weight, T.cnt, cntL] at *; omega

end Go.Proofs.YtkioolbjmcpjpaaGreatDoor
namespace Go.Proofs.YtkioolbjmcpjpaaGreatDoor
open Go.RowKit
set_option linter.unusedVariables false

theorem infoTT : (Tryz.prog.info? 33).map (fun i => (i.zero, i.size, i.bytes)) = some (some (.agg zeroT), 4, 56) := by kernel_rfl
/-- A tree stands wherever the old blocks and the new ones are as they were. -/
def Spread (W0 : World) (B : Nat) (w : World) (t : T) (v : Value) : Prop := ∀ X : World, (∀ b o c, (b < W0.heap.size ∨ B ≤ b) → w.cell? ⟨b, o, none⟩ = some c → X.cell? ⟨b, o, none⟩ = some c) → TIn X 0 t v
theorem Spread.here {W0 w : World} {B : Nat} {t : T} {v : Value} (h : Spread W0 B w t v) : TIn w 0 t v := h w (fun _ _ _ _ h => h)
theorem spread_old {W0 w : World} {B : Nat} {t : T} {v : Value} (h : TIn W0 0 t v) (hb : Below W0.heap.size W0 w) : Spread W0 B w t v :=
  fun X hX => h.kept (Nat.le_refl _) (fun b o c _ hc => hX b o c (.inl (World.block_lt_of_cell? W0 _ hc)) ((hb.cell (p := ⟨b, o, none⟩) (World.block_lt_of_cell? W0 _ hc)).trans hc))
theorem spread_leaf {W0 w : World} {B : Nat} (kind : Int) (s : ByteArray) (n : Int) : Spread W0 B w (.mk kind s n []) (.agg #[.int .i64 kind, .string s, .int .i64 n, .slice none 0 0]) := fun X _ => tin_leaf X 0 kind s n
def SpoilPost (W0 w : World) (r : T × Int) (e : Ending) (w' : World) : Prop :=
  ∃ ka kc, e = .returned (.tuple #[.agg (four r.1 ka kc), .int .i64 r.2]) ∧ Spread W0 w.heap.size w' r.1 (.agg (four r.1 ka kc)) ∧ Below w.heap.size w w'
theorem tin_parts {X : World} {t : T} {a : Option Addr} {cap : Nat} (h : TIn X 0 t (.agg #[.int .i64 t.kind, .string t.s, .int .i64 t.n, .slice a t.k.length cap])) (kind : Int) (s : ByteArray) (n : Int) : TIn X 0 (.mk kind s n t.k) (.agg #[.int .i64 kind, .string s, .int .i64 n, .slice a t.k.length cap]) := by
  obtain ⟨a', cap', e, h4, h5, h6⟩ := h
  simp at e
  obtain ⟨rfl, rfl⟩ := e
  exact ⟨a, cap, rfl, h4, h5, h6⟩

/-- The cells of trees, one behind another. -/
def CellsAt (cur : Array Value) (j : Nat) (t : T) (ka : Option Addr) (kc : Nat) : Prop := cur[j * 4]? = some (.int .i64 t.kind) ∧ cur[j * 4 + 1]? = some (.string t.s) ∧ cur[j * 4 + 2]? = some (.int .i64 t.n) ∧ cur[j * 4 + 3]? = some (.slice ka t.k.length kc)
/-- A row of trees in block R: each stands wherever the old blocks and those behind R are as they were. -/
def RowIn (W0 : World) (R : Nat) (w : World) (cur : Array Value) (l : List T) : Prop := ∀ j t, l[j]? = some t → ∃ ka kc, CellsAt cur j t ka kc ∧ Spread W0 (R + 1) w t (.agg (four t ka kc))
theorem Spread.next {W0 w w' : World} {B : Nat} {t : T} {v : Value} (h : Spread W0 B w t v) (hc : ∀ b o c, (b < W0.heap.size ∨ B ≤ b) → w.cell? ⟨b, o, none⟩ = some c → w'.cell? ⟨b, o, none⟩ = some c) : Spread W0 B w' t v :=
  fun X hX => h X (fun b o c hb hw => hX b o c hb (hc b o c hb hw))
theorem Spread.low {W0 w : World} {B B' : Nat} {t : T} {v : Value} (h : Spread W0 B w t v) (hB : B' ≤ B) : Spread W0 B' w t v :=
  fun X hX => h X (fun b o c hb hw => hX b o c (by omega) hw)
theorem RowIn.next {W0 w w' : World} {R : Nat} {cur : Array Value} {l : List T} (h : RowIn W0 R w cur l) (hc : ∀ b o c, b ≠ R → w.cell? ⟨b, o, none⟩ = some c → w'.cell? ⟨b, o, none⟩ = some c) (hR : W0.heap.size ≤ R) : RowIn W0 R w' cur l := by
  intro j t hj
  obtain ⟨ka, kc, h1, h2⟩ := h j t hj
  exact ⟨ka, kc, h1, h2.next (fun b o c hb hw => hc b o c (by omega) hw)⟩
def put4 (cur : Array Value) (i : Nat) (a b c d : Value) : Array Value := (((cur.setIfInBounds (i * 4) a).setIfInBounds (i * 4 + 1) b).setIfInBounds (i * 4 + 2) c).setIfInBounds (i * 4 + 3) d
theorem put4_same (cur : Array Value) (i : Nat) (a b c d : Value) (h : i * 4 + 3 < cur.size) : (put4 cur i a b c d)[i * 4]? = some a ∧ (put4 cur i a b c d)[i * 4 + 1]? = some b ∧ (put4 cur i a b c d)[i * 4 + 2]? = some c ∧ (put4 cur i a b c d)[i * 4 + 3]? = some d := by
  unfold put4
  refine ⟨?_, ?_, ?_, ?_⟩ <;> simp [Array.getElem?_setIfInBounds] <;> omega
theorem put4_other (cur : Array Value) (i j : Nat) (a b c d : Value) (h : j ≠ i) (x : Nat) (hx : x < 4) : (put4 cur i a b c d)[j * 4 + x]? = cur[j * 4 + x]? := by
  unfold put4
  rw [Array.getElem?_setIfInBounds_ne (by omega), Array.getElem?_setIfInBounds_ne (by omega), Array.getElem?_setIfInBounds_ne (by omega), Array.getElem?_setIfInBounds_ne (by omega)]
theorem RowIn.put {W0 w : World} {R : Nat} {cur : Array Value} {l : List T} {i : Nat} {x t : T} {ka : Option Addr} {kc : Nat} (h : RowIn W0 R w cur l) (hi : l[i]? = some x) (hc : i * 4 + 3 < cur.size) (ht : Spread W0 (R + 1) w t (.agg (four t ka kc))) : RowIn W0 R w (put4 cur i (.int .i64 t.kind) (.string t.s) (.int .i64 t.n) (.slice ka t.k.length kc)) (l.set i t) := by
  intro j u hj
  by_cases hji : j = i
  · subst hji
    have hl := (List.getElem?_eq_some_iff.1 hi).1
    rw [List.getElem?_set_self hl] at hj
    injection hj with hj
    subst hj
    exact ⟨ka, kc, put4_same cur j _ _ _ _ hc, ht⟩
  · rw [List.getElem?_set_ne (fun e => hji e.symm)] at hj
    obtain ⟨kb, kd, h1, h2⟩ := h j u hj
    refine ⟨kb, kd, ?_, h2⟩
    obtain ⟨c0, c1, c2, c3⟩ := h1
    exact ⟨(put4_other cur i j _ _ _ _ hji 0 (by omega)).trans c0, (put4_other cur i j _ _ _ _ hji 1 (by omega)).trans c1, (put4_other cur i j _ _ _ _ hji 2 (by omega)).trans c2, (put4_other cur i j _ _ _ _ hji 3 (by omega)).trans c3⟩
/-- The cells of parts that lie in memory. -/
def rowCells (l : List T) (f : Nat → Option Addr × Nat) : Nat → List Value
  | i => match l with
    | [] => []
    | t :: r => .int .i64 t.kind :: .string t.s :: .int .i64 t.n :: .slice (f i).1 t.k.length (f i).2 :: rowCells r f (i + 1)
theorem rowCells_len (f : Nat → Option Addr × Nat) (l : List T) : ∀ i, (rowCells l f i).length = l.length * 4 := by
  induction l with
  | nil => intro i; simp [rowCells]
  | cons t l ih => intro i; simp only [rowCells, List.length_cons, ih]; omega
theorem rowCells_get (f : Nat → Option Addr × Nat) (l : List T) : ∀ i j t, l[j]? = some t → (rowCells l f i)[j * 4]? = some (.int .i64 t.kind) ∧ (rowCells l f i)[j * 4 + 1]? = some (.string t.s) ∧ (rowCells l f i)[j * 4 + 2]? = some (.int .i64 t.n) ∧ (rowCells l f i)[j * 4 + 3]? = some (.slice (f (i + j)).1 t.k.length (f (i + j)).2) := by
  induction l with
  | nil => intro i j t h; simp at h
  | cons u l ih =>
    intro i j t h
    cases j with
    | zero => simp at h; subst h; simp [rowCells]
    | succ j =>
      simp at h
      have := ih (i + 1) j t h
      simp only [rowCells]
      rw [show (j + 1) * 4 = j * 4 + 1 + 1 + 1 + 1 by omega, show i + (j + 1) = i + 1 + j by omega]
      simpa using this
theorem rowCells_one (f : Nat → Option Addr × Nat) (l : List T) : ∀ i, ∀ u ∈ rowCells l f i, u.oneCell' = true := by
  induction l with
  | nil => intro i u hu; simp [rowCells] at hu
  | cons t l ih =>
    intro i u hu
    simp only [rowCells, List.mem_cons] at hu
    rcases hu with rfl | rfl | rfl | rfl | hu
    · rfl
    · rfl
    · rfl
    · rfl
    · exact ih (i + 1) u hu
theorem kat_row {w : World} {l : List T} {b o : Nat} (h : KAt w 0 l (some ⟨b, o, none⟩) 0) : ∃ f : Nat → Option Addr × Nat, (∀ j t, l[j]? = some t → TIn w 0 t (.agg (four t (f j).1 (f j).2))) ∧ ∀ (j : Nat) (u : Value), (rowCells l f 0)[j]? = some u → w.cell? ((⟨b, o, none⟩ : Addr).add j) = some u := by
  have hx : ∀ j, ∃ p : Option Addr × Nat, ∀ t, l[j]? = some t → w.cell? ⟨b, o + j * 4, none⟩ = some (.int .i64 t.kind) ∧ w.cell? ⟨b, o + j * 4 + 1, none⟩ = some (.string t.s) ∧ w.cell? ⟨b, o + j * 4 + 2, none⟩ = some (.int .i64 t.n) ∧ w.cell? ⟨b, o + j * 4 + 3, none⟩ = some (.slice p.1 t.k.length p.2) ∧ TIn w 0 t (.agg (four t p.1 p.2)) := by
    intro j
    cases hj : l[j]? with
    | none => exact ⟨(none, 0), fun t ht => by cases ht⟩
    | some t =>
      obtain ⟨b', o', ka, kc, e, c0, c1, c2, c3, ht⟩ := h.cells hj
      injection e with e
      injection e with e1 e2
      subst e1 e2
      exact ⟨(ka, kc), fun t' ht' => by injection ht' with ht'; subst ht'; exact ⟨c0, c1, c2, c3, ht⟩⟩
  refine ⟨fun j => Classical.choose (hx j), fun j t hj => ((Classical.choose_spec (hx j)) t hj).2.2.2.2, ?_⟩
  intro j u hu
  have hlen := (List.getElem?_eq_some_iff.1 hu).1
  rw [rowCells_len] at hlen
  obtain ⟨q, r, hr, rfl⟩ : ∃ q r, r < 4 ∧ j = q * 4 + r := ⟨j / 4, j % 4, Nat.mod_lt _ (by omega), by omega⟩
  obtain ⟨t, ht⟩ : ∃ t, l[q]? = some t := ⟨_, List.getElem?_eq_getElem (by omega)⟩
  have hg := rowCells_get (fun j => Classical.choose (hx j)) l 0 q t ht
  have hs := (Classical.choose_spec (hx q)) t ht
  rw [Nat.zero_add] at hg
  rw [Go.WideShapes.add_plain, ← Nat.add_assoc]
  have h4 : r = 0 ∨ r = 1 ∨ r = 2 ∨ r = 3 := by omega
  rcases h4 with rfl | rfl | rfl | rfl
  · rw [Nat.add_zero] at hu ⊢; rw [hg.1] at hu; injection hu with hu; subst hu; exact hs.1
  · rw [hg.2.1] at hu; injection hu with hu; subst hu; exact hs.2.1
  · rw [hg.2.2.1] at hu; injection hu with hu; subst hu; exact hs.2.2.1
  · rw [hg.2.2.2] at hu; injection hu with hu; subst hu; exact hs.2.2.2.1

end Go.Proofs.YtkioolbjmcpjpaaGreatDoor
