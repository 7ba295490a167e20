/- What package event answers of any event. -/
import Derived.Test.YtkioolbjmcpjpaaGreatDoorEvA
import Derived.Test.YtkioolbjmcpjpaaGreatDoorTermSm
namespace Go.Proofs.YtkioolbjmcpjpaaGreatDoor.Ev
open Go.RowKit
set_option linter.unusedVariables false
set_option linter.unusedSimpArgs false

def hasB (f : ByteArray) (c : UInt8) : Bool := decide (0 ≤ Lib.indexByte f.data.toList c)
/-- What event.Check asks of an event, its contract's text aside. -/
def formE (e : Ev) : Bool := !((flds e.k).toList == [63]) && fitS e.i (hasB (flds e.k) 73) && fitS e.n (hasB (flds e.k) 78) && fitS e.l (hasB (flds e.k) 76) && fitS e.u (hasB (flds e.k) 67) && fitI e.d (hasB (flds e.k) 68) (dayB e.d) && fitI e.v (hasB (flds e.k) 86) (vB e.v) && (nilB e.t || hasB (flds e.k) 84) && (!(e.k == 4) || pickB e.v)

set_option maxHeartbeats 4000000 in
set_option maxRecDepth 100000 in
theorem formed_any (e : Ev) (hok : e.Ok) (w : World) : Calls Tryz.prog 42 #[e.val] w fun r w' => r = .returned (.bool (formE e)) ∧ Below w.heap.size w w' := by
  obtain ⟨k, i, n, l, u, d, v, t⟩ := e
  obtain ⟨hk1, hk2, hd1, hd2, hv1, hv2, hi, hn, hl, hu, ht, hw⟩ := hok
  simp only at hk1 hk2 hd1 hd2 hv1 hv2 hi hn hl hu ht hw
  unfold Ev.val Ev.cs
  have HFE : Hid (formE ⟨k, i, n, l, u, d, v, t⟩ = (!((flds k).toList == [63]) && fitS i (hasB (flds k) 73) && fitS n (hasB (flds k) 78) && fitS l (hasB (flds k) 76) && fitS u (hasB (flds k) 67) && fitI d (hasB (flds k) 68) (dayB d) && fitI v (hasB (flds k) 86) (vB v) && (nilB t || hasB (flds k) 84) && (!(k == 4) || pickB v))) := rfl
  generalize formE ⟨k, i, n, l, u, d, v, t⟩ = res at *
  have hent1 := enters_of Tryz.func76 (by kernel_rfl) rfl
  have hent2 := enters_of Tryz.func78 (by kernel_rfl) rfl
  have hent3 := enters_of Tryz.func79 (by kernel_rfl) rfl
  have hent4 := enters_of Tryz.func73 (by kernel_rfl) rfl
  have HE2 := hidIn hent2
  have HE3 := hidIn hent3
  obtain ⟨tv, htv⟩ : ∃ x, t.val = x := ⟨_, rfl⟩
  have HTV := hidIn htv
  have HTO := hidIn ht
  rw [htv]
  obtain ⟨f, hf⟩ : ∃ x, flds k = x := ⟨_, rfl⟩
  rw [hf] at HFE
  have HFF := hidIn hf
  clear hk1 hk2 hd1 hd2 hv1 hv2 hi hn hl hu ht hw htv
  go_enter Tryz.func42, Tryz.ntmps42
  go_wp2_with fail
  refine calls_same (fields_any k _) ?_
  rw [hf]
  clear hf
  go_wp2_with fail
  have hx0 : ((w.alloc (.cells #[.int .i64 k, .string i, .string n, .string l, .string u, .int .i64 d, .int .i64 v, tv] 30)).alloc (.cells #[.string f] 9)).heap[w.heap.size]? = some (.cells #[.int .i64 k, .string i, .string n, .string l, .string u, .int .i64 d, .int .i64 v, tv] 30) := heap_keeps (heap_alloc_new _ _) _
  have hx1 : ((w.alloc (.cells #[.int .i64 k, .string i, .string n, .string l, .string u, .int .i64 d, .int .i64 v, tv] 30)).alloc (.cells #[.string f] 9)).heap[w.heap.size + 1]? = some (.cells #[.string f] 9) := by
    have h := heap_alloc_new (w.alloc (.cells #[.int .i64 k, .string i, .string n, .string l, .string u, .int .i64 d, .int .i64 v, tv] 30)) (.cells #[.string f] 9)
    rwa [show (w.alloc (.cells #[.int .i64 k, .string i, .string n, .string l, .string u, .int .i64 d, .int .i64 v, tv] 30)).heap.size = w.heap.size + 1 by simp] at h
  have HBV : Hid (Below w.heap.size w ((w.alloc (.cells #[.int .i64 k, .string i, .string n, .string l, .string u, .int .i64 d, .int .i64 v, tv] 30)).alloc (.cells #[.string f] 9))) := below_alloc (below_alloc (Below.refl _ _) _) _
  have HX0 := hidIn hx0
  have HX1 := hidIn hx1
  clear hx0 hx1
  generalize (w.alloc (.cells #[.int .i64 k, .string i, .string n, .string l, .string u, .int .i64 d, .int .i64 v, tv] 30)).alloc (.cells #[.string f] 9) = V at *
  have HF : Hid (∀ w', Below V.heap.size V w' → w'.cell? ⟨w.heap.size + 1, 0, none⟩ = some (.string f) ∧ w'.cell? ⟨w.heap.size, 1, none⟩ = some (.string i) ∧ w'.cell? ⟨w.heap.size, 2, none⟩ = some (.string n) ∧ w'.cell? ⟨w.heap.size, 3, none⟩ = some (.string l) ∧ w'.cell? ⟨w.heap.size, 4, none⟩ = some (.string u) ∧ w'.cell? ⟨w.heap.size, 5, none⟩ = some (.int .i64 d) ∧ w'.cell? ⟨w.heap.size, 6, none⟩ = some (.int .i64 v) ∧ w'.cell? ⟨w.heap.size, 7, none⟩ = some tv ∧ w'.cell? ⟨w.heap.size, 0, none⟩ = some (.int .i64 k)) := fun w' hw' => by
    have h0 := (hw'.block _ (Array.getElem?_eq_some_iff.1 HX0.out).1).trans HX0.out
    have h1 := (hw'.block _ (Array.getElem?_eq_some_iff.1 HX1.out).1).trans HX1.out
    exact ⟨cell_of_row _ _ 0 _ _ _ h1, cell_of_row _ _ 1 _ _ _ h0, cell_of_row _ _ 2 _ _ _ h0, cell_of_row _ _ 3 _ _ _ h0, cell_of_row _ _ 4 _ _ _ h0, cell_of_row _ _ 5 _ _ _ h0, cell_of_row _ _ 6 _ _ _ h0, cell_of_row _ _ 7 _ _ _ h0, cell_of_row _ _ 0 _ _ _ h0⟩
  have HH : Hid (∀ (c : UInt8) (w' : World), Below V.heap.size V w' → Calls Tryz.prog 73 #[.string ⟨#[c]⟩, .pointer (some ⟨w.heap.size + 1, 0, none⟩)] w' fun e w2 => e = .returned (.bool (hasB f c)) ∧ Below V.heap.size V w2) := fun c w' hw' => (has_any f c _ w' (HF.out w' hw').1).mono (by rintro e w2 ⟨rfl, rfl⟩; exact ⟨rfl, hw'⟩)
  have HS : Hid (∀ (s : ByteArray) (b : Bool) (w' : World), Below V.heap.size V w' → Calls Tryz.prog 75 #[.string s, .bool b, .func (.func 76) #[] #[]] w' fun e w2 => e = .returned (.bool (fitS s b)) ∧ Below V.heap.size V w2) := fun s b w' hw' => (fitS_any s b w').mono (by rintro e w2 ⟨rfl, hb⟩; exact ⟨rfl, hw'.trans (hb.mono hw'.size)⟩)
  have HD : Hid (∀ (x : Int) (b : Bool) (w' : World), Below V.heap.size V w' → Calls Tryz.prog 77 #[.int .i64 x, .bool b, .func (.func 78) #[] #[]] w' fun e w2 => e = .returned (.bool (fitI x b (dayB x))) ∧ Below V.heap.size V w2) := fun x b w' hw' => (fitI_any x b _ _ w' HE2.out (fun w => isDay_any x w)).mono (by rintro e w2 ⟨rfl, rfl⟩; exact ⟨rfl, hw'⟩)
  have HV : Hid (∀ (x : Int) (b : Bool) (w' : World), Below V.heap.size V w' → Calls Tryz.prog 77 #[.int .i64 x, .bool b, .func (.func 79) #[] #[]] w' fun e w2 => e = .returned (.bool (fitI x b (vB x))) ∧ Below V.heap.size V w2) := fun x b w' hw' => (fitI_any x b _ _ w' HE3.out (fun w => valid_any x w)).mono (by rintro e w2 ⟨rfl, rfl⟩; exact ⟨rfl, hw'⟩)
  have HP : Hid (∀ (x : Int) (w' : World), Below V.heap.size V w' → Calls Tryz.prog 80 #[.int .i64 x] w' fun e w2 => e = .returned (.bool (pickB x)) ∧ Below V.heap.size V w2) := fun x w' hw' => (isPick_any x w').mono (by rintro e w2 ⟨rfl, rfl⟩; exact ⟨rfl, hw'⟩)
  obtain ⟨c0, hc0⟩ : ∃ x, (!(f.toList == [63])) = x := ⟨_, rfl⟩
  have HC0 := hidIn hc0
  clear hc0
  obtain ⟨c1, hc1⟩ : ∃ x, (c0 && fitS i (hasB f 73)) = x := ⟨_, rfl⟩
  have HC1 := hidIn hc1
  clear hc1
  obtain ⟨c2, hc2⟩ : ∃ x, (c1 && fitS n (hasB f 78)) = x := ⟨_, rfl⟩
  have HC2 := hidIn hc2
  clear hc2
  obtain ⟨c3, hc3⟩ : ∃ x, (c2 && fitS l (hasB f 76)) = x := ⟨_, rfl⟩
  have HC3 := hidIn hc3
  clear hc3
  obtain ⟨c4, hc4⟩ : ∃ x, (c3 && fitS u (hasB f 67)) = x := ⟨_, rfl⟩
  have HC4 := hidIn hc4
  clear hc4
  obtain ⟨c5, hc5⟩ : ∃ x, (c4 && fitI d (hasB f 68) (dayB d)) = x := ⟨_, rfl⟩
  have HC5 := hidIn hc5
  clear hc5
  obtain ⟨c6, hc6⟩ : ∃ x, (c5 && fitI v (hasB f 86) (vB v)) = x := ⟨_, rfl⟩
  have HC6 := hidIn hc6
  clear hc6
  obtain ⟨nb, hnb⟩ : ∃ x, (nilB t) = x := ⟨_, rfl⟩
  have HNB := hidIn hnb
  clear hnb
  obtain ⟨bt, hbt⟩ : ∃ x, (nb || hasB f 84) = x := ⟨_, rfl⟩
  have HBT := hidIn hbt
  clear hbt
  obtain ⟨c7, hc7⟩ : ∃ x, (c6 && bt) = x := ⟨_, rfl⟩
  have HC7 := hidIn hc7
  clear hc7
  obtain ⟨n4, hn4⟩ : ∃ x, (!(k == 4)) = x := ⟨_, rfl⟩
  have HN4 := hidIn hn4
  clear hn4
  obtain ⟨bp, hbp⟩ : ∃ x, (n4 || pickB v) = x := ⟨_, rfl⟩
  have HBP := hidIn hbp
  clear hbp
  obtain ⟨c8, hc8⟩ : ∃ x, (c7 && bp) = x := ⟨_, rfl⟩
  have HC8 := hidIn hc8
  clear hc8
  refine wp_region_class (fun w' => Below V.heap.size V w') (by kernel_rfl) (by kernel_rfl) (below_drew (Below.refl _ _)) ?_
  generalize hops : (#[_, _, _, _, _, _, _, _, _, _, _, _, _, _, _, _, _, _, _, _, _, _, _, _, _, _, _, _, _, _, _, _, _, _, _, _, _, _, _, _, _, _, _, _, _, _, _, _, _, _, _, _, _, _, _, _, _, _, _, _, _, _, _, _] : Array Oper) = ops
  have HD2 : Hid ((ops[2]?).bind (·.dst) = some 11) := by rw [← hops]; exact rfl
  have HD9 : Hid ((ops[9]?).bind (·.dst) = some 18) := by rw [← hops]; exact rfl
  have HD16 : Hid ((ops[16]?).bind (·.dst) = some 25) := by rw [← hops]; exact rfl
  have HD23 : Hid ((ops[23]?).bind (·.dst) = some 32) := by rw [← hops]; exact rfl
  have HD30 : Hid ((ops[30]?).bind (·.dst) = some 39) := by rw [← hops]; exact rfl
  have HD37 : Hid ((ops[37]?).bind (·.dst) = some 46) := by rw [← hops]; exact rfl
  have HD44 : Hid ((ops[44]?).bind (·.dst) = some 53) := by rw [← hops]; exact rfl
  have HD48 : Hid ((ops[48]?).bind (·.dst) = some 57) := by rw [← hops]; exact rfl
  have HD53 : Hid ((ops[53]?).bind (·.dst) = some 62) := by rw [← hops]; exact rfl
  have HD57 : Hid ((ops[57]?).bind (·.dst) = some 66) := by rw [← hops]; exact rfl
  clear hops
  refine quiet_runs (.string f) (wanted_none rfl) (fun w' hw' => ?_) ?_
  · have q0 := (HF.out w' hw').1
    go_simp
  simp only [Act.put, List.setIfInBounds_toArray, List.set_cons_zero, List.set_cons_succ]
  refine quiet_runs (.bool c0) (wanted_none rfl) (fun w' hw' => ?_) ?_
  · rw [← HC0.out]
    go_simp
  simp only [Act.put, List.setIfInBounds_toArray, List.set_cons_zero, List.set_cons_succ]
  refine quiet_runs (.bool c0) (wanted_none rfl) (fun w' hw' => ?_) ?_
  · go_simp
  simp only [Act.put, List.setIfInBounds_toArray, List.set_cons_zero, List.set_cons_succ]
  refine mb_runs c0 (.pointer (some ⟨w.heap.size, 1, none⟩)) (want_yes 2 11 c0 rfl HD2.out rfl) (fun hb w' hw' => ?_) ?_
  · subst hb
    try simp only [mb_true]
    go_simp
  simp only [Act.put, List.setIfInBounds_toArray, List.set_cons_zero, List.set_cons_succ]
  refine mb_runs c0 (.string i) (want_yes 2 11 c0 rfl HD2.out rfl) (fun hb w' hw' => ?_) ?_
  · subst hb
    try simp only [mb_true]
    have q0 := (HF.out w' hw').2.1
    go_simp
  simp only [Act.put, List.setIfInBounds_toArray, List.set_cons_zero, List.set_cons_succ]
  refine mb_runs c0 (.func (.func 73) #[] #[.pointer (some ⟨w.heap.size + 1, 0, none⟩)]) (want_yes 2 11 c0 rfl HD2.out rfl) (fun hb w' hw' => ?_) ?_
  · subst hb
    try simp only [mb_true]
    go_simp
  simp only [Act.put, List.setIfInBounds_toArray, List.set_cons_zero, List.set_cons_succ]
  refine mb_calls c0 73 #[.string ⟨#[73]⟩, .pointer (some ⟨w.heap.size + 1, 0, none⟩)] (.bool (hasB f 73)) (want_yes 2 11 c0 rfl HD2.out rfl) (fun hb w' hw' => ?_) (fun hb w' hw' => ?_) ?_
  · subst hb
    try simp only [mb_true]
    go_simp
  · exact HH.out 73 w' hw'
  simp only [Act.put, List.setIfInBounds_toArray, List.set_cons_zero, List.set_cons_succ]
  refine mb_calls c0 75 #[.string i, .bool (hasB f 73), .func (.func 76) #[] #[]] (.bool (fitS i (hasB f 73))) (want_yes 2 11 c0 rfl HD2.out rfl) (fun hb w' hw' => ?_) (fun hb w' hw' => ?_) ?_
  · subst hb
    try simp only [mb_true]
    go_simp
  · exact HS.out i _ w' hw'
  simp only [Act.put, List.setIfInBounds_toArray, List.set_cons_zero, List.set_cons_succ]
  refine quiet_runs (.bool c1) (wanted_none rfl) (fun w' hw' => ?_) ?_
  · rw [← HC1.out]
    cases c0 <;> (try simp only [mb_true, mb_false]; go_simp)
  simp only [Act.put, List.setIfInBounds_toArray, List.set_cons_zero, List.set_cons_succ]
  refine quiet_runs (.bool c1) (wanted_none rfl) (fun w' hw' => ?_) ?_
  · go_simp
  simp only [Act.put, List.setIfInBounds_toArray, List.set_cons_zero, List.set_cons_succ]
  refine mb_runs c1 (.pointer (some ⟨w.heap.size, 2, none⟩)) (want_yes 9 18 c1 rfl HD9.out rfl) (fun hb w' hw' => ?_) ?_
  · subst hb
    try simp only [mb_true]
    go_simp
  simp only [Act.put, List.setIfInBounds_toArray, List.set_cons_zero, List.set_cons_succ]
  refine mb_runs c1 (.string n) (want_yes 9 18 c1 rfl HD9.out rfl) (fun hb w' hw' => ?_) ?_
  · subst hb
    try simp only [mb_true]
    have q0 := (HF.out w' hw').2.2.1
    go_simp
  simp only [Act.put, List.setIfInBounds_toArray, List.set_cons_zero, List.set_cons_succ]
  refine mb_runs c1 (.func (.func 73) #[] #[.pointer (some ⟨w.heap.size + 1, 0, none⟩)]) (want_yes 9 18 c1 rfl HD9.out rfl) (fun hb w' hw' => ?_) ?_
  · subst hb
    try simp only [mb_true]
    go_simp
  simp only [Act.put, List.setIfInBounds_toArray, List.set_cons_zero, List.set_cons_succ]
  refine mb_calls c1 73 #[.string ⟨#[78]⟩, .pointer (some ⟨w.heap.size + 1, 0, none⟩)] (.bool (hasB f 78)) (want_yes 9 18 c1 rfl HD9.out rfl) (fun hb w' hw' => ?_) (fun hb w' hw' => ?_) ?_
  · subst hb
    try simp only [mb_true]
    go_simp
  · exact HH.out 78 w' hw'
  simp only [Act.put, List.setIfInBounds_toArray, List.set_cons_zero, List.set_cons_succ]
  refine mb_calls c1 75 #[.string n, .bool (hasB f 78), .func (.func 76) #[] #[]] (.bool (fitS n (hasB f 78))) (want_yes 9 18 c1 rfl HD9.out rfl) (fun hb w' hw' => ?_) (fun hb w' hw' => ?_) ?_
  · subst hb
    try simp only [mb_true]
    go_simp
  · exact HS.out n _ w' hw'
  simp only [Act.put, List.setIfInBounds_toArray, List.set_cons_zero, List.set_cons_succ]
  refine quiet_runs (.bool c2) (wanted_none rfl) (fun w' hw' => ?_) ?_
  · rw [← HC2.out]
    cases c1 <;> (try simp only [mb_true, mb_false]; go_simp)
  simp only [Act.put, List.setIfInBounds_toArray, List.set_cons_zero, List.set_cons_succ]
  refine quiet_runs (.bool c2) (wanted_none rfl) (fun w' hw' => ?_) ?_
  · go_simp
  simp only [Act.put, List.setIfInBounds_toArray, List.set_cons_zero, List.set_cons_succ]
  refine mb_runs c2 (.pointer (some ⟨w.heap.size, 3, none⟩)) (want_yes 16 25 c2 rfl HD16.out rfl) (fun hb w' hw' => ?_) ?_
  · subst hb
    try simp only [mb_true]
    go_simp
  simp only [Act.put, List.setIfInBounds_toArray, List.set_cons_zero, List.set_cons_succ]
  refine mb_runs c2 (.string l) (want_yes 16 25 c2 rfl HD16.out rfl) (fun hb w' hw' => ?_) ?_
  · subst hb
    try simp only [mb_true]
    have q0 := (HF.out w' hw').2.2.2.1
    go_simp
  simp only [Act.put, List.setIfInBounds_toArray, List.set_cons_zero, List.set_cons_succ]
  refine mb_runs c2 (.func (.func 73) #[] #[.pointer (some ⟨w.heap.size + 1, 0, none⟩)]) (want_yes 16 25 c2 rfl HD16.out rfl) (fun hb w' hw' => ?_) ?_
  · subst hb
    try simp only [mb_true]
    go_simp
  simp only [Act.put, List.setIfInBounds_toArray, List.set_cons_zero, List.set_cons_succ]
  refine mb_calls c2 73 #[.string ⟨#[76]⟩, .pointer (some ⟨w.heap.size + 1, 0, none⟩)] (.bool (hasB f 76)) (want_yes 16 25 c2 rfl HD16.out rfl) (fun hb w' hw' => ?_) (fun hb w' hw' => ?_) ?_
  · subst hb
    try simp only [mb_true]
    go_simp
  · exact HH.out 76 w' hw'
  simp only [Act.put, List.setIfInBounds_toArray, List.set_cons_zero, List.set_cons_succ]
  refine mb_calls c2 75 #[.string l, .bool (hasB f 76), .func (.func 76) #[] #[]] (.bool (fitS l (hasB f 76))) (want_yes 16 25 c2 rfl HD16.out rfl) (fun hb w' hw' => ?_) (fun hb w' hw' => ?_) ?_
  · subst hb
    try simp only [mb_true]
    go_simp
  · exact HS.out l _ w' hw'
  simp only [Act.put, List.setIfInBounds_toArray, List.set_cons_zero, List.set_cons_succ]
  refine quiet_runs (.bool c3) (wanted_none rfl) (fun w' hw' => ?_) ?_
  · rw [← HC3.out]
    cases c2 <;> (try simp only [mb_true, mb_false]; go_simp)
  simp only [Act.put, List.setIfInBounds_toArray, List.set_cons_zero, List.set_cons_succ]
  refine quiet_runs (.bool c3) (wanted_none rfl) (fun w' hw' => ?_) ?_
  · go_simp
  simp only [Act.put, List.setIfInBounds_toArray, List.set_cons_zero, List.set_cons_succ]
  refine mb_runs c3 (.pointer (some ⟨w.heap.size, 4, none⟩)) (want_yes 23 32 c3 rfl HD23.out rfl) (fun hb w' hw' => ?_) ?_
  · subst hb
    try simp only [mb_true]
    go_simp
  simp only [Act.put, List.setIfInBounds_toArray, List.set_cons_zero, List.set_cons_succ]
  refine mb_runs c3 (.string u) (want_yes 23 32 c3 rfl HD23.out rfl) (fun hb w' hw' => ?_) ?_
  · subst hb
    try simp only [mb_true]
    have q0 := (HF.out w' hw').2.2.2.2.1
    go_simp
  simp only [Act.put, List.setIfInBounds_toArray, List.set_cons_zero, List.set_cons_succ]
  refine mb_runs c3 (.func (.func 73) #[] #[.pointer (some ⟨w.heap.size + 1, 0, none⟩)]) (want_yes 23 32 c3 rfl HD23.out rfl) (fun hb w' hw' => ?_) ?_
  · subst hb
    try simp only [mb_true]
    go_simp
  simp only [Act.put, List.setIfInBounds_toArray, List.set_cons_zero, List.set_cons_succ]
  refine mb_calls c3 73 #[.string ⟨#[67]⟩, .pointer (some ⟨w.heap.size + 1, 0, none⟩)] (.bool (hasB f 67)) (want_yes 23 32 c3 rfl HD23.out rfl) (fun hb w' hw' => ?_) (fun hb w' hw' => ?_) ?_
  · subst hb
    try simp only [mb_true]
    go_simp
  · exact HH.out 67 w' hw'
  simp only [Act.put, List.setIfInBounds_toArray, List.set_cons_zero, List.set_cons_succ]
  refine mb_calls c3 75 #[.string u, .bool (hasB f 67), .func (.func 76) #[] #[]] (.bool (fitS u (hasB f 67))) (want_yes 23 32 c3 rfl HD23.out rfl) (fun hb w' hw' => ?_) (fun hb w' hw' => ?_) ?_
  · subst hb
    try simp only [mb_true]
    go_simp
  · exact HS.out u _ w' hw'
  simp only [Act.put, List.setIfInBounds_toArray, List.set_cons_zero, List.set_cons_succ]
  refine quiet_runs (.bool c4) (wanted_none rfl) (fun w' hw' => ?_) ?_
  · rw [← HC4.out]
    cases c3 <;> (try simp only [mb_true, mb_false]; go_simp)
  simp only [Act.put, List.setIfInBounds_toArray, List.set_cons_zero, List.set_cons_succ]
  refine quiet_runs (.bool c4) (wanted_none rfl) (fun w' hw' => ?_) ?_
  · go_simp
  simp only [Act.put, List.setIfInBounds_toArray, List.set_cons_zero, List.set_cons_succ]
  refine mb_runs c4 (.pointer (some ⟨w.heap.size, 5, none⟩)) (want_yes 30 39 c4 rfl HD30.out rfl) (fun hb w' hw' => ?_) ?_
  · subst hb
    try simp only [mb_true]
    go_simp
  simp only [Act.put, List.setIfInBounds_toArray, List.set_cons_zero, List.set_cons_succ]
  refine mb_runs c4 (.int .i64 d) (want_yes 30 39 c4 rfl HD30.out rfl) (fun hb w' hw' => ?_) ?_
  · subst hb
    try simp only [mb_true]
    have q0 := (HF.out w' hw').2.2.2.2.2.1
    go_simp
  simp only [Act.put, List.setIfInBounds_toArray, List.set_cons_zero, List.set_cons_succ]
  refine mb_runs c4 (.func (.func 73) #[] #[.pointer (some ⟨w.heap.size + 1, 0, none⟩)]) (want_yes 30 39 c4 rfl HD30.out rfl) (fun hb w' hw' => ?_) ?_
  · subst hb
    try simp only [mb_true]
    go_simp
  simp only [Act.put, List.setIfInBounds_toArray, List.set_cons_zero, List.set_cons_succ]
  refine mb_calls c4 73 #[.string ⟨#[68]⟩, .pointer (some ⟨w.heap.size + 1, 0, none⟩)] (.bool (hasB f 68)) (want_yes 30 39 c4 rfl HD30.out rfl) (fun hb w' hw' => ?_) (fun hb w' hw' => ?_) ?_
  · subst hb
    try simp only [mb_true]
    go_simp
  · exact HH.out 68 w' hw'
  simp only [Act.put, List.setIfInBounds_toArray, List.set_cons_zero, List.set_cons_succ]
  refine mb_calls c4 77 #[.int .i64 d, .bool (hasB f 68), .func (.func 78) #[] #[]] (.bool (fitI d (hasB f 68) (dayB d))) (want_yes 30 39 c4 rfl HD30.out rfl) (fun hb w' hw' => ?_) (fun hb w' hw' => ?_) ?_
  · subst hb
    try simp only [mb_true]
    go_simp
  · exact HD.out d _ w' hw'
  simp only [Act.put, List.setIfInBounds_toArray, List.set_cons_zero, List.set_cons_succ]
  refine quiet_runs (.bool c5) (wanted_none rfl) (fun w' hw' => ?_) ?_
  · rw [← HC5.out]
    cases c4 <;> (try simp only [mb_true, mb_false]; go_simp)
  simp only [Act.put, List.setIfInBounds_toArray, List.set_cons_zero, List.set_cons_succ]
  refine quiet_runs (.bool c5) (wanted_none rfl) (fun w' hw' => ?_) ?_
  · go_simp
  simp only [Act.put, List.setIfInBounds_toArray, List.set_cons_zero, List.set_cons_succ]
  refine mb_runs c5 (.pointer (some ⟨w.heap.size, 6, none⟩)) (want_yes 37 46 c5 rfl HD37.out rfl) (fun hb w' hw' => ?_) ?_
  · subst hb
    try simp only [mb_true]
    go_simp
  simp only [Act.put, List.setIfInBounds_toArray, List.set_cons_zero, List.set_cons_succ]
  refine mb_runs c5 (.int .i64 v) (want_yes 37 46 c5 rfl HD37.out rfl) (fun hb w' hw' => ?_) ?_
  · subst hb
    try simp only [mb_true]
    have q0 := (HF.out w' hw').2.2.2.2.2.2.1
    go_simp
  simp only [Act.put, List.setIfInBounds_toArray, List.set_cons_zero, List.set_cons_succ]
  refine mb_runs c5 (.func (.func 73) #[] #[.pointer (some ⟨w.heap.size + 1, 0, none⟩)]) (want_yes 37 46 c5 rfl HD37.out rfl) (fun hb w' hw' => ?_) ?_
  · subst hb
    try simp only [mb_true]
    go_simp
  simp only [Act.put, List.setIfInBounds_toArray, List.set_cons_zero, List.set_cons_succ]
  refine mb_calls c5 73 #[.string ⟨#[86]⟩, .pointer (some ⟨w.heap.size + 1, 0, none⟩)] (.bool (hasB f 86)) (want_yes 37 46 c5 rfl HD37.out rfl) (fun hb w' hw' => ?_) (fun hb w' hw' => ?_) ?_
  · subst hb
    try simp only [mb_true]
    go_simp
  · exact HH.out 86 w' hw'
  simp only [Act.put, List.setIfInBounds_toArray, List.set_cons_zero, List.set_cons_succ]
  refine mb_calls c5 77 #[.int .i64 v, .bool (hasB f 86), .func (.func 79) #[] #[]] (.bool (fitI v (hasB f 86) (vB v))) (want_yes 37 46 c5 rfl HD37.out rfl) (fun hb w' hw' => ?_) (fun hb w' hw' => ?_) ?_
  · subst hb
    try simp only [mb_true]
    go_simp
  · exact HV.out v _ w' hw'
  simp only [Act.put, List.setIfInBounds_toArray, List.set_cons_zero, List.set_cons_succ]
  refine quiet_runs (.bool c6) (wanted_none rfl) (fun w' hw' => ?_) ?_
  · rw [← HC6.out]
    cases c5 <;> (try simp only [mb_true, mb_false]; go_simp)
  simp only [Act.put, List.setIfInBounds_toArray, List.set_cons_zero, List.set_cons_succ]
  refine quiet_runs (.bool c6) (wanted_none rfl) (fun w' hw' => ?_) ?_
  · go_simp
  simp only [Act.put, List.setIfInBounds_toArray, List.set_cons_zero, List.set_cons_succ]
  refine mb_runs c6 (.pointer (some ⟨w.heap.size, 7, none⟩)) (want_yes 44 53 c6 rfl HD44.out rfl) (fun hb w' hw' => ?_) ?_
  · subst hb
    try simp only [mb_true]
    go_simp
  simp only [Act.put, List.setIfInBounds_toArray, List.set_cons_zero, List.set_cons_succ]
  refine mb_runs c6 (tv) (want_yes 44 53 c6 rfl HD44.out rfl) (fun hb w' hw' => ?_) ?_
  · subst hb
    try simp only [mb_true]
    have q0 := (HF.out w' hw').2.2.2.2.2.2.2.1
    go_simp
  simp only [Act.put, List.setIfInBounds_toArray, List.set_cons_zero, List.set_cons_succ]
  refine mb_runs c6 (.bool nb) (want_yes 44 53 c6 rfl HD44.out rfl) (fun hb w' hw' => ?_) ?_
  · subst hb
    try simp only [mb_true]
    rw [← HNB.out, ← HTV.out]
    have hto := HTO.out
    clear HTV HTO HNB HBT HC7 HFE
    cases t
    case odd x => rcases hto with rfl | ⟨a1, a2, rfl, _⟩ <;> (simp only [C.val, nilB]; go_simp)
    all_goals (simp only [C.val, nilB]; go_simp)
  simp only [Act.put, List.setIfInBounds_toArray, List.set_cons_zero, List.set_cons_succ]
  refine mb_runs c6 (.bool nb) (want_yes 44 53 c6 rfl HD44.out rfl) (fun hb w' hw' => ?_) ?_
  · subst hb
    try simp only [mb_true]
    go_simp
  simp only [Act.put, List.setIfInBounds_toArray, List.set_cons_zero, List.set_cons_succ]
  refine mb_runs (c6 && !nb) (.func (.func 73) #[] #[.pointer (some ⟨w.heap.size + 1, 0, none⟩)]) (want_mb_no 48 57 c6 nb rfl HD48.out rfl) (fun hb w' hw' => ?_) ?_
  · simp only [Bool.and_eq_true, Bool.not_eq_true'] at hb
    obtain ⟨hb1, hb2⟩ := hb
    subst hb1 hb2
    try simp only [mb_true, Bool.true_and, Bool.and_true, Bool.not_false, Bool.not_true]
    go_simp
  simp only [Act.put, List.setIfInBounds_toArray, List.set_cons_zero, List.set_cons_succ]
  refine mb_calls (c6 && !nb) 73 #[.string ⟨#[84]⟩, .pointer (some ⟨w.heap.size + 1, 0, none⟩)] (.bool (hasB f 84)) (want_mb_no 48 57 c6 nb rfl HD48.out rfl) (fun hb w' hw' => ?_) (fun hb w' hw' => ?_) ?_
  · simp only [Bool.and_eq_true, Bool.not_eq_true'] at hb
    obtain ⟨hb1, hb2⟩ := hb
    subst hb1 hb2
    try simp only [mb_true, Bool.true_and, Bool.and_true, Bool.not_false, Bool.not_true]
    go_simp
  · exact HH.out 84 w' hw'
  simp only [Act.put, List.setIfInBounds_toArray, List.set_cons_zero, List.set_cons_succ]
  refine mb_runs c6 (.bool bt) (want_yes 44 53 c6 rfl HD44.out rfl) (fun hb w' hw' => ?_) ?_
  · subst hb
    try simp only [mb_true]
    rw [← HBT.out]
    cases nb <;> (simp only [mb_true, mb_false, Bool.true_and, Bool.not_true, Bool.not_false]; go_simp)
  simp only [Act.put, List.setIfInBounds_toArray, List.set_cons_zero, List.set_cons_succ]
  refine quiet_runs (.bool c7) (wanted_none rfl) (fun w' hw' => ?_) ?_
  · rw [← HC7.out]
    cases c6 <;> (try simp only [mb_true, mb_false]; go_simp)
  simp only [Act.put, List.setIfInBounds_toArray, List.set_cons_zero, List.set_cons_succ]
  refine quiet_runs (.bool c7) (wanted_none rfl) (fun w' hw' => ?_) ?_
  · go_simp
  simp only [Act.put, List.setIfInBounds_toArray, List.set_cons_zero, List.set_cons_succ]
  refine mb_runs c7 (.pointer (some ⟨w.heap.size, 0, none⟩)) (want_yes 53 62 c7 rfl HD53.out rfl) (fun hb w' hw' => ?_) ?_
  · subst hb
    try simp only [mb_true]
    go_simp
  simp only [Act.put, List.setIfInBounds_toArray, List.set_cons_zero, List.set_cons_succ]
  refine mb_runs c7 (.int .i64 k) (want_yes 53 62 c7 rfl HD53.out rfl) (fun hb w' hw' => ?_) ?_
  · subst hb
    try simp only [mb_true]
    have q0 := (HF.out w' hw').2.2.2.2.2.2.2.2
    go_simp
  simp only [Act.put, List.setIfInBounds_toArray, List.set_cons_zero, List.set_cons_succ]
  refine mb_runs c7 (.bool n4) (want_yes 53 62 c7 rfl HD53.out rfl) (fun hb w' hw' => ?_) ?_
  · subst hb
    try simp only [mb_true]
    rw [← HN4.out]
    go_simp
    rfl
  simp only [Act.put, List.setIfInBounds_toArray, List.set_cons_zero, List.set_cons_succ]
  refine mb_runs c7 (.bool n4) (want_yes 53 62 c7 rfl HD53.out rfl) (fun hb w' hw' => ?_) ?_
  · subst hb
    try simp only [mb_true]
    go_simp
  simp only [Act.put, List.setIfInBounds_toArray, List.set_cons_zero, List.set_cons_succ]
  refine mb_runs (c7 && !n4) (.pointer (some ⟨w.heap.size, 6, none⟩)) (want_mb_no 57 66 c7 n4 rfl HD57.out rfl) (fun hb w' hw' => ?_) ?_
  · simp only [Bool.and_eq_true, Bool.not_eq_true'] at hb
    obtain ⟨hb1, hb2⟩ := hb
    subst hb1 hb2
    try simp only [mb_true, Bool.true_and, Bool.and_true, Bool.not_false, Bool.not_true]
    go_simp
  simp only [Act.put, List.setIfInBounds_toArray, List.set_cons_zero, List.set_cons_succ]
  refine mb_runs (c7 && !n4) (.int .i64 v) (want_mb_no 57 66 c7 n4 rfl HD57.out rfl) (fun hb w' hw' => ?_) ?_
  · simp only [Bool.and_eq_true, Bool.not_eq_true'] at hb
    obtain ⟨hb1, hb2⟩ := hb
    subst hb1 hb2
    try simp only [mb_true, Bool.true_and, Bool.and_true, Bool.not_false, Bool.not_true]
    have q0 := (HF.out w' hw').2.2.2.2.2.2.1
    go_simp
  simp only [Act.put, List.setIfInBounds_toArray, List.set_cons_zero, List.set_cons_succ]
  refine mb_calls (c7 && !n4) 80 #[.int .i64 v] (.bool (pickB v)) (want_mb_no 57 66 c7 n4 rfl HD57.out rfl) (fun hb w' hw' => ?_) (fun hb w' hw' => ?_) ?_
  · simp only [Bool.and_eq_true, Bool.not_eq_true'] at hb
    obtain ⟨hb1, hb2⟩ := hb
    subst hb1 hb2
    try simp only [mb_true, Bool.true_and, Bool.and_true, Bool.not_false, Bool.not_true]
    go_simp
  · exact HP.out v w' hw'
  simp only [Act.put, List.setIfInBounds_toArray, List.set_cons_zero, List.set_cons_succ]
  refine mb_runs c7 (.bool bp) (want_yes 53 62 c7 rfl HD53.out rfl) (fun hb w' hw' => ?_) ?_
  · subst hb
    try simp only [mb_true]
    rw [← HBP.out]
    cases n4 <;> (simp only [mb_true, mb_false, Bool.true_and, Bool.not_true, Bool.not_false]; go_simp)
  simp only [Act.put, List.setIfInBounds_toArray, List.set_cons_zero, List.set_cons_succ]
  refine quiet_runs (.bool c8) (wanted_none rfl) (fun w' hw' => ?_) ?_
  · rw [← HC8.out]
    cases c7 <;> (try simp only [mb_true, mb_false]; go_simp)
  simp only [Act.put, List.setIfInBounds_toArray, List.set_cons_zero, List.set_cons_succ]
  refine quiet_runs (.bool c8) (wanted_none rfl) (fun w' hw' => ?_) ?_
  · go_simp
  simp only [Act.put, List.setIfInBounds_toArray, List.set_cons_zero, List.set_cons_succ]
  refine wpQuiet_nil ?_
  intro w9 hw9
  have HB9 := hidIn (HBV.out.trans (hw9.mono HBV.out.size))
  have HR : Hid (res = c8) := by unfold Hid; rw [HFE.out, ← HC8.out, ← HBP.out, ← HN4.out, ← HC7.out, ← HBT.out, ← HNB.out, ← HC6.out, ← HC5.out, ← HC4.out, ← HC3.out, ← HC2.out, ← HC1.out, ← HC0.out]
  go_wp2_with fail
  go_ret
  exact ⟨by rw [HR.out]; rfl, HB9.out⟩

end Go.Proofs.YtkioolbjmcpjpaaGreatDoor.Ev
