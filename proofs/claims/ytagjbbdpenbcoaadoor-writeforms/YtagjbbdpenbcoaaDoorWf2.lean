/- The walk of the statement WriteForms. -/
import Derived.Test.YtagjbbdpenbcoaaDoorWf1
namespace Go.Proofs.YtagjbbdpenbcoaaDoor
open Go.RowKit
set_option linter.unusedVariables false

/-- A tree that stands in memory. -/
def trF (t : T) (v : Value) (w : World) : Prop := TIn w 0 t v
theorem trF_stays (t : T) : ∀ u w w', Up w w' → trF t u w → trF t u w' := fun u w w' h ht => TIn.below ht h
theorem fine_text {c : C} (h : chkC c = 0) (hs : (textC c).size ≤ 884) : wTextC c = textC c := by unfold wTextC; rw [if_pos h, if_neg (by omega)]
theorem fine_err {c : C} (h : chkC c = 0) (hs : (textC c).size ≤ 884) : wErrC c = 0 := by unfold wErrC; rw [if_pos h, if_neg (by omega)]
/-- A digit, as a text. -/
def dg (d : Nat) : ByteArray := ⟨#[UInt8.ofNat (48 + d)]⟩
theorem dg_cut : ∀ d, d < 10 → ((⟨#[48, 49, 50, 51, 52, 53, 54, 55, 56, 57]⟩ : ByteArray).extract d 10).extract 0 1 = dg d := by decide +kernel
def oD (d : Nat) : O := .mul (.fix ⟨#[195, 182, 108]⟩) (.neg (.const (-(d : Int))))
def wD (d : Nat) : ByteArray := if d = 0 then ⟨#[109, 117, 108, 40, 102, 105, 120, 40, 195, 182, 108, 41, 44, 110, 101, 103, 40, 48, 41, 41]⟩ else ⟨#[109, 117, 108, 40, 102, 105, 120, 40, 195, 182, 108, 41, 44, 110, 101, 103, 40, 45]⟩ ++ dg d ++ ⟨#[41, 41]⟩
theorem wD_text : ∀ d, d < 10 → textO (oD d) = wD d := by decide +kernel
theorem wD_size : ∀ d, d < 10 → (wD d).size ≤ 30 := by decide +kernel
theorem oD_form : ∀ d, d < 10 → formB (oD d) = true := by decide +kernel
theorem num1 : ∀ d : Nat, d < 10 → numT (d : Int) = dg d := by decide +kernel
theorem dg_size (d : Nat) : (dg d).size = 1 := rfl
/-- The contracts that the statement asks for. -/
def fmC (d : Nat) (x y : C) (i : Nat) : C :=
  if i = 0 then .zero else if i = 1 then .one ⟨#[101, 117, 114]⟩ else if i = 2 then .give x else if i = 3 then .and x y else if i = 4 then .or ⟨#[110, 101, 119]⟩ x y
  else if i = 5 then .when d y else if i = 6 then .scale (oD d) x else .iff (.max (oD d) (.add (.const 1) (oD d))) x y
/-- Their texts. -/
def fmS (d : Nat) (a b : ByteArray) (i : Nat) : ByteArray :=
  if i = 0 then ⟨#[122, 101, 114, 111]⟩ else if i = 1 then ⟨#[111, 110, 101, 40, 101, 117, 114, 41]⟩ else if i = 2 then ⟨#[103, 105, 118, 101, 40]⟩ ++ a ++ ⟨#[41]⟩ else if i = 3 then ⟨#[97, 110, 100, 40]⟩ ++ a ++ ⟨#[44]⟩ ++ b ++ ⟨#[41]⟩
  else if i = 4 then ⟨#[111, 114, 40, 110, 101, 119, 44]⟩ ++ a ++ ⟨#[44]⟩ ++ b ++ ⟨#[41]⟩ else if i = 5 then ⟨#[119, 104, 101, 110, 40]⟩ ++ dg d ++ ⟨#[44]⟩ ++ b ++ ⟨#[41]⟩
  else if i = 6 then ⟨#[115, 99, 97, 108, 101, 40]⟩ ++ wD d ++ ⟨#[44]⟩ ++ a ++ ⟨#[41]⟩ else ⟨#[105, 102, 40, 109, 97, 120, 40]⟩ ++ wD d ++ ⟨#[44, 97, 100, 100, 40, 49, 44]⟩ ++ wD d ++ ⟨#[41, 41, 44]⟩ ++ a ++ ⟨#[44]⟩ ++ b ++ ⟨#[41]⟩
theorem fm8 (i : Nat) (h : i < 8) : i = 0 ∨ i = 1 ∨ i = 2 ∨ i = 3 ∨ i = 4 ∨ i = 5 ∨ i = 6 ∨ i = 7 := by omega
theorem bapp (a b : ByteArray) : (a ++ b).data.toList = a.data.toList ++ b.data.toList := by simp
theorem fm_text (d : Nat) (hd : d < 10) (x y : C) (i : Nat) (h : i < 8) : textC (fmC d x y i) = fmS d (textC x) (textC y) i := by
  rcases fm8 i h with rfl | rfl | rfl | rfl | rfl | rfl | rfl | rfl
  · rfl
  · show textC (.one _) = _; apply baExt; simp only [textC, joinL_1]; rfl
  · show textC (.give x) = ⟨#[103, 105, 118, 101, 40]⟩ ++ textC x ++ ⟨#[41]⟩; apply baExt; simp only [textC, joinL_1, bapp, List.append_assoc]; rfl
  · show textC (.and x y) = ⟨#[97, 110, 100, 40]⟩ ++ textC x ++ ⟨#[44]⟩ ++ textC y ++ ⟨#[41]⟩; apply baExt; simp only [textC, joinL_2, bapp, List.append_assoc]; rfl
  · show textC (.or _ x y) = ⟨#[111, 114, 40, 110, 101, 119, 44]⟩ ++ textC x ++ ⟨#[44]⟩ ++ textC y ++ ⟨#[41]⟩; apply baExt; simp only [textC, joinL_3, bapp, List.append_assoc]; rfl
  · show textC (.when d y) = ⟨#[119, 104, 101, 110, 40]⟩ ++ dg d ++ ⟨#[44]⟩ ++ textC y ++ ⟨#[41]⟩; apply baExt; simp only [textC, joinL_2, bapp, List.append_assoc, num1 d hd]; rfl
  · show textC (.scale (oD d) x) = ⟨#[115, 99, 97, 108, 101, 40]⟩ ++ wD d ++ ⟨#[44]⟩ ++ textC x ++ ⟨#[41]⟩; apply baExt; rw [textC, wD_text d hd, joinL_2]; simp only [bapp, List.append_assoc]; rfl
  · show textC (.iff (.max (oD d) (.add (.const 1) (oD d))) x y) = ⟨#[105, 102, 40, 109, 97, 120, 40]⟩ ++ wD d ++ ⟨#[44, 97, 100, 100, 40, 49, 44]⟩ ++ wD d ++ ⟨#[41, 41, 44]⟩ ++ textC x ++ ⟨#[44]⟩ ++ textC y ++ ⟨#[41]⟩
    have e1 : numT 1 = ⟨#[49]⟩ := by decide +kernel
    apply baExt; rw [textC, textO, textO, textO, wD_text d hd, e1, joinL_3, joinL_2, joinL_2]; simp only [bapp, List.append_assoc, List.cons_append, List.nil_append]
theorem oel_form : nameGo 0 (runesOf ⟨#[195, 182, 108]⟩) = true := by decide +kernel
theorem eur_form : nameGo 0 (runesOf ⟨#[101, 117, 114]⟩) = true := by decide +kernel
theorem new_form : nameGo 0 (runesOf ⟨#[110, 101, 119]⟩) = true := by decide +kernel
theorem fm_form (d : Nat) (hd : d < 10) (x y : C) (hx : formC x = true) (hy : formC y = true) (i : Nat) (h : i < 8) : formC (fmC d x y i) = true := by
  have ho := oD_form d hd
  have hv : vB 1 = true := by decide
  have hdd : dayB (d : Int) = true := by unfold dayB; simp; omega
  rcases fm8 i h with rfl | rfl | rfl | rfl | rfl | rfl | rfl | rfl
  · rfl
  · exact eur_form
  · exact hx
  · show (formC x && formC y) = true; rw [hx, hy]; rfl
  · show (nameGo 0 (runesOf ⟨#[110, 101, 119]⟩) && formC x && formC y) = true; rw [hx, hy, new_form]; rfl
  · show (dayB (d : Int) && formC y) = true; rw [hdd, hy]; rfl
  · show (formB (oD d) && formC x) = true; rw [ho, hx]; rfl
  · show ((formB (oD d) && (vB 1 && formB (oD d))) && formC x && formC y) = true; rw [ho, hv, hx, hy]; rfl
theorem oD_ok (d : Nat) (hd : d < 10) : (oD d).Ok := ⟨by show (⟨#[195, 182, 108]⟩ : ByteArray).size ≤ _; decide, by show _ ∧ _; omega⟩
theorem fm_ok (d : Nat) (hd : d < 10) (x y : C) (hx : x.Ok) (hy : y.Ok) (i : Nat) (h : i < 8) : (fmC d x y i).Ok := by
  have ho := oD_ok d hd
  rcases fm8 i h with rfl | rfl | rfl | rfl | rfl | rfl | rfl | rfl
  · trivial
  · show (⟨#[101, 117, 114]⟩ : ByteArray).size ≤ _; decide
  · exact hx
  · exact ⟨hx, hy⟩
  · exact ⟨by show (⟨#[110, 101, 119]⟩ : ByteArray).size ≤ _; decide, hx, hy⟩
  · exact ⟨⟨by omega, by omega⟩, hy⟩
  · exact ⟨ho, hx⟩
  · exact ⟨⟨ho, ⟨by decide, by decide⟩, ho⟩, hx, hy⟩
theorem fm_weight (d : Nat) (x y : C) (hx : x.weight ≤ 630) (hy : y.weight ≤ 630) (i : Nat) (h : i < 8) : (fmC d x y i).weight ≤ 1000000 := by
  rcases fm8 i h with rfl | rfl | rfl | rfl | rfl | rfl | rfl | rfl <;> simp [fmC, C.weight, oD, O.nodes] <;> omega
theorem fm_out (d : Nat) (hd : d < 10) (x y : C) (hx : formC x = true) (hy : formC y = true) (i : Nat) (h : i < 8) :
    (wErrC (fmC d x y i) = 0 ∧ wTextC (fmC d x y i) = fmS d (textC x) (textC y) i) ∨ (wErrC (fmC d x y i) = 4 ∧ wTextC (fmC d x y i) = ⟨#[]⟩) ∨ (wErrC (fmC d x y i) = 5 ∧ wTextC (fmC d x y i) = ⟨#[]⟩) := by
  have hf := fm_form d hd x y hx hy i h
  have ht := fm_text d hd x y i h
  generalize fmC d x y i = c at *
  have hk : chkC c = 0 ∨ chkC c = 4 ∨ chkC c = 5 := by
    unfold chkC
    rw [if_pos hf]
    split
    · exact .inr (.inr rfl)
    · split
      · exact .inr (.inl rfl)
      · exact .inl rfl
  unfold wErrC wTextC
  rcases hk with e | e | e
  · rw [e, if_pos rfl, if_pos rfl]
    by_cases hs : 1000 < (textC c).size
    · rw [if_pos hs, if_pos hs]; exact .inr (.inr ⟨rfl, rfl⟩)
    · rw [if_neg hs, if_neg hs]; exact .inl ⟨rfl, ht⟩
  · rw [e, if_neg (by decide), if_neg (by decide)]; exact .inr (.inl ⟨rfl, rfl⟩)
  · rw [e, if_neg (by decide), if_neg (by decide)]; exact .inr (.inr ⟨rfl, rfl⟩)
/-- The value of the number, as it lies in its cell. -/
def oV (d : Nat) : Value := .iface 62 (.agg #[.iface 56 (.agg #[.string ⟨#[195, 182, 108]⟩]), .iface 60 (.agg #[.iface 58 (.agg #[.int .i64 (-(d : Int))])])])
/-- The cells of the list. -/
def fmL (d : Nat) (vx vy : Value) (a b : ByteArray) : Array Value := #[.iface 64 (.agg #[]), .string ⟨#[122, 101, 114, 111]⟩, .iface 44 (.agg #[.string ⟨#[101, 117, 114]⟩]), .string ⟨#[111, 110, 101, 40, 101, 117, 114, 41]⟩,
  .iface 67 (.agg #[vx]), .string (⟨#[103, 105, 118, 101, 40]⟩ ++ a ++ ⟨#[41]⟩), .iface 46 (.agg #[vx, vy]), .string (⟨#[97, 110, 100, 40]⟩ ++ a ++ ⟨#[44]⟩ ++ b ++ ⟨#[41]⟩),
  .iface 69 (.agg #[.string ⟨#[110, 101, 119]⟩, vx, vy]), .string (⟨#[111, 114, 40, 110, 101, 119, 44]⟩ ++ a ++ ⟨#[44]⟩ ++ b ++ ⟨#[41]⟩),
  .iface 71 (.agg #[.int .i64 d, vy]), .string (⟨#[119, 104, 101, 110, 40]⟩ ++ dg d ++ ⟨#[44]⟩ ++ b ++ ⟨#[41]⟩),
  .iface 73 (.agg #[oV d, vx]), .string (⟨#[115, 99, 97, 108, 101, 40]⟩ ++ wD d ++ ⟨#[44]⟩ ++ a ++ ⟨#[41]⟩),
  .iface 77 (.agg #[.iface 75 (.agg #[oV d, .iface 74 (.agg #[.iface 58 (.agg #[.int .i64 1]), oV d])]), vx, vy]), .string (⟨#[105, 102, 40, 109, 97, 120, 40]⟩ ++ wD d ++ ⟨#[44, 97, 100, 100, 40, 49, 44]⟩ ++ wD d ++ ⟨#[41, 41, 44]⟩ ++ a ++ ⟨#[44]⟩ ++ b ++ ⟨#[41]⟩)]
theorem fmL_get (d : Nat) (x y : C) (a b : ByteArray) (i : Nat) (h : i < 8) : (fmL d x.val y.val a b)[i * 2]? = some (fmC d x y i).val ∧ (fmL d x.val y.val a b)[i * 2 + 1]? = some (.string (fmS d a b i)) := by
  rcases fm8 i h with rfl | rfl | rfl | rfl | rfl | rfl | rfl | rfl <;> exact ⟨rfl, rfl⟩

set_option maxHeartbeats 8000000 in
set_option maxRecDepth 100000 in
theorem writeForms_walk (day : Int) (p q : Pl) (w : World) (h1 : -9223372036854775808 ≤ day) (h2 : day ≤ 9223372036854775807) (hp : PlanIn w p) (hq : PlanIn w q) (ht : TabW w) :
    Calls Tryd.prog 6 #[.int .i64 day, planV p, planV q] w fun e w' => e = .returned (.bool true) ∧ Below w.heap.size w w' := by
  have HP := hidIn hp
  have HQ := hidIn hq
  have HTB := hidIn ht
  obtain ⟨d, hd⟩ : ∃ d : Nat, day % 10 = d := ⟨(day % 10).toNat, by omega⟩
  have hd10 : d < 10 := by omega
  clear hp hq ht
  unfold planV
  go_enter Tryd.func6, Tryd.ntmps6
  go_upto_region 1 with fail
  obtain ⟨W, hW⟩ : ∃ W, W = (w.alloc (.cells #[.slice p.na p.nl p.nc, .slice p.wa p.wl p.wc] 25)).alloc (.cells #[.slice q.na q.nl q.nc, .slice q.wa q.wl q.wc] 25) := ⟨_, rfl⟩
  have HB : Hid (Below w.heap.size w W) := by rw [hW]; exact below_alloc (below_alloc (Below.refl _ _) _) _
  have HBP : Hid (Blk W w.heap.size 25 #[.slice p.na p.nl p.nc, .slice p.wa p.wl p.wc]) := by rw [hW]; exact blk_keep (blk_new rfl) _
  have HBQ : Hid (Blk W (w.heap.size + 1) 25 #[.slice q.na q.nl q.nc, .slice q.wa q.wl q.wc]) := by rw [hW]; exact blk_new (by simp)
  have HPW := hidIn (HP.out.below HB.out)
  have HQW := hidIn (HQ.out.below HB.out)
  have HTX : Hid (∀ X, Below W.heap.size W X → TabW X) := fun X hX => tabW_below HTB.out (HB.out.trans (hX.mono HB.out.size))
  have HF : Hid (∀ X, Below W.heap.size W X → (X.cell? ⟨w.heap.size, 0, none⟩ = some (.slice p.na p.nl p.nc) ∧ X.cell? ⟨w.heap.size, 1, none⟩ = some (.slice p.wa p.wl p.wc)) ∧ X.cell? ⟨w.heap.size + 1, 0, none⟩ = some (.slice q.na q.nl q.nc) ∧ X.cell? ⟨w.heap.size + 1, 1, none⟩ = some (.slice q.wa q.wl q.wc)) := fun X hX => by
    have h1 := HBP.out.below hX HBP.out.lt
    have h2 := HBQ.out.below hX HBQ.out.lt
    exact ⟨⟨h1.cell 0, h1.cell 1⟩, h2.cell 0, h2.cell 1⟩
  rw [← hW]
  clear hW HBP HBQ
  refine wp_region_grow (fun w' => Below W.heap.size W w') Up (modes [one (.agg #[.slice p.na p.nl p.nc, .slice p.wa p.wl p.wc]), loose (trF (plainC (rightP p))), one ((rightP p).val), one (.agg #[.slice q.na q.nl q.nc, .slice q.wa q.wl q.wc]), loose (trF (plainC (rightP q))), one ((rightP q).val), one ((rightP p).val), one ((rightP q).val)]) (by kernel_rfl) (by kernel_rfl) (up_class _) (below_drew (Below.refl _ _)) ?_
  generalize hops : (#[_, _, _, _, _, _, _, _] : Array Oper) = ops
  clear hops
  refine g_runs (.agg #[.slice p.na p.nl p.nc, .slice p.wa p.wl p.wc]) grow_end Up.refl rfl (wanted_none rfl) (by intro d hd w; cases hd; exact trivial) (fun w' hw' => ?_) ?_
  · obtain ⟨⟨f0, f1⟩, f2, f3⟩ := HF.out w' hw'
    go_simp
  simp only [Act.put, List.setIfInBounds_toArray, List.set_cons_zero, List.set_cons_succ]
  refine g_loose 8 #[.agg #[.slice p.na p.nl p.nc, .slice p.wa p.wl p.wc]] (trF (plainC (rightP p))) rfl (trF_stays _) (wanted_none rfl) (fun w' hw' => ?_) (fun w' hw' hk => ?_) (fun u21 => ?_)
  · go_simp
  · refine (right_any p w' (HPW.out.below hw')).mono ?_
    rintro e w3 ⟨v3, rfl, h3, hb3⟩
    exact ⟨v3, rfl, hb3, h3.low (Nat.zero_le _)⟩
  simp only [Act.put, List.setIfInBounds_toArray, List.set_cons_zero, List.set_cons_succ]
  refine g_calls 7 #[u21] ((rightP p).val) grow_end rfl (wanted_none rfl) (by intro d hd w; cases hd; exact trivial) (fun w' hw' => ?_) (fun w' hw' hk => ?_) ?_
  · go_simp
  · have h21 : trF (plainC (rightP p)) u21 w' := hk 21 (looks_at (by simp [Op.operands, Call.operands]))
    refine (termP_any (rightP p) (rightP_whole p) w' _ 0 h21).mono ?_
    rintro e w3 ⟨rfl, hb3⟩
    exact ⟨rfl, hb3⟩
  simp only [Act.put, List.setIfInBounds_toArray, List.set_cons_zero, List.set_cons_succ]
  refine g_runs (.agg #[.slice q.na q.nl q.nc, .slice q.wa q.wl q.wc]) grow_end Up.refl rfl (wanted_none rfl) (by intro d hd w; cases hd; exact trivial) (fun w' hw' => ?_) ?_
  · obtain ⟨⟨f0, f1⟩, f2, f3⟩ := HF.out w' hw'
    go_simp
  simp only [Act.put, List.setIfInBounds_toArray, List.set_cons_zero, List.set_cons_succ]
  refine g_loose 8 #[.agg #[.slice q.na q.nl q.nc, .slice q.wa q.wl q.wc]] (trF (plainC (rightP q))) rfl (trF_stays _) (wanted_none rfl) (fun w' hw' => ?_) (fun w' hw' hk => ?_) (fun u24 => ?_)
  · go_simp
  · refine (right_any q w' (HQW.out.below hw')).mono ?_
    rintro e w3 ⟨v3, rfl, h3, hb3⟩
    exact ⟨v3, rfl, hb3, h3.low (Nat.zero_le _)⟩
  simp only [Act.put, List.setIfInBounds_toArray, List.set_cons_zero, List.set_cons_succ]
  refine g_calls 7 #[u24] ((rightP q).val) grow_end rfl (wanted_none rfl) (by intro d hd w; cases hd; exact trivial) (fun w' hw' => ?_) (fun w' hw' hk => ?_) ?_
  · go_simp
  · have h24 : trF (plainC (rightP q)) u24 w' := hk 24 (looks_at (by simp [Op.operands, Call.operands]))
    refine (termP_any (rightP q) (rightP_whole q) w' _ 0 h24).mono ?_
    rintro e w3 ⟨rfl, hb3⟩
    exact ⟨rfl, hb3⟩
  simp only [Act.put, List.setIfInBounds_toArray, List.set_cons_zero, List.set_cons_succ]
  refine g_runs ((rightP p).val) grow_end Up.refl rfl (wanted_none rfl) (by intro d hd w; cases hd; exact trivial) (fun w' hw' => ?_) ?_
  · go_simp
  simp only [Act.put, List.setIfInBounds_toArray, List.set_cons_zero, List.set_cons_succ]
  refine g_runs ((rightP q).val) grow_end Up.refl rfl (wanted_none rfl) (by intro d hd w; cases hd; exact trivial) (fun w' hw' => ?_) ?_
  · go_simp
  simp only [Act.put, List.setIfInBounds_toArray, List.set_cons_zero, List.set_cons_succ]
  refine g_nil ?_
  intro w9 hw9 hk9
  have HX9 := hidIn hw9
  clear hw9 hk9
  have HX1F := hidIn (rightP_fine p)
  have HX2F := hidIn (rightP_fine q)
  have HA1 := hidIn (cwhole_ok _ (rightP_whole p))
  have HA2 := hidIn (cwhole_ok _ (rightP_whole q))
  have HW1 := hidIn (rightP_weight p)
  have HW2 := hidIn (rightP_weight q)
  obtain ⟨x, hx⟩ : ∃ x, rightP p = x := ⟨_, rfl⟩
  obtain ⟨y, hy⟩ : ∃ y, rightP q = y := ⟨_, rfl⟩
  rw [hx] at HX1F HA1 HW1
  rw [hy] at HX2F HA2 HW2
  rw [hx, hy]
  clear hx hy HF HPW HQW HP HQ HTB
  have HWA : Hid (∀ w, TabW w → Calls Tryd.prog 9 #[x.val] w fun e w' => e = .returned (.tuple #[.string (textC x), .int .i64 0]) ∧ Below w.heap.size w w') := fun w hw => by
    have h := writeC_any x HA1.out (by have := HW1.out; omega) w hw
    rw [fine_text HX1F.out.1 HX1F.out.2, fine_err HX1F.out.1 HX1F.out.2] at h
    exact h
  have HWB : Hid (∀ w, TabW w → Calls Tryd.prog 9 #[y.val] w fun e w' => e = .returned (.tuple #[.string (textC y), .int .i64 0]) ∧ Below w.heap.size w w') := fun w hw => by
    have h := writeC_any y HA2.out (by have := HW2.out; omega) w hw
    rw [fine_text HX2F.out.1 HX2F.out.2, fine_err HX2F.out.1 HX2F.out.2] at h
    exact h
  have qx := x.one' HA1.out
  have qy := y.one' HA2.out
  have hsa := HX1F.out.2
  have hsb := HX2F.out.2
  obtain ⟨ta, hta⟩ : ∃ t, textC x = t := ⟨_, rfl⟩
  obtain ⟨tb, htb⟩ : ∃ t, textC y = t := ⟨_, rfl⟩
  obtain ⟨vx, hvx⟩ : ∃ v, x.val = v := ⟨_, rfl⟩
  obtain ⟨vy, hvy⟩ : ∃ v, y.val = v := ⟨_, rfl⟩
  have HTA := hidIn hta
  have HTB2 := hidIn htb
  have HVX := hidIn hvx
  have HVY := hidIn hvy
  rw [hta] at hsa HWA
  rw [htb] at hsb HWB
  rw [hvx] at qx HWA
  rw [hvy] at qy HWB
  rw [hvx, hvy]
  clear hta htb hvx hvy
  have sx := qx.store
  have cx := qx.cells
  have mx := qx.cells
  unfold Value.cells at mx
  have sy := qy.store
  have cy := qy.cells
  have my := qy.cells
  unfold Value.cells at my
  clear qx qy
  go_upto_region 3 with fail
  refine (HWA.out w9 (HTX.out _ HX9.out)).mono ?_
  rintro e x1 ⟨rfl, hb1⟩
  have HX1 := hidIn (HX9.out.trans (hb1.mono HX9.out.size))
  clear hb1
  go_upto_region 4 with fail
  refine (HWB.out x1 (HTX.out _ HX1.out)).mono ?_
  rintro e x2 ⟨rfl, hb2⟩
  have HX2 := hidIn (HX1.out.trans (hb2.mono HX1.out.size))
  clear hb2
  go_upto_region 7 with fail
  refine calls_same (within_any _ 10 _ (by omega) (by omega) h1 h2) ?_
  rw [hd]
  clear h1 h2 hd
  go_upto_region 8 with fail
  rw [dg_cut d hd10]
  have hdg := dg_size d
  have hwd := wD_size d hd10
  have HWD0 : Hid (∀ e, d = 0 → e = ⟨#[109, 117, 108, 40, 102, 105, 120, 40, 195, 182, 108, 41, 44, 110, 101, 103, 40, 48, 41, 41]⟩ → e = wD d) := fun e h0 he => by unfold wD; rw [if_pos h0, he]
  have HWD1 : Hid (¬ d = 0 → ⟨#[109, 117, 108, 40, 102, 105, 120, 40, 195, 182, 108, 41, 44, 110, 101, 103, 40, 45]⟩ ++ dg d ++ ⟨#[41, 41]⟩ = wD d) := fun h0 => by unfold wD; rw [if_neg h0]
  have HLG : Hid (∀ i, i < 8 → (fmL d x.val y.val ta tb)[i * 2]? = some (fmC d x y i).val ∧ (fmL d x.val y.val ta tb)[i * 2 + 1]? = some (.string (fmS d ta tb i))) := fun i hi => fmL_get d x y ta tb i hi
  have HLL : Hid (fmL d x.val y.val ta tb = fmL d vx vy ta tb) := by show _ = _; rw [HVX.out, HVY.out]
  unfold fmL oV at HLL
  have HLX : Hid (fmL d x.val y.val ta tb = _) := HLL.out
  clear HLL
  obtain ⟨D, hD⟩ : ∃ D, dg d = D := ⟨_, rfl⟩
  rw [hD] at HWD1 hdg HLX
  rw [hD]
  clear hD
  go_upto_if 60 with fail
  obtain ⟨XO, hXO⟩ : ∃ XO, XO = x2.alloc (.cells #[.iface 56 (.agg #[.string ⟨#[195, 182, 108]⟩]), .iface 60 (.agg #[.iface 58 (.agg #[.int .i64 (-(d : Int))])])] 62) := ⟨_, rfl⟩
  have HXO : Hid (Below x2.heap.size x2 XO) := by rw [hXO]; exact below_alloc (Below.refl _ _) _
  have HKO : Hid (Blk XO x2.heap.size 62 #[.iface 56 (.agg #[.string ⟨#[195, 182, 108]⟩]), .iface 60 (.agg #[.iface 58 (.agg #[.int .i64 (-(d : Int))])])]) := by rw [hXO]; exact blk_new rfl
  rw [← hXO]
  clear hXO
  go_cut [15] (fun s15 wx => s15 = .string (wD d) ∧ XO = wx)
  case first =>
    by_cases h0 : d = 0
    · have h0' : (d : Int) = 0 := by omega
      have HE0 := hidIn (HWD0.out _ h0 rfl)
      clear h0
      go_wp2_with fail
      go_meet
      case rel => exact ⟨by rw [← HE0.out], rfl⟩
    · have h0' : ¬ (d : Int) = 0 := by omega
      have HE0 := hidIn (HWD1.out h0)
      clear h0
      go_wp2_with fail
      go_meet
      case rel => exact ⟨by rw [HE0.out], rfl⟩
  case rest =>
    obtain ⟨rfl, rfl⟩ := hcut
    have o0 := HKO.out.cell 0
    have o1 := HKO.out.cell 1
    simp at o0 o1
    obtain ⟨E, hE⟩ : ∃ E, wD d = E := ⟨_, rfl⟩
    rw [hE] at hwd HLX
    rw [hE]
    clear hE HWD0 HWD1
    have hap : ∀ a b : ByteArray, (a ++ b).size = a.size + b.size := fun a b => ByteArray.size_append
    go_wp2_with fail
    obtain ⟨WL, hWL⟩ : ∃ WL, WL = XO.alloc (.cells (fmL d x.val y.val ta tb) 65) := ⟨_, rfl⟩
    have HWL : Hid (Below XO.heap.size XO WL) := by rw [hWL]; exact below_alloc (Below.refl _ _) _
    have HKL : Hid (Blk WL XO.heap.size 65 (fmL d x.val y.val ta tb)) := by rw [hWL]; exact blk_new rfl
    rw [HLX.out] at hWL
    rw [← hWL]
    clear hWL HLX o0 o1
    have HBL : Hid (Below W.heap.size W WL) := by
      have h := HXO.out.trans (HWL.out.mono HXO.out.size)
      exact HX2.out.trans (h.mono HX2.out.size)
    clear HKO HXO HWL
    go_loopw [148] (fun s148 wr => ∃ i : Nat, i ≤ 8 ∧ s148 = .int .i64 i ∧ Below WL.heap.size WL wr) (fun s148 _ => 8 - (intOf s148).toNat)
    case atStart => exact ⟨0, by omega, rfl, Below.refl _ _⟩
    case round =>
      obtain ⟨i, hi, rfl, hbr⟩ := hrel
      have HBR := hidIn hbr
      by_cases hlt : i < 8
      · have hlt' : (i : Int) < 8 := by omega
        have hblk := HKL.out.below hbr HKL.out.lt
        have hx0 := (hblk.cell (i * 2)).trans (HLG.out i hlt).1
        have hx1 := (hblk.cell (i * 2 + 1)).trans (HLG.out i hlt).2
        have qv := (fmC d x y i).one' (fm_ok d hd10 x y HA1.out HA2.out i hlt)
        have HCK := hidIn (writeC_any (fmC d x y i) (fm_ok d hd10 x y HA1.out HA2.out i hlt) (fm_weight d x y HW1.out HW2.out i hlt))
        have HOUT := hidIn (fm_out d hd10 x y (chkC_zero HX1F.out.1).1 (chkC_zero HX2F.out.1).1 i hlt)
        rw [HTA.out, HTB2.out] at HOUT
        generalize (fmC d x y i).val = v1 at *
        generalize fmS d ta tb i = S1 at *
        generalize wTextC (fmC d x y i) = tx at *
        generalize wErrC (fmC d x y i) = en at *
        have sv := qv.store
        have cv := qv.cells
        have mv := qv.cells
        unfold Value.cells at mv
        have hlx : XO.heap.size < WL.heap.size := HKL.out.lt
        clear hbr hblk qv sx cx mx sy cy my
        go_upto_region 15 with fail
        obtain ⟨W2, hW2⟩ : ∃ W2, W2 = wr.alloc (.cells #[v1, .string S1] 65) := ⟨_, rfl⟩
        have HB2 : Hid (Below WL.heap.size WL W2) := by rw [hW2]; exact HBR.out.alloc HBR.out.size _
        have HK2 : Hid (Blk W2 wr.heap.size 65 #[v1, .string S1]) := by rw [hW2]; exact blk_new rfl
        have c0 : W2.cell? ⟨wr.heap.size, 0, none⟩ = some v1 := HK2.out.cell 0
        rw [← hW2]
        clear hW2 hx0 hx1
        go_upto_region 16 with fail
        have HTW2 : Hid (TabW W2) := HTX.out _ (HBL.out.trans (HB2.out.mono HBL.out.size))
        refine (HCK.out W2 HTW2.out).mono ?_
        rintro e w4 ⟨rfl, hb4⟩
        have HB4 := hidIn (HB2.out.trans (hb4.mono HB2.out.size))
        have c1 : w4.cell? ⟨wr.heap.size, 1, none⟩ = some (.string S1) := (HK2.out.below hb4 HK2.out.lt).cell 1
        clear hb4 c0
        rcases HOUT.out with ⟨rfl, rfl⟩ | ⟨rfl, rfl⟩ | ⟨rfl, rfl⟩
        all_goals
          go_wp2_with fail
          go_roundw
          case rel => exact ⟨i + 1, by omega, by go_num, HB4.out⟩
          case measure => simp [intOf]; omega
      · have hi8 : i = 8 := by omega
        subst hi8
        have HTW2 : Hid (TabW wr) := HTX.out _ (HBL.out.trans (HBR.out.mono HBL.out.size))
        go_wp2_with fail
        refine (wakes6_any wr HTW2.out).mono ?_
        rintro e w4 ⟨rfl, hb4⟩
        go_wp2_with fail
        go_ret
        have h3 := HBL.out.trans (HBR.out.mono HBL.out.size)
        have h4 := h3.trans (hb4.mono h3.size)
        exact ⟨rfl, HB.out.trans (h4.mono HB.out.size)⟩


end Go.Proofs.YtagjbbdpenbcoaaDoor
