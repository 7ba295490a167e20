/- A plan's right contract, as the statements make it. -/
import Derived.Test.YthhjcpmnekibnaaRt2
import Derived.Test.YthhjcpmnekibnaaRt3
import Derived.Test.YthhjcpmnekibnaaRefO
import Derived.Test.YthhjcpmnekibnaaRt1
import Derived.Test.YthhjcpmnekibnaaRefSame
import Derived.Test.YthhjcpmnekibnaaPlainC1
import Derived.Test.YthhjcpmnekibnaaPlainC2
import Derived.Test.YthhjcpmnekibnaaPlainO2
namespace Go.Proofs.Ythhjcpmnekibnaa
open Go.RowKit
set_option linter.unusedVariables false

theorem plainC_nodes (c : C) : (plainC c).nodes = c.nodes := by
  induction c with
  | scale o c ih => have := plain_nodes o; simp only [plainC, T.nodes, nodesL, C.nodes] at *; simp; omega
  | iff o l r h1 h2 => have := plain_nodes o; simp only [plainC, T.nodes, nodesL, C.nodes] at *; simp; omega
  | _ => simp_all [plainC, T.nodes, nodesL, C.nodes] <;> omega
theorem plainC_depth (c : C) : (plainC c).depth = c.depth := by
  induction c with
  | scale o c ih => have := plain_depth o; simp only [plainC, T.depth, depthL, C.depth] at *; simp; omega
  | iff o l r h1 h2 => have := plain_depth o; simp only [plainC, T.depth, depthL, C.depth] at *; simp; omega
  | _ => simp_all [plainC, T.depth, depthL, C.depth] <;> omega
theorem plainC_labs (c : C) : (plainC c).labs = c.labels := by
  induction c <;> simp_all [plainC, T.labs, labsL, C.labels, plain_labs]
theorem plainC_cnt (c : C) : (plainC c).cnt ≤ 3 * c.weight := by
  induction c with
  | scale o c ih => have := plain_cnt o; simp only [plainC, T.cnt, cntL, C.weight] at *; omega
  | iff o l r h1 h2 => have := plain_cnt o; simp only [plainC, T.cnt, cntL, C.weight] at *; omega
  | _ => simp only [plainC, T.cnt, cntL, C.weight] at * <;> omega
theorem plainC_sized (c : C) (h : c.Ok) : (plainC c).Sized := by
  have he : (⟨#[]⟩ : ByteArray).size ≤ 2147483648 := by decide
  induction c with
  | zero => simp only [plainC, T.Sized, SizedL]; exact ⟨he, trivial⟩
  | one s => simp only [plainC, T.Sized, SizedL]; exact ⟨h, trivial⟩
  | odd v => simp only [plainC, T.Sized, SizedL]; exact ⟨he, trivial⟩
  | give c h1 => simp only [plainC, T.Sized, SizedL]; exact ⟨he, h1 h, trivial⟩
  | and l r h1 h2 => simp only [plainC, T.Sized, SizedL]; exact ⟨he, h1 h.1, h2 h.2, trivial⟩
  | or s l r h1 h2 => simp only [plainC, T.Sized, SizedL]; exact ⟨h.1, h1 h.2.1, h2 h.2.2, trivial⟩
  | scale o c h1 => simp only [plainC, T.Sized, SizedL]; exact ⟨he, plain_sized o h.1, h1 h.2, trivial⟩
  | when d c h1 => simp only [plainC, T.Sized, SizedL]; exact ⟨he, h1 h.2, trivial⟩
  | iff o l r h1 h2 => simp only [plainC, T.Sized, SizedL]; exact ⟨he, plain_sized o h.1, h1 h.2.1, h2 h.2.2, trivial⟩
theorem plainC_form (c : C) : formT (plainC c) false = formC c := by
  induction c <;> simp_all [plainC, formT, formTL, headOk, partB, formC, plain_form, Bool.and_assoc]
theorem plainC_chk (c : C) : chkT (plainC c) false = chkC c := by
  unfold chkT chkC
  rw [plainC_form, plainC_nodes, plainC_depth, plainC_labs]
theorem refCheckC_any (c : C) (hok : c.Ok) (hw : c.weight ≤ 300000) (w : World) (v : Value) (B : Nat) (ht : TIn w B (plainC c) v) : Calls Try.prog 24 #[v, .bool false] w fun e w' => e = .returned (.int .i64 (chkC c)) ∧ Below w.heap.size w w' := by
  have h := refCheck_any (plainC c) (plainC_sized c hok) (by have := plainC_cnt c; omega) (by rw [plainC_nodes]; have := weight_nodes c; omega) false w v (ht.low (Nat.zero_le _))
  rw [plainC_chk] at h
  exact h
/-- The right contract of a plan. -/
def rightP (p : Pl) : C := if chkC (conP p) = 0 then conP p else .one ⟨#[117, 115, 100]⟩
theorem rightP_whole (p : Pl) : (rightP p).whole := by
  unfold rightP
  split
  · exact conP_whole p
  · show (⟨#[117, 115, 100]⟩ : ByteArray).size ≤ _
    decide
theorem rightP_weight (p : Pl) : (rightP p).weight ≤ 630 := by
  unfold rightP
  split
  · exact conP_weight p
  · simp [C.weight]

set_option maxHeartbeats 1000000 in
set_option maxRecDepth 100000 in
theorem right_any (p : Pl) (w : World) (h : PlanIn w p) : Calls Try.prog 14 #[planV p] w fun e w' => ∃ v, e = .returned v ∧ TIn w' w.heap.size (plainC (rightP p)) v ∧ Below w.heap.size w w' := by
  unfold planV
  have HP := hidIn h
  have HOK := hidIn (cwhole_ok _ (conP_whole p))
  have HWT := hidIn (conP_weight p)
  have HRP : Hid (rightP p = if chkC (conP p) = 0 then conP p else .one ⟨#[117, 115, 100]⟩) := rfl
  clear h
  go_enter Try.func14, Try.ntmps14
  go_wp2_with fail
  obtain ⟨W, hW⟩ : ∃ W, W = (w.alloc (.cells #[.slice p.na p.nl p.nc, .slice p.wa p.wl p.wc] 25)).alloc (.cells #[.int .i64 0, .string ⟨#[]⟩, .int .i64 0, .slice none 0 0] 33) := ⟨_, rfl⟩
  have hWs : W.heap.size = w.heap.size + 2 := by rw [hW]; simp
  have HB : Hid (Below w.heap.size w W) := by rw [hW]; exact below_alloc (below_alloc (Below.refl _ _) _) _
  have HZ : Hid (Blk W (w.heap.size + 1) 33 zeroT) := by rw [hW]; exact blk_new (by simp)
  have HPW := hidIn (HP.out.below HB.out)
  have HWS := hidIn hWs
  rw [← hW]
  clear hW hWs
  refine (contract_any p W HPW.out).mono ?_
  rintro e w1 ⟨v, rfl, ht1, hb1⟩
  have ht1' := ht1
  obtain ⟨ka, kc, rfl, _, _, _⟩ := ht1'
  have HT1 := hidIn ht1
  have HB1 := hidIn hb1
  clear ht1 hb1
  generalize hC : conP p = c at *
  clear hC
  go_wp2_with fail
  obtain ⟨w2, hw2⟩ : ∃ w2, w2 = w1.alloc (.cells (four (plainC c) ka kc) 33) := ⟨_, rfl⟩
  have HB2 : Hid (Below W.heap.size W w2) := by rw [hw2]; exact below_alloc HB1.out _
  have HT2 : Hid (TIn w2 W.heap.size (plainC c) (.agg (four (plainC c) ka kc))) := by rw [hw2]; exact HT1.out.below (below_alloc (Below.refl _ _) _)
  have HK2 : Hid (Blk w2 w1.heap.size 33 (four (plainC c) ka kc)) := by rw [hw2]; exact blk_new rfl
  unfold four at hw2
  rw [← hw2]
  clear hw2 HT1
  refine (refCheckC_any c HOK.out (by have := HWT.out; omega) w2 _ _ HT2.out).mono ?_
  rintro e w3 ⟨rfl, hb3⟩
  have HB3 := hidIn (HB2.out.trans (hb3.mono HB2.out.size))
  have HT3 := hidIn (HT2.out.below hb3)
  have hk3 : Blk w3 w1.heap.size 33 (four (plainC c) ka kc) := HK2.out.below hb3 HK2.out.lt
  obtain ⟨q0, q1, q2, q3⟩ := four_cells hk3
  have HZ3 : Hid (Blk w3 (w.heap.size + 1) 33 zeroT) := HZ.out.below HB3.out HZ.out.lt
  obtain ⟨⟨z0, z1, z2, z3⟩, f0, f1, f2, f3⟩ := blk_zero HZ3.out
  have hne : ¬ w.heap.size + 1 = w1.heap.size := by have := HWS.out; have := HB1.out.size; omega
  have HBE : Hid (Below w.heap.size w w3) := HB.out.trans (HB3.out.mono HB.out.size)
  clear hb3 hk3 HK2 HT2
  by_cases h0 : chkC c = 0
  · have h0' : (chkC c == 0) = true := by simp [h0]
    have HR : Hid (rightP p = c) := by unfold Hid; rw [HRP.out, if_pos h0]
    rw [h0]
    clear h0
    go_wp2_with fail
    refine bodyPost_ret (results_cell_row rfl _ _ (w.heap.size + 1) 33 #[.int .i64 (plainC c).kind, .string (plainC c).s, .int .i64 (plainC c).n, .slice ka (plainC c).k.length kc] (0, 0) _ rfl (set4_blk HZ3.out _ _ _ _) Try.underlying33 rfl infoT) rfl ?_
    refine ⟨_, rfl, ?_, (((HBE.out.setCell (Nat.le_succ _) _).setCell (Nat.le_succ _) _).setCell (Nat.le_succ _) _).setCell (Nat.le_succ _) _⟩
    rw [HR.out]
    exact (HT3.out.set4 (R := w.heap.size + 1) (by have := HWS.out; omega) _ _ _ _).low (by have := HWS.out; omega)
  · have h0' : (chkC c == 0) = false := by rw [beq_eq_false_iff_ne]; exact h0
    have HR : Hid (rightP p = .one ⟨#[117, 115, 100]⟩) := by unfold Hid; rw [HRP.out, if_neg h0]
    go_wp2_with fail
    refine bodyPost_ret (results_cell_row rfl _ _ (w.heap.size + 1) 33 #[.int .i64 2, .string ⟨#[117, 115, 100]⟩, .int .i64 0, .slice none 0 0] (0, 0) _ rfl (set4_blk HZ3.out _ _ _ _) Try.underlying33 rfl infoT) rfl ?_
    refine ⟨_, rfl, ?_, (((HBE.out.setCell (Nat.le_succ _) _).setCell (Nat.le_succ _) _).setCell (Nat.le_succ _) _).setCell (Nat.le_succ _) _⟩
    rw [HR.out]
    exact tin_leaf _ _ _ _ _

end Go.Proofs.Ythhjcpmnekibnaa
namespace Go.Proofs.Ythhjcpmnekibnaa
open Go.RowKit
set_option linter.unusedVariables false

mutual
/-- The names of a tree's Fixes, in order. -/
def T.nams : T → List ByteArray
  | .mk kind s _ k => if kind = 12 then [s] else namsL k
def namsL : List T → List ByteArray
  | [] => []
  | t :: l => t.nams ++ namsL l
end
theorem namsL_snoc (l : List T) (k : T) : namsL (l ++ [k]) = namsL l ++ k.nams := by
  induction l with
  | nil => simp [namsL]
  | cons a l ih => simp [namsL, ih]
theorem nams_cnt : ∀ t : T, t.nams.length ≤ t.cnt := by
  intro t
  induction t using T.ind with
  | _ kind s n k ih =>
    have h : (namsL k).length ≤ cntL k := by
      induction k with
      | nil => simp [namsL]
      | cons a l ihl =>
        have h1 := ih a (by simp)
        have h2 := ihl (fun t ht => ih t (by simp [ht]))
        simp only [namsL, cntL, List.length_append]
        omega
    unfold T.nams T.cnt
    split
    · simp
    · omega
theorem namsL_cnt (l : List T) : (namsL l).length ≤ cntL l := by
  induction l with
  | nil => simp [namsL]
  | cons a l ih => have := nams_cnt a; simp only [namsL, cntL, List.length_append]; omega
/-- A new list of one text is a row of the call's own. -/
theorem own_one (w : World) (s : ByteArray) : (w.alloc (.cells #[.string s] 9)).ownsRow w.heap.size 9 1 (.slice (some ⟨w.heap.size, 0, none⟩) 1 1) [s].length (strCells [s]) := by
  refine ⟨by simp [strCells], .inr ⟨w.heap.size, 1, #[.string s], rfl, Nat.le_refl _, heap_alloc_new _ _, by simp, by unfold maxLen; omega, by simp, by simp [strCells]⟩⟩

end Go.Proofs.Ythhjcpmnekibnaa
namespace Go.Proofs.Ythhjcpmnekibnaa
open Go.RowKit
set_option linter.unusedVariables false

/-- A text is among the first of a list. -/
def inFirst (L : List ByteArray) (s : ByteArray) (j : Nat) : Bool := (L.take j).any (fun x => decide (x = s))
theorem inFirst_next (L : List ByteArray) (s : ByteArray) (j : Nat) (x : ByteArray) (h : L[j]? = some x) : inFirst L s (j + 1) = (inFirst L s j || decide (x = s)) := by
  unfold inFirst
  rw [take_more _ _ _ h, List.any_append]
  simp

theorem addAll_le (acc l : List ByteArray) : (addAll acc l).length ≤ acc.length + l.length := by
  induction l generalizing acc with
  | nil => simp [addAll]
  | cons x l ih =>
    have h1 := ih (addN acc x)
    have h2 := addN_length acc x
    have e : addAll acc (x :: l) = addAll (addN acc x) l := rfl
    rw [e]
    simp only [List.length_cons]
    omega

end Go.Proofs.Ythhjcpmnekibnaa
namespace Go.Proofs.Ythhjcpmnekibnaa
open Go.RowKit
set_option linter.unusedVariables false

theorem sameTr_mk (kind : Int) (s : ByteArray) (n : Int) (k : List T) (u : T) : sameTr (.mk kind s n k) u = (decide (kind ≠ 0) && (decide (kind = u.kind) && (decide (s = u.s) && (decide (n = u.n) && (decide (k.length = u.k.length) && sameTL k u.k))))) := by rw [sameTr]
theorem plain_same (a : O) : ∀ b, sameTr (plain a) (plain b) = sameO a b := by
  induction a with
  | const n => intro b; cases b <;> simp [plain, sameTr_mk, sameTL, sameO, T.kind, T.s, T.n, T.k] <;> (first | rfl | congr)
  | fix s => intro b; cases b <;> simp [plain, sameTr_mk, sameTL, sameO, T.kind, T.s, T.n, T.k] <;> (first | rfl | congr)
  | odd v => intro b; cases b <;> simp [plain, sameTr_mk, sameTL, sameO, T.kind, T.s, T.n, T.k]
  | neg o ih => intro b; cases b <;> simp [plain, sameTr_mk, sameTL, sameO, T.kind, T.s, T.n, T.k, ih]
  | add l r h1 h2 => intro b; cases b <;> simp [plain, sameTr_mk, sameTL, sameO, T.kind, T.s, T.n, T.k, h1, h2]
  | mul l r h1 h2 => intro b; cases b <;> simp [plain, sameTr_mk, sameTL, sameO, T.kind, T.s, T.n, T.k, h1, h2]
  | max l r h1 h2 => intro b; cases b <;> simp [plain, sameTr_mk, sameTL, sameO, T.kind, T.s, T.n, T.k, h1, h2]
theorem sameO_comm (a : O) : ∀ b, sameO a b = sameO b a := by
  induction a with
  | const n => intro b; cases b <;> simp [sameO, eq_comm]
  | fix s => intro b; cases b <;> simp [sameO, eq_comm]
  | odd v => intro b; cases b <;> simp [sameO]
  | neg o ih => intro b; cases b <;> simp [sameO, ih]
  | add l r h1 h2 => intro b; cases b <;> simp [sameO, h1, h2]
  | mul l r h1 h2 => intro b; cases b <;> simp [sameO, h1, h2]
  | max l r h1 h2 => intro b; cases b <;> simp [sameO, h1, h2]
theorem plain_nams (o : O) : (plain o).nams = o.all := by
  induction o <;> simp_all [plain, T.nams, namsL, O.all]
theorem plain_names (o : O) : addAll [] (plain o).nams = o.names := by rw [plain_nams]; rfl
theorem plain_chk (o : O) : chkT (plain o) true = chk o := by
  unfold chkT chk
  rw [plain_form, plain_nodes, plain_depth, plain_labs]
  simp [twice]
theorem plain_back (o : O) : plain (obsOf (plain o)) = plain o := by
  induction o with
  | const n => rfl
  | fix s => rfl
  | odd v => rfl
  | neg o ih => simp [plain, obsOf, obsL, ih]
  | add l r h1 h2 => simp [plain, obsOf, obsL, h1, h2]
  | mul l r h1 h2 => simp [plain, obsOf, obsL, h1, h2]
  | max l r h1 h2 => simp [plain, obsOf, obsL, h1, h2]

end Go.Proofs.Ythhjcpmnekibnaa
namespace Go.Proofs.Ythhjcpmnekibnaa
open Go.RowKit
set_option linter.unusedVariables false

def xopen (s : ByteArray) : XS := ⟨Rn.sgOf s, 0, ((runesOf s).length : Int) + 1, 0, 0⟩
def xend (x : XS) : XS := if x.e = 0 ∧ x.no < x.all.length then x.fail 2 else x
def noT : T := .mk 0 ⟨#[]⟩ 0 []
/-- What the document's Read answers. -/
def xread (s : ByteArray) (number : Bool) : T × Int × Int :=
  if 1000 < s.size then (noT, 0, 5) else if Rn.badOf s ≠ 0 then (noT, (Rn.badOf s : Int), 2)
  else if (xend (xtree 14 (xopen s) number 1).2).e ≠ 0 then (noT, (xend (xtree 14 (xopen s) number 1).2).bad, (xend (xtree 14 (xopen s) number 1).2).e)
  else if chkT (xtree 14 (xopen s) number 1).1 number ≠ 0 then (noT, 0, chkT (xtree 14 (xopen s) number 1).1 number)
  else ((xtree 14 (xopen s) number 1).1, 0, 0)

/-! ### no sign is empty -/
def Full (l : List Rn.Sg) : Prop := ∀ x ∈ l, x.1 ≠ ⟨#[]⟩
theorem rb_full {run : List Int} (h : run ≠ []) : runesBytes run ≠ ⟨#[]⟩ := by
  cases run with
  | nil => exact absurd rfl h
  | cons r rs =>
    rw [Rn.runesBytes_cons]
    intro e
    have h1 := congrArg ByteArray.size e
    rw [ByteArray.size_append] at h1
    have h2 := (Rn.encode_size r).1
    have h3 : (⟨#[]⟩ : ByteArray).size = 0 := rfl
    omega
theorem endR_full {l : List Rn.Sg} (h : Full l) (run : List Int) (e : Int) : Full (Rn.endR l run e) := by
  unfold Rn.endR
  split
  · exact h
  · rename_i hr
    intro x hx
    rcases List.mem_append.1 hx with hx | hx
    · exact h x hx
    · simp at hx
      subst hx
      exact rb_full hr
theorem cut_full (rs : List Int) : ∀ (l : List Rn.Sg) (run : List Int) (p : Nat), Full l → Full (Rn.cutGo l run p rs) := by
  induction rs with
  | nil => intro l run p h; exact endR_full h _ _
  | cons r rs ih =>
    intro l run p h
    unfold Rn.cutGo
    split
    · exact ih _ _ _ h
    · split
      · refine ih _ _ _ ?_
        intro x hx
        rcases List.mem_append.1 hx with hx | hx
        · exact endR_full h _ _ x hx
        · simp at hx
          subst hx
          intro e
          have h1 := congrArg ByteArray.size e
          have h2 := (Rn.encode_size r).1
          have h3 : (⟨#[]⟩ : ByteArray).size = 0 := rfl
          simp only at h1
          omega
      · exact ih _ _ _ (endR_full h _ _)
theorem sg_full (s : ByteArray) : Full (Rn.sgOf s) := cut_full _ _ _ _ (fun x hx => by cases hx)

theorem xfail_all (x : XS) (en : Int) : (x.fail en).all = x.all := by unfold XS.fail; split <;> rfl
theorem xsign_all (x : XS) (t : ByteArray) : (x.sign t).all = x.all := by unfold XS.sign; split; exact rfl; exact xfail_all _ _
theorem xname_all (x : XS) : x.name.2.all = x.all := by unfold XS.name; split; exact rfl; exact xfail_all _ _
theorem xnum_all (x : XS) (b : Bool) : (x.num b).2.all = x.all := by unfold XS.num; split; exact rfl; exact xfail_all _ _
theorem xhead_all (k : Int) (x : XS) : (xhead k x).2.2.all = x.all := by
  unfold xhead
  split
  · exact xname_all x
  · split
    · exact xnum_all x _
    · rfl
theorem xcomma_all (k : Int) (i : Nat) (x : XS) : (xcomma k i x).all = x.all := by unfold xcomma; split; exact xsign_all _ _; rfl
theorem xkids_all (rec : XS → Bool → T × XS) (hr : ∀ y b, (rec y b).2.all = y.all) (k : Int) (number : Bool) (m : Nat) : ∀ i x, (xkids rec k number m i x).2.all = x.all := by
  induction m with
  | zero => intro i x; rfl
  | succ m ih =>
    intro i x
    unfold xkids
    split
    · rw [ih, hr, xcomma_all]
    · rfl
theorem xtree_all (f : Nat) : ∀ x number d, (xtree f x number d).2.all = x.all := by
  induction f with
  | zero => intro x number d; rfl
  | succ f ih =>
    intro x number d
    have hx : (xfirst x d).all = x.all := by unfold xfirst; split; exact xfail_all _ _; rfl
    unfold xtree
    split
    · split
      · rw [xnum_all, hx]
      · rw [xfail_all, hx]
    · split
      · show (xfirst x d).all = _
        exact hx
      · unfold xrest
        rw [xsign_all, xkids_all _ (fun y b => ih y b (d + 1)), xhead_all, xsign_all]
        show (xfirst x d).all = _
        exact hx
/-- What is behind the last sign. -/
theorem rel_end {r : RS} {x : XS} (h : Rel r x) (hf : Full x.all) : Rel (endRd r) (xend x) := by
  unfold endRd xend
  by_cases he : r.e = 0
  · have hx : x.e = 0 := by rw [← h.e]; exact he
    have hn := rel_next h
    by_cases hl : x.no < x.all.length
    · rw [if_pos ⟨hx, hl⟩]
      have hne : x.next ≠ ⟨#[]⟩ := by
        unfold XS.next
        rw [if_pos hx, List.getElem?_eq_getElem hl]
        exact hf _ (List.getElem_mem hl)
      rw [decide_eq_false (by rw [hn]; exact hne)]
      exact rel_fail h 2 (by decide)
    · rw [if_neg (fun hh => hl hh.2)]
      have hne : x.next = ⟨#[]⟩ := by
        unfold XS.next
        rw [List.getElem?_eq_none (by omega)]
        split <;> rfl
      rw [decide_eq_true (by rw [hn]; exact hne)]
      obtain ⟨h1, h2, h3⟩ := h.ok he
      have ht : takeR r = { r with left := r.left.tail } := by unfold takeR; rw [if_pos he]
      have hl2 : r.left = [] := by rw [h1]; exact List.drop_eq_nil_of_le (by omega)
      show Rel (takeR r) x
      rw [ht]
      exact ⟨h.e, fun hb => absurd he hb, fun _ => ⟨by show r.left.tail = _; rw [hl2, ← h1, hl2]; rfl, h2, h3⟩⟩
  · have hx : x.e ≠ 0 := by rw [← h.e]; exact he
    rw [if_neg (fun hh => hx hh.1), takeR_f he, fitR_f he]
    exact h
theorem rel_open (s : ByteArray) (h1 : ¬ 1000 < s.size) (h2 : Rn.badOf s = 0) : Rel (openR s) (xopen s) := by
  unfold openR xopen
  rw [if_neg h1, if_neg (by simpa using h2)]
  exact ⟨rfl, fun hb => absurd rfl hb, fun _ => ⟨rfl, rfl, rfl⟩⟩
/-- BOTH READ ALIKE, whatever the text: a contract. -/
theorem read_sameC (s : ByteArray) : (xread s false).2 = (rdT s).2 ∧ (xread s false).1 = plainC (rdT s).1 := by
  unfold xread rdT
  by_cases h1 : 1000 < s.size
  · have ho : openR s = ⟨[], 0, 0, 5⟩ := by unfold openR; rw [if_pos h1]
    rw [if_pos h1, ho, termR_f (r := ⟨[], 0, 0, 5⟩) (by decide), show endRd ⟨[], 0, 0, 5⟩ = ⟨[], 0, 0, 5⟩ from by unfold endRd; rw [takeR_f (by decide), fitR_f (by decide)]]
    exact ⟨rfl, rfl⟩
  · rw [if_neg h1]
    by_cases h2 : Rn.badOf s = 0
    · rw [if_neg (by simpa using h2)]
      have hr := rel_open s h1 h2
      obtain ⟨_, h3, h4⟩ := both_all 14 1 (by omega) (openR s) (xopen s) (fun hh => absurd hh (by omega)) hr
      have h5 := rel_end h3 (by rw [xtree_all]; exact sg_full s)
      have hz : (endRd (termR 14 (openR s) 1).2).e = 0 → (termR 14 (openR s) 1).2.e = 0 := end_z
      by_cases he : (endRd (termR 14 (openR s) 1).2).e = 0
      · rw [if_pos he, if_neg (by rw [← h5.e]; simpa using he), h4 (hz he), plainC_chk]
        by_cases hc : chkC (termR 14 (openR s) 1).1 = 0
        · rw [if_pos hc, if_neg (by simpa using hc)]
          exact ⟨rfl, rfl⟩
        · rw [if_neg hc, if_pos hc, (h5.ok he).2.2]
          exact ⟨rfl, rfl⟩
      · rw [if_neg he, if_pos (by rw [← h5.e]; exact he), ← h5.e, h5.bad he]
        exact ⟨rfl, rfl⟩
    · have ho : openR s = ⟨[], 0, (Rn.badOf s : Int), 2⟩ := by unfold openR; rw [if_neg h1, if_pos h2]
      rw [if_pos h2, ho, termR_f (r := ⟨[], 0, (Rn.badOf s : Int), 2⟩) (by show (2 : Int) ≠ 0; decide), show endRd ⟨[], 0, (Rn.badOf s : Int), 2⟩ = ⟨[], 0, (Rn.badOf s : Int), 2⟩ from by unfold endRd; rw [takeR_f (by show (2 : Int) ≠ 0; decide), fitR_f (by show (2 : Int) ≠ 0; decide)]]
      exact ⟨rfl, rfl⟩
/-- .. and a number. -/
theorem read_sameO (s : ByteArray) : (xread s true).2 = (rdO s).2 ∧ (xread s true).1 = plain (rdO s).1 := by
  unfold xread rdO
  by_cases h1 : 1000 < s.size
  · have ho : openR s = ⟨[], 0, 0, 5⟩ := by unfold openR; rw [if_pos h1]
    rw [if_pos h1, ho, obsR_f (r := ⟨[], 0, 0, 5⟩) (by decide), show endRd ⟨[], 0, 0, 5⟩ = ⟨[], 0, 0, 5⟩ from by unfold endRd; rw [takeR_f (by decide), fitR_f (by decide)]]
    exact ⟨rfl, rfl⟩
  · rw [if_neg h1]
    by_cases h2 : Rn.badOf s = 0
    · rw [if_neg (by simpa using h2)]
      have hr := rel_open s h1 h2
      obtain ⟨⟨h3, h4⟩, _⟩ := both_all 14 1 (by omega) (openR s) (xopen s) (fun hh => absurd hh (by omega)) hr
      have h5 := rel_end h3 (by rw [xtree_all]; exact sg_full s)
      have hz : (endRd (obsR 14 (openR s) 1).2).e = 0 → (obsR 14 (openR s) 1).2.e = 0 := end_z
      by_cases he : (endRd (obsR 14 (openR s) 1).2).e = 0
      · rw [if_pos he, if_neg (by rw [← h5.e]; simpa using he), h4 (hz he), plain_chk]
        by_cases hc : chk (obsR 14 (openR s) 1).1 = 0
        · rw [if_pos hc, if_neg (by simpa using hc)]
          exact ⟨rfl, rfl⟩
        · rw [if_neg hc, if_pos hc, (h5.ok he).2.2]
          exact ⟨rfl, rfl⟩
      · rw [if_neg he, if_pos (by rw [← h5.e]; exact he), ← h5.e, h5.bad he]
        exact ⟨rfl, rfl⟩
    · have ho : openR s = ⟨[], 0, (Rn.badOf s : Int), 2⟩ := by unfold openR; rw [if_neg h1, if_pos h2]
      rw [if_pos h2, ho, obsR_f (r := ⟨[], 0, (Rn.badOf s : Int), 2⟩) (by show (2 : Int) ≠ 0; decide), show endRd ⟨[], 0, (Rn.badOf s : Int), 2⟩ = ⟨[], 0, (Rn.badOf s : Int), 2⟩ from by unfold endRd; rw [takeR_f (by show (2 : Int) ≠ 0; decide), fitR_f (by show (2 : Int) ≠ 0; decide)]]
      exact ⟨rfl, rfl⟩

end Go.Proofs.Ythhjcpmnekibnaa
namespace Go.Proofs.Ythhjcpmnekibnaa
open Go.RowKit
set_option linter.unusedVariables false

def SmallS (x : XS) : Prop := ∀ y ∈ x.all, y.1.size ≤ 2147483648
theorem small_of {x y : XS} (h : SmallS x) (e : y.all = x.all) : SmallS y := by unfold SmallS; rw [e]; exact h
theorem emp_small : (⟨#[]⟩ : ByteArray).size ≤ 2147483648 := by decide
theorem next_small {x : XS} (h : SmallS x) : x.next.size ≤ 2147483648 := by
  unfold XS.next
  split
  · cases hx : x.all[x.no]? with
    | none => exact emp_small
    | some y => exact h y (List.mem_of_getElem? hx)
  · exact emp_small
theorem name_small {x : XS} (h : SmallS x) : x.name.1.size ≤ 2147483648 := by
  unfold XS.name
  split
  · exact next_small h
  · exact emp_small
theorem head_small {x : XS} (h : SmallS x) (k : Int) : (xhead k x).1.size ≤ 2147483648 := by
  unfold xhead
  split
  · exact name_small h
  · split <;> exact emp_small
theorem kids_sized (rec : XS → Bool → T × XS) (ha : ∀ y b, (rec y b).2.all = y.all) (hr : ∀ y b, SmallS y → (rec y b).1.Sized) (k : Int) (number : Bool) (m : Nat) : ∀ i x, SmallS x → SizedL (xkids rec k number m i x).1 := by
  induction m with
  | zero => intro i x _; exact trivial
  | succ m ih =>
    intro i x h
    unfold xkids
    split
    · have h1 : SmallS (xcomma k i x) := small_of h (xcomma_all k i x)
      exact ⟨hr _ _ h1, ih _ _ (small_of h1 (ha _ _))⟩
    · exact trivial
theorem tree_sized (f : Nat) : ∀ x number d, SmallS x → (xtree f x number d).1.Sized := by
  induction f with
  | zero => intro x number d _; exact ⟨emp_small, trivial⟩
  | succ f ih =>
    intro x number d h
    have hx : (xfirst x d).all = x.all := by unfold xfirst; split; exact xfail_all _ _; rfl
    have h1 : SmallS (xfirst x d) := small_of h hx
    rw [xtree]
    split
    · split <;> exact ⟨emp_small, trivial⟩
    · split
      · exact ⟨emp_small, trivial⟩
      · unfold xrest
        have h2 : SmallS ((xfirst x d).step.sign lpB) := small_of h1 (by rw [xsign_all]; rfl)
        exact ⟨head_small h2 _, kids_sized _ (fun y b => xtree_all f y b (d + 1)) (fun y b hy => ih y b (d + 1) hy) _ _ _ _ _ (small_of h2 (xhead_all _ _))⟩
theorem open_smallS (s : ByteArray) (hs : s.size ≤ 1000) : SmallS (xopen s) := fun y hy => sg_small s hs y hy
/-- A tree that was read without a fault can be checked. -/
theorem xtree_fine (s : ByteArray) (number : Bool) (h1 : ¬ 1000 < s.size) (h2 : Rn.badOf s = 0) (he : (xend (xtree 14 (xopen s) number 1).2).e = 0) :
    (xtree 14 (xopen s) number 1).1.Sized ∧ (xtree 14 (xopen s) number 1).1.cnt ≤ 999990 ∧ (xtree 14 (xopen s) number 1).1.nodes ≤ 1000000 := by
  refine ⟨tree_sized _ _ _ _ (open_smallS s (by omega)), ?_⟩
  have hr := rel_open s h1 h2
  have hlen := open_len s
  cases number with
  | false =>
    obtain ⟨_, h3, h4⟩ := both_all 14 1 (by omega) (openR s) (xopen s) (fun hh => absurd hh (by omega)) hr
    have h5 := rel_end h3 (by rw [xtree_all]; exact sg_full s)
    have hz : (endRd (termR 14 (openR s) 1).2).e = 0 → (termR 14 (openR s) 1).2.e = 0 := end_z
    have he2 : (endRd (termR 14 (openR s) 1).2).e = 0 := by rw [h5.e]; exact he
    have hw := (termR_sz 14 (openR s) 1 rfl (fun hx => absurd hx (by omega)) (hz he2)).2
    rw [h4 (hz he2), plainC_nodes]
    have hc := plainC_cnt (termR 14 (openR s) 1).1
    have hn := weight_nodes (termR 14 (openR s) 1).1
    exact ⟨by omega, by omega⟩
  | true =>
    obtain ⟨⟨h3, h4⟩, _⟩ := both_all 14 1 (by omega) (openR s) (xopen s) (fun hh => absurd hh (by omega)) hr
    have h5 := rel_end h3 (by rw [xtree_all]; exact sg_full s)
    have hz : (endRd (obsR 14 (openR s) 1).2).e = 0 → (obsR 14 (openR s) 1).2.e = 0 := end_z
    have he2 : (endRd (obsR 14 (openR s) 1).2).e = 0 := by rw [h5.e]; exact he
    have hw := (obsR_sz 14 (openR s) 1 rfl (fun hx => absurd hx (by omega)) (hz he2)).2
    rw [h4 (hz he2), plain_nodes]
    have hc := plain_cnt (obsR 14 (openR s) 1).1
    exact ⟨by omega, by omega⟩

end Go.Proofs.Ythhjcpmnekibnaa
namespace Go.Proofs.Ythhjcpmnekibnaa.Rn
open Go.RowKit
set_option linter.unusedVariables false

theorem Try.info117 : (Try.prog.info? 117).map (fun i => (i.zero, i.size, i.bytes)) = some (some (.agg #[.string ByteArray.empty, .int .i64 0]), 2, 24) := by kernel_rfl
/-- What the document's loop does from rune i on. -/
def refGo : List Sg → List Int → Nat → List Int → List Sg × Nat
  | l, _, _, [] => (l, 0)
  | l, word, i, r :: rs =>
    if joinB r = true then refGo l (word ++ [r]) (i + 1) rs
    else if markB r = true then refGo (endR l word ((i : Int) + 1) ++ [(Utf8.encode r, (i : Int) + 1)]) [] (i + 1) rs
    else if (r == 32) = true then refGo (endR l word ((i : Int) + 1)) [] (i + 1) rs
    else ([], i + 1)
theorem refGo_join (l : List Sg) (word : List Int) (i : Nat) (r : Int) (rs : List Int) (h : joinB r = true) : refGo l word i (r :: rs) = refGo l (word ++ [r]) (i + 1) rs := by simp [refGo, h]
theorem refGo_mark (l : List Sg) (word : List Int) (i : Nat) (r : Int) (rs : List Int) (h : joinB r = false) (h2 : markB r = true) : refGo l word i (r :: rs) = refGo (endR l word ((i : Int) + 1) ++ [(Utf8.encode r, (i : Int) + 1)]) [] (i + 1) rs := by simp [refGo, h, h2]
theorem refGo_skip (l : List Sg) (word : List Int) (i : Nat) (r : Int) (rs : List Int) (h : joinB r = false) (h2 : markB r = false) (h3 : (r == 32) = true) : refGo l word i (r :: rs) = refGo (endR l word ((i : Int) + 1)) [] (i + 1) rs := by simp only [refGo, h, h2, h3]; simp
theorem refGo_bad (l : List Sg) (word : List Int) (i : Nat) (r : Int) (rs : List Int) (h : joinB r = false) (h2 : markB r = false) (h3 : (r == 32) = false) : refGo l word i (r :: rs) = ([], i + 1) := by simp only [refGo, h, h2, h3]; simp
theorem refGo_eq (rs : List Int) : ∀ (l : List Sg) (word : List Int) (i : Nat), refGo l word i (rs ++ [32]) = if badGo i rs = 0 then (cutGo l word i rs, 0) else ([], badGo i rs) := by
  induction rs with
  | nil =>
    intro l word i
    rw [List.nil_append, refGo_skip l word i 32 [] (by decide) (by decide) (by decide)]
    simp [refGo, badGo, cutGo]
  | cons r rs ih =>
    intro l word i
    rw [List.cons_append]
    cases h1 : joinB r
    · cases h2 : markB r
      · cases h3 : (r == 32)
        · rw [refGo_bad l word i r _ h1 h2 h3, badGo_no i r rs (by simp only [okR, h1, h2, h3]; rfl)]
          simp
        · rw [refGo_skip l word i r _ h1 h2 h3, ih, badGo_yes i r rs (by simp only [okR, h3]; rfl), cutGo_skip l word i r rs h1 h2]
          rfl
      · rw [refGo_mark l word i r _ h1 h2, ih, badGo_yes i r rs (by simp only [okR, h2]; simp), cutGo_mark l word i r rs h1 h2]
        rfl
    · rw [refGo_join l word i r _ h1, ih, badGo_yes i r rs (by simp only [okR, h1]; simp), cutGo_join l word i r rs h1]
theorem runesBytes_nil_iff (rs : List Int) : (runesBytes rs).data.toList = [] ↔ rs = [] := by
  constructor
  · intro h
    cases rs with
    | nil => rfl
    | cons r rs =>
      exfalso
      rw [runesBytes_cons] at h
      have h2 := congrArg List.length h
      have e : ∀ a : ByteArray, a.data.toList.length = a.size := fun a => by simp
      rw [e, ByteArray.size_append] at h2
      have := (encode_size r).1
      rw [List.length_nil] at h2
      omega
  · intro h; subst h; rfl
theorem own_some {w : World} {B : Nat} {e : TypeId} {size n : Nat} {v : Value} {xs : List Value} (h : w.ownsRow B e size v n xs) (hn : 0 < n) : ∃ g cap, v = .slice (some ⟨g, 0, none⟩) n cap := by
  rcases h.2 with ⟨_, h0⟩ | ⟨g, cap, cur, rfl, _⟩
  · omega
  · exact ⟨g, cap, rfl⟩
theorem runesBytes_snoc2 (rs : List Int) (r : Int) : runesBytes (rs ++ [r]) = runesBytes rs ++ Utf8.encode r := by rw [runesBytes_append, runesBytes_one]
def SInv (B g n cap : Nat) (xs : List Int) (w : World) (l : List Sg) (v : Value) (wr : World) : Prop :=
  wr.ownsRow B 117 2 v l.length (sgCells l) ∧ wr.ownsRow B 21 1 (.slice (some ⟨g, 0, none⟩) n cap) n (runCells xs) ∧ Below B w wr ∧ B ≤ wr.heap.size
theorem SInv.alloc {B g n cap : Nat} {xs : List Int} {w : World} {l : List Sg} {v : Value} {wr : World} (h : SInv B g n cap xs w l v wr) (o : Obj) : SInv B g n cap xs w l v (wr.alloc o) := by
  obtain ⟨h1, h2, h3, h4⟩ := h
  exact ⟨h1.alloc o, h2.alloc o, h3.alloc h4 o, by simp; omega⟩
theorem SInv.list {B g n cap : Nat} {xs : List Int} {w : World} {l l' : List Sg} {v v' : Value} {wr w1 : World} (h : SInv B g n cap xs w l v wr)
    (hv' : w1.ownsRow B 117 2 v' l'.length (sgCells l')) (hg : wr.grownBy w1 v.ownBlock) : SInv B g n cap xs w l' v' w1 := by
  obtain ⟨h1, h2, h3, h4⟩ := h
  exact ⟨hv', h2.kept hg (own_ne h2 h1 (by decide)), h3.grown hg h4 (fun k hk => (h1.lt k hk).1), by have := hg.size; omega⟩
/-- The signs that the document answers. -/
def refL (s : ByteArray) : List Sg := if badOf s = 0 then sgOf s else []
theorem inv_end {B g n cap : Nat} {xs : List Int} {w : World} {l : List Sg} {v v1 : Value} {wr w3 : World} {o : Obj} {word : List Int} {X : ByteArray} {at_ : Int} {i : Nat} (h : SInv B g n cap xs w l v wr) (hne : word ≠ [])
    (hat : at_ = (i : Int) + 1 - word.length) (hX : runesBytes word = X) (hown : w3.ownsRow B 117 2 v1 (l.length + 1) (sgCells l ++ [.string X, .int .i64 at_])) (hg : (wr.alloc o).grownBy w3 v.ownBlock) : SInv B g n cap xs w (endR l word ((i : Int) + 1)) v1 w3 := by
  refine (h.alloc o).list ?_ hg
  rw [show endR l word ((i : Int) + 1) = l ++ [(X, at_)] from by unfold endR; rw [if_neg hne, hX, hat], sgCells_append]
  simpa [sgCells] using hown
theorem inv_mark {B g n cap : Nat} {xs : List Int} {w : World} {l : List Sg} {v v1 : Value} {wr w3 : World} {o : Obj} {X : ByteArray} {at_ : Int} (h : SInv B g n cap xs w l v wr)
    (hown : w3.ownsRow B 117 2 v1 (l.length + 1) (sgCells l ++ [.string X, .int .i64 at_])) (hg : (wr.alloc o).grownBy w3 v.ownBlock) : SInv B g n cap xs w (l ++ [(X, at_)]) v1 w3 := by
  refine (h.alloc o).list ?_ hg
  rw [sgCells_append]
  simpa [sgCells] using hown
set_option maxHeartbeats 4000000 in
set_option maxRecDepth 100000 in
theorem refSigns_any (s : ByteArray) (w : World) (hs : s.size ≤ 1073741824) :
    Calls Try.prog 20 #[.string s] w fun e w' => ∃ v, e = .returned (.tuple #[v, .int .i64 (badOf s : Nat)]) ∧ w'.ownsRow w.heap.size 117 2 v (refL s).length (sgCells (refL s)) ∧ Below w.heap.size w w' := by
  obtain ⟨i0, hi, hz0, hz1, hz2⟩ := info_parts Try.info117
  obtain ⟨i1, gi, gz0, gz1, gz2⟩ := info_parts Try.info21
  have hlen := rest_length s 0
  change (runesOf s).length ≤ s.size - 0 at hlen
  go_enter Try.func20, Try.ntmps20
  go_wp2_with fail
  refine (refRunes_any s w (by omega)).mono ?_
  rintro e w1 ⟨u, rfl, hown, hb⟩
  have hsz := hb.size
  have HEQ : Hid (refGo [] [] 0 (runesOf s ++ [32]) = if badOf s = 0 then (sgOf s, 0) else ([], badOf s)) := refGo_eq (runesOf s) [] [] 0
  obtain ⟨xs, hxs⟩ : ∃ xs, xs = runesOf s ++ [32] := ⟨_, rfl⟩
  have hxl : xs.length ≤ 1073741825 := by rw [hxs]; simp; omega
  have HXS : Hid (xs = runesOf s ++ [32]) := hxs
  clear hxs
  go_wp2_with (at_builtin; refine wpList_append_own _ rfl _ _ 114 rfl w.heap.size 21 i1 (.int .i32 0) 1 4 Try.underlying114 gi gz0 gz1 gz2 rfl (by decide) _ _ _ rfl (hown.alloc _) ⟨w1.heap.size, 0, none⟩ 1 1 [.int .i32 32] rfl rfl (cell_one_at w1 _ _) (by intro u hu; simp at hu; subst hu; rfl) (by unfold maxLen; omega) (by omega) (by simp; omega) ?_; intro u' w2 hown' hgrow _; obtain ⟨g, cap, rfl⟩ := own_some hown' (by omega))
  have hown2 : w2.ownsRow w.heap.size 21 1 (.slice (some ⟨g, 0, none⟩) ((runesOf s).length + 1) cap) ((runesOf s).length + 1) (runCells xs) := by rw [HXS.out]; simpa [runCells] using hown'
  have hxn : xs.length = (runesOf s).length + 1 := by rw [HXS.out]; simp
  have hb2 : Below w.heap.size w w2 := (hb.alloc hsz _).grown hgrow (by simp; omega) (fun k hk => (hown.lt k hk).1)
  have hs2 : w.heap.size ≤ w2.heap.size := hb2.size
  have HE2 : Hid (refGo [] [] 0 xs = if badOf s = 0 then (sgOf s, 0) else ([], badOf s)) := by unfold Hid; rw [HXS.out]; exact HEQ.out
  clear hown hown' hgrow hb hsz HEQ hlen HXS
  generalize (runesOf s).length = n0 at *
  have hn0 : n0 ≤ 1073741825 := by omega
  go_loopw [14, 4, 5, 6] (fun s14 s4 s5 s6 wr => ∃ (i : Nat) (l : List Sg) (word : List Int) (at_ : Int), i ≤ n0 + 1 ∧ s14 = .int .i64 i ∧ SInv w.heap.size g (n0 + 1) cap xs w l s4 wr ∧ s5 = .string (runesBytes word) ∧ s6 = .int .i64 at_ ∧ (word ≠ [] → at_ = (i : Int) + 1 - word.length) ∧ word.length ≤ i ∧ l.length ≤ 2 * i ∧ refGo l word i (xs.drop i) = refGo [] [] 0 xs) (fun s14 _ _ _ _ => n0 + 1 - (intOf s14).toNat)
  case atStart => exact ⟨0, [], [], 0, by omega, rfl, ⟨World.ownsRow_nil _ _ _ _, hown2, hb2, hs2⟩, rfl, rfl, fun h => absurd rfl h, by simp, by simp, by simp⟩
  case round =>
    obtain ⟨i, l, word, at_, hi1, rfl, hinv, rfl, rfl, hat, hwl, hll, hc⟩ := hrel
    clear hown2 hb2 hs2
    by_cases hlt : i < n0 + 1
    · have hlt' : (i : Int) < (n0 : Int) + 1 := by omega
      have hlx : i < xs.length := by omega
      obtain ⟨r, hr⟩ : ∃ r, r = xs[i] := ⟨_, rfl⟩
      have hcell : wr.cell? ⟨g, i, none⟩ = some (.int .i32 r) := by
        rw [hinv.2.1.cellAt i (by omega), hr]
        simp [runCells, hlx]
      rw [List.drop_eq_getElem_cons hlx, ← hr] at hc
      have HC : Hid (refGo l word i (r :: xs.drop (i + 1)) = refGo [] [] 0 xs) := hc
      have HAT : Hid (word ≠ [] → at_ = (i : Int) + 1 - word.length) := hat
      clear hc hr hat
      have hsz := runesBytes_size_le word
      have hesz := (encode_size r).2
      have HX : Hid (runesBytes (word ++ [r]) = runesBytes word ++ Utf8.encode r) := runesBytes_snoc2 word r
      have hemp := runesBytes_nil_iff word
      have HW : Hid (((runesBytes word).toList == []) = decide (word = [])) := by
        unfold Hid
        rw [ByteArray.toList_eq, Bool.eq_iff_iff, beq_iff_eq, decide_eq_true_eq]; exact hemp
      clear hemp
      generalize hX : runesBytes word = X at *
      have HX2 : Hid (runesBytes word = X) := hX
      clear hX
      cases hj : joinB r
      · have h1 : letB r = false := by simp [joinB] at hj; exact hj.2
        have h2 : (r == 45) = false := by simp [joinB] at hj; simpa using hj.1
        by_cases hwe : word = []
        · have ew : (X.toList == []) = true := by rw [HW.out]; simpa using hwe
          subst hwe
          cases hm : markB r
          · have e40 : (r == 40) = false := by simp [markB] at hm; simpa using hm.1.1
            have e41 : (r == 41) = false := by simp [markB] at hm; simpa using hm.1.2
            have e44 : (r == 44) = false := by simp [markB] at hm; simpa using hm.2
            cases e32 : (r == 32)
            · go_wp2_with (go_at_call 45; refine calls_same (refLet_any _ _) ?_)
              go_ret2
              have hfin := HC.out
              rw [refGo_bad _ _ _ _ _ hj hm e32, HE2.out] at hfin
              have hbad : badOf s = i + 1 := by
                by_cases h0 : badOf s = 0
                · rw [if_pos h0] at hfin; simp at hfin
                · rw [if_neg h0] at hfin; simp at hfin; omega
              have hrl : refL s = [] := by unfold refL; rw [if_neg (by omega)]
              rw [hrl]
              refine ⟨_, ?_, World.ownsRow_nil _ _ _ _, hinv.2.2.1⟩
              rw [hbad]
              rfl
            · go_wp2_with (go_at_call 45; refine calls_same (refLet_any _ _) ?_)
              go_roundw
              case rel => exact ⟨i + 1, _, [], at_, by omega, by go_num, hinv, by rw [HX2.out], rfl, fun h => absurd rfl h, by simp, by omega, by rw [← HC.out, refGo_skip _ _ _ _ _ hj hm e32]; rfl⟩
              case measure => simp [intOf]; omega
          · cases e40 : (r == 40)
            · cases e41 : (r == 41)
              · have e44 : (r == 44) = true := by simp only [markB, e40, e41] at hm; simpa using hm
                go_wp2_with (first
                  | (go_at_call 45; refine calls_same (refLet_any _ _) ?_)
                  | (at_builtin; refine wpList_append_own _ rfl (.tmp 48) (.tmp 54) 56 rfl w.heap.size 117 i0 (.agg #[.string ByteArray.empty, .int .i64 0]) 2 24 Try.underlying56 hi hz0 hz1 hz2 rfl (by decide) _ _ _ rfl (hinv.1.alloc _) ⟨wr.heap.size, 0, none⟩ 1 1 [.string (Utf8.encode r), .int .i64 ((i : Int) + 1)] rfl rfl (cell_two_new wr _ _ _) (by intro u hu; simp at hu; rcases hu with rfl | rfl <;> rfl) (by unfold maxLen; omega) (by omega) (by have := hinv.2.2.2; simp; omega) ?_; intro v2 w4 hown2 hgrow2 _; have hinv2 := inv_mark hinv hown2 hgrow2))
                go_roundw
                case rel => exact ⟨i + 1, _, [], at_, by omega, by go_num, hinv2, by rw [HX2.out], rfl, fun h => absurd rfl h, by simp, by simp; omega, by rw [← HC.out, refGo_mark _ _ _ _ _ hj hm]; rfl⟩
                case measure => simp [intOf]; omega
              · go_wp2_with (first
                  | (go_at_call 45; refine calls_same (refLet_any _ _) ?_)
                  | (at_builtin; refine wpList_append_own _ rfl (.tmp 48) (.tmp 54) 56 rfl w.heap.size 117 i0 (.agg #[.string ByteArray.empty, .int .i64 0]) 2 24 Try.underlying56 hi hz0 hz1 hz2 rfl (by decide) _ _ _ rfl (hinv.1.alloc _) ⟨wr.heap.size, 0, none⟩ 1 1 [.string (Utf8.encode r), .int .i64 ((i : Int) + 1)] rfl rfl (cell_two_new wr _ _ _) (by intro u hu; simp at hu; rcases hu with rfl | rfl <;> rfl) (by unfold maxLen; omega) (by omega) (by have := hinv.2.2.2; simp; omega) ?_; intro v2 w4 hown2 hgrow2 _; have hinv2 := inv_mark hinv hown2 hgrow2))
                go_roundw
                case rel => exact ⟨i + 1, _, [], at_, by omega, by go_num, hinv2, by rw [HX2.out], rfl, fun h => absurd rfl h, by simp, by simp; omega, by rw [← HC.out, refGo_mark _ _ _ _ _ hj hm]; rfl⟩
                case measure => simp [intOf]; omega
            · go_wp2_with (first
                | (go_at_call 45; refine calls_same (refLet_any _ _) ?_)
                | (at_builtin; refine wpList_append_own _ rfl (.tmp 48) (.tmp 54) 56 rfl w.heap.size 117 i0 (.agg #[.string ByteArray.empty, .int .i64 0]) 2 24 Try.underlying56 hi hz0 hz1 hz2 rfl (by decide) _ _ _ rfl (hinv.1.alloc _) ⟨wr.heap.size, 0, none⟩ 1 1 [.string (Utf8.encode r), .int .i64 ((i : Int) + 1)] rfl rfl (cell_two_new wr _ _ _) (by intro u hu; simp at hu; rcases hu with rfl | rfl <;> rfl) (by unfold maxLen; omega) (by omega) (by have := hinv.2.2.2; simp; omega) ?_; intro v2 w4 hown2 hgrow2 _; have hinv2 := inv_mark hinv hown2 hgrow2))
              go_roundw
              case rel => exact ⟨i + 1, _, [], at_, by omega, by go_num, hinv2, by rw [HX2.out], rfl, fun h => absurd rfl h, by simp, by simp; omega, by rw [← HC.out, refGo_mark _ _ _ _ _ hj hm]; rfl⟩
              case measure => simp [intOf]; omega
        · have ew : (X.toList == []) = false := by rw [HW.out]; simpa using hwe
          have hel := endR_len l word ((i : Int) + 1)
          cases hm : markB r
          · have e40 : (r == 40) = false := by simp [markB] at hm; simpa using hm.1.1
            have e41 : (r == 41) = false := by simp [markB] at hm; simpa using hm.1.2
            have e44 : (r == 44) = false := by simp [markB] at hm; simpa using hm.2
            cases e32 : (r == 32)
            · go_wp2_with (first
                | (go_at_call 45; refine calls_same (refLet_any _ _) ?_)
                | (at_builtin; refine wpList_append_own _ rfl (.tmp 35) (.tmp 39) 56 rfl w.heap.size 117 i0 (.agg #[.string ByteArray.empty, .int .i64 0]) 2 24 Try.underlying56 hi hz0 hz1 hz2 rfl (by decide) _ _ _ rfl (hinv.1.alloc _) ⟨wr.heap.size, 0, none⟩ 1 1 [.string X, .int .i64 at_] rfl rfl (cell_two_new wr _ _ _) (by intro u hu; simp at hu; rcases hu with rfl | rfl <;> rfl) (by unfold maxLen; omega) (by omega) (by have := hinv.2.2.2; simp; omega) ?_; intro v1 w3 hown1 hgrow1 _; have hinv1 := inv_end hinv hwe (HAT.out hwe) HX2.out hown1 hgrow1))
              go_ret2
              have hfin := HC.out
              rw [refGo_bad _ _ _ _ _ hj hm e32, HE2.out] at hfin
              have hbad : badOf s = i + 1 := by
                by_cases h0 : badOf s = 0
                · rw [if_pos h0] at hfin; simp at hfin
                · rw [if_neg h0] at hfin; simp at hfin; omega
              have hrl : refL s = [] := by unfold refL; rw [if_neg (by omega)]
              rw [hrl]
              refine ⟨_, ?_, World.ownsRow_nil _ _ _ _, hinv1.2.2.1⟩
              rw [hbad]
              rfl
            · go_wp2_with (first
                | (go_at_call 45; refine calls_same (refLet_any _ _) ?_)
                | (at_builtin; refine wpList_append_own _ rfl (.tmp 35) (.tmp 39) 56 rfl w.heap.size 117 i0 (.agg #[.string ByteArray.empty, .int .i64 0]) 2 24 Try.underlying56 hi hz0 hz1 hz2 rfl (by decide) _ _ _ rfl (hinv.1.alloc _) ⟨wr.heap.size, 0, none⟩ 1 1 [.string X, .int .i64 at_] rfl rfl (cell_two_new wr _ _ _) (by intro u hu; simp at hu; rcases hu with rfl | rfl <;> rfl) (by unfold maxLen; omega) (by omega) (by have := hinv.2.2.2; simp; omega) ?_; intro v1 w3 hown1 hgrow1 _; have hinv1 := inv_end hinv hwe (HAT.out hwe) HX2.out hown1 hgrow1))
              go_roundw
              case rel => exact ⟨i + 1, _, [], at_, by omega, by go_num, hinv1, rfl, rfl, fun h => absurd rfl h, by simp, by omega, by rw [← HC.out, refGo_skip _ _ _ _ _ hj hm e32]⟩
              case measure => simp [intOf]; omega
          · cases e40 : (r == 40)
            · cases e41 : (r == 41)
              · have e44 : (r == 44) = true := by simp only [markB, e40, e41] at hm; simpa using hm
                go_wp2_with (first
                  | (go_at_call 45; refine calls_same (refLet_any _ _) ?_)
                  | (at_builtin; refine wpList_append_own _ rfl (.tmp 35) (.tmp 39) 56 rfl w.heap.size 117 i0 (.agg #[.string ByteArray.empty, .int .i64 0]) 2 24 Try.underlying56 hi hz0 hz1 hz2 rfl (by decide) _ _ _ rfl (hinv.1.alloc _) ⟨wr.heap.size, 0, none⟩ 1 1 [.string X, .int .i64 at_] rfl rfl (cell_two_new wr _ _ _) (by intro u hu; simp at hu; rcases hu with rfl | rfl <;> rfl) (by unfold maxLen; omega) (by omega) (by have := hinv.2.2.2; simp; omega) ?_; intro v1 w3 hown1 hgrow1 _; have hinv1 := inv_end hinv hwe (HAT.out hwe) HX2.out hown1 hgrow1)
                  | (at_builtin; refine wpList_append_own _ rfl (.tmp 48) (.tmp 54) 56 rfl w.heap.size 117 i0 (.agg #[.string ByteArray.empty, .int .i64 0]) 2 24 Try.underlying56 hi hz0 hz1 hz2 rfl (by decide) _ _ _ rfl (hinv1.1.alloc _) ⟨w3.heap.size, 0, none⟩ 1 1 [.string (Utf8.encode r), .int .i64 ((i : Int) + 1)] rfl rfl (cell_two_new w3 _ _ _) (by intro u hu; simp at hu; rcases hu with rfl | rfl <;> rfl) (by unfold maxLen; omega) (by omega) (by have := hinv1.2.2.2; simp; omega) ?_; intro v2 w4 hown2 hgrow2 _; have hinv2 := inv_mark hinv1 hown2 hgrow2))
                go_roundw
                case rel => exact ⟨i + 1, _, [], at_, by omega, by go_num, hinv2, rfl, rfl, fun h => absurd rfl h, by simp, by simp; omega, by rw [← HC.out, refGo_mark _ _ _ _ _ hj hm]⟩
                case measure => simp [intOf]; omega
              · go_wp2_with (first
                  | (go_at_call 45; refine calls_same (refLet_any _ _) ?_)
                  | (at_builtin; refine wpList_append_own _ rfl (.tmp 35) (.tmp 39) 56 rfl w.heap.size 117 i0 (.agg #[.string ByteArray.empty, .int .i64 0]) 2 24 Try.underlying56 hi hz0 hz1 hz2 rfl (by decide) _ _ _ rfl (hinv.1.alloc _) ⟨wr.heap.size, 0, none⟩ 1 1 [.string X, .int .i64 at_] rfl rfl (cell_two_new wr _ _ _) (by intro u hu; simp at hu; rcases hu with rfl | rfl <;> rfl) (by unfold maxLen; omega) (by omega) (by have := hinv.2.2.2; simp; omega) ?_; intro v1 w3 hown1 hgrow1 _; have hinv1 := inv_end hinv hwe (HAT.out hwe) HX2.out hown1 hgrow1)
                  | (at_builtin; refine wpList_append_own _ rfl (.tmp 48) (.tmp 54) 56 rfl w.heap.size 117 i0 (.agg #[.string ByteArray.empty, .int .i64 0]) 2 24 Try.underlying56 hi hz0 hz1 hz2 rfl (by decide) _ _ _ rfl (hinv1.1.alloc _) ⟨w3.heap.size, 0, none⟩ 1 1 [.string (Utf8.encode r), .int .i64 ((i : Int) + 1)] rfl rfl (cell_two_new w3 _ _ _) (by intro u hu; simp at hu; rcases hu with rfl | rfl <;> rfl) (by unfold maxLen; omega) (by omega) (by have := hinv1.2.2.2; simp; omega) ?_; intro v2 w4 hown2 hgrow2 _; have hinv2 := inv_mark hinv1 hown2 hgrow2))
                go_roundw
                case rel => exact ⟨i + 1, _, [], at_, by omega, by go_num, hinv2, rfl, rfl, fun h => absurd rfl h, by simp, by simp; omega, by rw [← HC.out, refGo_mark _ _ _ _ _ hj hm]⟩
                case measure => simp [intOf]; omega
            · go_wp2_with (first
                | (go_at_call 45; refine calls_same (refLet_any _ _) ?_)
                | (at_builtin; refine wpList_append_own _ rfl (.tmp 35) (.tmp 39) 56 rfl w.heap.size 117 i0 (.agg #[.string ByteArray.empty, .int .i64 0]) 2 24 Try.underlying56 hi hz0 hz1 hz2 rfl (by decide) _ _ _ rfl (hinv.1.alloc _) ⟨wr.heap.size, 0, none⟩ 1 1 [.string X, .int .i64 at_] rfl rfl (cell_two_new wr _ _ _) (by intro u hu; simp at hu; rcases hu with rfl | rfl <;> rfl) (by unfold maxLen; omega) (by omega) (by have := hinv.2.2.2; simp; omega) ?_; intro v1 w3 hown1 hgrow1 _; have hinv1 := inv_end hinv hwe (HAT.out hwe) HX2.out hown1 hgrow1)
                | (at_builtin; refine wpList_append_own _ rfl (.tmp 48) (.tmp 54) 56 rfl w.heap.size 117 i0 (.agg #[.string ByteArray.empty, .int .i64 0]) 2 24 Try.underlying56 hi hz0 hz1 hz2 rfl (by decide) _ _ _ rfl (hinv1.1.alloc _) ⟨w3.heap.size, 0, none⟩ 1 1 [.string (Utf8.encode r), .int .i64 ((i : Int) + 1)] rfl rfl (cell_two_new w3 _ _ _) (by intro u hu; simp at hu; rcases hu with rfl | rfl <;> rfl) (by unfold maxLen; omega) (by omega) (by have := hinv1.2.2.2; simp; omega) ?_; intro v2 w4 hown2 hgrow2 _; have hinv2 := inv_mark hinv1 hown2 hgrow2))
              go_roundw
              case rel => exact ⟨i + 1, _, [], at_, by omega, by go_num, hinv2, rfl, rfl, fun h => absurd rfl h, by simp, by simp; omega, by rw [← HC.out, refGo_mark _ _ _ _ _ hj hm]⟩
              case measure => simp [intOf]; omega
      · have hjj : letB r = true ∨ (letB r = false ∧ (r == 45) = true) := by
          cases hl : letB r
          · right; simp [joinB, hl] at hj; exact ⟨rfl, by simpa using hj⟩
          · left; rfl
        by_cases hwe : word = []
        · have ew : (X.toList == []) = true := by rw [HW.out]; simpa using hwe
          subst hwe
          rcases hjj with h1 | ⟨h1, h2⟩
          all_goals
            go_wp2_with (go_at_call 45; refine calls_same (refLet_any _ _) ?_)
            go_roundw
            case rel => exact ⟨i + 1, l, [r], (i : Int) + 1, by omega, by go_num, hinv, by rw [show ([r] : List Int) = [] ++ [r] from rfl, HX.out], rfl, fun _ => by simp, by simp, by omega, by rw [← HC.out, refGo_join _ _ _ _ _ hj]; rfl⟩
            case measure => simp [intOf]; omega
        · have ew : (X.toList == []) = false := by rw [HW.out]; simpa using hwe
          rcases hjj with h1 | ⟨h1, h2⟩
          all_goals
            go_wp2_with (go_at_call 45; refine calls_same (refLet_any _ _) ?_)
            go_roundw
            case rel => exact ⟨i + 1, l, word ++ [r], at_, by omega, by go_num, hinv, by rw [HX.out], rfl, fun _ => by rw [HAT.out hwe]; simp; omega, by simp; omega, by omega, by rw [← HC.out, refGo_join _ _ _ _ _ hj]⟩
            case measure => simp [intOf]; omega
    · have hin : i = n0 + 1 := by omega
      have hfin := hc
      rw [List.drop_of_length_le (by omega), HE2.out] at hfin
      simp only [refGo] at hfin
      have HFI : Hid (badOf s = 0 ∧ l = sgOf s) := by
        unfold Hid
        by_cases h0 : badOf s = 0
        · rw [if_pos h0] at hfin; simp at hfin; exact ⟨h0, hfin⟩
        · rw [if_neg h0] at hfin; simp at hfin; omega
      clear hfin hc
      have hlt' : ¬ (i : Int) < (n0 : Int) + 1 := by omega
      go_wp2_with fail
      go_ret2
      have hrl : refL s = l := by unfold refL; rw [if_pos HFI.out.1]; exact HFI.out.2.symm
      rw [hrl]
      refine ⟨_, ?_, hinv.1, hinv.2.2.1⟩
      rw [HFI.out.1]
      rfl

end Go.Proofs.Ythhjcpmnekibnaa.Rn
namespace Go.Proofs.Ythhjcpmnekibnaa
open Go.RowKit
set_option linter.unusedVariables false

theorem hidX {p : Prop} (h : p) : Hid p := h
theorem row_len {w : World} {B : Nat} {e : TypeId} {size n : Nat} {v : Value} {xs : List Value} (h : w.ownsRow B e size v n xs) : ∃ ao cap, v = .slice ao n cap := by
  rcases h.2 with ⟨rfl, h0⟩ | ⟨g, cap, cur, rfl, _⟩
  · rw [h0]; exact ⟨_, _, rfl⟩
  · exact ⟨_, _, rfl⟩
set_option maxHeartbeats 1000000 in
theorem refCount_any (s : ByteArray) (w : World) (hs : s.size ≤ 2147483648) :
    Calls Try.prog 21 #[.string s] w fun e w' => e = .returned (.int .i64 ((runesOf s).length : Int)) ∧ Below w.heap.size w w' := by
  have HC := hidX (Rn.refRunes_any s w hs)
  go_enter Try.func21, Try.ntmps21
  go_wp2_with fail
  refine HC.out.mono ?_
  rintro e w1 ⟨v, rfl, ho, hb⟩
  obtain ⟨ao, cap, rfl⟩ := row_len ho
  have HB := hidX hb
  clear ho hb HC
  obtain ⟨m, hm⟩ : ∃ m, (runesOf s).length = m := ⟨_, rfl⟩
  rw [hm]
  have HM := hidX hm
  clear hm
  go_wp2_with fail
  go_ret
  rw [HM.out]
  exact ⟨rfl, HB.out⟩

end Go.Proofs.Ythhjcpmnekibnaa
namespace Go.Proofs.Ythhjcpmnekibnaa
open Go.RowKit
set_option linter.unusedVariables false

/-- A struct's cell, and two slots, as results. -/
theorem results_cell_two {P : Program} {fn : Func} {p q r : Tmp} {ty : TypeId} (h : fn.results = #[.cell p ty, .tmp q, .tmp r]) (tmps : Array Value) (w : World) (g : Nat) (t : TypeId) (cs : Array Value) (fr : Nat × Nat) (d : TypeDesc)
    (hp : tmps.getD p undef = .pointer (some ⟨g, 0, none⟩)) (hg : w.heap[g]? = some (.cells cs t fr))
    (hu : P.underlying ty = some d) (hd : (match d with | .struct _ | .array _ _ => true | _ => false) = true) (hi : (P.info? ty).map (·.size) = some cs.size) :
    (results fn tmps).run P w = .ok (.tuple #[.agg cs, tmps.getD q undef, tmps.getD r undef]) w := by
  have hp' : tmps[p]?.getD undef = .pointer (some ⟨g, 0, none⟩) := by simpa using hp
  simp [results, h, hp', asAddr, run_loadVar_row w g t ty cs fr d hg hu hd hi]
def zT : Array Value := #[.int .i64 0, .string ⟨#[]⟩, .int .i64 0, .slice none 0 0]
theorem signs_at {w : World} {B R : Nat} {v : Value} {l : List Rn.Sg} (h : w.ownsRow B 117 2 v l.length (Rn.sgCells l)) (hR : w.heap.size ≤ R) (hs : ∀ x ∈ l, x.1.size ≤ 2147483648) : ∃ ao cap, v = .slice ao l.length cap ∧ l.length ≤ cap ∧ cap ≤ 9223372036854775807 ∧ SgAt w R ao l := by
  obtain ⟨ao, cap, rfl, h1, h2, h3⟩ := sg_cell h
  refine ⟨ao, cap, rfl, h1, h2, fun j x hj => ?_⟩
  obtain ⟨g, e, hg, c1, c2⟩ := h3 j x hj
  exact ⟨g, 0, e, by omega, hg, by simpa using c1, by simpa using c2, hs x (List.mem_of_getElem? hj)⟩

set_option maxHeartbeats 8000000 in
set_option maxRecDepth 100000 in
theorem refRead_any (s : ByteArray) (number : Bool) (w : World) (hs : s.size ≤ 140737488351232) :
    Calls Try.prog 6 #[.string s, .bool number] w fun e w' => ∃ v, e = .returned (.tuple #[v, .int .i64 (xread s number).2.1, .int .i64 (xread s number).2.2]) ∧ TIn w' w.heap.size (xread s number).1 v ∧ Below w.heap.size w w' := by
  have HZ0 : Hid (Blk (w.alloc (.cells zT 33)) w.heap.size 33 zT) := blk_new rfl
  have HB0 : Hid (Below w.heap.size w (w.alloc (.cells zT 33))) := below_alloc (Below.refl _ _) _
  by_cases h1 : 1000 < s.size
  · have hx : xread s number = (noT, 0, 5) := by unfold xread; rw [if_pos h1]
    have HX := hidIn hx
    have h1' : (1000 : Int) < (s.size : Int) := by omega
    clear hx HZ0 HB0
    go_enter Try.func6, Try.ntmps6
    go_wp2_with fail
    refine bodyPost_ret (results_cell_two rfl _ _ w.heap.size 33 zT (0, 0) _ rfl (heap_alloc_new _ _) Try.underlying33 rfl infoT) rfl ?_
    rw [HX.out]
    exact ⟨_, rfl, tin_leaf _ _ _ _ _, below_alloc (Below.refl _ _) _⟩
  · have h1' : ¬ (1000 : Int) < (s.size : Int) := by omega
    have HS1 := hidIn (Rn.refSigns_any s (w.alloc (.cells zT 33)) (by omega))
    have hsz : s.size ≤ 1000 := by omega
    unfold zT at HS1
    go_enter Try.func6, Try.ntmps6
    go_wp2_with fail
    refine HS1.out.mono ?_
    rintro e w1 ⟨v1, rfl, ho1, hb1⟩
    have HZ1 := hidIn (HZ0.out.below hb1 HZ0.out.lt)
    have HB1 := hidIn (HB0.out.trans (hb1.mono HB0.out.size))
    clear HZ0 HB0 HS1 hb1
    by_cases h2 : Rn.badOf s = 0
    rotate_left
    · have hx : xread s number = (noT, (Rn.badOf s : Int), 2) := by unfold xread; rw [if_neg h1, if_pos h2]
      have HX := hidIn hx
      have h2' : (0 : Int) < (Rn.badOf s : Int) := by omega
      obtain ⟨⟨z0, z1, z2, z3⟩, f0, f1, f2, f3⟩ := blk_zero HZ1.out
      clear hx h2
      generalize (Rn.badOf s : Int) = bad at *
      go_wp2_with fail
      refine bodyPost_ret (results_cell_two rfl _ _ w.heap.size 33 zT (0, 0) _ rfl (set4_blk HZ1.out _ _ _ _) Try.underlying33 rfl infoT) rfl ?_
      rw [HX.out]
      exact ⟨_, rfl, tin_leaf _ _ _ _ _, (((HB1.out.setCell (Nat.le_refl _) _).setCell (Nat.le_refl _) _).setCell (Nat.le_refl _) _).setCell (Nat.le_refl _) _⟩
    have hl : Rn.refL s = Rn.sgOf s := by unfold Rn.refL; rw [if_pos h2]
    rw [hl] at ho1
    rw [h2]
    have HO1 := hidIn ho1
    have HSM := hidIn (sg_small s hsz)
    obtain ⟨ao, cap, rfl, hc1, hc2, _⟩ := signs_at ho1 (Nat.le_refl _) HSM.out
    have HC1 := hidIn hc1
    have HC2 := hidIn hc2
    have HCNT := hidIn (fun w => refCount_any s w (by omega))
    have HRN : Hid ((runesOf s).length ≤ s.size) := by have := rest_length s 0; show _ ≤ _; unfold runesOf; omega
    have HH1 := hidIn h1
    have HH2 := hidIn h2
    clear ho1 hl hc1 hc2 h1 h2
    go_wp2_with fail
    refine (HCNT.out w1).mono ?_
    rintro e w2 ⟨rfl, hb2⟩
    have HO2 : Hid (w2.ownsRow (w.alloc (.cells zT 33)).heap.size 117 2 (.slice ao (Rn.sgOf s).length cap) (Rn.sgOf s).length (Rn.sgCells (Rn.sgOf s))) := HO1.out.kept (row := none) ⟨hb2.os, hb2.tape, hb2.output, hb2.size, fun q hq _ => hb2.block q hq⟩ (by cases hv : (Value.slice ao (Rn.sgOf s).length cap).ownBlock <;> simp)
    have HZ2 := hidIn (HZ1.out.below hb2 HZ1.out.lt)
    have HB2 := hidIn (HB1.out.trans (hb2.mono HB1.out.size))
    obtain ⟨ao', cap', hvv, _, _, hsg⟩ := signs_at (R := w2.heap.size) HO2.out (Nat.le_refl _) HSM.out
    injection hvv with hv1 hv2 hv3
    subst hv1 hv3
    have HSG := hidIn hsg
    clear hb2 hsg HO1 HO2 HZ1 HB1 HCNT hv2
    have HX3 : Hid (XIn (w2.alloc (.cells #[.slice ao (Rn.sgOf s).length cap, .int .i64 0, .int .i64 (((runesOf s).length : Int) + 1), .int .i64 0, .int .i64 0] 62)) w2.heap.size (xopen s)) := by
      refine ⟨⟨ao, cap, blk_new rfl, HC1.out, HC2.out, HSG.out.grew (Grew.of_below (below_alloc (Below.refl _ _) _))⟩, Nat.zero_le _, ?_⟩
      have h5 := open_len s
      unfold openR at h5
      rw [if_neg HH1.out, if_neg (by simpa using HH2.out)] at h5
      show (Rn.sgOf s).length ≤ _
      simp only at h5
      omega
    have HB3 : Hid (Below w.heap.size w (w2.alloc (.cells #[.slice ao (Rn.sgOf s).length cap, .int .i64 0, .int .i64 (((runesOf s).length : Int) + 1), .int .i64 0, .int .i64 0] 62))) := below_alloc HB2.out _
    have HZ3 : Hid (Blk (w2.alloc (.cells #[.slice ao (Rn.sgOf s).length cap, .int .i64 0, .int .i64 (((runesOf s).length : Int) + 1), .int .i64 0, .int .i64 0] 62)) w.heap.size 33 zT) := blk_k HZ2.out _
    have HRW : Hid (w.heap.size < w2.heap.size) := HZ2.out.lt
    obtain ⟨rl, hrl⟩ : ∃ rl, (runesOf s).length = rl := ⟨_, rfl⟩
    have hrl2 : rl ≤ 1000 := by have := HRN.out; omega
    rw [hrl] at HX3 HB3 HZ3
    rw [hrl]
    clear hrl HRN
    go_wp2_with fail
    generalize w2.alloc (.cells #[.slice ao (Rn.sgOf s).length cap, .int .i64 0, .int .i64 ((rl : Int) + 1), .int .i64 0, .int .i64 0] 62) = w3 at *
    have HRL : Hid (w2.heap.size < w3.heap.size) := HX3.out.lt
    generalize w2.heap.size = R at *
    refine (tree_any 12 1 14 rfl (by omega) (xopen s) number w3 R HX3.out).mono ?_
    rintro e w4 ⟨v4, rfl, ht4, hx4, hg4⟩
    have hx : xread s number = if (xend (xtree 14 (xopen s) number 1).2).e ≠ 0 then (noT, (xend (xtree 14 (xopen s) number 1).2).bad, (xend (xtree 14 (xopen s) number 1).2).e) else if chkT (xtree 14 (xopen s) number 1).1 number ≠ 0 then (noT, 0, chkT (xtree 14 (xopen s) number 1).1 number) else ((xtree 14 (xopen s) number 1).1, 0, 0) := by
      unfold xread
      rw [if_neg HH1.out, if_neg (by simpa using HH2.out)]
    have HRD := hidIn hx
    have HFI : Hid ((xend (xtree 14 (xopen s) number 1).2).e = 0 → (xtree 14 (xopen s) number 1).1.Sized ∧ (xtree 14 (xopen s) number 1).1.cnt ≤ 999990 ∧ (xtree 14 (xopen s) number 1).1.nodes ≤ 1000000) := xtree_fine s number HH1.out HH2.out
    have HAL : Hid ((xtree 14 (xopen s) number 1).2.all.length = (Rn.sgOf s).length) := by unfold Hid; rw [xtree_all]; rfl
    obtain ⟨tt, htt⟩ : ∃ tt, (xtree 14 (xopen s) number 1).1 = tt := ⟨_, rfl⟩
    obtain ⟨xx, hxx⟩ : ∃ xx, (xtree 14 (xopen s) number 1).2 = xx := ⟨_, rfl⟩
    rw [htt] at ht4 HRD HFI
    rw [hxx] at hx4 HRD HFI HAL
    have hv4 := ht4
    obtain ⟨ka, kc, rfl, hz1, hz2, hz3⟩ := hv4
    have HT4 := hidIn ht4
    have HX4 := hidIn hx4
    have HZ4 := hidIn (HZ3.out.grew hg4 (by have := HRW.out; omega))
    have HB4 : Hid (Below w.heap.size w w4) := HB3.out.trans (hg4.below HB3.out.size (by have := HRW.out; omega) (fun q hq => by cases hq))
    have HW34 : Hid (w.heap.size < w3.heap.size) := by have := HRW.out; have := HRL.out; show _ < _; omega
    have HTB : Hid (Blk (w4.alloc (.cells #[.int .i64 tt.kind, .string tt.s, .int .i64 tt.n, .slice ka tt.k.length kc] 33)) w4.heap.size 33 #[.int .i64 tt.kind, .string tt.s, .int .i64 tt.n, .slice ka tt.k.length kc]) := blk_new rfl
    have HX5 := hidIn (HX4.out.tr (below_alloc (Below.refl _ _) (.cells #[.int .i64 tt.kind, .string tt.s, .int .i64 tt.n, .slice ka tt.k.length kc] 33)))
    have HT5 := hidIn (HT4.out.below (below_alloc (Below.refl _ _) (.cells #[.int .i64 tt.kind, .string tt.s, .int .i64 tt.n, .slice ka tt.k.length kc] 33)))
    have HZ5 := hidIn (blk_k HZ4.out (.cells #[.int .i64 tt.kind, .string tt.s, .int .i64 tt.n, .slice ka tt.k.length kc] 33))
    have HB5 := hidIn (below_alloc HB4.out (.cells #[.int .i64 tt.kind, .string tt.s, .int .i64 tt.n, .slice ka tt.k.length kc] 33))
    have hcells : (w4.alloc (.cells #[.int .i64 tt.kind, .string tt.s, .int .i64 tt.n, .slice ka tt.k.length kc] 33)).cell? ⟨R, 1, none⟩ = some (.int .i64 (xx.no : Int)) ∧ (w4.alloc (.cells #[.int .i64 tt.kind, .string tt.s, .int .i64 tt.n, .slice ka tt.k.length kc] 33)).cell? ⟨R, 4, none⟩ = some (.int .i64 xx.e) := by
      obtain ⟨a, c, h1, _⟩ := HX5.out.has
      exact ⟨h1.cell 1, h1.cell 4⟩
    have hno : (xx.no : Int) ≤ 2147483648 := HX5.out.cells.2.2
    clear ht4 hx4 hg4 hx htt hxx hz1 hz2 hz3 HT4 HX4 HZ4 HB4 HX3 HB3 HZ3 HZ2 HB2
    go_upto_region 8 with fail
    generalize w4.alloc (.cells #[.int .i64 tt.kind, .string tt.s, .int .i64 tt.n, .slice ka tt.k.length kc] 33) = w5 at *
    generalize w4.heap.size = tb at *
    obtain ⟨ce1, ce4⟩ := hcells
    have HEN : Hid (xend xx = if xx.e = 0 ∧ xx.no < xx.all.length then xx.fail 2 else xx) := rfl
    by_cases hA : xx.e = 0 ∧ xx.no < xx.all.length
    · obtain ⟨hA1, hA2⟩ := hA
      have HXE0 : Hid (xend xx = xx.fail 2) := by unfold Hid; rw [HEN.out, if_pos ⟨hA1, hA2⟩]
      have hA2' : (xx.no : Int) < ((Rn.sgOf s).length : Int) := by have := HAL.out; omega
      have hye2 : (xx.fail 2).e ≠ 0 := by unfold XS.fail; rw [if_pos hA1]; show (2 : Int) ≠ 0; decide
      have HYE := hidX hye2
      rw [hA1] at ce4
      clear hA1 hA2 hye2
      go_wp2_with fail
      refine (xfail_any w5 R xx 2 HX5.out).mono ?_
      rintro e w6 ⟨rfl, hx6, hg6⟩
      have HXE := HXE0
      have HX6 := hidX hx6
      have HZ6 := hidX (HZ5.out.grew hg6 (by have := HRW.out; omega))
      have HB6 : Hid (Below w.heap.size w w6) := HB5.out.trans (hg6.below HB5.out.size (by have := HRW.out; omega) (fun q hq => by cases hq))
      obtain ⟨yy, hyy⟩ : ∃ yy, xx.fail 2 = yy := ⟨_, rfl⟩
      rw [hyy] at HX6 HXE HYE
      clear hx6 hg6 HX5 HZ5 HB5 ce1 ce4 hyy HXE0
      have hce : w6.cell? ⟨R, 3, none⟩ = some (.int .i64 yy.bad) ∧ w6.cell? ⟨R, 4, none⟩ = some (.int .i64 yy.e) := by
        obtain ⟨a, c, h1, _⟩ := HX6.out.has
        exact ⟨h1.cell 3, h1.cell 4⟩
      obtain ⟨ce3, ce4⟩ := hce
      obtain ⟨⟨z0, z1, z2, z3⟩, f0, f1, f2, f3⟩ := blk_zero HZ6.out
      have HRES : Hid (xread s number = (noT, yy.bad, yy.e)) := by
        unfold Hid
        rw [HRD.out, HXE.out, if_pos HYE.out]
      have hye : (yy.e != 0) = true := by have := HYE.out; simpa using this
      generalize yy.bad = ybad at *
      generalize yy.e = ye at *
      have hnR : ¬ R = w.heap.size := by have := HRW.out; omega
      have hnR2 : ¬ w.heap.size = R := by have := HRW.out; omega
      go_wp2_with fail
      go_region
      all_goals
        go_wp2_with fail
        refine bodyPost_ret (results_cell_two rfl _ _ w.heap.size 33 zT (0, 0) _ rfl (show Blk _ _ _ _ from set4_blk HZ6.out _ _ _ _) Try.underlying33 rfl infoT) rfl ?_
        rw [HRES.out]
        exact ⟨_, rfl, tin_leaf _ _ _ _ _, below_drew ((((HB6.out.setCell (Nat.le_refl _) _).setCell (Nat.le_refl _) _).setCell (Nat.le_refl _) _).setCell (Nat.le_refl _) _)⟩
    · have HXE : Hid (xend xx = xx) := by unfold Hid; rw [HEN.out, if_neg hA]
      by_cases he : xx.e = 0
      rotate_left
      · have HYE := hidX he
        have hz0 : (xx.e == 0) = false := by rw [beq_eq_false_iff_ne]; exact he
        clear hA he ce1
        have hce : w5.cell? ⟨R, 3, none⟩ = some (.int .i64 xx.bad) ∧ w5.cell? ⟨R, 4, none⟩ = some (.int .i64 xx.e) := by
          obtain ⟨a, c, h1, _⟩ := HX5.out.has
          exact ⟨h1.cell 3, h1.cell 4⟩
        obtain ⟨ce3, ce5⟩ := hce
        clear ce4
        obtain ⟨⟨z0, z1, z2, z3⟩, f0, f1, f2, f3⟩ := blk_zero HZ5.out
        have HRES : Hid (xread s number = (noT, xx.bad, xx.e)) := by
          unfold Hid
          rw [HRD.out, HXE.out, if_pos HYE.out]
        have hye : (xx.e != 0) = true := by have := HYE.out; simpa using this
        generalize xx.bad = ybad at *
        generalize xx.e = ye at *
        have hnR : ¬ R = w.heap.size := by have := HRW.out; omega
        have hnR2 : ¬ w.heap.size = R := by have := HRW.out; omega
        go_wp2_with fail
        go_region
        all_goals
          go_wp2_with fail
          refine bodyPost_ret (results_cell_two rfl _ _ w.heap.size 33 zT (0, 0) _ rfl (show Blk _ _ _ _ from set4_blk HZ5.out _ _ _ _) Try.underlying33 rfl infoT) rfl ?_
          rw [HRES.out]
          exact ⟨_, rfl, tin_leaf _ _ _ _ _, below_drew ((((HB5.out.setCell (Nat.le_refl _) _).setCell (Nat.le_refl _) _).setCell (Nat.le_refl _) _).setCell (Nat.le_refl _) _)⟩
      · have hno2 : ¬ (xx.no : Int) < ((Rn.sgOf s).length : Int) := fun h => hA ⟨he, by have := HAL.out; omega⟩
        obtain ⟨hsz1, hcnt, hnd⟩ := HFI.out (by rw [HXE.out]; exact he)
        rw [HXE.out, if_neg (by rw [he]; decide)] at HRD
        have HCK := hidX (refCheck_any tt hsz1 hcnt hnd number w5 _ (HT5.out.low (Nat.zero_le _)))
        rw [he] at ce4
        have g0 : w5.cell? ⟨tb, 0, none⟩ = some (.int .i64 tt.kind) := HTB.out.cell 0
        have g1 : w5.cell? ⟨tb, 1, none⟩ = some (.string tt.s) := HTB.out.cell 1
        have g2 : w5.cell? ⟨tb, 2, none⟩ = some (.int .i64 tt.n) := HTB.out.cell 2
        have g3 : w5.cell? ⟨tb, 3, none⟩ = some (.slice ka tt.k.length kc) := HTB.out.cell 3
        clear hA he hsz1 hcnt hnd HFI
        go_wp2_with fail
        refine HCK.out.mono ?_
        rintro e w6 ⟨rfl, hb6⟩
        have HZ6 := hidX (HZ5.out.below hb6 HZ5.out.lt)
        have HB6 := hidX (HB5.out.trans (hb6.mono HB5.out.size))
        have HT6 := hidX (HT5.out.below hb6)
        have HTB6 := hidX (HTB.out.below hb6 HTB.out.lt)
        clear hb6 HX5 HZ5 HB5 HT5 HCK ce1 ce4 g0 g1 g2 g3
        obtain ⟨⟨z0, z1, z2, z3⟩, f0, f1, f2, f3⟩ := blk_zero HZ6.out
        obtain ⟨ck, hck⟩ : ∃ ck, chkT tt number = ck := ⟨_, rfl⟩
        rw [hck] at HRD
        rw [hck]
        clear hck
        by_cases hc0 : ck = 0
        · subst hc0
          rw [if_neg (by decide)] at HRD
          have g0 : w6.cell? ⟨tb, 0, none⟩ = some (.int .i64 tt.kind) := HTB6.out.cell 0
          have g1 : w6.cell? ⟨tb, 1, none⟩ = some (.string tt.s) := HTB6.out.cell 1
          have g2 : w6.cell? ⟨tb, 2, none⟩ = some (.int .i64 tt.n) := HTB6.out.cell 2
          have g3 : w6.cell? ⟨tb, 3, none⟩ = some (.slice ka tt.k.length kc) := HTB6.out.cell 3
          go_wp2_with fail
          refine bodyPost_ret (results_cell_two rfl _ _ w.heap.size 33 #[.int .i64 tt.kind, .string tt.s, .int .i64 tt.n, .slice ka tt.k.length kc] (0, 0) _ rfl (set4_blk HZ6.out _ _ _ _) Try.underlying33 rfl infoT) rfl ?_
          rw [HRD.out]
          exact ⟨_, rfl, (HT6.out.set4 HW34.out _ _ _ _).low (Nat.le_of_lt HW34.out), (((HB6.out.setCell (Nat.le_refl _) _).setCell (Nat.le_refl _) _).setCell (Nat.le_refl _) _).setCell (Nat.le_refl _) _⟩
        · have hc1 : (ck != 0) = true := by simpa using hc0
          rw [if_pos hc0] at HRD
          go_wp2_with fail
          refine bodyPost_ret (results_cell_two rfl _ _ w.heap.size 33 zT (0, 0) _ rfl (set4_blk HZ6.out _ _ _ _) Try.underlying33 rfl infoT) rfl ?_
          rw [HRD.out]
          exact ⟨_, rfl, tin_leaf _ _ _ _ _, (((HB6.out.setCell (Nat.le_refl _) _).setCell (Nat.le_refl _) _).setCell (Nat.le_refl _) _).setCell (Nat.le_refl _) _⟩

end Go.Proofs.Ythhjcpmnekibnaa
namespace Go.Proofs.Ythhjcpmnekibnaa
open Go.RowKit
set_option linter.unusedVariables false

theorem plainC_same (a : C) : ∀ b, sameTr (plainC a) (plainC b) = sameC a b := by
  induction a with
  | zero => intro b; cases b <;> simp [plainC, sameTr_mk, sameTL, sameC, T.kind, T.s, T.n, T.k]
  | one s => intro b; cases b <;> simp [plainC, sameTr_mk, sameTL, sameC, T.kind, T.s, T.n, T.k] <;> (first | rfl | congr)
  | odd v => intro b; cases b <;> simp [plainC, sameTr_mk, sameTL, sameC, T.kind, T.s, T.n, T.k]
  | give c ih => intro b; cases b <;> simp [plainC, sameTr_mk, sameTL, sameC, T.kind, T.s, T.n, T.k, ih]
  | and l r h1 h2 => intro b; cases b <;> simp [plainC, sameTr_mk, sameTL, sameC, T.kind, T.s, T.n, T.k, h1, h2]
  | or s l r h1 h2 => intro b; cases b <;> simp [plainC, sameTr_mk, sameTL, sameC, T.kind, T.s, T.n, T.k, h1, h2] <;> (first | rfl | congr)
  | scale o c h1 => intro b; cases b <;> simp [plainC, sameTr_mk, sameTL, sameC, T.kind, T.s, T.n, T.k, h1, plain_same]
  | when d c h1 => intro b; cases b <;> simp [plainC, sameTr_mk, sameTL, sameC, T.kind, T.s, T.n, T.k, h1] <;> (first | rfl | congr)
  | iff o l r h1 h2 => intro b; cases b <;> simp [plainC, sameTr_mk, sameTL, sameC, T.kind, T.s, T.n, T.k, h1, h2, plain_same]
theorem sameC_comm (a : C) : ∀ b, sameC a b = sameC b a := by
  induction a with
  | zero => intro b; cases b <;> simp [sameC]
  | one s => intro b; cases b <;> simp [sameC, eq_comm]
  | odd v => intro b; cases b <;> simp [sameC]
  | give c ih => intro b; cases b <;> simp [sameC, ih]
  | and l r h1 h2 => intro b; cases b <;> simp [sameC, h1, h2]
  | or s l r h1 h2 =>
    intro b
    cases b <;> simp [sameC]
    rename_i s2 l2 r2
    rw [h1, h2, show decide (s = s2) = decide (s2 = s) from by simp [eq_comm]]
  | scale o c h1 => intro b; cases b <;> simp [sameC, h1, sameO_comm]
  | when d c h1 =>
    intro b
    cases b <;> simp [sameC]
    rename_i d2 c2
    rw [h1, show decide (d = d2) = decide (d2 = d) from by simp [eq_comm]]
  | iff o l r h1 h2 => intro b; cases b <;> simp [sameC, h1, h2, sameO_comm]
theorem plainC_nams (c : C) : (plainC c).nams = c.all := by
  induction c <;> simp_all [plainC, T.nams, namsL, C.all, plain_nams]
theorem plainC_names (c : C) : addAll [] (plainC c).nams = c.names := by rw [plainC_nams]; rfl
theorem plainC_back (c : C) : plainC (termOf (plainC c)) = plainC c := by
  induction c with
  | zero => rfl
  | one s => rfl
  | odd v => rfl
  | give c ih => show plainC (.give (termOf (plainC c))) = _; simp [plainC, ih]
  | and l r h1 h2 => show plainC (.and (termOf (plainC l)) (termOf (plainC r))) = _; simp [plainC, h1, h2]
  | or s l r h1 h2 => show plainC (.or s (termOf (plainC l)) (termOf (plainC r))) = _; simp [plainC, h1, h2]
  | scale o c h1 => show plainC (.scale (obsOf (plain o)) (termOf (plainC c))) = _; simp [plainC, h1, plain_back]
  | when d c h1 => show plainC (.when d (termOf (plainC c))) = _; simp [plainC, h1]
  | iff o l r h1 h2 => show plainC (.iff (obsOf (plain o)) (termOf (plainC l)) (termOf (plainC r))) = _; simp [plainC, h1, h2, plain_back]

end Go.Proofs.Ythhjcpmnekibnaa
namespace Go.Proofs.Ythhjcpmnekibnaa
open Go.RowKit
set_option linter.unusedVariables false

theorem plain_text (o : O) (h : formB o = true) : textT (plain o) = textO o := by
  induction o with
  | const n => simp [plain, textT, textO]
  | fix s => simp [plain, textT, textTL, textO, headP]; rfl
  | add l r h1 h2 => simp only [formB, Bool.and_eq_true] at h; simp [plain, textT, textTL, textO, headP, h1 h.1, h2 h.2]; rfl
  | mul l r h1 h2 => simp only [formB, Bool.and_eq_true] at h; simp [plain, textT, textTL, textO, headP, h1 h.1, h2 h.2]; rfl
  | max l r h1 h2 => simp only [formB, Bool.and_eq_true] at h; simp [plain, textT, textTL, textO, headP, h1 h.1, h2 h.2]; rfl
  | neg o h1 => simp [plain, textT, textTL, textO, headP, h1 h]; rfl
  | odd v => cases h
theorem plainC_text (c : C) (h : formC c = true) : textT (plainC c) = textC c := by
  induction c with
  | zero => simp [plainC, textT, textC]
  | one s => simp [plainC, textT, textTL, textC, headP]; rfl
  | give c h1 => simp [plainC, textT, textTL, textC, headP, h1 h]; rfl
  | and l r h1 h2 => simp only [formC, Bool.and_eq_true] at h; simp [plainC, textT, textTL, textC, headP, h1 h.1, h2 h.2]; rfl
  | or s l r h1 h2 => simp only [formC, Bool.and_eq_true] at h; simp [plainC, textT, textTL, textC, headP, h1 h.1.2, h2 h.2]; rfl
  | scale o c h1 => simp only [formC, Bool.and_eq_true] at h; simp [plainC, textT, textTL, textC, headP, plain_text o h.1, h1 h.2]; rfl
  | when d c h1 => simp only [formC, Bool.and_eq_true] at h; simp [plainC, textT, textTL, textC, headP, h1 h.2]; rfl
  | iff o l r h1 h2 => simp only [formC, Bool.and_eq_true] at h; simp [plainC, textT, textTL, textC, headP, plain_text o h.1.1, h1 h.1.2, h2 h.2]; rfl
  | odd v => cases h
theorem plain_wk (o : O) (k : o.Ok) : (plain o).wk := by
  induction o with
  | const n => have := k; simp only [O.Ok] at this; simp [plain, T.wk, wkL]; omega
  | fix s => simp [plain, T.wk, wkL]
  | add l r h1 h2 => simp [plain, T.wk, wkL, h1 k.1, h2 k.2]
  | mul l r h1 h2 => simp [plain, T.wk, wkL, h1 k.1, h2 k.2]
  | max l r h1 h2 => simp [plain, T.wk, wkL, h1 k.1, h2 k.2]
  | neg o h1 => simp [plain, T.wk, wkL, h1 k]
  | odd v => simp [plain, T.wk, wkL]
theorem plainC_wk (c : C) (k : c.Ok) : (plainC c).wk := by
  induction c with
  | zero => simp [plainC, T.wk, wkL]
  | one s => simp [plainC, T.wk, wkL]
  | give c h1 => simp [plainC, T.wk, wkL, h1 k]
  | and l r h1 h2 => simp [plainC, T.wk, wkL, h1 k.1, h2 k.2]
  | or s l r h1 h2 => simp [plainC, T.wk, wkL, h1 k.2.1, h2 k.2.2]
  | scale o c h1 => simp [plainC, T.wk, wkL, plain_wk o k.1, h1 k.2]
  | when d c h1 => have := k.1; simp [plainC, T.wk, wkL, h1 k.2]; omega
  | iff o l r h1 h2 => simp [plainC, T.wk, wkL, plain_wk o k.1, h1 k.2.1, h2 k.2.2]
  | odd v => simp [plainC, T.wk, wkL]

set_option maxHeartbeats 1000000 in
set_option maxRecDepth 100000 in
theorem refWriteC_any (c : C) (hok : c.Ok) (hwt : c.weight ≤ 300000) (w : World) (v : Value) (ht : TIn w 0 (plainC c) v) : Calls Try.prog 13 #[v, .bool false] w fun e w' => e = .returned (.tuple #[.string (wTextC c), .int .i64 (wErrC c)]) ∧ Below w.heap.size w w' := by
  have HW : Hid (chkC c = 0 → (textC c).size ≤ 70368744177664 ∧ ∀ (w : World) (v : Value), TIn w 0 (plainC c) v → Calls Try.prog 28 #[v] w fun e w' => e = .returned (.string (textC c)) ∧ Below w.heap.size w w') := fun h => by
    have hz := chkC_zero h
    have hn := formC_neat c hok hz.1
    have hs : (textC c).size ≤ 70368744177664 := Nat.le_trans (textC_size _ c hn) (by omega)
    refine ⟨hs, ?_⟩
    have h2 := refText_any (plainC c) (plainC_wk c hok)
    rw [plainC_text c hz.1] at h2
    exact h2 hs
  have HR : Hid (wTextC c = if chkC c = 0 then (if 1000 < (textC c).size then ⟨#[]⟩ else textC c) else ⟨#[]⟩) := rfl
  have HE : Hid (wErrC c = if chkC c = 0 then (if 1000 < (textC c).size then 5 else 0) else chkC c) := rfl
  have HK : Hid (∀ (w : World) (v : Value), TIn w 0 (plainC c) v → Calls Try.prog 24 #[v, .bool false] w fun e w' => e = .returned (.int .i64 (chkC c)) ∧ Below w.heap.size w w') := fun w v h => refCheckC_any c hok hwt w v 0 h
  have HV := hidIn ht
  obtain ⟨a, cap, rfl, _, _, _⟩ := ht
  generalize wTextC c = rt at *
  generalize wErrC c = re at *
  clear hok hwt
  go_enter Try.func13, Try.ntmps13
  go_wp2_with fail
  have HB0 : Hid (Below w.heap.size w (w.alloc (.cells #[.int .i64 (plainC c).kind, .string (plainC c).s, .int .i64 (plainC c).n, .slice a (plainC c).k.length cap] 33))) := below_alloc (Below.refl _ _) _
  refine (HK.out _ _ (HV.out.below HB0.out)).mono ?_
  rintro e w1 ⟨rfl, hb1⟩
  have HB1 : Hid (Below w.heap.size w w1) := HB0.out.trans (hb1.mono (by simp))
  have hcells : ∀ j, j < 4 → w1.cell? ⟨w.heap.size, j, none⟩ = (#[.int .i64 (plainC c).kind, .string (plainC c).s, .int .i64 (plainC c).n, .slice a (plainC c).k.length cap] : Array Value)[j]? := fun j hj => (cell_of_row _ _ _ _ _ _ ((hb1.block _ (by simp)).trans (heap_alloc_new _ _)))
  have k0 := hcells 0 (by decide)
  have k1 := hcells 1 (by decide)
  have k2 := hcells 2 (by decide)
  have k3 := hcells 3 (by decide)
  simp at k0 k1 k2 k3
  have HV1 := hidIn (HV.out.below HB1.out)
  clear hb1 hcells
  by_cases h0 : chkC c = 0
  · obtain ⟨hs, hw⟩ := HW.out h0
    have HW1 := hidIn hw
    clear hw
    have H1 := HR.out
    have H2 := HE.out
    rw [if_pos h0] at H1 H2
    have HH1 := hidIn H1
    have HH2 := hidIn H2
    clear H1 H2 HR HE
    rw [h0]
    clear h0
    go_wp2_with fail
    refine (HW1.out w1 _ HV1.out).mono ?_
    rintro e w2 ⟨rfl, hb2⟩
    have HB2 := hidIn (HB1.out.trans (hb2.mono HB1.out.size))
    clear hb2 k0 k1 k2 k3 HW1 HV1
    by_cases h1 : 1000 < (textC c).size
    · have h1' : (1000 : Int) < ((textC c).size : Int) := by omega
      rw [if_pos h1] at HH1 HH2
      go_wp2_with fail
      go_ret2
      exact ⟨by rw [HH1.out, HH2.out]; rfl, HB2.out⟩
    · have h1' : ¬ (1000 : Int) < ((textC c).size : Int) := by omega
      rw [if_neg h1] at HH1 HH2
      go_wp2_with fail
      go_ret2
      exact ⟨by rw [HH1.out, HH2.out]; rfl, HB2.out⟩
  · obtain ⟨n, hn⟩ : ∃ n, chkC c = n := ⟨_, rfl⟩
    have H1 := HR.out
    have H2 := HE.out
    rw [if_neg h0] at H1 H2
    rw [hn] at h0 H2
    rw [hn]
    clear k0 k1 k2 k3
    go_wp2_with fail
    go_ret2
    exact ⟨by rw [H1, H2]; rfl, HB1.out⟩

set_option maxHeartbeats 1000000 in
set_option maxRecDepth 100000 in
theorem refWriteO_any (c : O) (hok : c.Ok) (hwt : c.nodes ≤ 1000) (w : World) (v : Value) (ht : TIn w 0 (plain c) v) : Calls Try.prog 13 #[v, .bool true] w fun e w' => e = .returned (.tuple #[.string (wText c), .int .i64 (wErr c)]) ∧ Below w.heap.size w w' := by
  have HW : Hid (chk c = 0 → (textO c).size ≤ 70368744177664 ∧ ∀ (w : World) (v : Value), TIn w 0 (plain c) v → Calls Try.prog 28 #[v] w fun e w' => e = .returned (.string (textO c)) ∧ Below w.heap.size w w') := fun h => by
    have hz := chk_zero h
    have hn := formB_neat c hok hz.1
    have hs : (textO c).size ≤ 70368744177664 := Nat.le_trans (textO_size _ c hn) (by omega)
    refine ⟨hs, ?_⟩
    have h2 := refText_any (plain c) (plain_wk c hok)
    rw [plain_text c hz.1] at h2
    exact h2 hs
  have HR : Hid (wText c = if chk c = 0 then (if 1000 < (textO c).size then ⟨#[]⟩ else textO c) else ⟨#[]⟩) := rfl
  have HE : Hid (wErr c = if chk c = 0 then (if 1000 < (textO c).size then 5 else 0) else chk c) := rfl
  have HK : Hid (∀ (w : World) (v : Value), TIn w 0 (plain c) v → Calls Try.prog 24 #[v, .bool true] w fun e w' => e = .returned (.int .i64 (chk c)) ∧ Below w.heap.size w w') := fun w v h => by
    have h2 := refCheck_any (plain c) (plain_sized c hok) (by have := plain_cnt c; omega) (by rw [plain_nodes]; omega) true w v h
    rw [plain_chk] at h2
    exact h2
  have HV := hidIn ht
  obtain ⟨a, cap, rfl, _, _, _⟩ := ht
  generalize wText c = rt at *
  generalize wErr c = re at *
  clear hok hwt
  go_enter Try.func13, Try.ntmps13
  go_wp2_with fail
  have HB0 : Hid (Below w.heap.size w (w.alloc (.cells #[.int .i64 (plain c).kind, .string (plain c).s, .int .i64 (plain c).n, .slice a (plain c).k.length cap] 33))) := below_alloc (Below.refl _ _) _
  refine (HK.out _ _ (HV.out.below HB0.out)).mono ?_
  rintro e w1 ⟨rfl, hb1⟩
  have HB1 : Hid (Below w.heap.size w w1) := HB0.out.trans (hb1.mono (by simp))
  have hcells : ∀ j, j < 4 → w1.cell? ⟨w.heap.size, j, none⟩ = (#[.int .i64 (plain c).kind, .string (plain c).s, .int .i64 (plain c).n, .slice a (plain c).k.length cap] : Array Value)[j]? := fun j hj => (cell_of_row _ _ _ _ _ _ ((hb1.block _ (by simp)).trans (heap_alloc_new _ _)))
  have k0 := hcells 0 (by decide)
  have k1 := hcells 1 (by decide)
  have k2 := hcells 2 (by decide)
  have k3 := hcells 3 (by decide)
  simp at k0 k1 k2 k3
  have HV1 := hidIn (HV.out.below HB1.out)
  clear hb1 hcells
  by_cases h0 : chk c = 0
  · obtain ⟨hs, hw⟩ := HW.out h0
    have HW1 := hidIn hw
    clear hw
    have H1 := HR.out
    have H2 := HE.out
    rw [if_pos h0] at H1 H2
    have HH1 := hidIn H1
    have HH2 := hidIn H2
    clear H1 H2 HR HE
    rw [h0]
    clear h0
    go_wp2_with fail
    refine (HW1.out w1 _ HV1.out).mono ?_
    rintro e w2 ⟨rfl, hb2⟩
    have HB2 := hidIn (HB1.out.trans (hb2.mono HB1.out.size))
    clear hb2 k0 k1 k2 k3 HW1 HV1
    by_cases h1 : 1000 < (textO c).size
    · have h1' : (1000 : Int) < ((textO c).size : Int) := by omega
      rw [if_pos h1] at HH1 HH2
      go_wp2_with fail
      go_ret2
      exact ⟨by rw [HH1.out, HH2.out]; rfl, HB2.out⟩
    · have h1' : ¬ (1000 : Int) < ((textO c).size : Int) := by omega
      rw [if_neg h1] at HH1 HH2
      go_wp2_with fail
      go_ret2
      exact ⟨by rw [HH1.out, HH2.out]; rfl, HB2.out⟩
  · obtain ⟨n, hn⟩ : ∃ n, chk c = n := ⟨_, rfl⟩
    have H1 := HR.out
    have H2 := HE.out
    rw [if_neg h0] at H1 H2
    rw [hn] at h0 H2
    rw [hn]
    clear k0 k1 k2 k3
    go_wp2_with fail
    go_ret2
    exact ⟨by rw [H1, H2]; rfl, HB1.out⟩

end Go.Proofs.Ythhjcpmnekibnaa
namespace Go.Proofs.Ythhjcpmnekibnaa
open Go.RowKit
set_option linter.unusedVariables false

/-- Numbers and names as a plan makes them: short. -/
def O.tidy : O → Prop
  | .const n => (numT n).size ≤ 14
  | .fix s => s.size ≤ 14
  | .add l r => l.tidy ∧ r.tidy
  | .neg o => o.tidy
  | .mul l r => l.tidy ∧ r.tidy
  | .max l r => l.tidy ∧ r.tidy
  | .odd _ => False
def C.tidy : C → Prop
  | .zero => True
  | .one s => s.size ≤ 14
  | .give c => c.tidy
  | .and l r => l.tidy ∧ r.tidy
  | .or s l r => s.size ≤ 4 ∧ l.tidy ∧ r.tidy
  | .scale o c => o.tidy ∧ c.tidy
  | .when d c => (numT d).size ≤ 1 ∧ c.tidy
  | .iff o l r => o.tidy ∧ l.tidy ∧ r.tidy
  | .odd _ => False
theorem tidyO_size (o : O) (h : o.tidy) : 3 * (textO o).size ≤ 44 * o.nodes + 13 := by
  induction o with
  | const n => have h' : (numT n).size ≤ 14 := h; simp only [textO, O.nodes]; omega
  | fix s => have h' : s.size ≤ 14 := h; simp only [textO, O.nodes]; rw [joinT_size, joinL1]; have e : (ByteArray.mk #[102, 105, 120]).size = 3 := rfl; omega
  | add l r h1 h2 => have a := h1 h.1; have b := h2 h.2; simp only [textO, O.nodes]; rw [joinT_size, joinL2]; have e : (ByteArray.mk #[97, 100, 100]).size = 3 := rfl; omega
  | neg o h1 => have a := h1 h; simp only [textO, O.nodes]; rw [joinT_size, joinL1]; have e : (ByteArray.mk #[110, 101, 103]).size = 3 := rfl; omega
  | mul l r h1 h2 => have a := h1 h.1; have b := h2 h.2; simp only [textO, O.nodes]; rw [joinT_size, joinL2]; have e : (ByteArray.mk #[109, 117, 108]).size = 3 := rfl; omega
  | max l r h1 h2 => have a := h1 h.1; have b := h2 h.2; simp only [textO, O.nodes]; rw [joinT_size, joinL2]; have e : (ByteArray.mk #[109, 97, 120]).size = 3 := rfl; omega
  | odd v => exact absurd h id
theorem tidyC_size (c : C) (h : c.tidy) : 3 * (textC c).size ≤ 44 * c.nodes + 13 := by
  induction c with
  | zero => simp only [textC, C.nodes]; have e : (ByteArray.mk #[122, 101, 114, 111]).size = 4 := rfl; omega
  | one s => have h' : s.size ≤ 14 := h; simp only [textC, C.nodes]; rw [joinT_size, joinL1]; have e : (ByteArray.mk #[111, 110, 101]).size = 3 := rfl; omega
  | give c h1 => have a := h1 h; simp only [textC, C.nodes]; rw [joinT_size, joinL1]; have e : (ByteArray.mk #[103, 105, 118, 101]).size = 4 := rfl; omega
  | and l r h1 h2 => have a := h1 h.1; have b := h2 h.2; simp only [textC, C.nodes]; rw [joinT_size, joinL2]; have e : (ByteArray.mk #[97, 110, 100]).size = 3 := rfl; omega
  | or s l r h1 h2 => have h' : s.size ≤ 4 := h.1; have a := h1 h.2.1; have b := h2 h.2.2; simp only [textC, C.nodes]; rw [joinT_size, joinL3]; have e : (ByteArray.mk #[111, 114]).size = 2 := rfl; omega
  | scale o c h1 => have a := tidyO_size o h.1; have b := h1 h.2; simp only [textC, C.nodes]; rw [joinT_size, joinL2]; have e : (ByteArray.mk #[115, 99, 97, 108, 101]).size = 5 := rfl; omega
  | when d c h1 => have h' : (numT d).size ≤ 1 := h.1; have b := h1 h.2; simp only [textC, C.nodes]; rw [joinT_size, joinL2]; have e : (ByteArray.mk #[119, 104, 101, 110]).size = 4 := rfl; omega
  | iff o l r h1 h2 => have a := tidyO_size o h.1; have b := h1 h.2.1; have c := h2 h.2.2; simp only [textC, C.nodes]; rw [joinT_size, joinL3]; have e : (ByteArray.mk #[105, 102]).size = 2 := rfl; omega
  | odd v => exact absurd h id
theorem tab_tidy0 : ∀ k, k < 10 → (numT (tabN k)).size ≤ 14 := by decide +kernel
theorem tab_tidy (k : Nat) : (numT (tabN k)).size ≤ 14 := by
  by_cases h : k < 10
  · exact tab_tidy0 k h
  · have e : tabN k = 0 := by
      unfold tabN tabL
      rw [List.getD, List.getElem?_eq_none (by simp; omega)]
      rfl
    rw [e]
    decide +kernel
theorem day_tidy0 : ∀ k : Nat, k < 8 → (numT (k : Int)).size ≤ 1 := by decide +kernel
theorem day_tidy (n : Int) : (numT (n % 8)).size ≤ 1 := by
  have h := day_tidy0 (n % 8).toNat (by omega)
  rw [Int.toNat_of_nonneg (by omega)] at h
  exact h
theorem ch_tidy0 : ∀ k, k < 100 → (chT k).size ≤ 4 := by decide +kernel
theorem numO_tidy (p : Pl) : ∀ d i left, (numO p d i left).1.tidy := by
  intro d
  induction d with
  | zero =>
    intro i left
    unfold numO
    split
    · exact tab_tidy _
    · exact wordOf_size p (i + 1)
  | succ d ih =>
    intro i left
    have h1 := ih (i + 1) (left - 1)
    have h2 := ih (numO p d (i + 1) (left - 1)).2.1 (numO p d (i + 1) (left - 1)).2.2
    unfold numO
    split
    · exact tab_tidy _
    · split
      · exact wordOf_size p (i + 1)
      · split
        · exact h1
        · simp only
          split
          · exact ⟨h1, h2⟩
          · split
            · exact ⟨h1, h2⟩
            · exact ⟨h1, h2⟩
theorem conO_tidy (p : Pl) : ∀ d i left label, label + 2 ^ d ≤ 100 → (conO p d i left label).1.tidy ∧ (conO p d i left label).2.2.2 + 1 ≤ label + 2 ^ d := by
  intro d
  induction d with
  | zero =>
    intro i left label hl
    unfold conO
    split
    · exact ⟨curOf_size p (i + 1), by simp⟩
    · exact ⟨trivial, by simp⟩
  | succ d ih =>
    intro i left label hl
    have hp : 1 ≤ 2 ^ d := Nat.one_le_two_pow
    have hp2 : 2 ^ (d + 1) = 2 * 2 ^ d := by rw [Nat.pow_succ]; omega
    rw [hp2] at hl
    have h1 := ih (i + 1) (left - 1) label (by omega)
    have h2 := ih (conO p d (i + 1) (left - 1) label).2.1 (conO p d (i + 1) (left - 1) label).2.2.1 (conO p d (i + 1) (left - 1) label).2.2.2 (by omega)
    have h3 := ih (i + 2) (left - 1) (label + 1) (by omega)
    have h4 := ih (conO p d (i + 2) (left - 1) (label + 1)).2.1 (conO p d (i + 2) (left - 1) (label + 1)).2.2.1 (conO p d (i + 2) (left - 1) (label + 1)).2.2.2 (by omega)
    have h5 := ih (i + 2) (left - 1) label (by omega)
    have ho := numO_tidy p (min d 2) (i + 1) (left - 1)
    have h6 := ih (numO p (min d 2) (i + 1) (left - 1)).2.1 (numO p (min d 2) (i + 1) (left - 1)).2.2 label (by omega)
    have h7 := ih (conO p d (numO p (min d 2) (i + 1) (left - 1)).2.1 (numO p (min d 2) (i + 1) (left - 1)).2.2 label).2.1 (conO p d (numO p (min d 2) (i + 1) (left - 1)).2.1 (numO p (min d 2) (i + 1) (left - 1)).2.2 label).2.2.1 (conO p d (numO p (min d 2) (i + 1) (left - 1)).2.1 (numO p (min d 2) (i + 1) (left - 1)).2.2 label).2.2.2 (by omega)
    unfold conO
    rw [hp2]
    split
    · exact ⟨curOf_size p (i + 1), by simp only; omega⟩
    · split
      · exact ⟨trivial, by simp only; omega⟩
      · split
        · exact ⟨h1.1, by simp only; omega⟩
        · split
          · exact ⟨⟨h1.1, h2.1⟩, by simp only; omega⟩
          · split
            · refine ⟨⟨?_, h3.1, h4.1⟩, by simp only; omega⟩
              split
              · decide
              · exact ch_tidy0 (label + 1) (by omega)
            · split
              · exact ⟨⟨ho, h6.1⟩, by simp only; omega⟩
              · split
                · exact ⟨⟨day_tidy _, h5.1⟩, by simp only; omega⟩
                · exact ⟨⟨ho, h6.1, h7.1⟩, by simp only; omega⟩
theorem rightP_fine (p : Pl) : chkC (rightP p) = 0 ∧ (textC (rightP p)).size ≤ 884 := by
  unfold rightP
  split
  · rename_i h
    refine ⟨h, ?_⟩
    have h1 := tidyC_size _ (conO_tidy p 5 0 24 0 (by decide)).1
    have h2 := (chkC_zero h).2.1
    unfold conP at h2 ⊢
    omega
  · exact ⟨by decide +kernel, by decide +kernel⟩

end Go.Proofs.Ythhjcpmnekibnaa
namespace Go.Proofs.Ythhjcpmnekibnaa
open Go.RowKit
set_option linter.unusedVariables false

theorem wTextC_le {c : C} (h : (textC c).size ≤ 884) : (wTextC c).size ≤ 884 := by
  unfold wTextC
  split
  · split
    · decide
    · exact h
  · decide
/-- The sixteen things that are put in. -/
def put16 : Array Value := #[.string ⟨#[32]⟩, .string ⟨#[40]⟩, .string ⟨#[41]⟩, .string ⟨#[44]⟩, .string ⟨#[48]⟩, .string ⟨#[45]⟩, .string ⟨#[97]⟩, .string ⟨#[122, 101, 114, 111]⟩, .string ⟨#[111, 110, 101, 40]⟩, .string ⟨#[102, 105, 120, 40, 120, 41]⟩, .string ⟨#[195, 169]⟩, .string ⟨#[255]⟩, .string ⟨#[111, 114]⟩, .string ⟨#[10]⟩, .string ⟨#[97, 100, 100, 40, 49, 44, 50, 41]⟩, .string ⟨#[119, 104, 101, 110, 40, 51, 44, 122, 101, 114, 111, 41]⟩]
theorem put16_at (i : Nat) (h : i < 16) : ∃ z : ByteArray, put16[i]? = some (.string z) ∧ z.size ≤ 12 := by
  match i, h with
  | 0, _ => exact ⟨_, rfl, by decide⟩
  | 1, _ => exact ⟨_, rfl, by decide⟩
  | 2, _ => exact ⟨_, rfl, by decide⟩
  | 3, _ => exact ⟨_, rfl, by decide⟩
  | 4, _ => exact ⟨_, rfl, by decide⟩
  | 5, _ => exact ⟨_, rfl, by decide⟩
  | 6, _ => exact ⟨_, rfl, by decide⟩
  | 7, _ => exact ⟨_, rfl, by decide⟩
  | 8, _ => exact ⟨_, rfl, by decide⟩
  | 9, _ => exact ⟨_, rfl, by decide⟩
  | 10, _ => exact ⟨_, rfl, by decide⟩
  | 11, _ => exact ⟨_, rfl, by decide⟩
  | 12, _ => exact ⟨_, rfl, by decide⟩
  | 13, _ => exact ⟨_, rfl, by decide⟩
  | 14, _ => exact ⟨_, rfl, by decide⟩
  | 15, _ => exact ⟨_, rfl, by decide⟩
  | n + 16, h => exact absurd h (by omega)

set_option maxHeartbeats 4000000 in
set_option maxRecDepth 100000 in
theorem text7_any (p : Pl) (what at' : Int) (s : ByteArray) (raw : Bool) (w : World) (hp : PlanIn w p) (hw1 : -9223372036854775808 ≤ what) (hw2 : what ≤ 9223372036854775807) (ha1 : -9223372036854775808 ≤ at') (ha2 : at' ≤ 9223372036854775807) (hs : s.size ≤ 140737488351232) :
    Calls Try.prog 4 #[planV p, .int .i64 what, .int .i64 at', .string s, .bool raw] w fun e w' => ∃ x : ByteArray, e = .returned (.string x) ∧ x.size ≤ 1000 ∧ Below w.heap.size w w' := by
  have HP := hidIn hp
  clear hp
  unfold planV
  cases raw with
  | true =>
    go_enter Try.func4, Try.ntmps4
    go_wp2_with fail
    refine calls_same (text_any s 100 _ (by unfold maxLen; omega) (by omega)) ?_
    go_wp2_with fail
    go_ret
    exact ⟨_, rfl, by have := cutTo_size s 100; omega, below_alloc (Below.refl _ _) _⟩
  | false =>
    go_enter Try.func4, Try.ntmps4
    go_wp2_with fail
    obtain ⟨W, hW⟩ : ∃ W, W = w.alloc (.cells #[.slice p.na p.nl p.nc, .slice p.wa p.wl p.wc] 25) := ⟨_, rfl⟩
    have HB : Hid (Below w.heap.size w W) := by rw [hW]; exact below_alloc (Below.refl _ _) _
    have HPW := hidIn (HP.out.below HB.out)
    rw [← hW]
    clear hW HP
    refine (right_any p W HPW.out).mono ?_
    rintro e w1 ⟨v1, rfl, ht1, hb1⟩
    have HT1 := hidIn (ht1.low (Nat.zero_le _))
    have HB1 := hidIn (HB.out.trans (hb1.mono HB.out.size))
    clear ht1 hb1
    have HFI := hidIn (wTextC_le (rightP_fine p).2)
    have HOK := hidIn (cwhole_ok _ (rightP_whole p))
    have HWT := hidIn (rightP_weight p)
    obtain ⟨c, hc⟩ : ∃ c, rightP p = c := ⟨_, rfl⟩
    rw [hc] at HFI HOK HWT HT1
    clear hc
    go_wp2_with fail
    refine (refWriteC_any c HOK.out (by have := HWT.out; omega) w1 v1 HT1.out).mono ?_
    rintro e w2 ⟨rfl, hb2⟩
    have HB2 := hidIn (HB1.out.trans (hb2.mono HB1.out.size))
    have ht := HFI.out
    clear hb2 HT1
    generalize wTextC c = t at *
    generalize wErrC c = te at *
    go_wp2_with fail
    refine calls_same (within_any at' _ _ (by omega) (by omega) ha1 ha2) ?_
    have hk1 : 0 ≤ at' % ((t.size : Int) + 1) := Int.emod_nonneg _ (by omega)
    have hk2 : at' % ((t.size : Int) + 1) < (t.size : Int) + 1 := Int.emod_lt_of_pos _ (by omega)
    obtain ⟨k, hk⟩ : ∃ k : Nat, at' % ((t.size : Int) + 1) = (k : Int) := ⟨(at' % ((t.size : Int) + 1)).toNat, by omega⟩
    rw [hk]
    rw [hk] at hk1 hk2
    clear hk ha1 ha2
    go_wp2_with fail
    refine calls_same (within_any what _ _ (by omega) (by omega) hw1 hw2) ?_
    have hj1 : 0 ≤ what % 30 := Int.emod_nonneg _ (by omega)
    have hj2 : what % 30 < 30 := Int.emod_lt_of_pos _ (by omega)
    obtain ⟨j, hj⟩ : ∃ j : Nat, what % 30 = (j : Int) := ⟨(what % 30).toNat, by omega⟩
    rw [hj]
    rw [hj] at hj1 hj2
    clear hj hw1 hw2
    have hcell : ∀ (i : Nat) (v : Value), put16[i]? = some v → (w2.alloc (.cells put16 9)).cell? ⟨w2.heap.size, i, none⟩ = some v := fun i v hv => by
      have hb := (MapKept.heap_alloc w2 (.cells put16 9)).1
      simp only [World.cell?, hb]
      simp [hv]
    have HB3 : Hid (Below w.heap.size w (w2.alloc (.cells put16 9))) := below_alloc HB2.out _
    unfold put16 at hcell HB3
    generalize hWe : w2.alloc (.cells #[.string ⟨#[32]⟩, .string ⟨#[40]⟩, .string ⟨#[41]⟩, .string ⟨#[44]⟩, .string ⟨#[48]⟩, .string ⟨#[45]⟩, .string ⟨#[97]⟩, .string ⟨#[122, 101, 114, 111]⟩, .string ⟨#[111, 110, 101, 40]⟩, .string ⟨#[102, 105, 120, 40, 120, 41]⟩, .string ⟨#[195, 169]⟩, .string ⟨#[255]⟩, .string ⟨#[111, 114]⟩, .string ⟨#[10]⟩, .string ⟨#[97, 100, 100, 40, 49, 44, 50, 41]⟩, .string ⟨#[119, 104, 101, 110, 40, 51, 44, 122, 101, 114, 111, 41]⟩] 9) = W3 at *
    clear hWe
    generalize w2.heap.size = b2 at *
    have hkt : k ≤ t.size := by omega
    by_cases hj16 : j < 16
    · have hj16' : (j : Int) < 16 := by omega
      obtain ⟨z, hz, hzs⟩ := put16_at j hj16
      have hc := hcell j _ (by unfold put16 at hz; exact hz)
      clear hcell hz
      have q1 : (t.extract 0 k).size = k := by rw [ByteArray.size_extract]; omega
      have q2 : (t.extract k t.size).size = t.size - k := by rw [ByteArray.size_extract]; omega
      have q3 : (t.extract 0 k ++ z).size = k + z.size := by rw [ByteArray.size_append, q1]
      have q4 : (t.extract 0 k ++ z ++ t.extract k t.size).size = k + z.size + (t.size - k) := by rw [ByteArray.size_append, q3, q2]
      go_upto_region 8 with fail
      go_quiet (fail)
      go_wp2_with fail
      go_ret
      exact ⟨_, rfl, by omega, ⟨HB3.out.os, HB3.out.tape, HB3.out.output, HB3.out.size, HB3.out.block⟩⟩
    · have hj16' : ¬ (j : Int) < 16 := by omega
      clear hcell
      by_cases hj21 : j < 21
      · have hj21' : (j : Int) < 21 := by omega
        by_cases hkk : k < t.size
        · have hkk' : (k : Int) < (t.size : Int) := by omega
          have q1 : (t.extract 0 k).size = k := by rw [ByteArray.size_extract]; omega
          have q2 : (t.extract (k + 1) t.size).size = t.size - (k + 1) := by rw [ByteArray.size_extract]; omega
          have q3 : (t.extract 0 k ++ t.extract (k + 1) t.size).size = k + (t.size - (k + 1)) := by rw [ByteArray.size_append, q1, q2]
          go_upto_region 10 with fail
          go_quiet (fail)
          go_wp2_with fail
          go_ret
          exact ⟨_, rfl, by omega, ⟨HB3.out.os, HB3.out.tape, HB3.out.output, HB3.out.size, HB3.out.block⟩⟩
        · have hkk' : ¬ (k : Int) < (t.size : Int) := by omega
          go_wp2_with fail
          go_ret
          exact ⟨_, rfl, by omega, HB3.out⟩
      · have hj21' : ¬ (j : Int) < 21 := by omega
        go_wp2_with fail
        go_ret
        exact ⟨_, rfl, by omega, HB3.out⟩

end Go.Proofs.Ythhjcpmnekibnaa
namespace Go.Proofs.Ythhjcpmnekibnaa
open Go.RowKit
set_option linter.unusedVariables false

theorem wake7 : rdT ⟨#[103, 105, 118, 101, 40, 32, 122, 101, 114, 111, 32, 41]⟩ = (.give .zero, 0, 0) := by kernel_rfl
set_option maxHeartbeats 1000000 in
set_option maxRecDepth 100000 in
theorem wakes7_any (w : World) : Calls Try.prog 11 #[] w fun e w' => e = .returned (.bool true) ∧ Below w.heap.size w w' := by
  have HK := hidIn (readT_any ⟨#[103, 105, 118, 101, 40, 32, 122, 101, 114, 111, 32, 41]⟩ w (by decide))
  rw [wake7] at HK
  go_enter Try.func11, Try.ntmps11
  go_wp2_with fail
  refine HK.out.mono ?_
  rintro e w1 ⟨rfl, _, hb1⟩
  have HB1 := hidIn hb1
  clear hb1
  have hv : (C.give .zero).val = .iface 73 (.agg #[.iface 69 (.agg #[])]) := rfl
  simp only [hv]
  have hy : ∀ xT w, (Instr.typeAssert (.iface 73 (.agg #[.iface 69 (.agg #[])])) xT 73 true).run Try.prog w = _ := fun xT w => assert_yes Try.underlying73 (by intro m h; cases h) _ xT w
  go_wp2_with fail
  go_ret
  exact ⟨rfl, below_alloc HB1.out _⟩

end Go.Proofs.Ythhjcpmnekibnaa
namespace Go.Proofs.Ythhjcpmnekibnaa.Ivl
open Go.RowKit
set_option linter.unusedVariables false

/-- What is known of an operation's value: which it may be, and what is known of it from then on. -/
structure Mode where
  ok : Value → Prop
  some' : ∃ u, ok u
  fact : Value → Nat × Nat → World → Prop
/-- What is known of the slots. -/
abbrev Kn := Nat → Nat × Nat → World → Prop
def kput (k : Kn) : Option Tmp → (Nat × Nat → World → Prop) → Kn
  | none, _ => k
  | some d, f => fun s => if s = d then f else k s
theorem kput_ne (k : Kn) (dst : Option Tmp) (f : Nat × Nat → World → Prop) (s : Nat) (h : dst ≠ some s) : kput k dst f s = k s := by
  cases dst with
  | none => rfl
  | some d => simp only [kput]; rw [if_neg (fun e => h (by rw [e]))]
theorem kput_comm (k : Kn) (d e : Option Tmp) (f g : Nat × Nat → World → Prop) (h : ∀ x, d = some x → e ≠ some x) : kput (kput k d f) e g = kput (kput k e g) d f := by
  cases d with
  | none => rfl
  | some d =>
    cases e with
    | none => rfl
    | some e =>
      have hne : e ≠ d := fun x => h d rfl (by rw [x])
      funext s
      simp only [kput]
      by_cases h1 : s = e
      · subst h1; rw [if_pos rfl, if_neg hne, if_pos rfl]
      · by_cases h2 : s = d
        · subst h2; rw [if_neg h1, if_pos rfl, if_pos rfl]
        · rw [if_neg h1, if_neg h2, if_neg h2, if_neg h1]

/-- What an operation reads. -/
def reads (ops : Array Oper) (o : Oper) (a : Act) : List Value := (o.looksAt ops).map fun s => a.tmps.getD s undef
theorem reads_put (ops : Array Oper) (o : Oper) (a : Act) (dst : Option Tmp) (v : Value) (h : ∀ d, dst = some d → d ∉ o.looksAt ops) : reads ops o (a.put dst v) = reads ops o a := by
  unfold reads
  refine List.map_congr_left (fun s hs => ?_)
  cases dst with
  | none => rfl
  | some d =>
    have hne : d ≠ s := fun e => h d rfl (e ▸ hs)
    simp [Act.put, Array.getElem?_setIfInBounds_ne hne]
section
variable {P : Program} {ops : Array Oper} {md : Region.Mode} {C : World → Prop} {Le : World → World → Prop} {M : Nat → List Value → Mode} {n : Nat}

def growUpon (P : Program) (Le : World → World → Prop) (m : Mode) (w : World) : Result Next → Prop
  | .ok (.value u) w' => Le w w' ∧ m.ok u ∧ m.fact u (w.heap.size, w'.heap.size) w'
  | .ok .skip w' => Le w w' ∧ m.ok undef ∧ m.fact undef (w.heap.size, w'.heap.size) w'
  | .ok (.enter f args) w' => w' = w ∧ Calls P f args w (fun e w'' => ∃ v, e = .returned v ∧ Le w w'' ∧ m.ok v ∧ m.fact v (w.heap.size, w''.heap.size) w'')
  | _ => False
def growAt (P : Program) (o : Oper) (a : Act) (Le : World → World → Prop) (m : Mode) (w : World) : Prop := growUpon P Le m w ((execOp a.eval o).run P w)
/-- What is asked of an operation that comes up. -/
def grow (P : Program) (ops : Array Oper) (C : World → Prop) (Le : World → World → Prop) (m : Mode) (o : Oper) (a : Act) (k : Kn) (K : Act → Kn → Prop) : Prop :=
  (∀ u I w w', Le w w' → m.fact u I w → m.fact u I w') ∧ (∀ w, C w → (∀ s ∈ o.looksAt ops, ∃ I, k s I w) → growAt P o a Le m w) ∧ ∀ u, m.ok u → K (a.put o.dst u) (kput k o.dst (m.fact u))
def wpGrow (P : Program) (ops : Array Oper) (C : World → Prop) (Le : World → World → Prop) (M : Nat → List Value → Mode) (Q : Act → Kn → Prop) : Nat → List Oper → Act → Kn → Prop
  | _, [], a, k => Q a k
  | i, o :: rest, a, k => if Region.wanted o (yielded ops a.tmps) then grow P ops C Le (M i (reads ops o a)) o a k (wpGrow P ops C Le M Q (i + 1) rest) else wpGrow P ops C Le M Q (i + 1) rest (a.put o.dst undef) (kput k o.dst (fun _ _ => True))
def gOp (P : Program) (ops : Array Oper) (C : World → Prop) (Le : World → World → Prop) (M : Nat → List Value → Mode) (i : Nat) (K : Act → Kn → Prop) (a : Act) (k : Kn) : Prop :=
  match ops[i]? with
  | none => K a k
  | some o => if Region.wanted o (yielded ops a.tmps) then grow P ops C Le (M i (reads ops o a)) o a k K else K (a.put o.dst undef) (kput k o.dst (fun _ _ => True))
theorem grow_mono {m : Mode} {o : Oper} {a : Act} {k : Kn} {K K' : Act → Kn → Prop} (h : ∀ a k, K a k → K' a k) (hh : grow P ops C Le m o a k K) : grow P ops C Le m o a k K' :=
  ⟨hh.1, hh.2.1, fun u hu => h _ _ (hh.2.2 u hu)⟩
theorem gOp_mono {i : Nat} {a : Act} {k : Kn} {K K' : Act → Kn → Prop} (h : ∀ a k, K a k → K' a k) (hh : gOp P ops C Le M i K a k) : gOp P ops C Le M i K' a k := by
  unfold gOp at *
  split
  · exact h _ _ (by simpa [*] using hh)
  · rename_i o ho
    simp only [ho] at hh
    split
    · rename_i hw; simp only [hw, if_true] at hh; exact grow_mono h hh
    · rename_i hw; simp only [hw] at hh; exact h _ _ hh
def Stays (Le : World → World → Prop) (k : Kn) : Prop := ∀ s I w w', Le w w' → k s I w → k s I w'
theorem Stays.put {k : Kn} (h : Stays Le k) (dst : Option Tmp) {f : Nat × Nat → World → Prop} (hf : ∀ I w w', Le w w' → f I w → f I w') : Stays Le (kput k dst f) := by
  cases dst with
  | none => exact h
  | some d =>
    intro s I w w' hle hk
    simp only [kput] at hk ⊢
    split
    · rename_i e; rw [if_pos e] at hk; exact hf I w w' hle hk
    · rename_i e; rw [if_neg e] at hk; exact h s I w w' hle hk
/-- Which blocks each slot's value was made in. -/
def putL (L : Nat → Nat × Nat) : Option Tmp → Nat × Nat → Nat → Nat × Nat
  | none, _ => L
  | some d, I => fun s => if s = d then I else L s
/-- All of them made by now, no two in one. -/
def Apt (L : Nat → Nat × Nat) (w : World) : Prop := (∀ s, (L s).2 ≤ w.heap.size) ∧ ∀ s t, s ≠ t → (L s).2 ≤ (L t).1 ∨ (L t).2 ≤ (L s).1
theorem Apt.put {L : Nat → Nat × Nat} {w w' : World} (h : Apt L w) (hs : w.heap.size ≤ w'.heap.size) (dst : Option Tmp) : Apt (putL L dst (w.heap.size, w'.heap.size)) w' := by
  cases dst with
  | none => exact ⟨fun s => Nat.le_trans (h.1 s) hs, h.2⟩
  | some d =>
    constructor
    · intro s
      simp only [putL]
      split
      · exact Nat.le_refl _
      · exact Nat.le_trans (h.1 s) hs
    · intro s t hst
      have h1 := h.1 s
      have h2 := h.1 t
      simp only [putL]
      by_cases e1 : s = d
      · by_cases e2 : t = d
        · exact absurd (e1.trans e2.symm) hst
        · rw [if_pos e1, if_neg e2]; exact .inr h2
      · by_cases e2 : t = d
        · rw [if_neg e1, if_pos e2]; exact .inl h1
        · rw [if_neg e1, if_neg e2]; exact h.2 s t hst
theorem all_put {k : Kn} {L : Nat → Nat × Nat} {w : World} (h : ∀ s, k s (L s) w) (dst : Option Tmp) {f : Nat × Nat → World → Prop} {I : Nat × Nat} (hf : f I w) : ∀ s, kput k dst f s (putL L dst I s) w := by
  cases dst with
  | none => exact h
  | some d =>
    intro s
    simp only [kput, putL]
    split
    · exact hf
    · exact h s
theorem all_true {k : Kn} {L : Nat → Nat × Nat} {w : World} (h : ∀ s, k s (L s) w) (dst : Option Tmp) : ∀ s, kput k dst (fun _ _ => True) s (L s) w := by
  cases dst with
  | none => exact h
  | some d =>
    intro s
    simp only [kput]
    split
    · trivial
    · exact h s
theorem wp_of_grow {o : Oper} {m : Mode} {a : Act} {k : Kn} {L : Nat → Nat × Nat} {K : Act → Kn → Prop} {K' : Act → World → Prop} {Q' : Exit → Act → World → Prop} {w : World} (hLS : ∀ w w', Le w w' → w.heap.size ≤ w'.heap.size) (hCL : ∀ w w', C w → Le w w' → C w') (hs : Stays Le k) (hw : C w) (hk : ∀ s, k s (L s) w) (hL : Apt L w)
    (h : ∀ a k L w', Stays Le k → C w' → (∀ s, k s (L s) w') → Apt L w' → K a k → K' a w') (hh : grow P ops C Le m o a k K) : o.wp P a w K' Q' := by
  obtain ⟨h0, h1, h2⟩ := hh
  have h3 := h1 w hw (fun s _ => ⟨_, hk s⟩)
  unfold growAt at h3
  unfold Oper.wp
  generalize (execOp a.eval o).run P w = r at *
  cases r with
  | ok n w' =>
    cases n <;> simp only [growUpon] at h3 <;> simp only [Oper.upon]
    case value u =>
      obtain ⟨e1, e2, e3⟩ := h3
      exact h _ _ _ _ (hs.put o.dst (h0 u)) (hCL w w' hw e1) (all_put (fun s => hs s _ w w' e1 (hk s)) o.dst e3) (hL.put (hLS _ _ e1) o.dst) (h2 u e2)
    case skip =>
      obtain ⟨e1, e2, e3⟩ := h3
      exact h _ _ _ _ (hs.put o.dst (h0 undef)) (hCL w w' hw e1) (all_put (fun s => hs s _ w w' e1 (hk s)) o.dst e3) (hL.put (hLS _ _ e1) o.dst) (h2 undef e2)
    case enter f args =>
      obtain ⟨e1, hc⟩ := h3
      rw [e1]
      refine hc.mono fun e w'' ⟨v, he, e1, e2, e3⟩ => ?_
      subst he
      exact h _ _ _ _ (hs.put o.dst (h0 v)) (hCL w w'' hw e1) (all_put (fun s => hs s _ w w'' e1 (hk s)) o.dst e3) (hL.put (hLS _ _ e1) o.dst) (h2 v e2)
  | halt x w' => simp only [growUpon] at h3
theorem wpOp_of_gOp {i : Nat} {a : Act} {k : Kn} {L : Nat → Nat × Nat} {K : Act → Kn → Prop} {K' : Act → World → Prop} {Q' : Exit → Act → World → Prop} {w : World} (hLS : ∀ w w', Le w w' → w.heap.size ≤ w'.heap.size) (hCL : ∀ w w', C w → Le w w' → C w') (hs : Stays Le k) (hw : C w) (hk : ∀ s, k s (L s) w) (hL : Apt L w)
    (h : ∀ a k L w', Stays Le k → C w' → (∀ s, k s (L s) w') → Apt L w' → K a k → K' a w') (hh : gOp P ops C Le M i K a k) : wpOp P ops Q' i K' a w := by
  unfold gOp at hh
  unfold wpOp
  split
  · rename_i ho; simp only [ho] at hh; exact h _ _ _ _ hs hw hk hL hh
  · rename_i o ho
    simp only [ho] at hh
    split
    · rename_i hwt; simp only [hwt, if_true] at hh; exact .inl (wp_of_grow hLS hCL hs hw hk hL h hh)
    · rename_i hwt; simp only [hwt] at hh; exact h _ _ _ _ (hs.put o.dst (fun _ _ _ _ h => h)) hw (all_true hk o.dst) hL hh
/-- What an operation yields: the values that it may, and what is known of them. -/
def YieldsG (P : Program) (ops : Array Oper) (C : World → Prop) (Le : World → World → Prop) (m : Mode) (o : Oper) (ok : Value → Prop) (f : Value → Nat × Nat → World → Prop) (a : Act) (k : Kn) : Prop :=
  (Region.wanted o (yielded ops a.tmps) = true ∧ ok = m.ok ∧ f = m.fact ∧ (∀ u I w w', Le w w' → m.fact u I w → m.fact u I w') ∧ ∀ w, C w → (∀ s ∈ o.looksAt ops, ∃ I, k s I w) → growAt P o a Le m w) ∨
  (Region.wanted o (yielded ops a.tmps) = false ∧ ok = (fun u => u = undef) ∧ f = fun _ _ _ => True)
theorem YieldsG.gOp {i : Nat} {o : Oper} {ok : Value → Prop} {f : Value → Nat × Nat → World → Prop} {a : Act} {k : Kn} (hi : ops[i]? = some o) (hy : YieldsG P ops C Le (M i (reads ops o a)) o ok f a k) {K : Act → Kn → Prop} (h : ∀ u, ok u → K (a.put o.dst u) (kput k o.dst (f u))) : gOp P ops C Le M i K a k := by
  unfold Go.Proofs.Ythhjcpmnekibnaa.Ivl.gOp
  simp only [hi]
  rcases hy with ⟨hw, rfl, rfl, h0, hv⟩ | ⟨hw, rfl, rfl⟩
  · simp only [hw, if_true]; exact ⟨h0, hv, h⟩
  · simp only [hw, Bool.false_eq_true, if_false]; exact h undef rfl
theorem looks_put {o : Oper} {k : Kn} {dst : Option Tmp} {f : Nat × Nat → World → Prop} {w : World} (h : ∀ d, dst = some d → d ∉ o.looksAt ops) : (∀ s ∈ o.looksAt ops, ∃ I, kput k dst f s I w) ↔ ∀ s ∈ o.looksAt ops, ∃ I, k s I w := by
  constructor
  · intro hk s hs
    have := hk s hs
    rwa [kput_ne k dst f s (fun e => h s e hs)] at this
  · intro hk s hs
    rw [kput_ne k dst f s (fun e => h s e hs)]
    exact hk s hs
theorem YieldsG.of_same {m : Mode} {o : Oper} {ok : Value → Prop} {f : Value → Nat × Nat → World → Prop} {a a' : Act} {k k' : Kn} (hy : YieldsG P ops C Le m o ok f a k) (he : execOp a'.eval o = execOp a.eval o)
    (hw : Region.wanted o (yielded ops a'.tmps) = Region.wanted o (yielded ops a.tmps)) (hk : ∀ w, (∀ s ∈ o.looksAt ops, ∃ I, k' s I w) → ∀ s ∈ o.looksAt ops, ∃ I, k s I w) : YieldsG P ops C Le m o ok f a' k' := by
  rcases hy with ⟨h1, h2, h3, h4, h5⟩ | ⟨h1, h2, h3⟩
  · refine .inl ⟨by rw [hw]; exact h1, h2, h3, h4, fun w hC hl => ?_⟩
    have := h5 w hC (hk w hl)
    unfold growAt at *
    rwa [he]
  · exact .inr ⟨by rw [hw]; exact h1, h2, h3⟩
theorem yields_some {m : Mode} {o : Oper} {ok : Value → Prop} {f : Value → Nat × Nat → World → Prop} {a : Act} {k : Kn} (hy : YieldsG P ops C Le m o ok f a k) : ∃ u, ok u := by
  rcases hy with ⟨_, rfl, _⟩ | ⟨_, rfl, _⟩
  · exact m.some'
  · exact ⟨_, rfl⟩
theorem gOp_put {j : Nat} {m : Mode} {oi oj : Oper} {ok : Value → Prop} {f : Value → Nat × Nat → World → Prop} (hj : ops[j]? = some oj) (hap : oi.apart ops oj = true)
    (hsi : ∀ cs b, oi.op ≠ .select cs b) (hsj : ∀ cs b, oj.op ≠ .select cs b) {K : Act → Kn → Prop} {a : Act} {k : Kn}
    (hy : YieldsG P ops C Le m oi ok f a k) (h : ∀ u, ok u → gOp P ops C Le M j K (a.put oi.dst u) (kput k oi.dst (f u))) :
    gOp P ops C Le M j (fun a' k' => reads ops oi a' = reads ops oi a ∧ YieldsG P ops C Le m oi ok f a' k' ∧ ∀ u, ok u → K (a'.put oi.dst u) (kput k' oi.dst (f u))) a k := by
  obtain ⟨h1, h2, h3⟩ := Oper.apart_spec hap
  have keep : ∀ u g, YieldsG P ops C Le m oi ok f (a.put oj.dst u) (kput k oj.dst g) := fun u g =>
    hy.of_same (execOp_put oi hsi a oj.dst u h3) (wanted_put oi a oj.dst u h3) (fun w hl => (looks_put h3).1 hl)
  obtain ⟨u0, hu0⟩ := yields_some hy
  unfold gOp at *
  simp only [hj] at *
  by_cases hw : Region.wanted oj (yielded ops a.tmps) = true
  · simp only [hw, if_true]
    have hw' : ∀ u, Region.wanted oj (yielded ops (a.put oi.dst u).tmps) = true := fun u => by rw [wanted_put oj a oi.dst u h1]; exact hw
    simp only [hw', if_true] at h
    have hrd : ∀ u, reads ops oj (a.put oi.dst u) = reads ops oj a := fun u => reads_put ops oj a oi.dst u h1
    simp only [hrd] at h
    refine ⟨(h u0 hu0).1, fun w hC hl => ?_, fun u' hu' => ⟨reads_put ops oi a oj.dst u' h3, keep u' _, fun u hu => ?_⟩⟩
    · have := (h u0 hu0).2.1 w hC ((looks_put h1).2 hl)
      unfold growAt at *
      rwa [execOp_put oj hsj a oi.dst u0 h1] at this
    · have := (h u hu).2.2 u' hu'
      rw [← Act.put_comm a u u' h2, ← kput_comm k oi.dst oj.dst _ _ h2]
      exact this
  · have hwf : Region.wanted oj (yielded ops a.tmps) = false := by simpa using hw
    simp only [hwf, Bool.false_eq_true, if_false]
    have hw' : ∀ u, Region.wanted oj (yielded ops (a.put oi.dst u).tmps) = false := fun u => by rw [wanted_put oj a oi.dst u h1]; exact hwf
    simp only [hw', Bool.false_eq_true, if_false] at h
    refine ⟨reads_put ops oi a oj.dst _ h3, keep _ _, fun u hu => ?_⟩
    have := h u hu
    rw [← Act.put_comm a u undef h2, ← kput_comm k oi.dst oj.dst _ _ h2]
    exact this
theorem yieldsG_of_gOp {i : Nat} {o : Oper} {a : Act} {k : Kn} {K : Act → Kn → Prop} (hi : ops[i]? = some o) (h : gOp P ops C Le M i K a k) : ∃ ok f, YieldsG P ops C Le (M i (reads ops o a)) o ok f a k ∧ ∀ u, ok u → K (a.put o.dst u) (kput k o.dst (f u)) := by
  unfold gOp at h
  simp only [hi] at h
  by_cases hw : Region.wanted o (yielded ops a.tmps) = true
  · simp only [hw, if_true] at h
    exact ⟨_, _, .inl ⟨hw, rfl, rfl, h.1, h.2.1⟩, h.2.2⟩
  · simp only [hw] at h
    exact ⟨_, _, .inr ⟨by simpa using hw, rfl, rfl⟩, fun u hu => by subst hu; exact h⟩
def wpAnyL (P : Program) (md : Region.Mode) (ops : Array Oper) (C : World → Prop) (Le : World → World → Prop) (M : Nat → List Value → Mode) (n : Nat) (Q : Act → Kn → Prop) : Nat → Array Bool → Act → Kn → Prop
  | 0, listed, a, k => Region.ready md ops listed ≠ [] ∧ (∀ j ∈ Region.ready md ops listed, j = n) ∧ Region.ready md ops (listed.setIfInBounds n true) = [] ∧ Q a k
  | fuel + 1, listed, a, k => Region.ready md ops listed ≠ [] ∧ (∀ j ∈ Region.ready md ops listed, j ≠ n) ∧ ∀ i ∈ Region.ready md ops listed, gOp P ops C Le M i (wpAnyL P md ops C Le M n Q fuel (listed.setIfInBounds i true)) a k
theorem wpAny_of_growL {Q : Act → Kn → Prop} {Q' : Exit → Act → World → Prop} (hLS : ∀ w w', Le w w' → w.heap.size ≤ w'.heap.size) (hCL : ∀ w w', C w → Le w w' → C w') (hQ : ∀ a k L w, C w → (∀ s, k s (L s) w) → Apt L w → Q a k → wpOp P ops Q' n (fun a w => Q' .normal a w) a w) : ∀ (fuel : Nat) (listed : Array Bool) (a : Act) (k : Kn) (L : Nat → Nat × Nat) (w : World), Stays Le k → C w → (∀ s, k s (L s) w) → Apt L w →
    wpAnyL P md ops C Le M n Q fuel listed a k → wpAny P md ops Q' (fuel + 1) listed a w
  | 0, _, _, _, _, _, hs, hw, hk, hL, h => ⟨fun h0 => absurd h0 h.1, fun i hi => by
      have := h.2.1 i hi
      subst this
      exact wpOp_mono (fun a w hq => ⟨h.2.2.1, hq⟩) (hQ _ _ _ _ hw hk hL h.2.2.2)⟩
  | fuel + 1, _, _, _, _, _, hs, hw, hk, hL, h => ⟨fun h0 => absurd h0 h.1, fun i hi => wpOp_of_gOp hLS hCL hs hw hk hL (fun a' k' L' w' hs' hw' hk' hL' => wpAny_of_growL hLS hCL hQ fuel _ a' k' L' w' hs' hw' hk' hL') (h.2.2 i hi)⟩
theorem wpAnyL_first {Q : Act → Kn → Prop} {i : Nat} {oi : Oper} {ok : Value → Prop} {f : Value → Nat × Nat → World → Prop} (hwt : waitsAll md ops n = true) (hin : i < n) (hi : ops[i]? = some oi) (hsel : ∀ (j : Nat) (o : Oper) cs b, ops[j]? = some o → o.op ≠ .select cs b) :
    ∀ (fuel : Nat) (listed : Array Bool) (a : Act) (k : Kn),
      (∀ j oj, ops[j]? = some oj → j ≠ i → listed.getD j true = false → (∀ e ∈ oj.after, Region.binds md e = true → e.on ≠ i) → oi.apart ops oj = true) →
      i ∈ Region.ready md ops listed → YieldsG P ops C Le (M i (reads ops oi a)) oi ok f a k →
      (∀ u, ok u → wpAnyL P md ops C Le M n Q fuel (listed.setIfInBounds i true) (a.put oi.dst u) (kput k oi.dst (f u))) → wpAnyL P md ops C Le M n Q (fuel + 1) listed a k := by
  intro fuel
  induction fuel with
  | zero =>
    intro listed a k _ hr hy H
    have hnl : ∀ j ∈ Region.ready md ops listed, j ≠ n := fun j hj e => last_waits hwt hin (mem_ready.1 hr).1 (e ▸ hj)
    refine ⟨fun h => (by rw [h] at hr; cases hr), hnl, fun j hj => ?_⟩
    by_cases hji : j = i
    · subst hji; exact hy.gOp hi H
    · obtain ⟨u0, hu0⟩ := yields_some hy
      exact absurd ((H u0 hu0).2.1 j (ready_mono hj hji)) (hnl j hj)
  | succ fuel ih =>
    intro listed a k hfree hr hy H
    have hnl : ∀ j ∈ Region.ready md ops listed, j ≠ n := fun j hj e => last_waits hwt hin (mem_ready.1 hr).1 (e ▸ hj)
    refine ⟨fun h => (by rw [h] at hr; cases hr), hnl, fun j hj => ?_⟩
    by_cases hji : j = i
    · subst hji; exact hy.gOp hi H
    · have h1 : ∀ u, ok u → _ := fun u hu => (H u hu).2.2 j (ready_mono hj hji)
      obtain ⟨hjun, oj, hoj, hall⟩ := mem_ready.1 hj
      have hnot : ∀ e ∈ oj.after, Region.binds md e = true → e.on ≠ i := fun e he hb heq => by
        have h1 := hall e he hb
        have h0 := (mem_ready.1 hr).1
        rw [heq] at h1
        rcases Nat.lt_or_ge i listed.size with h' | h'
        · simp [h'] at h0 h1; rw [h0] at h1; cases h1
        · simp [Array.getElem?_eq_none h'] at h1
      have h2 := gOp_put hoj (hfree j oj hoj hji hjun hnot) (fun cs b => hsel i oi cs b hi) (fun cs b => hsel j oj cs b hoj) hy h1
      have hfree' : ∀ k ok, ops[k]? = some ok → k ≠ i → (listed.setIfInBounds j true).getD k true = false →
          (∀ e ∈ ok.after, Region.binds md e = true → e.on ≠ i) → oi.apart ops ok = true := fun k ok hk hki hun hno => by
        refine hfree k ok hk hki ?_ hno
        by_cases hjk : j = k
        · subst hjk; exact hjun
        · rw [getD_set_ne true hjk] at hun; exact hun
      refine gOp_mono (fun a' k' h3 => ih (listed.setIfInBounds j true) a' k' hfree' (ready_mono hr (Ne.symm hji)) (by rw [h3.1]; exact h3.2.1) (fun u hu => ?_)) h2
      rw [Array.setIfInBounds_comm _ _ hji]
      exact h3.2.2 u hu
theorem wpAnyL_lex {Q : Act → Kn → Prop} (hs : Region.noSelect ops = true) (hwt : waitsAll md ops n = true) : ∀ (l : List Oper) (i : Nat) (listed : Array Bool) (a : Act) (k : Kn), i + l.length = n → (∀ j, j < l.length → l[j]? = ops[i + j]?) →
    Region.lexFrom md ops (l.length + 1) i listed = true → wpGrow P ops C Le M Q i l a k → wpAnyL P md ops C Le M n Q l.length listed a k
  | [], i, listed, _, _, hn, _, hB, h => by
    have hin : i = n := by simpa using hn
    subst hin
    simp only [List.length_nil, Region.lexFrom, Bool.and_eq_true, List.isEmpty_iff] at hB
    obtain ⟨⟨hr, hf⟩, he⟩ := hB
    have hr' : i ∈ Region.ready md ops listed := by simpa using hr
    refine ⟨fun h0 => (by rw [h0] at hr'; cases hr'), fun j hj => ?_, he, h⟩
    by_cases hji : j = i
    · exact hji
    · have := ready_mono hj hji
      rw [he] at this
      cases this
  | o :: l, i, listed, a, k, hn, hl, hB, h => by
    have h0 : ops[i]? = some o := by simpa using (hl 0 (by simp)).symm
    simp only [List.length_cons] at hn
    rw [List.length_cons] at hB
    unfold Region.lexFrom at hB
    simp only [Bool.and_eq_true] at hB
    obtain ⟨⟨hr, hf⟩, hB'⟩ := hB
    have hst : gOp P ops C Le M i (wpGrow P ops C Le M Q (i + 1) l) a k := by unfold gOp; simp only [h0]; exact h
    obtain ⟨ok, f, hy, hK⟩ := yieldsG_of_gOp h0 hst
    exact wpAnyL_first hwt (by omega) h0 (Region.noSelect_spec hs) l.length listed a k (Region.free_spec h0 hf) (by simpa using hr) hy
      (fun u hu => wpAnyL_lex hs hwt l (i + 1) _ _ _ (by omega) (fun j hj => by have := hl (j + 1) (by simp; omega); simpa [Nat.add_assoc, Nat.add_comm 1 j] using this) hB' (hK u hu))
/-- All but the last in the text's order, then the last; what was made by two of them lies apart. -/
theorem wp_region_growI {id : Nat} {Q : Exit → Act → World → Prop} {a : Act} {w : World} {l : List Oper} {o : Oper} {L : List Oper} (C : World → Prop) (Le : World → World → Prop) (M : Nat → List Value → Mode) (hm : P.follows .mixedOrders = true) (hL : L = l ++ [o]) (hB : Region.lexB .any L.toArray = true) (hwt : waitsAll .any L.toArray l.length = true) (hLS : ∀ w w', Le w w' → w.heap.size ≤ w'.heap.size) (hCL : ∀ w w', C w → Le w w' → C w') (hC : C w.drew)
    (h : wpGrow P L.toArray C Le M (fun a' k' => ∀ I w', C w' → (∀ s, k' s (I s) w') → Apt I w' → wpList P L.toArray Q [o] a' w') 0 l a (fun _ _ _ => True)) : (Code.region id L.toArray true).wp P Q a w := by
  simp only [Region.lexB, Bool.and_eq_true] at hB
  have hsz : L.toArray.size = l.length + 1 := by rw [hL]; simp
  have ho : L.toArray[l.length]? = some o := by rw [hL]; simp
  refine wp_region_any hm ?_
  rw [hsz]
  refine wpAny_of_growL (M := M) (n := l.length) (Q := fun a' k' => ∀ I w', C w' → (∀ s, k' s (I s) w') → Apt I w' → wpList P L.toArray Q [o] a' w') hLS hCL (fun a k I w' hw' hk hA h => ?_) _ _ _ (fun _ _ _ => True) (fun _ => (0, 0)) _ (fun _ _ _ _ _ h => h) hC (fun _ => trivial) ⟨fun _ => Nat.zero_le _, fun _ _ _ => .inl (Nat.le_refl _)⟩ ?_
  · have := h I w' hw' hk hA
    unfold wpList at this
    unfold wpOp
    simp only [ho]
    exact this
  · have hB2 := hB.2
    rw [hsz] at hB2
    exact wpAnyL_lex (C := C) (Le := Le) (M := M) (md := .any) hB.1 hwt l 0 _ a (fun _ _ _ => True) (by simp) (fun j hj => by rw [hL]; simp [List.getElem?_append_left hj]) hB2 h
end
/-- One value. -/
def one (v : Value) : Mode := ⟨fun u => u = v, ⟨v, rfl⟩, fun _ _ _ => True⟩
/-- Any value of which something is known, and in which blocks it was made. -/
def loose (f : Value → Nat × Nat → World → Prop) : Mode := ⟨fun _ => True, ⟨undef, trivial⟩, f⟩
def modes (l : List (List Value → Mode)) (i : Nat) : List Value → Mode := l.getD i (fun _ => one undef)
section
variable {P : Program} {ops : Array Oper} {C : World → Prop} {Le : World → World → Prop} {M : Nat → List Value → Mode} {Q : Act → Kn → Prop}
theorem g_runs {i : Nat} {o : Oper} {rest : List Oper} {a : Act} {k : Kn} (v : Value) (hR : ∀ w, Le w w) (hM : M i (reads ops o a) = one v) (hw : Region.wanted o (yielded ops a.tmps) = true)
    (h : ∀ w, C w → (execOp a.eval o).run P w = .ok (.value v) w) (hk : wpGrow P ops C Le M Q (i + 1) rest (a.put o.dst v) (kput k o.dst (fun _ _ => True))) : wpGrow P ops C Le M Q i (o :: rest) a k := by
  unfold wpGrow
  rw [if_pos hw, hM]
  refine ⟨fun _ _ _ _ _ h => h, fun w hC _ => ?_, fun u hu => ?_⟩
  · unfold growAt
    rw [h w hC]
    exact ⟨hR w, rfl, trivial⟩
  · cases hu
    exact hk
theorem g_loose {i : Nat} {o : Oper} {rest : List Oper} {a : Act} {k : Kn} (f : FuncId) (args : Array Value) (φ : Value → Nat × Nat → World → Prop) (hM : M i (reads ops o a) = loose φ) (hφ : ∀ u I w w', Le w w' → φ u I w → φ u I w') (hw : Region.wanted o (yielded ops a.tmps) = true)
    (h : ∀ w, C w → (execOp a.eval o).run P w = .ok (.enter f args) w) (hc : ∀ w, C w → (∀ s ∈ o.looksAt ops, ∃ I, k s I w) → Calls P f args w (fun e w' => ∃ v, e = .returned v ∧ Le w w' ∧ φ v (w.heap.size, w'.heap.size) w')) (hk : ∀ u, wpGrow P ops C Le M Q (i + 1) rest (a.put o.dst u) (kput k o.dst (φ u))) : wpGrow P ops C Le M Q i (o :: rest) a k := by
  unfold wpGrow
  rw [if_pos hw, hM]
  refine ⟨hφ, fun w hC hl => ?_, fun u _ => hk u⟩
  unfold growAt
  rw [h w hC]
  exact ⟨rfl, (hc w hC hl).mono fun e w' ⟨v, h1, h2, h3⟩ => ⟨v, h1, h2, trivial, h3⟩⟩
theorem g_makes {i : Nat} {o : Oper} {rest : List Oper} {a : Act} {k : Kn} (φ : Value → Nat × Nat → World → Prop) (hM : M i (reads ops o a) = loose φ) (hφ : ∀ u I w w', Le w w' → φ u I w → φ u I w') (hw : Region.wanted o (yielded ops a.tmps) = true)
    (h : ∀ w, C w → (∀ s ∈ o.looksAt ops, ∃ I, k s I w) → ∃ u w', (execOp a.eval o).run P w = .ok (.value u) w' ∧ Le w w' ∧ φ u (w.heap.size, w'.heap.size) w') (hk : ∀ u, wpGrow P ops C Le M Q (i + 1) rest (a.put o.dst u) (kput k o.dst (φ u))) : wpGrow P ops C Le M Q i (o :: rest) a k := by
  unfold wpGrow
  rw [if_pos hw, hM]
  refine ⟨hφ, fun w hC hl => ?_, fun u _ => hk u⟩
  obtain ⟨u, w', h1, h2, h3⟩ := h w hC hl
  unfold growAt
  rw [h1]
  exact ⟨h2, trivial, h3⟩
theorem g_nil {i : Nat} {a : Act} {k : Kn} (h : Q a k) : wpGrow P ops C Le M Q i [] a k := h
end

end Go.Proofs.Ythhjcpmnekibnaa.Ivl
namespace Go.Proofs.Ythhjcpmnekibnaa
open Go.RowKit
set_option linter.unusedVariables false

set_option maxHeartbeats 1000000 in
set_option maxRecDepth 100000 in
theorem two_raw (kind : Int) (t u : T) (ka la : Option Addr) (kc lc : Nat) (w : World) :
    Calls Try.prog 27 #[.int .i64 kind, .agg #[.int .i64 t.kind, .string t.s, .int .i64 t.n, .slice ka t.k.length kc], .agg #[.int .i64 u.kind, .string u.s, .int .i64 u.n, .slice la u.k.length lc]] w fun e w' => ∃ b, e = .returned (.agg #[.int .i64 kind, .string ⟨#[]⟩, .int .i64 0, .slice (some ⟨b, 0, none⟩) 2 2]) ∧ w.heap.size ≤ b ∧ Blk w' b 33 (eight t ka kc u la lc) ∧ Up w w' := by
  go_enter Try.func27, Try.ntmps27
  go_wp2_with fail
  refine bodyPost_ret (results_cell_row rfl _ _ (w.heap.size + 1 + 1) 33 #[.int .i64 kind, .string ⟨#[]⟩, .int .i64 0, .slice (some ⟨w.heap.size + 1 + 1 + 1, 0, none⟩) 2 2] (0, 0) _ rfl ?blk Try.underlying33 rfl infoT) rfl ?post
  case blk => exact blk_keep (blk_new (by simp)) _
  case post => exact ⟨_, rfl, by omega, blk_new (by simp), below_alloc (below_alloc (below_alloc (below_alloc (Below.refl _ _) _) _) _) _⟩
theorem cell_nine {W : World} {R g : Nat} {a b c d e a' b' c' d' : Value} {k o : Nat} (h1 : k ≠ g) (h2 : k ≠ R) : (((((((((W.setCell ⟨g, 0, none⟩ a).setCell ⟨g, 1, none⟩ b).setCell ⟨g, 2, none⟩ c).setCell ⟨g, 3, none⟩ d).setCell ⟨g, 1, none⟩ e).setCell ⟨R, 0, none⟩ a').setCell ⟨R, 1, none⟩ b').setCell ⟨R, 2, none⟩ c').setCell ⟨R, 3, none⟩ d').cell? ⟨k, o, none⟩ = W.cell? ⟨k, o, none⟩ := by
  rw [set4_cell' h2, World.cell?_setCell_other _ _ _ _ (by intro e; injection e with e; exact h1 e.symm), set4_cell' h1]
/-- A tree that was made in these blocks. -/
def treeI (B : Nat) (t : T) (v : Value) (I : Nat × Nat) (w : World) : Prop := ∃ ka kc, v = .agg #[.int .i64 t.kind, .string t.s, .int .i64 t.n, .slice ka t.k.length kc] ∧ B ≤ I.1 ∧ ∀ X : World, (∀ b o c, I.1 ≤ b → b < I.2 → w.cell? ⟨b, o, none⟩ = some c → X.cell? ⟨b, o, none⟩ = some c) → TIn X I.1 t (.agg (four t ka kc))
theorem treeI_stays (B : Nat) (t : T) : ∀ u I w w', Up w w' → treeI B t u I w → treeI B t u I w' := fun u I w w' h ⟨ka, kc, e, hB, ht⟩ => ⟨ka, kc, e, hB, fun X hX => ht X (fun b o c h1 h2 hc => hX b o c h1 h2 ((Below.cell h (p := ⟨b, o, none⟩) (World.block_lt_of_cell? w _ hc)).trans hc))⟩
theorem treeI_made {B : Nat} {w w' : World} {t : T} {ka : Option Addr} {kc : Nat} (hB : B ≤ w.heap.size) (ht : TIn w' w.heap.size t (.agg (four t ka kc))) : treeI B t (.agg #[.int .i64 t.kind, .string t.s, .int .i64 t.n, .slice ka t.k.length kc]) (w.heap.size, w'.heap.size) w' :=
  ⟨ka, kc, rfl, hB, fun X hX => ht.kept (Nat.le_refl _) (fun b o c hb hc => hX b o c hb (World.block_lt_of_cell? w' _ hc) hc)⟩
/-- The row of two trees. -/
def rowI (B : Nat) (ta tb : T) (r : List Value) (v : Value) (I : Nat × Nat) (w : World) : Prop := ∃ ka kc la lc b, r = [.agg #[.int .i64 ta.kind, .string ta.s, .int .i64 ta.n, .slice ka ta.k.length kc], .agg #[.int .i64 tb.kind, .string tb.s, .int .i64 tb.n, .slice la tb.k.length lc]] ∧ v = .agg #[.int .i64 5, .string ⟨#[]⟩, .int .i64 0, .slice (some ⟨b, 0, none⟩) 2 2] ∧ B ≤ b ∧ I.1 ≤ b ∧ b < I.2 ∧ Blk w b 33 (eight ta ka kc tb la lc)
theorem rowI_stays (B : Nat) (ta tb : T) (r : List Value) : ∀ u I w w', Up w w' → rowI B ta tb r u I w → rowI B ta tb r u I w' := fun u I w w' h ⟨ka, kc, la, lc, b, e1, e2, h0, h1, h2, hb⟩ => ⟨ka, kc, la, lc, b, e1, e2, h0, h1, h2, hb.below h hb.lt⟩
/-- A struct of its own, empty. -/
def zeroI (B : Nat) (v : Value) (I : Nat × Nat) (w : World) : Prop := v = .pointer (some ⟨I.1, 0, none⟩) ∧ B ≤ I.1 ∧ I.1 < I.2 ∧ Blk w I.1 33 zeroT
theorem zeroI_stays (B : Nat) : ∀ u I w w', Up w w' → zeroI B u I w → zeroI B u I w' := fun u I w w' h ⟨e, h1, h2, hb⟩ => ⟨e, h1, h2, hb.below h hb.lt⟩
set_option maxHeartbeats 1000000 in
set_option maxRecDepth 100000 in
theorem plainC_or (s : ByteArray) (l r : C) (q1 : One' l.val) (q2 : One' r.val) (ih1 : MakesC l) (ih2 : MakesC r) : MakesC (.or s l r) := by
  intro w
  have a0 := fun v xT w => notZero 78 v xT w (by decide)
  have a1 := fun v xT w => notOne 78 v xT w (by decide)
  have a2 := fun v xT w => notGive 78 v xT w (by decide)
  have a3 := fun v xT w => notAnd 78 v xT w (by decide)
  have a4 := fun v xT w => isOr v xT w
  have hs1 := q1.store
  have cv1 := q1.cells
  have mv1 := q1.cells
  unfold Value.cells at mv1
  have hs2 := q2.store
  have cv2 := q2.cells
  have mv2 := q2.cells
  unfold Value.cells at mv2
  unfold C.val
  clear q1 q2
  go_enter Try.func9, Try.ntmps9
  go_wp2_with fail
  obtain ⟨W, hW⟩ : ∃ W, W = (w.alloc (.cells #[.int .i64 0, .string ⟨#[]⟩, .int .i64 0, .slice none 0 0] 33)).alloc (.cells #[.string s, l.val, r.val] 78) := ⟨_, rfl⟩
  have HB : Hid (Below w.heap.size w W) := by rw [hW]; exact below_alloc (below_alloc (Below.refl _ _) _) _
  have HZ : Hid (Blk W w.heap.size 33 zeroT) := by rw [hW]; exact blk_keep (blk_new rfl) _
  have HX : Hid (Blk W (w.heap.size + 1) 78 #[.string s, l.val, r.val]) := by rw [hW]; exact blk_new (by simp)
  have HWS : Hid (W.heap.size = w.heap.size + 2) := by unfold Hid; rw [hW]; simp
  rw [← hW]
  clear hW
  have HI1 : Hid (∀ w, Calls Try.prog 9 #[l.val] w (TreePost w (plainC l))) := ih1
  have HI2 : Hid (∀ w, Calls Try.prog 9 #[r.val] w (TreePost w (plainC r))) := ih2
  have HPL : Hid (plainC (.or s l r) = .mk 5 s 0 [plainC l, plainC r]) := rfl
  have HF : Hid (∀ w', Below W.heap.size W w' → w'.cell? ⟨w.heap.size + 1, 0, none⟩ = some (.string s) ∧ w'.cell? ⟨w.heap.size + 1, 1, none⟩ = some l.val ∧ w'.cell? ⟨w.heap.size + 1, 2, none⟩ = some r.val) := fun w' hw' => ⟨(HX.out.below hw' HX.out.lt).cell 0, (HX.out.below hw' HX.out.lt).cell 1, (HX.out.below hw' HX.out.lt).cell 2⟩
  clear ih1 ih2
  generalize l.val = va at *
  generalize r.val = vb at *
  generalize plainC l = ta at *
  generalize plainC r = tb at *
  clear hs1 cv1 mv1 hs2 cv2 mv2 a0 a1 a2 a3 a4
  refine Ivl.wp_region_growI (l := [_, _, _, _, _, _, _, _]) (fun w' => Below W.heap.size W w') Up (Ivl.modes [fun _ => Ivl.one (.pointer (some ⟨w.heap.size + 1, 1, none⟩)), fun _ => Ivl.one va, fun _ => Ivl.loose (treeI W.heap.size ta), fun _ => Ivl.one (.pointer (some ⟨w.heap.size + 1, 2, none⟩)), fun _ => Ivl.one vb, fun _ => Ivl.loose (treeI W.heap.size tb), fun r => Ivl.loose (rowI W.heap.size ta tb r), fun _ => Ivl.loose (zeroI W.heap.size)]) (by kernel_rfl) rfl (by kernel_rfl) (by kernel_rfl) (fun _ _ h => Below.size h) (up_class _) (below_drew (Below.refl _ _)) ?_
  generalize hops : (#[_, _, _, _, _, _, _, _, _] : Array Oper) = ops
  clear hops
  refine Ivl.g_runs (.pointer (some ⟨w.heap.size + 1, 1, none⟩)) Up.refl rfl (wanted_none rfl) (fun w' hw' => ?_) ?_
  · go_simp
  simp only [Act.put, List.setIfInBounds_toArray, List.set_cons_zero, List.set_cons_succ]
  refine Ivl.g_runs (va) Up.refl rfl (wanted_none rfl) (fun w' hw' => ?_) ?_
  · obtain ⟨y0, y1, y2⟩ := HF.out w' hw'
    go_simp
  simp only [Act.put, List.setIfInBounds_toArray, List.set_cons_zero, List.set_cons_succ]
  refine Ivl.g_loose 9 #[va] (treeI W.heap.size ta) rfl (treeI_stays _ _) (wanted_none rfl) (fun w' hw' => ?_) (fun w' hw' hk => ?_) (fun u46 => ?_)
  · go_simp
  · refine (HI1.out w').mono ?_
    rintro e w3 ⟨ka, kc, rfl, ht, hb⟩
    exact ⟨_, rfl, hb, treeI_made hw'.size ht⟩
  simp only [Act.put, List.setIfInBounds_toArray, List.set_cons_zero, List.set_cons_succ]
  refine Ivl.g_runs (.pointer (some ⟨w.heap.size + 1, 2, none⟩)) Up.refl rfl (wanted_none rfl) (fun w' hw' => ?_) ?_
  · go_simp
  simp only [Act.put, List.setIfInBounds_toArray, List.set_cons_zero, List.set_cons_succ]
  refine Ivl.g_runs (vb) Up.refl rfl (wanted_none rfl) (fun w' hw' => ?_) ?_
  · obtain ⟨y0, y1, y2⟩ := HF.out w' hw'
    go_simp
  simp only [Act.put, List.setIfInBounds_toArray, List.set_cons_zero, List.set_cons_succ]
  refine Ivl.g_loose 9 #[vb] (treeI W.heap.size tb) rfl (treeI_stays _ _) (wanted_none rfl) (fun w' hw' => ?_) (fun w' hw' hk => ?_) (fun u49 => ?_)
  · go_simp
  · refine (HI2.out w').mono ?_
    rintro e w3 ⟨ka, kc, rfl, ht, hb⟩
    exact ⟨_, rfl, hb, treeI_made hw'.size ht⟩
  simp only [Act.put, List.setIfInBounds_toArray, List.set_cons_zero, List.set_cons_succ]
  refine Ivl.g_loose 27 #[.int .i64 5, u46, u49] (rowI W.heap.size ta tb [u46, u49]) rfl (rowI_stays _ _ _ _) (wanted_none rfl) (fun w' hw' => ?_) (fun w' hw' hk => ?_) (fun u50 => ?_)
  · go_simp
  · obtain ⟨_, ka, kc, rfl, _, _⟩ : ∃ I, treeI W.heap.size ta u46 I w' := hk 46 (looks_at (by simp [Op.operands, Call.operands]))
    obtain ⟨_, la, lc, rfl, _, _⟩ : ∃ I, treeI W.heap.size tb u49 I w' := hk 49 (looks_at (by simp [Op.operands, Call.operands]))
    refine (two_raw 5 ta tb ka la kc lc w').mono ?_
    rintro e w3 ⟨b, rfl, hbb, hblk, hb⟩
    exact ⟨_, rfl, hb, ka, kc, la, lc, b, rfl, rfl, Nat.le_trans hw'.size hbb, hbb, hblk.lt, hblk⟩
  simp only [Act.put, List.setIfInBounds_toArray, List.set_cons_zero, List.set_cons_succ]
  refine Ivl.g_makes (zeroI W.heap.size) rfl (zeroI_stays _) (wanted_none rfl) (fun w' hw' hk => ?_) (fun u8 => ?_)
  · refine ⟨.pointer (some ⟨w'.heap.size, 0, none⟩), w'.alloc (.cells zeroT 33), ?_, below_alloc (Below.refl _ _) _, rfl, hw'.size, ?_, blk_new rfl⟩
    · unfold zeroT
      go_simp
    · show w'.heap.size < (w'.alloc _).heap.size
      rw [World.size_alloc]
      exact Nat.lt_succ_self _
  simp only [Act.put, List.setIfInBounds_toArray, List.set_cons_zero, List.set_cons_succ]
  refine Ivl.g_nil ?_
  intro I w9 hw9 hk9 hA
  obtain ⟨ka, kc, e46, b46, t46⟩ : treeI W.heap.size ta u46 (I 46) w9 := hk9 46
  obtain ⟨la, lc, e49, b49, t49⟩ : treeI W.heap.size tb u49 (I 49) w9 := hk9 49
  obtain ⟨ka', kc', la', lc', b, e50, f50, b0, b1, b2, hblk⟩ : rowI W.heap.size ta tb [u46, u49] u50 (I 50) w9 := hk9 50
  obtain ⟨f8, b8, c8, hz8⟩ : zeroI W.heap.size u8 (I 8) w9 := hk9 8
  have d1 := hA.2 46 8 (by decide)
  have d2 := hA.2 49 8 (by decide)
  have d3 := hA.2 50 8 (by decide)
  have d4 := hA.2 46 50 (by decide)
  rw [e46, e49] at e50
  simp only [List.cons.injEq, Value.agg.injEq, and_true] at e50
  have hka : ka' = ka ∧ kc' = kc ∧ la' = la ∧ lc' = lc := by
    obtain ⟨h1, h2⟩ := e50
    simp at h1 h2
    exact ⟨h1.1.symm, h1.2.symm, h2.1.symm, h2.2.symm⟩
  obtain ⟨rfl, rfl, rfl, rfl⟩ := hka
  subst f50 f8 e46 e49
  have hws := HWS.out
  generalize hg : (I 8).1 = g at *
  have ng0 : ¬ g = w.heap.size := by omega
  have ng1 : ¬ g = w.heap.size + 1 := by omega
  have ng2 : ¬ w.heap.size = g := by omega
  have ng3 : ¬ w.heap.size + 1 = g := by omega
  obtain ⟨⟨g0, g1, g2, g3⟩, k0, k1, k2, k3⟩ := blk_zero hz8
  have hz9 := HZ.out.below hw9 HZ.out.lt
  obtain ⟨⟨z0, z1, z2, z3⟩, f0, f1, f2, f3⟩ := blk_zero hz9
  obtain ⟨y0, _, _⟩ := HF.out w9 hw9
  have HZ9 := hidIn hz9
  have HZ8 := hidIn hz8
  have HB9 := hidIn hw9
  have HT46 := hidIn t46
  have HT49 := hidIn t49
  have HBLK := hidIn hblk
  have HNUM : Hid (W.heap.size ≤ (I 46).1 ∧ W.heap.size ≤ (I 49).1 ∧ (I 50).1 ≤ b ∧ b < (I 50).2 ∧ W.heap.size ≤ g ∧ ((I 46).2 ≤ g ∨ g < (I 46).1) ∧ ((I 49).2 ≤ g ∨ g < (I 49).1) ∧ ((I 50).2 ≤ g ∨ g < (I 50).1)) := ⟨b46, b49, b1, b2, b8, by omega, by omega, by omega⟩
  have HBL : Hid (W.heap.size ≤ b) := b0
  have HG := hidIn hws
  clear hz8 hz9 hw9 t46 t49 hblk hk9 hA d1 d2 d3 d4 b46 b49 b0 b1 b2 b8 c8 e50 hws hg
  go_upto_region 17 with fail
  obtain ⟨w10, h10⟩ : ∃ y, y = (((w9.setCell ⟨g, 0, none⟩ (.int .i64 5)).setCell ⟨g, 1, none⟩ (.string ⟨#[]⟩)).setCell ⟨g, 2, none⟩ (.int .i64 0)).setCell ⟨g, 3, none⟩ (.slice (some ⟨b, 0, none⟩) 2 2) := ⟨_, rfl⟩
  have hg10 : Blk w10 g 33 #[.int .i64 5, .string ⟨#[]⟩, .int .i64 0, .slice (some ⟨b, 0, none⟩) 2 2] := by rw [h10]; exact blk_set4' HZ8.out _ _ _ _
  have hr10 : Blk w10 w.heap.size 33 zeroT := by rw [h10]; exact blk_other (blk_other (blk_other (blk_other HZ9.out ng2 _ _) ng2 _ _) ng2 _ _) ng2 _ _
  have HC10 : Hid (∀ k x, k ≠ g → w10.cell? ⟨k, x, none⟩ = w9.cell? ⟨k, x, none⟩) := by intro k x hk; rw [h10]; exact set4_cell' hk
  have HB10 : Hid (Below w.heap.size w w10) := by
    have hbw : Below w.heap.size w w9 := HB.out.trans (HB9.out.mono HB.out.size)
    have hws := HG.out
    obtain ⟨m1, m2, m3, m4, m5, m6, m7, m8⟩ := HNUM.out
    rw [h10]
    exact below_set (below_set (below_set (below_set hbw (by omega) _ _) (by omega) _ _) (by omega) _ _) (by omega) _ _
  have HBLK10 : Hid (Blk w10 b 33 (eight ta ka' kc' tb la' lc')) := by
    obtain ⟨m1, m2, m3, m4, m5, m6, m7, m8⟩ := HNUM.out
    rw [h10]
    exact blk_other (blk_other (blk_other (blk_other HBLK.out (by omega) _ _) (by omega) _ _) (by omega) _ _) (by omega) _ _
  rw [← h10]
  have y10 : w10.cell? ⟨w.heap.size + 1, 0, none⟩ = some (.string s) := (HC10.out _ _ ng3).trans y0
  clear h10 g0 g1 g2 g3 k0 k1 k2 k3 z0 z1 z2 z3 f0 f1 f2 f3 y0
  have g0 : w10.cell? ⟨g, 0, none⟩ = some (.int .i64 5) := hg10.cell 0
  have g1 : w10.cell? ⟨g, 1, none⟩ = some (.string ⟨#[]⟩) := hg10.cell 1
  have g2 : w10.cell? ⟨g, 2, none⟩ = some (.int .i64 0) := hg10.cell 2
  have g3 : w10.cell? ⟨g, 3, none⟩ = some (.slice (some ⟨b, 0, none⟩) 2 2) := hg10.cell 3
  have k1 := hg10.frozen 1
  obtain ⟨⟨z0, z1, z2, z3⟩, f0, f1, f2, f3⟩ := blk_zero hr10
  have HR10 := hidIn hr10
  clear hg10 hr10
  go_wp2_with fail
  refine bodyPost_ret (results_cell_row rfl _ _ w.heap.size 33 #[.int .i64 5, .string s, .int .i64 0, .slice (some ⟨b, 0, none⟩) 2 2] (0, 0) _ rfl ?blk Try.underlying33 rfl infoT) rfl ?post
  case blk => change Blk _ _ _ _; (with_reducible refine blk_set4' ?_ _ _ _ _); (repeat first | with_reducible exact HR10.out | with_reducible refine blk_other ?_ ng2 _ _)
  case post =>
    have hws := HG.out
    obtain ⟨m1, m2, m3, m4, m5, m6, m7, m8⟩ := HNUM.out
    have m9 := HBL.out
    rw [HPL.out]
    have hcl : ∀ k x c, k ≠ g → k ≠ w.heap.size → w9.cell? ⟨k, x, none⟩ = some c → ((((((w10.setCell ⟨g, 1, none⟩ (.string s)).setCell ⟨w.heap.size, 0, none⟩ (.int .i64 5)).setCell ⟨w.heap.size, 1, none⟩ (.string s)).setCell ⟨w.heap.size, 2, none⟩ (.int .i64 0)).setCell ⟨w.heap.size, 3, none⟩ (.slice (some ⟨b, 0, none⟩) 2 2)).cell? ⟨k, x, none⟩) = some c := by
      intro k x c h1 h2 hc
      rw [set4_cell' h2, World.cell?_setCell_other _ _ _ _ (by intro e; injection e with e; exact h1 e.symm), HC10.out k x h1]
      exact hc
    refine ⟨some ⟨b, 0, none⟩, 2, rfl, ⟨some ⟨b, 0, none⟩, 2, rfl, Nat.le_refl _, by omega, kat_two ((HT46.out _ (fun k x c h1 h2 hc => ?_)).low (by omega)) ((HT49.out _ (fun k x c h1 h2 hc => ?_)).low (by omega)) (by omega) ?_⟩, ?_⟩
    · exact hcl k x c (by omega) (by omega) hc
    · exact hcl k x c (by omega) (by omega) hc
    · (repeat first | with_reducible exact HBLK10.out | with_reducible refine blk_other ?_ (by omega) _ _)
    · (repeat first | with_reducible exact HB10.out | with_reducible refine below_set ?_ (by omega) _ _)

end Go.Proofs.Ythhjcpmnekibnaa
namespace Go.Proofs.Ythhjcpmnekibnaa
open Go.RowKit
set_option linter.unusedVariables false

/-- A tree in new memory. -/
def treeF (B : Nat) (t : T) (v : Value) (w : World) : Prop := ∃ ka kc, v = .agg #[.int .i64 t.kind, .string t.s, .int .i64 t.n, .slice ka t.k.length kc] ∧ TIn w B t (.agg (four t ka kc))
theorem treeF_stays (B : Nat) (t : T) : ∀ u w w', Up w w' → treeF B t u w → treeF B t u w' := fun u w w' h ⟨ka, kc, e, ht⟩ => ⟨ka, kc, e, ht.below h⟩
/-- Trees one behind another in new memory. -/
def kidsF (B : Nat) (l : List T) (n : Nat) (v : Value) (w : World) : Prop := ∃ b, v = .slice (some ⟨b, 0, none⟩) n n ∧ KAt w B l (some ⟨b, 0, none⟩) 0
theorem kidsF_stays (B : Nat) (l : List T) (n : Nat) : ∀ u w w', Up w w' → kidsF B l n u w → kidsF B l n u w' := fun u w w' h ⟨b, e, ht⟩ => ⟨b, e, ht.below h⟩
def madeF (B : Nat) (kind : Int) (d : Int) (l : List T) (n : Nat) (v : Value) (w : World) : Prop := ∃ b, v = .agg #[.int .i64 kind, .string ⟨#[]⟩, .int .i64 d, .slice (some ⟨b, 0, none⟩) n n] ∧ KAt w B l (some ⟨b, 0, none⟩) 0
theorem madeF_stays (B : Nat) (kind d : Int) (l : List T) (n : Nat) : ∀ u w w', Up w w' → madeF B kind d l n u w → madeF B kind d l n u w' := fun u w w' h ⟨b, e, ht⟩ => ⟨b, e, ht.below h⟩
set_option maxHeartbeats 4000000 in
set_option maxRecDepth 100000 in
theorem plainC_when (d : Int) (c : C) (q1 : One' c.val) (ih1 : MakesC c) : MakesC (.when d c) := by
  intro w
  have a0 := fun v xT w => notZero 82 v xT w (by decide)
  have a1 := fun v xT w => notOne 82 v xT w (by decide)
  have a2 := fun v xT w => notGive 82 v xT w (by decide)
  have a3 := fun v xT w => notAnd 82 v xT w (by decide)
  have a4 := fun v xT w => notOr 82 v xT w (by decide)
  have a5 := fun v xT w => notScale 82 v xT w (by decide)
  have a6 := fun v xT w => isWhen v xT w
  have hs1 := q1.store
  have cv1 := q1.cells
  have mv1 := q1.cells
  unfold Value.cells at mv1
  unfold C.val
  have HI1 := hidIn ih1
  clear q1
  go_enter Try.func9, Try.ntmps9
  go_wp2_with fail
  obtain ⟨W, hW⟩ : ∃ W, W = (w.alloc (.cells #[.int .i64 0, .string ⟨#[]⟩, .int .i64 0, .slice none 0 0] 33)).alloc (.cells #[.int .i64 d, c.val] 82) := ⟨_, rfl⟩
  have HB : Hid (Below w.heap.size w W) := by rw [hW]; exact below_alloc (below_alloc (Below.refl _ _) _) _
  have HZ : Hid (Blk W w.heap.size 33 zeroT) := by rw [hW]; exact blk_keep (blk_new rfl) _
  have HX : Hid (Blk W (w.heap.size + 1) 82 #[.int .i64 d, c.val]) := by rw [hW]; exact blk_new (by simp)
  have HWS : Hid (W.heap.size = w.heap.size + 2) := by unfold Hid; rw [hW]; simp
  rw [← hW]
  clear hW
  have HI1 : Hid (∀ w, Calls Try.prog 9 #[c.val] w (TreePost w (plainC c))) := ih1
  have HPL : Hid (plainC (.when d c) = .mk 7 ⟨#[]⟩ d [plainC c]) := rfl
  have HF : Hid (∀ w', Below W.heap.size W w' → w'.cell? ⟨w.heap.size + 1, 0, none⟩ = some (.int .i64 d) ∧ w'.cell? ⟨w.heap.size + 1, 1, none⟩ = some c.val) := fun w' hw' => ⟨(HX.out.below hw' HX.out.lt).cell 0, (HX.out.below hw' HX.out.lt).cell 1⟩
  clear ih1
  generalize c.val = vc at *
  generalize plainC c = tc at *
  clear hs1 cv1 mv1 a0 a1 a2 a3 a4 a5 a6
  refine wp_region_growL (l := [_, _, _, _, _, _, _]) (fun w' => Below W.heap.size W w') Up (modes [one (.pointer (some ⟨w.heap.size + 1, 0, none⟩)), one (.int .i64 d), one (.pointer (some ⟨w.heap.size + 1, 1, none⟩)), one (vc), loose (treeF W.heap.size tc), loose (kidsF W.heap.size [tc] 1), loose (madeF W.heap.size 7 d [tc] 1)]) (by kernel_rfl) rfl (by kernel_rfl) (by kernel_rfl) (up_class _) (below_drew (Below.refl _ _)) ?_
  generalize hops : (#[_, _, _, _, _, _, _, _] : Array Oper) = ops
  clear hops
  refine g_runs (.pointer (some ⟨w.heap.size + 1, 0, none⟩)) grow_end Up.refl rfl (wanted_none rfl) (by intro d hd w; cases hd; exact trivial) (fun w' hw' => ?_) ?_
  · go_simp
  simp only [Act.put, List.setIfInBounds_toArray, List.set_cons_zero, List.set_cons_succ]
  refine g_runs (.int .i64 d) grow_end Up.refl rfl (wanted_none rfl) (by intro d hd w; cases hd; exact trivial) (fun w' hw' => ?_) ?_
  · obtain ⟨y0, y1⟩ := HF.out w' hw'
    go_simp
  simp only [Act.put, List.setIfInBounds_toArray, List.set_cons_zero, List.set_cons_succ]
  refine g_runs (.pointer (some ⟨w.heap.size + 1, 1, none⟩)) grow_end Up.refl rfl (wanted_none rfl) (by intro d hd w; cases hd; exact trivial) (fun w' hw' => ?_) ?_
  · go_simp
  simp only [Act.put, List.setIfInBounds_toArray, List.set_cons_zero, List.set_cons_succ]
  refine g_runs (vc) grow_end Up.refl rfl (wanted_none rfl) (by intro d hd w; cases hd; exact trivial) (fun w' hw' => ?_) ?_
  · obtain ⟨y0, y1⟩ := HF.out w' hw'
    go_simp
  simp only [Act.put, List.setIfInBounds_toArray, List.set_cons_zero, List.set_cons_succ]
  refine g_loose 9 #[vc] (treeF W.heap.size tc) rfl (treeF_stays _ _) (wanted_none rfl) (fun w' hw' => ?_) (fun w' hw' hk => ?_) (fun u72 => ?_)
  · go_simp
  · refine (HI1.out w').mono ?_
    rintro e w3 ⟨ka, kc, rfl, ht, hb⟩
    exact ⟨_, rfl, hb, ka, kc, rfl, ht.low hw'.size⟩
  simp only [Act.put, List.setIfInBounds_toArray, List.set_cons_zero, List.set_cons_succ]
  refine g_makes (kidsF W.heap.size [tc] 1) rfl (kidsF_stays _ _ _) (wanted_none rfl) (fun w' hw' hk => ?_) (fun u73 => ?_)
  · obtain ⟨ka72, kc72, rfl, ht72⟩ : treeF W.heap.size tc u72 w' := hk 72 (looks_at (by simp [Op.operands]))
    refine ⟨.slice (some ⟨w'.heap.size, 0, none⟩) 1 1, w'.alloc (.cells (four tc ka72 kc72) 33), ?_, below_alloc (Below.refl _ _) _, w'.heap.size, rfl, kat_one (ht72.below (below_alloc (Below.refl _ _) _)) hw'.size (blk_new rfl)⟩
    unfold four
    go_simp
  simp only [Act.put, List.setIfInBounds_toArray, List.set_cons_zero, List.set_cons_succ]
  refine g_makes (madeF W.heap.size 7 d [tc] 1) rfl (madeF_stays _ _ _ _ _) (wanted_none rfl) (fun w' hw' hk => ?_) (fun u74 => ?_)
  · obtain ⟨b, rfl, hb⟩ : kidsF W.heap.size [tc] 1 u73 w' := hk 73 (looks_at (by simp [Op.operands]))
    refine ⟨_, w', ?_, Up.refl _, b, rfl, hb⟩
    go_simp
  simp only [Act.put, List.setIfInBounds_toArray, List.set_cons_zero, List.set_cons_succ]
  refine g_nil ?_
  intro w9 hw9 hk9
  obtain ⟨b, rfl, hkat⟩ : madeF W.heap.size 7 d [tc] 1 u74 w9 := hk9 74
  have hz9 := HZ.out.below hw9 HZ.out.lt
  obtain ⟨⟨z0, z1, z2, z3⟩, f0, f1, f2, f3⟩ := blk_zero hz9
  have HZ9 := hidIn hz9
  have HB9 := hidIn hw9
  have HK9 := hidIn hkat
  clear hz9 hw9 hkat hk9
  go_wp2_with fail
  refine bodyPost_ret (results_cell_row rfl _ _ w.heap.size 33 #[.int .i64 7, .string ⟨#[]⟩, .int .i64 d, .slice (some ⟨b, 0, none⟩) 1 1] (0, 0) _ rfl ?blk Try.underlying33 rfl infoT) rfl ?post
  case blk => change Blk _ _ _ _; (with_reducible exact blk_set4' HZ9.out _ _ _ _)
  case post =>
    have hbw : Below w.heap.size w w9 := HB.out.trans (HB9.out.mono HB.out.size)
    have hWS := HWS.out
    rw [HPL.out]
    refine ⟨some ⟨b, 0, none⟩, 1, rfl, ⟨some ⟨b, 0, none⟩, 1, rfl, Nat.le_refl _, by omega, HK9.out.kept (by omega) (fun k x v hk hv => ?_)⟩, ?_⟩
    · rw [set4_cell' (by omega)]
      exact hv
    · (repeat first | with_reducible exact hbw | with_reducible refine below_set ?_ (by omega) _ _)
set_option maxHeartbeats 4000000 in
set_option maxRecDepth 100000 in
theorem plainC_iff (n : O) (l r : C) (q1 : One' n.val) (q2 : One' l.val) (q3 : One' r.val) (ih1 : MakesO n) (ih2 : MakesC l) (ih3 : MakesC r) : MakesC (.iff n l r) := by
  intro w
  have a0 := fun v xT w => notZero 84 v xT w (by decide)
  have a1 := fun v xT w => notOne 84 v xT w (by decide)
  have a2 := fun v xT w => notGive 84 v xT w (by decide)
  have a3 := fun v xT w => notAnd 84 v xT w (by decide)
  have a4 := fun v xT w => notOr 84 v xT w (by decide)
  have a5 := fun v xT w => notScale 84 v xT w (by decide)
  have a6 := fun v xT w => notWhen 84 v xT w (by decide)
  have a7 := fun v xT w => isIf v xT w
  have hs1 := q1.store
  have cv1 := q1.cells
  have mv1 := q1.cells
  unfold Value.cells at mv1
  have hs2 := q2.store
  have cv2 := q2.cells
  have mv2 := q2.cells
  unfold Value.cells at mv2
  have hs3 := q3.store
  have cv3 := q3.cells
  have mv3 := q3.cells
  unfold Value.cells at mv3
  unfold C.val
  clear q1 q2 q3
  go_enter Try.func9, Try.ntmps9
  go_wp2_with fail
  obtain ⟨W, hW⟩ : ∃ W, W = (w.alloc (.cells #[.int .i64 0, .string ⟨#[]⟩, .int .i64 0, .slice none 0 0] 33)).alloc (.cells #[n.val, l.val, r.val] 84) := ⟨_, rfl⟩
  have HB : Hid (Below w.heap.size w W) := by rw [hW]; exact below_alloc (below_alloc (Below.refl _ _) _) _
  have HZ : Hid (Blk W w.heap.size 33 zeroT) := by rw [hW]; exact blk_keep (blk_new rfl) _
  have HX : Hid (Blk W (w.heap.size + 1) 84 #[n.val, l.val, r.val]) := by rw [hW]; exact blk_new (by simp)
  have HWS : Hid (W.heap.size = w.heap.size + 2) := by unfold Hid; rw [hW]; simp
  rw [← hW]
  clear hW
  have HI1 : Hid (∀ w, Calls Try.prog 10 #[n.val] w (TreePost w (plain n))) := ih1
  have HI2 : Hid (∀ w, Calls Try.prog 9 #[l.val] w (TreePost w (plainC l))) := ih2
  have HI3 : Hid (∀ w, Calls Try.prog 9 #[r.val] w (TreePost w (plainC r))) := ih3
  have HPL : Hid (plainC (.iff n l r) = .mk 8 ⟨#[]⟩ 0 [plain n, plainC l, plainC r]) := rfl
  have HF : Hid (∀ w', Below W.heap.size W w' → w'.cell? ⟨w.heap.size + 1, 0, none⟩ = some n.val ∧ w'.cell? ⟨w.heap.size + 1, 1, none⟩ = some l.val ∧ w'.cell? ⟨w.heap.size + 1, 2, none⟩ = some r.val) := fun w' hw' => ⟨(HX.out.below hw' HX.out.lt).cell 0, (HX.out.below hw' HX.out.lt).cell 1, (HX.out.below hw' HX.out.lt).cell 2⟩
  clear ih1 ih2 ih3
  generalize n.val = vn at *
  generalize l.val = vl at *
  generalize r.val = vr at *
  generalize plain n = tn at *
  generalize plainC l = tl at *
  generalize plainC r = tr at *
  clear hs1 cv1 mv1 hs2 cv2 mv2 hs3 cv3 mv3 a0 a1 a2 a3 a4 a5 a6 a7
  refine wp_region_growL (l := [_, _, _, _, _, _, _, _, _, _, _]) (fun w' => Below W.heap.size W w') Up (modes [one (.pointer (some ⟨w.heap.size + 1, 0, none⟩)), one (vn), loose (treeF W.heap.size tn), one (.pointer (some ⟨w.heap.size + 1, 1, none⟩)), one (vl), loose (treeF W.heap.size tl), one (.pointer (some ⟨w.heap.size + 1, 2, none⟩)), one (vr), loose (treeF W.heap.size tr), loose (kidsF W.heap.size [tn, tl, tr] 3), loose (madeF W.heap.size 8 0 [tn, tl, tr] 3)]) (by kernel_rfl) rfl (by kernel_rfl) (by kernel_rfl) (up_class _) (below_drew (Below.refl _ _)) ?_
  generalize hops : (#[_, _, _, _, _, _, _, _, _, _, _, _] : Array Oper) = ops
  clear hops
  refine g_runs (.pointer (some ⟨w.heap.size + 1, 0, none⟩)) grow_end Up.refl rfl (wanted_none rfl) (by intro d hd w; cases hd; exact trivial) (fun w' hw' => ?_) ?_
  · go_simp
  simp only [Act.put, List.setIfInBounds_toArray, List.set_cons_zero, List.set_cons_succ]
  refine g_runs (vn) grow_end Up.refl rfl (wanted_none rfl) (by intro d hd w; cases hd; exact trivial) (fun w' hw' => ?_) ?_
  · obtain ⟨y0, y1, y2⟩ := HF.out w' hw'
    go_simp
  simp only [Act.put, List.setIfInBounds_toArray, List.set_cons_zero, List.set_cons_succ]
  refine g_loose 10 #[vn] (treeF W.heap.size tn) rfl (treeF_stays _ _) (wanted_none rfl) (fun w' hw' => ?_) (fun w' hw' hk => ?_) (fun u80 => ?_)
  · go_simp
  · refine (HI1.out w').mono ?_
    rintro e w3 ⟨ka, kc, rfl, ht, hb⟩
    exact ⟨_, rfl, hb, ka, kc, rfl, ht.low hw'.size⟩
  simp only [Act.put, List.setIfInBounds_toArray, List.set_cons_zero, List.set_cons_succ]
  refine g_runs (.pointer (some ⟨w.heap.size + 1, 1, none⟩)) grow_end Up.refl rfl (wanted_none rfl) (by intro d hd w; cases hd; exact trivial) (fun w' hw' => ?_) ?_
  · go_simp
  simp only [Act.put, List.setIfInBounds_toArray, List.set_cons_zero, List.set_cons_succ]
  refine g_runs (vl) grow_end Up.refl rfl (wanted_none rfl) (by intro d hd w; cases hd; exact trivial) (fun w' hw' => ?_) ?_
  · obtain ⟨y0, y1, y2⟩ := HF.out w' hw'
    go_simp
  simp only [Act.put, List.setIfInBounds_toArray, List.set_cons_zero, List.set_cons_succ]
  refine g_loose 9 #[vl] (treeF W.heap.size tl) rfl (treeF_stays _ _) (wanted_none rfl) (fun w' hw' => ?_) (fun w' hw' hk => ?_) (fun u83 => ?_)
  · go_simp
  · refine (HI2.out w').mono ?_
    rintro e w3 ⟨ka, kc, rfl, ht, hb⟩
    exact ⟨_, rfl, hb, ka, kc, rfl, ht.low hw'.size⟩
  simp only [Act.put, List.setIfInBounds_toArray, List.set_cons_zero, List.set_cons_succ]
  refine g_runs (.pointer (some ⟨w.heap.size + 1, 2, none⟩)) grow_end Up.refl rfl (wanted_none rfl) (by intro d hd w; cases hd; exact trivial) (fun w' hw' => ?_) ?_
  · go_simp
  simp only [Act.put, List.setIfInBounds_toArray, List.set_cons_zero, List.set_cons_succ]
  refine g_runs (vr) grow_end Up.refl rfl (wanted_none rfl) (by intro d hd w; cases hd; exact trivial) (fun w' hw' => ?_) ?_
  · obtain ⟨y0, y1, y2⟩ := HF.out w' hw'
    go_simp
  simp only [Act.put, List.setIfInBounds_toArray, List.set_cons_zero, List.set_cons_succ]
  refine g_loose 9 #[vr] (treeF W.heap.size tr) rfl (treeF_stays _ _) (wanted_none rfl) (fun w' hw' => ?_) (fun w' hw' hk => ?_) (fun u86 => ?_)
  · go_simp
  · refine (HI3.out w').mono ?_
    rintro e w3 ⟨ka, kc, rfl, ht, hb⟩
    exact ⟨_, rfl, hb, ka, kc, rfl, ht.low hw'.size⟩
  simp only [Act.put, List.setIfInBounds_toArray, List.set_cons_zero, List.set_cons_succ]
  refine g_makes (kidsF W.heap.size [tn, tl, tr] 3) rfl (kidsF_stays _ _ _) (wanted_none rfl) (fun w' hw' hk => ?_) (fun u87 => ?_)
  · obtain ⟨ka80, kc80, rfl, ht80⟩ : treeF W.heap.size tn u80 w' := hk 80 (looks_at (by simp [Op.operands]))
    obtain ⟨ka83, kc83, rfl, ht83⟩ : treeF W.heap.size tl u83 w' := hk 83 (looks_at (by simp [Op.operands]))
    obtain ⟨ka86, kc86, rfl, ht86⟩ : treeF W.heap.size tr u86 w' := hk 86 (looks_at (by simp [Op.operands]))
    refine ⟨.slice (some ⟨w'.heap.size, 0, none⟩) 3 3, w'.alloc (.cells (twelve tn ka80 kc80 tl ka83 kc83 tr ka86 kc86) 33), ?_, below_alloc (Below.refl _ _) _, w'.heap.size, rfl, kat_three (ht80.below (below_alloc (Below.refl _ _) _)) (ht83.below (below_alloc (Below.refl _ _) _)) (ht86.below (below_alloc (Below.refl _ _) _)) hw'.size (blk_new rfl)⟩
    unfold twelve
    go_simp
  simp only [Act.put, List.setIfInBounds_toArray, List.set_cons_zero, List.set_cons_succ]
  refine g_makes (madeF W.heap.size 8 0 [tn, tl, tr] 3) rfl (madeF_stays _ _ _ _ _) (wanted_none rfl) (fun w' hw' hk => ?_) (fun u88 => ?_)
  · obtain ⟨b, rfl, hb⟩ : kidsF W.heap.size [tn, tl, tr] 3 u87 w' := hk 87 (looks_at (by simp [Op.operands]))
    refine ⟨_, w', ?_, Up.refl _, b, rfl, hb⟩
    go_simp
  simp only [Act.put, List.setIfInBounds_toArray, List.set_cons_zero, List.set_cons_succ]
  refine g_nil ?_
  intro w9 hw9 hk9
  obtain ⟨b, rfl, hkat⟩ : madeF W.heap.size 8 0 [tn, tl, tr] 3 u88 w9 := hk9 88
  have hz9 := HZ.out.below hw9 HZ.out.lt
  obtain ⟨⟨z0, z1, z2, z3⟩, f0, f1, f2, f3⟩ := blk_zero hz9
  have HZ9 := hidIn hz9
  have HB9 := hidIn hw9
  have HK9 := hidIn hkat
  clear hz9 hw9 hkat hk9
  go_wp2_with fail
  refine bodyPost_ret (results_cell_row rfl _ _ w.heap.size 33 #[.int .i64 8, .string ⟨#[]⟩, .int .i64 0, .slice (some ⟨b, 0, none⟩) 3 3] (0, 0) _ rfl ?blk Try.underlying33 rfl infoT) rfl ?post
  case blk => change Blk _ _ _ _; (with_reducible exact blk_set4' HZ9.out _ _ _ _)
  case post =>
    have hbw : Below w.heap.size w w9 := HB.out.trans (HB9.out.mono HB.out.size)
    have hWS := HWS.out
    rw [HPL.out]
    refine ⟨some ⟨b, 0, none⟩, 3, rfl, ⟨some ⟨b, 0, none⟩, 3, rfl, Nat.le_refl _, by omega, HK9.out.kept (by omega) (fun k x v hk hv => ?_)⟩, ?_⟩
    · rw [set4_cell' (by omega)]
      exact hv
    · (repeat first | with_reducible exact hbw | with_reducible refine below_set ?_ (by omega) _ _)

end Go.Proofs.Ythhjcpmnekibnaa
namespace Go.Proofs.Ythhjcpmnekibnaa
open Go.RowKit
set_option linter.unusedVariables false

theorem plainCC_any (c : C) (h : c.Ok) : MakesC c := by
  induction c with
  | zero => exact plainC_zero
  | one s => exact plainC_one s
  | odd v => exact plainC_odd v h
  | give c ih => exact plainC_give c (c.one' h) (ih h)
  | and l r ihl ihr => exact plainC_and l r (l.one' h.1) (r.one' h.2) (ihl h.1) (ihr h.2)
  | or s l r ihl ihr => exact plainC_or s l r (l.one' h.2.1) (r.one' h.2.2) (ihl h.2.1) (ihr h.2.2)
  | scale o c ih => exact plainC_scale o c (o.one' h.1) (c.one' h.2) (plainO_any o h.1) (ih h.2)
  | when d c ih => exact plainC_when d c (c.one' h.2) (ih h.2)
  | iff o l r ihl ihr => exact plainC_iff o l r (o.one' h.1) (l.one' h.2.1) (r.one' h.2.2) (plainO_any o h.1) (ihl h.2.1) (ihr h.2.2)

end Go.Proofs.Ythhjcpmnekibnaa
namespace Go.Proofs.Ythhjcpmnekibnaa
open Go.RowKit
set_option linter.unusedVariables false

theorem formB_self (o : O) (h : formB o = true) : sameO o o = true := by
  induction o with
  | odd v => cases h
  | const n => simp [sameO]
  | fix s => simp [sameO]
  | neg a h1 => simp [sameO, h1 h]
  | add a b h1 h2 => simp only [formB, Bool.and_eq_true] at h; simp [sameO, h1 h.1, h2 h.2]
  | mul a b h1 h2 => simp only [formB, Bool.and_eq_true] at h; simp [sameO, h1 h.1, h2 h.2]
  | max a b h1 h2 => simp only [formB, Bool.and_eq_true] at h; simp [sameO, h1 h.1, h2 h.2]
theorem formC_self (c : C) (h : formC c = true) : sameC c c = true := by
  induction c with
  | odd v => cases h
  | zero => simp [sameC]
  | one s => simp [sameC]
  | give c h1 => simp [sameC, h1 h]
  | and a b h1 h2 => simp only [formC, Bool.and_eq_true] at h; simp [sameC, h1 h.1, h2 h.2]
  | or s a b h1 h2 => simp only [formC, Bool.and_eq_true] at h; simp [sameC, h1 h.1.2, h2 h.2]
  | scale o c h1 => simp only [formC, Bool.and_eq_true] at h; simp [sameC, formB_self o h.1, h1 h.2]
  | when n c h1 => simp only [formC, Bool.and_eq_true] at h; simp [sameC, h1 h.2]
  | iff o l r h1 h2 => simp only [formC, Bool.and_eq_true] at h; simp [sameC, formB_self o h.1.1, h1 h.1.2, h2 h.2]
theorem chk_to_form {o : O} (h : chk o = 0) : formB o = true := by
  unfold chk at h
  split at h
  · assumption
  · cases h
theorem chkC_to_form {c : C} (h : chkC c = 0) : formC c = true := by
  unfold chkC at h
  split at h
  · assumption
  · cases h
theorem rdT_two (s : ByteArray) : ((rdT s).2.2 = 0 ∧ chkC (rdT s).1 = 0) ∨ ((rdT s).2.2 ≠ 0 ∧ (rdT s).1 = .odd .nilIface) := by
  unfold rdT
  split
  · split
    · rename_i h; exact .inl ⟨rfl, h⟩
    · rename_i h; exact .inr ⟨h, rfl⟩
  · rename_i h; exact .inr ⟨h, rfl⟩
theorem rdO_two (s : ByteArray) : ((rdO s).2.2 = 0 ∧ chk (rdO s).1 = 0) ∨ ((rdO s).2.2 ≠ 0 ∧ (rdO s).1 = .odd .nilIface) := by
  unfold rdO
  split
  · split
    · rename_i h; exact .inl ⟨rfl, h⟩
    · rename_i h; exact .inr ⟨h, rfl⟩
  · rename_i h; exact .inr ⟨h, rfl⟩
theorem odd_selfC : sameTr (plainC (.odd .nilIface)) (plainC (.odd .nilIface)) = false := by rw [plainC_same]; rfl
theorem odd_selfO : sameTr (plain (.odd .nilIface)) (plain (.odd .nilIface)) = false := by rw [plain_same]; rfl

set_option maxHeartbeats 16000000 in
set_option maxRecDepth 100000 in
theorem readTells_walk (p : Pl) (what at' : Int) (s : ByteArray) (raw : Bool) (w : World) (hp : PlanIn w p) (hw1 : -9223372036854775808 ≤ what) (hw2 : what ≤ 9223372036854775807) (ha1 : -9223372036854775808 ≤ at') (ha2 : at' ≤ 9223372036854775807) (hs : s.size ≤ 140737488351232) :
    Calls Try.prog 3 #[planV p, .int .i64 what, .int .i64 at', .string s, .bool raw] w fun e w' => e = .returned (.bool true) ∧ Below w.heap.size w w' := by
  have HTX := hidX (text7_any p what at' s raw (w.alloc (.cells #[.slice p.na p.nl p.nc, .slice p.wa p.wl p.wc] 25)) (hp.below (below_alloc (Below.refl _ _) _)) hw1 hw2 ha1 ha2 hs)
  have HB0 : Hid (Below w.heap.size w (w.alloc (.cells #[.slice p.na p.nl p.nc, .slice p.wa p.wl p.wc] 25))) := below_alloc (Below.refl _ _) _
  clear hp hw1 hw2 ha1 ha2 hs
  unfold planV at HTX ⊢
  go_enter Try.func3, Try.ntmps3
  go_wp2_with fail
  refine HTX.out.mono ?_
  rintro e w1 ⟨x, rfl, hx, hb1⟩
  have HB1 := hidX (HB0.out.trans (hb1.mono HB0.out.size))
  have hxs : x.size ≤ 140737488351232 := by omega
  have HXS := hidX hxs
  clear hb1 HTX HB0 hx hxs
  obtain ⟨hsc1, hsc2⟩ := read_sameC x
  obtain ⟨hso1, hso2⟩ := read_sameO x
  have HSC1 := hidX hsc1
  have HSC2 := hidX hsc2
  have HSO1 := hidX hso1
  have HSO2 := hidX hso2
  have HTW := hidX (rdT_two x)
  have HOW := hidX (rdO_two x)
  clear hsc1 hsc2 hso1 hso2
  go_wp2_with fail
  refine (readT_any x w1 HXS.out).mono ?_
  rintro e w2 ⟨rfl, hcok, hb2⟩
  have HCOK := hidX hcok
  have HB2 := hidX (HB1.out.trans (hb2.mono HB1.out.size))
  clear hb2 hcok HB1
  obtain ⟨c, hc⟩ : ∃ c, (rdT x).1 = c := ⟨_, rfl⟩
  obtain ⟨tp, htp⟩ : ∃ tp, (rdT x).2.1 = tp := ⟨_, rfl⟩
  obtain ⟨te, hte⟩ : ∃ te, (rdT x).2.2 = te := ⟨_, rfl⟩
  have hq1 : (xread x false).2.1 = tp := by rw [HSC1.out]; exact htp
  have hq2 : (xread x false).2.2 = te := by rw [HSC1.out]; exact hte
  rw [hc] at HCOK HSC2 HTW
  rw [hte] at HTW
  rw [hc, htp, hte]
  have HRD := hidX (refRead_any x false w2 HXS.out)
  rw [hq1, hq2, HSC2.out] at HRD
  clear hc htp hte hq1 hq2 HSC1 HSC2
  go_wp2_with fail
  refine HRD.out.mono ?_
  rintro e w3 ⟨v3, rfl, ht3, hb3⟩
  have hv3 := ht3
  obtain ⟨ta, tc, rfl, hz1, hz2, hz3⟩ := hv3
  have HT3 := hidX (ht3.low (Nat.zero_le _))
  have HB3 := hidX (HB2.out.trans (hb3.mono HB2.out.size))
  clear hz1 hz2 hz3 ht3 hb3 HRD HB2
  have HBT : Hid (Blk (w3.alloc (.cells #[.int .i64 (plainC c).kind, .string (plainC c).s, .int .i64 (plainC c).n, .slice ta (plainC c).k.length tc] 33)) w3.heap.size 33 #[.int .i64 (plainC c).kind, .string (plainC c).s, .int .i64 (plainC c).n, .slice ta (plainC c).k.length tc]) := blk_new rfl
  have HB4 := hidX (below_alloc HB3.out (.cells #[.int .i64 (plainC c).kind, .string (plainC c).s, .int .i64 (plainC c).n, .slice ta (plainC c).k.length tc] 33))
  have HT4 := hidX (HT3.out.below (below_alloc (Below.refl _ _) (.cells #[.int .i64 (plainC c).kind, .string (plainC c).s, .int .i64 (plainC c).n, .slice ta (plainC c).k.length tc] 33)))
  go_wp2_with fail
  generalize w3.alloc (.cells #[.int .i64 (plainC c).kind, .string (plainC c).s, .int .i64 (plainC c).n, .slice ta (plainC c).k.length tc] 33) = w4 at *
  generalize w3.heap.size = tb at *
  clear HT3 HB3
  refine (readO_any x w4 HXS.out).mono ?_
  rintro e w5 ⟨rfl, hook, hb5⟩
  have HOOK := hidX hook
  have HB5 := hidX (HB4.out.trans (hb5.mono HB4.out.size))
  have HBT5 := hidX (HBT.out.below hb5 HBT.out.lt)
  have HT5 := hidX (HT4.out.below hb5)
  clear hb5 hook HB4 HBT HT4
  obtain ⟨o, ho⟩ : ∃ o, (rdO x).1 = o := ⟨_, rfl⟩
  obtain ⟨op, hop⟩ : ∃ op, (rdO x).2.1 = op := ⟨_, rfl⟩
  obtain ⟨oe, hoe⟩ : ∃ oe, (rdO x).2.2 = oe := ⟨_, rfl⟩
  have hq1 : (xread x true).2.1 = op := by rw [HSO1.out]; exact hop
  have hq2 : (xread x true).2.2 = oe := by rw [HSO1.out]; exact hoe
  rw [ho] at HOOK HSO2 HOW
  rw [hoe] at HOW
  rw [ho, hop, hoe]
  have HRD := hidX (refRead_any x true w5 HXS.out)
  rw [hq1, hq2, HSO2.out] at HRD
  clear ho hop hoe hq1 hq2 HSO1 HSO2
  go_wp2_with fail
  refine HRD.out.mono ?_
  rintro e w6 ⟨v6, rfl, ht6, hb6⟩
  have hv6 := ht6
  obtain ⟨oa, oc, rfl, hz1, hz2, hz3⟩ := hv6
  have HO6 := hidX (ht6.low (Nat.zero_le _))
  have HB6 := hidX (HB5.out.trans (hb6.mono HB5.out.size))
  have HBT6 := hidX (HBT5.out.below hb6 HBT5.out.lt)
  have HT6 := hidX (HT5.out.below hb6)
  clear hz1 hz2 hz3 ht6 hb6 HRD HB5 HBT5 HT5
  have HBO : Hid (Blk (w6.alloc (.cells #[.int .i64 (plain o).kind, .string (plain o).s, .int .i64 (plain o).n, .slice oa (plain o).k.length oc] 33)) w6.heap.size 33 #[.int .i64 (plain o).kind, .string (plain o).s, .int .i64 (plain o).n, .slice oa (plain o).k.length oc]) := blk_new rfl
  have hbel : Below w6.heap.size w6 (w6.alloc (.cells #[.int .i64 (plain o).kind, .string (plain o).s, .int .i64 (plain o).n, .slice oa (plain o).k.length oc] 33)) := below_alloc (Below.refl _ _) _
  have HB7 := hidX (below_alloc HB6.out (.cells #[.int .i64 (plain o).kind, .string (plain o).s, .int .i64 (plain o).n, .slice oa (plain o).k.length oc] 33))
  have HBT7 := hidX (HBT6.out.below hbel HBT6.out.lt)
  have HT7 := hidX (HT6.out.below hbel)
  have HO7 := hidX (HO6.out.below hbel)
  clear hbel
  go_upto_region 6 with fail
  generalize w6.alloc (.cells #[.int .i64 (plain o).kind, .string (plain o).s, .int .i64 (plain o).n, .slice oa (plain o).k.length oc] 33) = w7 at *
  generalize w6.heap.size = ob at *
  clear HB6 HBT6 HT6 HO6
  have HF : Hid (∀ w', Below w7.heap.size w7 w' → (w'.cell? ⟨tb, 0, none⟩ = some (.int .i64 (plainC c).kind) ∧ w'.cell? ⟨tb, 1, none⟩ = some (.string (plainC c).s) ∧ w'.cell? ⟨tb, 2, none⟩ = some (.int .i64 (plainC c).n) ∧ w'.cell? ⟨tb, 3, none⟩ = some (.slice ta (plainC c).k.length tc)) ∧ TIn w' 0 (plainC c) (.agg #[.int .i64 (plainC c).kind, .string (plainC c).s, .int .i64 (plainC c).n, .slice ta (plainC c).k.length tc])) := fun w' hw' => by
    have h := HBT7.out.below hw' HBT7.out.lt
    exact ⟨⟨h.cell 0, h.cell 1, h.cell 2, h.cell 3⟩, HT7.out.below hw'⟩
  have HF7 : Hid (∀ w', Below w7.heap.size w7 w' → (w'.cell? ⟨ob, 0, none⟩ = some (.int .i64 (plain o).kind) ∧ w'.cell? ⟨ob, 1, none⟩ = some (.string (plain o).s) ∧ w'.cell? ⟨ob, 2, none⟩ = some (.int .i64 (plain o).n) ∧ w'.cell? ⟨ob, 3, none⟩ = some (.slice oa (plain o).k.length oc)) ∧ TIn w' 0 (plain o) (.agg #[.int .i64 (plain o).kind, .string (plain o).s, .int .i64 (plain o).n, .slice oa (plain o).k.length oc])) := fun w' hw' => by
    have h := HBO.out.below hw' HBO.out.lt
    exact ⟨⟨h.cell 0, h.cell 1, h.cell 2, h.cell 3⟩, HO7.out.below hw'⟩
  clear HBT7 HT7 HBO HO7
  have HPL := hidX (plainCC_any c HCOK.out)
  have HPO := hidX (plainO_any o HOOK.out)
  rcases HTW.out with ⟨hc1, hc2⟩ | ⟨hc1, hc2⟩
  · have HSF : Hid (sameTr (plainC c) (plainC c) = true) := by unfold Hid; rw [plainC_same]; exact formC_self c (chkC_to_form hc2)
    subst hc1
    clear hc2 HTW
    go_wp2_with fail
    refine Mx.wp_region_mix3 (fun w' => Below w7.heap.size w7 w') (fun _ => True) 3 [(0, false), (1, false), (2, false), (4, false), (3, true), (5, true), (6, false), (7, false), (8, false), (9, false), (10, false), (11, false), (12, false), (13, false), (14, false)] (by kernel_rfl) (by kernel_rfl) (below_drew (Below.refl _ _)) ?_ (by kernel_rfl)
    simp only [List.map_cons, List.map_nil, List.getD_cons_zero, List.getD_cons_succ]
    generalize hops : (#[_, _, _, _, _, _, _, _, _, _, _, _, _, _, _] : Array Oper) = ops
    have HD7 : Hid ((ops[7]?).bind (·.dst) = some 79) := by rw [← hops]; exact rfl
    have HD10 : Hid ((ops[10]?).bind (·.dst) = some 82) := by rw [← hops]; exact rfl
    clear hops
    refine Mx.q_pure (.int .i64 0) (by decide) (Mx.wanted_none rfl) (fun w' hw' _ => ?_) ?_
    · go_simp
    simp only [Act.put, List.setIfInBounds_toArray, List.set_cons_zero, List.set_cons_succ]
    refine Mx.q_pure (.bool true) (by decide) (Mx.wanted_none rfl) (fun w' hw' _ => ?_) ?_
    · go_simp
    simp only [Act.put, List.setIfInBounds_toArray, List.set_cons_zero, List.set_cons_succ]
    refine Mx.q_pure (c.val) (by decide) (Mx.wanted_none rfl) (fun w' hw' _ => ?_) ?_
    · go_simp
    simp only [Act.put, List.setIfInBounds_toArray, List.set_cons_zero, List.set_cons_succ]
    refine Mx.q_pure (.agg #[.int .i64 (plainC c).kind, .string (plainC c).s, .int .i64 (plainC c).n, .slice ta (plainC c).k.length tc]) (by decide) (Mx.wanted_none rfl) (fun w' hw' _ => ?_) ?_
    · obtain ⟨⟨c0, c1, c2, c3⟩, _⟩ := HF.out w' hw'
      go_simp
    simp only [Act.put, List.setIfInBounds_toArray, List.set_cons_zero, List.set_cons_succ]
    refine Mx.q_call 9 #[c.val] (Mx.wanted_none rfl) ?_ ?_
    · go_simp
    refine (HPL.out _).mono ?_
    rintro e w21 ⟨ka, kc, rfl, ht, hb⟩
    have HC21 : Hid (Below w7.heap.size w7 w21) := (below_drew (Below.refl _ _)).trans (hb.mono (by simp))
    have HT21 := hidX (ht.low (Nat.zero_le _))
    refine ⟨_, rfl, HC21.out, fun _ => trivial, ?_⟩
    clear ht hb
    simp only [Act.put, List.setIfInBounds_toArray, List.set_cons_zero, List.set_cons_succ]
    refine Mx.q_call 8 #[.agg #[.int .i64 (plainC c).kind, .string (plainC c).s, .int .i64 (plainC c).n, .slice ka (plainC c).k.length kc], .agg #[.int .i64 (plainC c).kind, .string (plainC c).s, .int .i64 (plainC c).n, .slice ta (plainC c).k.length tc]] (Mx.wanted_none rfl) ?_ ?_
    · go_simp
    refine (refSame_any (plainC c) (plainC c) w21 _ _ HT21.out (HF.out _ HC21.out).2).mono ?_
    rintro e w22 ⟨rfl, hb⟩
    have HC22 : Hid (Below w7.heap.size w7 w22) := HC21.out.trans (hb.mono HC21.out.size)
    rw [HSF.out]
    refine ⟨_, rfl, HC22.out, fun _ => trivial, ?_⟩
    clear hb
    simp only [Act.put, List.setIfInBounds_toArray, List.set_cons_zero, List.set_cons_succ]
    refine Mx.q_pure (.bool false) (by decide) (Mx.wanted_none rfl) (fun w' hw' _ => ?_) ?_
    · go_simp
    simp only [Act.put, List.setIfInBounds_toArray, List.set_cons_zero, List.set_cons_succ]
    refine Mx.q_pure (.bool false) (by decide) (Mx.wanted_none rfl) (fun w' hw' _ => ?_) ?_
    · go_simp
    simp only [Act.put, List.setIfInBounds_toArray, List.set_cons_zero, List.set_cons_succ]
    refine Mx.q_pure (.int .i64 0) (by decide) (Mx.wanted_met 7 79 false rfl HD7.out rfl) (fun w' hw' _ => ?_) ?_
    · go_simp
    simp only [Act.put, List.setIfInBounds_toArray, List.set_cons_zero, List.set_cons_succ]
    refine Mx.q_pure (.bool false) (by decide) (Mx.wanted_met 7 79 false rfl HD7.out rfl) (fun w' hw' _ => ?_) ?_
    · go_simp
    simp only [Act.put, List.setIfInBounds_toArray, List.set_cons_zero, List.set_cons_succ]
    refine Mx.q_pure (.bool false) (by decide) (Mx.wanted_met 7 79 false rfl HD7.out rfl) (fun w' hw' _ => ?_) ?_
    · go_simp
    simp only [Act.put, List.setIfInBounds_toArray, List.set_cons_zero, List.set_cons_succ]
    refine Mx.q_skip (by decide) (Mx.unwanted_met 10 82 true false rfl HD10.out rfl rfl) ?_
    simp only [Act.put, List.setIfInBounds_toArray, List.set_cons_zero, List.set_cons_succ]
    refine Mx.q_skip (by decide) (Mx.unwanted_met 10 82 true false rfl HD10.out rfl rfl) ?_
    simp only [Act.put, List.setIfInBounds_toArray, List.set_cons_zero, List.set_cons_succ]
    refine Mx.q_pure (.bool false) (by decide) (Mx.wanted_met 7 79 false rfl HD7.out rfl) (fun w' hw' _ => ?_) ?_
    · go_simp
    simp only [Act.put, List.setIfInBounds_toArray, List.set_cons_zero, List.set_cons_succ]
    refine Mx.q_pure (.bool false) (by decide) (Mx.wanted_none rfl) (fun w' hw' _ => ?_) ?_
    · go_simp
    simp only [Act.put, List.setIfInBounds_toArray, List.set_cons_zero, List.set_cons_succ]
    refine Mx.q_nil ?_
    intro hwz _
    go_wp2_with fail
    have HF2 : Hid (∀ w', Below w22.heap.size w22 w' → (w'.cell? ⟨ob, 0, none⟩ = some (.int .i64 (plain o).kind) ∧ w'.cell? ⟨ob, 1, none⟩ = some (.string (plain o).s) ∧ w'.cell? ⟨ob, 2, none⟩ = some (.int .i64 (plain o).n) ∧ w'.cell? ⟨ob, 3, none⟩ = some (.slice oa (plain o).k.length oc)) ∧ TIn w' 0 (plain o) (.agg #[.int .i64 (plain o).kind, .string (plain o).s, .int .i64 (plain o).n, .slice oa (plain o).k.length oc])) := fun w' hw' => HF7.out w' (HC22.out.trans (hw'.mono HC22.out.size))
    rcases HOW.out with ⟨ho1, ho2⟩ | ⟨ho1, ho2⟩
    · have HSO : Hid (sameTr (plain o) (plain o) = true) := by unfold Hid; rw [plain_same]; exact formB_self o (chk_to_form ho2)
      subst ho1
      clear ho2 HOW
      refine Mx.wp_region_mix3 (fun w' => Below w22.heap.size w22 w') (fun _ => True) 3 [(0, false), (1, false), (2, false), (4, false), (3, true), (5, true), (6, false), (7, false), (8, false), (9, false), (10, false), (11, false), (12, false), (13, false), (14, false), (15, false), (16, true), (17, false), (18, false)] (by kernel_rfl) (by kernel_rfl) (below_drew (Below.refl _ _)) ?_ (by kernel_rfl)
      simp only [List.map_cons, List.map_nil, List.getD_cons_zero, List.getD_cons_succ]
      generalize hops : (#[_, _, _, _, _, _, _, _, _, _, _, _, _, _, _, _, _, _, _] : Array Oper) = ops
      have HD7 : Hid ((ops[7]?).bind (·.dst) = some 94) := by rw [← hops]; exact rfl
      have HD10 : Hid ((ops[10]?).bind (·.dst) = some 97) := by rw [← hops]; exact rfl
      have HD15 : Hid ((ops[15]?).bind (·.dst) = some 102) := by rw [← hops]; exact rfl
      clear hops
      refine Mx.q_pure (.int .i64 0) (by decide) (Mx.wanted_none rfl) (fun w' hw' _ => ?_) ?_
      · go_simp
      simp only [Act.put, List.setIfInBounds_toArray, List.set_cons_zero, List.set_cons_succ]
      refine Mx.q_pure (.bool true) (by decide) (Mx.wanted_none rfl) (fun w' hw' _ => ?_) ?_
      · go_simp
      simp only [Act.put, List.setIfInBounds_toArray, List.set_cons_zero, List.set_cons_succ]
      refine Mx.q_pure (o.val) (by decide) (Mx.wanted_none rfl) (fun w' hw' _ => ?_) ?_
      · go_simp
      simp only [Act.put, List.setIfInBounds_toArray, List.set_cons_zero, List.set_cons_succ]
      refine Mx.q_pure (.agg #[.int .i64 (plain o).kind, .string (plain o).s, .int .i64 (plain o).n, .slice oa (plain o).k.length oc]) (by decide) (Mx.wanted_none rfl) (fun w' hw' _ => ?_) ?_
      · obtain ⟨⟨c0, c1, c2, c3⟩, _⟩ := HF2.out w' hw'
        go_simp
      simp only [Act.put, List.setIfInBounds_toArray, List.set_cons_zero, List.set_cons_succ]
      refine Mx.q_call 10 #[o.val] (Mx.wanted_none rfl) ?_ ?_
      · go_simp
      refine (HPO.out _).mono ?_
      rintro e w31 ⟨ka, kc, rfl, ht, hb⟩
      have HC31 : Hid (Below w22.heap.size w22 w31) := (below_drew (Below.refl _ _)).trans (hb.mono (by simp))
      have HT31 := hidX (ht.low (Nat.zero_le _))
      refine ⟨_, rfl, HC31.out, fun _ => trivial, ?_⟩
      clear ht hb
      simp only [Act.put, List.setIfInBounds_toArray, List.set_cons_zero, List.set_cons_succ]
      refine Mx.q_call 8 #[.agg #[.int .i64 (plain o).kind, .string (plain o).s, .int .i64 (plain o).n, .slice ka (plain o).k.length kc], .agg #[.int .i64 (plain o).kind, .string (plain o).s, .int .i64 (plain o).n, .slice oa (plain o).k.length oc]] (Mx.wanted_none rfl) ?_ ?_
      · go_simp
      refine (refSame_any (plain o) (plain o) w31 _ _ HT31.out (HF2.out _ HC31.out).2).mono ?_
      rintro e w32 ⟨rfl, hb⟩
      have HC32 : Hid (Below w22.heap.size w22 w32) := HC31.out.trans (hb.mono HC31.out.size)
      rw [HSO.out]
      refine ⟨_, rfl, HC32.out, fun _ => trivial, ?_⟩
      clear hb
      simp only [Act.put, List.setIfInBounds_toArray, List.set_cons_zero, List.set_cons_succ]
      refine Mx.q_pure (.bool true) (by decide) (Mx.wanted_none rfl) (fun w' hw' _ => ?_) ?_
      · go_simp
      simp only [Act.put, List.setIfInBounds_toArray, List.set_cons_zero, List.set_cons_succ]
      refine Mx.q_pure (.bool true) (by decide) (Mx.wanted_none rfl) (fun w' hw' _ => ?_) ?_
      · go_simp
      simp only [Act.put, List.setIfInBounds_toArray, List.set_cons_zero, List.set_cons_succ]
      refine Mx.q_pure (.int .i64 0) (by decide) (Mx.wanted_met 7 94 true rfl HD7.out rfl) (fun w' hw' _ => ?_) ?_
      · go_simp
      simp only [Act.put, List.setIfInBounds_toArray, List.set_cons_zero, List.set_cons_succ]
      refine Mx.q_pure (.bool true) (by decide) (Mx.wanted_met 7 94 true rfl HD7.out rfl) (fun w' hw' _ => ?_) ?_
      · go_simp
      simp only [Act.put, List.setIfInBounds_toArray, List.set_cons_zero, List.set_cons_succ]
      refine Mx.q_pure (.bool true) (by decide) (Mx.wanted_met 7 94 true rfl HD7.out rfl) (fun w' hw' _ => ?_) ?_
      · go_simp
      simp only [Act.put, List.setIfInBounds_toArray, List.set_cons_zero, List.set_cons_succ]
      refine Mx.q_skip (by decide) (Mx.unwanted_met 10 97 false true rfl HD10.out rfl rfl) ?_
      simp only [Act.put, List.setIfInBounds_toArray, List.set_cons_zero, List.set_cons_succ]
      refine Mx.q_skip (by decide) (Mx.unwanted_met 10 97 false true rfl HD10.out rfl rfl) ?_
      simp only [Act.put, List.setIfInBounds_toArray, List.set_cons_zero, List.set_cons_succ]
      refine Mx.q_pure (.bool true) (by decide) (Mx.wanted_met 7 94 true rfl HD7.out rfl) (fun w' hw' _ => ?_) ?_
      · go_simp
      simp only [Act.put, List.setIfInBounds_toArray, List.set_cons_zero, List.set_cons_succ]
      refine Mx.q_pure (.bool true) (by decide) (Mx.wanted_none rfl) (fun w' hw' _ => ?_) ?_
      · go_simp
      simp only [Act.put, List.setIfInBounds_toArray, List.set_cons_zero, List.set_cons_succ]
      refine Mx.q_pure (.bool true) (by decide) (Mx.wanted_none rfl) (fun w' hw' _ => ?_) ?_
      · go_simp
      simp only [Act.put, List.setIfInBounds_toArray, List.set_cons_zero, List.set_cons_succ]
      refine Mx.q_call 11 #[] (Mx.wanted_met 15 102 true rfl HD15.out rfl) ?_ ?_
      · go_simp
      refine (wakes7_any w32).mono ?_
      rintro e w33 ⟨rfl, hb⟩
      have HC33 : Hid (Below w22.heap.size w22 w33) := HC32.out.trans (hb.mono HC32.out.size)
      refine ⟨_, rfl, HC33.out, fun _ => trivial, ?_⟩
      clear hb
      simp only [Act.put, List.setIfInBounds_toArray, List.set_cons_zero, List.set_cons_succ]
      refine Mx.q_pure (.bool true) (by decide) (Mx.wanted_none rfl) (fun w' hw' _ => ?_) ?_
      · go_simp
      simp only [Act.put, List.setIfInBounds_toArray, List.set_cons_zero, List.set_cons_succ]
      refine Mx.q_pure (.bool true) (by decide) (Mx.wanted_none rfl) (fun w' hw' _ => ?_) ?_
      · go_simp
      simp only [Act.put, List.setIfInBounds_toArray, List.set_cons_zero, List.set_cons_succ]
      refine Mx.q_nil ?_
      intro hwz _
      go_wp2_with fail
      go_ret
      exact ⟨rfl, HB7.out.trans ((HC22.out.trans (HC33.out.mono HC22.out.size)).mono HB7.out.size)⟩
    · have HSO : Hid (sameTr (plain o) (plain o) = false) := by unfold Hid; rw [ho2]; exact odd_selfO
      have hoe0 : (oe == 0) = false := by rw [beq_eq_false_iff_ne]; exact ho1
      have hoe1 : (oe != 0) = true := by rw [bne_iff_ne]; exact ho1
      have hov : o.val = .nilIface := by rw [ho2]; rfl
      have hpo := HPO.out
      rw [hov]
      unfold MakesO at hpo
      rw [hov] at hpo
      have HPO := hidX hpo
      clear ho1 ho2 HOW hov hpo
      refine Mx.wp_region_mix3 (fun w' => Below w22.heap.size w22 w') (fun _ => True) 3 [(0, false), (1, false), (2, false), (4, false), (3, true), (5, true), (6, false), (7, false), (8, false), (9, false), (10, false), (11, false), (12, false), (13, false), (14, false), (15, false), (16, true), (17, false), (18, false)] (by kernel_rfl) (by kernel_rfl) (below_drew (Below.refl _ _)) ?_ (by kernel_rfl)
      simp only [List.map_cons, List.map_nil, List.getD_cons_zero, List.getD_cons_succ]
      generalize hops : (#[_, _, _, _, _, _, _, _, _, _, _, _, _, _, _, _, _, _, _] : Array Oper) = ops
      have HD7 : Hid ((ops[7]?).bind (·.dst) = some 94) := by rw [← hops]; exact rfl
      have HD10 : Hid ((ops[10]?).bind (·.dst) = some 97) := by rw [← hops]; exact rfl
      have HD15 : Hid ((ops[15]?).bind (·.dst) = some 102) := by rw [← hops]; exact rfl
      clear hops
      refine Mx.q_pure (.int .i64 oe) (by decide) (Mx.wanted_none rfl) (fun w' hw' _ => ?_) ?_
      · go_simp
      simp only [Act.put, List.setIfInBounds_toArray, List.set_cons_zero, List.set_cons_succ]
      refine Mx.q_pure (.bool false) (by decide) (Mx.wanted_none rfl) (fun w' hw' _ => ?_) ?_
      · go_simp
      simp only [Act.put, List.setIfInBounds_toArray, List.set_cons_zero, List.set_cons_succ]
      refine Mx.q_pure (.nilIface) (by decide) (Mx.wanted_none rfl) (fun w' hw' _ => ?_) ?_
      · go_simp
      simp only [Act.put, List.setIfInBounds_toArray, List.set_cons_zero, List.set_cons_succ]
      refine Mx.q_pure (.agg #[.int .i64 (plain o).kind, .string (plain o).s, .int .i64 (plain o).n, .slice oa (plain o).k.length oc]) (by decide) (Mx.wanted_none rfl) (fun w' hw' _ => ?_) ?_
      · obtain ⟨⟨c0, c1, c2, c3⟩, _⟩ := HF2.out w' hw'
        go_simp
      simp only [Act.put, List.setIfInBounds_toArray, List.set_cons_zero, List.set_cons_succ]
      refine Mx.q_call 10 #[.nilIface] (Mx.wanted_none rfl) ?_ ?_
      · go_simp
      refine (HPO.out _).mono ?_
      rintro e w31 ⟨ka, kc, rfl, ht, hb⟩
      have HC31 : Hid (Below w22.heap.size w22 w31) := (below_drew (Below.refl _ _)).trans (hb.mono (by simp))
      have HT31 := hidX (ht.low (Nat.zero_le _))
      refine ⟨_, rfl, HC31.out, fun _ => trivial, ?_⟩
      clear ht hb
      simp only [Act.put, List.setIfInBounds_toArray, List.set_cons_zero, List.set_cons_succ]
      refine Mx.q_call 8 #[.agg #[.int .i64 (plain o).kind, .string (plain o).s, .int .i64 (plain o).n, .slice ka (plain o).k.length kc], .agg #[.int .i64 (plain o).kind, .string (plain o).s, .int .i64 (plain o).n, .slice oa (plain o).k.length oc]] (Mx.wanted_none rfl) ?_ ?_
      · go_simp
      refine (refSame_any (plain o) (plain o) w31 _ _ HT31.out (HF2.out _ HC31.out).2).mono ?_
      rintro e w32 ⟨rfl, hb⟩
      have HC32 : Hid (Below w22.heap.size w22 w32) := HC31.out.trans (hb.mono HC31.out.size)
      rw [HSO.out]
      refine ⟨_, rfl, HC32.out, fun _ => trivial, ?_⟩
      clear hb
      simp only [Act.put, List.setIfInBounds_toArray, List.set_cons_zero, List.set_cons_succ]
      refine Mx.q_pure (.bool true) (by decide) (Mx.wanted_none rfl) (fun w' hw' _ => ?_) ?_
      · go_simp
      simp only [Act.put, List.setIfInBounds_toArray, List.set_cons_zero, List.set_cons_succ]
      refine Mx.q_pure (.bool true) (by decide) (Mx.wanted_none rfl) (fun w' hw' _ => ?_) ?_
      · go_simp
      simp only [Act.put, List.setIfInBounds_toArray, List.set_cons_zero, List.set_cons_succ]
      refine Mx.q_pure (.int .i64 oe) (by decide) (Mx.wanted_met 7 94 true rfl HD7.out rfl) (fun w' hw' _ => ?_) ?_
      · go_simp
      simp only [Act.put, List.setIfInBounds_toArray, List.set_cons_zero, List.set_cons_succ]
      refine Mx.q_pure (.bool false) (by decide) (Mx.wanted_met 7 94 true rfl HD7.out rfl) (fun w' hw' _ => ?_) ?_
      · go_simp
      simp only [Act.put, List.setIfInBounds_toArray, List.set_cons_zero, List.set_cons_succ]
      refine Mx.q_pure (.bool false) (by decide) (Mx.wanted_met 7 94 true rfl HD7.out rfl) (fun w' hw' _ => ?_) ?_
      · go_simp
      simp only [Act.put, List.setIfInBounds_toArray, List.set_cons_zero, List.set_cons_succ]
      refine Mx.q_pure (.nilIface) (by decide) (Mx.wanted_met 10 97 false rfl HD10.out rfl) (fun w' hw' _ => ?_) ?_
      · go_simp
      simp only [Act.put, List.setIfInBounds_toArray, List.set_cons_zero, List.set_cons_succ]
      refine Mx.q_pure (.bool true) (by decide) (Mx.wanted_met 10 97 false rfl HD10.out rfl) (fun w' hw' _ => ?_) ?_
      · go_simp
      simp only [Act.put, List.setIfInBounds_toArray, List.set_cons_zero, List.set_cons_succ]
      refine Mx.q_pure (.bool true) (by decide) (Mx.wanted_met 7 94 true rfl HD7.out rfl) (fun w' hw' _ => ?_) ?_
      · go_simp
      simp only [Act.put, List.setIfInBounds_toArray, List.set_cons_zero, List.set_cons_succ]
      refine Mx.q_pure (.bool true) (by decide) (Mx.wanted_none rfl) (fun w' hw' _ => ?_) ?_
      · go_simp
      simp only [Act.put, List.setIfInBounds_toArray, List.set_cons_zero, List.set_cons_succ]
      refine Mx.q_pure (.bool true) (by decide) (Mx.wanted_none rfl) (fun w' hw' _ => ?_) ?_
      · go_simp
      simp only [Act.put, List.setIfInBounds_toArray, List.set_cons_zero, List.set_cons_succ]
      refine Mx.q_call 11 #[] (Mx.wanted_met 15 102 true rfl HD15.out rfl) ?_ ?_
      · go_simp
      refine (wakes7_any w32).mono ?_
      rintro e w33 ⟨rfl, hb⟩
      have HC33 : Hid (Below w22.heap.size w22 w33) := HC32.out.trans (hb.mono HC32.out.size)
      refine ⟨_, rfl, HC33.out, fun _ => trivial, ?_⟩
      clear hb
      simp only [Act.put, List.setIfInBounds_toArray, List.set_cons_zero, List.set_cons_succ]
      refine Mx.q_pure (.bool true) (by decide) (Mx.wanted_none rfl) (fun w' hw' _ => ?_) ?_
      · go_simp
      simp only [Act.put, List.setIfInBounds_toArray, List.set_cons_zero, List.set_cons_succ]
      refine Mx.q_pure (.bool true) (by decide) (Mx.wanted_none rfl) (fun w' hw' _ => ?_) ?_
      · go_simp
      simp only [Act.put, List.setIfInBounds_toArray, List.set_cons_zero, List.set_cons_succ]
      refine Mx.q_nil ?_
      intro hwz _
      go_wp2_with fail
      go_ret
      exact ⟨rfl, HB7.out.trans ((HC22.out.trans (HC33.out.mono HC22.out.size)).mono HB7.out.size)⟩
  · have HSF : Hid (sameTr (plainC c) (plainC c) = false) := by unfold Hid; rw [hc2]; exact odd_selfC
    have hte0 : (te == 0) = false := by rw [beq_eq_false_iff_ne]; exact hc1
    have hte1 : (te != 0) = true := by rw [bne_iff_ne]; exact hc1
    have hcv : c.val = .nilIface := by rw [hc2]; rfl
    have hpl := HPL.out
    unfold MakesC at hpl
    rw [hcv] at hpl
    rw [hcv]
    have HPL := hidX hpl
    clear hc1 hc2 HTW hcv hpl
    go_wp2_with fail
    refine Mx.wp_region_mix3 (fun w' => Below w7.heap.size w7 w') (fun _ => True) 3 [(0, false), (1, false), (2, false), (4, false), (3, true), (5, true), (6, false), (7, false), (8, false), (9, false), (10, false), (11, false), (12, false), (13, false), (14, false)] (by kernel_rfl) (by kernel_rfl) (below_drew (Below.refl _ _)) ?_ (by kernel_rfl)
    simp only [List.map_cons, List.map_nil, List.getD_cons_zero, List.getD_cons_succ]
    generalize hops : (#[_, _, _, _, _, _, _, _, _, _, _, _, _, _, _] : Array Oper) = ops
    have HD7 : Hid ((ops[7]?).bind (·.dst) = some 79) := by rw [← hops]; exact rfl
    have HD10 : Hid ((ops[10]?).bind (·.dst) = some 82) := by rw [← hops]; exact rfl
    clear hops
    refine Mx.q_pure (.int .i64 te) (by decide) (Mx.wanted_none rfl) (fun w' hw' _ => ?_) ?_
    · go_simp
    simp only [Act.put, List.setIfInBounds_toArray, List.set_cons_zero, List.set_cons_succ]
    refine Mx.q_pure (.bool false) (by decide) (Mx.wanted_none rfl) (fun w' hw' _ => ?_) ?_
    · go_simp
    simp only [Act.put, List.setIfInBounds_toArray, List.set_cons_zero, List.set_cons_succ]
    refine Mx.q_pure (.nilIface) (by decide) (Mx.wanted_none rfl) (fun w' hw' _ => ?_) ?_
    · go_simp
    simp only [Act.put, List.setIfInBounds_toArray, List.set_cons_zero, List.set_cons_succ]
    refine Mx.q_pure (.agg #[.int .i64 (plainC c).kind, .string (plainC c).s, .int .i64 (plainC c).n, .slice ta (plainC c).k.length tc]) (by decide) (Mx.wanted_none rfl) (fun w' hw' _ => ?_) ?_
    · obtain ⟨⟨c0, c1, c2, c3⟩, _⟩ := HF.out w' hw'
      go_simp
    simp only [Act.put, List.setIfInBounds_toArray, List.set_cons_zero, List.set_cons_succ]
    refine Mx.q_call 9 #[.nilIface] (Mx.wanted_none rfl) ?_ ?_
    · go_simp
    refine (HPL.out _).mono ?_
    rintro e w21 ⟨ka, kc, rfl, ht, hb⟩
    have HC21 : Hid (Below w7.heap.size w7 w21) := (below_drew (Below.refl _ _)).trans (hb.mono (by simp))
    have HT21 := hidX (ht.low (Nat.zero_le _))
    refine ⟨_, rfl, HC21.out, fun _ => trivial, ?_⟩
    clear ht hb
    simp only [Act.put, List.setIfInBounds_toArray, List.set_cons_zero, List.set_cons_succ]
    refine Mx.q_call 8 #[.agg #[.int .i64 (plainC c).kind, .string (plainC c).s, .int .i64 (plainC c).n, .slice ka (plainC c).k.length kc], .agg #[.int .i64 (plainC c).kind, .string (plainC c).s, .int .i64 (plainC c).n, .slice ta (plainC c).k.length tc]] (Mx.wanted_none rfl) ?_ ?_
    · go_simp
    refine (refSame_any (plainC c) (plainC c) w21 _ _ HT21.out (HF.out _ HC21.out).2).mono ?_
    rintro e w22 ⟨rfl, hb⟩
    have HC22 : Hid (Below w7.heap.size w7 w22) := HC21.out.trans (hb.mono HC21.out.size)
    rw [HSF.out]
    refine ⟨_, rfl, HC22.out, fun _ => trivial, ?_⟩
    clear hb
    simp only [Act.put, List.setIfInBounds_toArray, List.set_cons_zero, List.set_cons_succ]
    refine Mx.q_pure (.bool false) (by decide) (Mx.wanted_none rfl) (fun w' hw' _ => ?_) ?_
    · go_simp
    simp only [Act.put, List.setIfInBounds_toArray, List.set_cons_zero, List.set_cons_succ]
    refine Mx.q_pure (.bool false) (by decide) (Mx.wanted_none rfl) (fun w' hw' _ => ?_) ?_
    · go_simp
    simp only [Act.put, List.setIfInBounds_toArray, List.set_cons_zero, List.set_cons_succ]
    refine Mx.q_pure (.int .i64 te) (by decide) (Mx.wanted_met 7 79 false rfl HD7.out rfl) (fun w' hw' _ => ?_) ?_
    · go_simp
    simp only [Act.put, List.setIfInBounds_toArray, List.set_cons_zero, List.set_cons_succ]
    refine Mx.q_pure (.bool true) (by decide) (Mx.wanted_met 7 79 false rfl HD7.out rfl) (fun w' hw' _ => ?_) ?_
    · go_simp
    simp only [Act.put, List.setIfInBounds_toArray, List.set_cons_zero, List.set_cons_succ]
    refine Mx.q_pure (.bool true) (by decide) (Mx.wanted_met 7 79 false rfl HD7.out rfl) (fun w' hw' _ => ?_) ?_
    · go_simp
    simp only [Act.put, List.setIfInBounds_toArray, List.set_cons_zero, List.set_cons_succ]
    refine Mx.q_pure (.nilIface) (by decide) (Mx.wanted_met 10 82 true rfl HD10.out rfl) (fun w' hw' _ => ?_) ?_
    · go_simp
    simp only [Act.put, List.setIfInBounds_toArray, List.set_cons_zero, List.set_cons_succ]
    refine Mx.q_pure (.bool false) (by decide) (Mx.wanted_met 10 82 true rfl HD10.out rfl) (fun w' hw' _ => ?_) ?_
    · go_simp
    simp only [Act.put, List.setIfInBounds_toArray, List.set_cons_zero, List.set_cons_succ]
    refine Mx.q_pure (.bool false) (by decide) (Mx.wanted_met 7 79 false rfl HD7.out rfl) (fun w' hw' _ => ?_) ?_
    · go_simp
    simp only [Act.put, List.setIfInBounds_toArray, List.set_cons_zero, List.set_cons_succ]
    refine Mx.q_pure (.bool false) (by decide) (Mx.wanted_none rfl) (fun w' hw' _ => ?_) ?_
    · go_simp
    simp only [Act.put, List.setIfInBounds_toArray, List.set_cons_zero, List.set_cons_succ]
    refine Mx.q_nil ?_
    intro hwz _
    go_wp2_with fail
    have HF2 : Hid (∀ w', Below w22.heap.size w22 w' → (w'.cell? ⟨ob, 0, none⟩ = some (.int .i64 (plain o).kind) ∧ w'.cell? ⟨ob, 1, none⟩ = some (.string (plain o).s) ∧ w'.cell? ⟨ob, 2, none⟩ = some (.int .i64 (plain o).n) ∧ w'.cell? ⟨ob, 3, none⟩ = some (.slice oa (plain o).k.length oc)) ∧ TIn w' 0 (plain o) (.agg #[.int .i64 (plain o).kind, .string (plain o).s, .int .i64 (plain o).n, .slice oa (plain o).k.length oc])) := fun w' hw' => HF7.out w' (HC22.out.trans (hw'.mono HC22.out.size))
    rcases HOW.out with ⟨ho1, ho2⟩ | ⟨ho1, ho2⟩
    · have HSO : Hid (sameTr (plain o) (plain o) = true) := by unfold Hid; rw [plain_same]; exact formB_self o (chk_to_form ho2)
      subst ho1
      clear ho2 HOW
      refine Mx.wp_region_mix3 (fun w' => Below w22.heap.size w22 w') (fun _ => True) 3 [(0, false), (1, false), (2, false), (4, false), (3, true), (5, true), (6, false), (7, false), (8, false), (9, false), (10, false), (11, false), (12, false), (13, false), (14, false), (15, false), (16, true), (17, false), (18, false)] (by kernel_rfl) (by kernel_rfl) (below_drew (Below.refl _ _)) ?_ (by kernel_rfl)
      simp only [List.map_cons, List.map_nil, List.getD_cons_zero, List.getD_cons_succ]
      generalize hops : (#[_, _, _, _, _, _, _, _, _, _, _, _, _, _, _, _, _, _, _] : Array Oper) = ops
      have HD7 : Hid ((ops[7]?).bind (·.dst) = some 94) := by rw [← hops]; exact rfl
      have HD10 : Hid ((ops[10]?).bind (·.dst) = some 97) := by rw [← hops]; exact rfl
      have HD15 : Hid ((ops[15]?).bind (·.dst) = some 102) := by rw [← hops]; exact rfl
      clear hops
      refine Mx.q_pure (.int .i64 0) (by decide) (Mx.wanted_none rfl) (fun w' hw' _ => ?_) ?_
      · go_simp
      simp only [Act.put, List.setIfInBounds_toArray, List.set_cons_zero, List.set_cons_succ]
      refine Mx.q_pure (.bool true) (by decide) (Mx.wanted_none rfl) (fun w' hw' _ => ?_) ?_
      · go_simp
      simp only [Act.put, List.setIfInBounds_toArray, List.set_cons_zero, List.set_cons_succ]
      refine Mx.q_pure (o.val) (by decide) (Mx.wanted_none rfl) (fun w' hw' _ => ?_) ?_
      · go_simp
      simp only [Act.put, List.setIfInBounds_toArray, List.set_cons_zero, List.set_cons_succ]
      refine Mx.q_pure (.agg #[.int .i64 (plain o).kind, .string (plain o).s, .int .i64 (plain o).n, .slice oa (plain o).k.length oc]) (by decide) (Mx.wanted_none rfl) (fun w' hw' _ => ?_) ?_
      · obtain ⟨⟨c0, c1, c2, c3⟩, _⟩ := HF2.out w' hw'
        go_simp
      simp only [Act.put, List.setIfInBounds_toArray, List.set_cons_zero, List.set_cons_succ]
      refine Mx.q_call 10 #[o.val] (Mx.wanted_none rfl) ?_ ?_
      · go_simp
      refine (HPO.out _).mono ?_
      rintro e w31 ⟨ka, kc, rfl, ht, hb⟩
      have HC31 : Hid (Below w22.heap.size w22 w31) := (below_drew (Below.refl _ _)).trans (hb.mono (by simp))
      have HT31 := hidX (ht.low (Nat.zero_le _))
      refine ⟨_, rfl, HC31.out, fun _ => trivial, ?_⟩
      clear ht hb
      simp only [Act.put, List.setIfInBounds_toArray, List.set_cons_zero, List.set_cons_succ]
      refine Mx.q_call 8 #[.agg #[.int .i64 (plain o).kind, .string (plain o).s, .int .i64 (plain o).n, .slice ka (plain o).k.length kc], .agg #[.int .i64 (plain o).kind, .string (plain o).s, .int .i64 (plain o).n, .slice oa (plain o).k.length oc]] (Mx.wanted_none rfl) ?_ ?_
      · go_simp
      refine (refSame_any (plain o) (plain o) w31 _ _ HT31.out (HF2.out _ HC31.out).2).mono ?_
      rintro e w32 ⟨rfl, hb⟩
      have HC32 : Hid (Below w22.heap.size w22 w32) := HC31.out.trans (hb.mono HC31.out.size)
      rw [HSO.out]
      refine ⟨_, rfl, HC32.out, fun _ => trivial, ?_⟩
      clear hb
      simp only [Act.put, List.setIfInBounds_toArray, List.set_cons_zero, List.set_cons_succ]
      refine Mx.q_pure (.bool true) (by decide) (Mx.wanted_none rfl) (fun w' hw' _ => ?_) ?_
      · go_simp
      simp only [Act.put, List.setIfInBounds_toArray, List.set_cons_zero, List.set_cons_succ]
      refine Mx.q_pure (.bool true) (by decide) (Mx.wanted_none rfl) (fun w' hw' _ => ?_) ?_
      · go_simp
      simp only [Act.put, List.setIfInBounds_toArray, List.set_cons_zero, List.set_cons_succ]
      refine Mx.q_pure (.int .i64 0) (by decide) (Mx.wanted_met 7 94 true rfl HD7.out rfl) (fun w' hw' _ => ?_) ?_
      · go_simp
      simp only [Act.put, List.setIfInBounds_toArray, List.set_cons_zero, List.set_cons_succ]
      refine Mx.q_pure (.bool true) (by decide) (Mx.wanted_met 7 94 true rfl HD7.out rfl) (fun w' hw' _ => ?_) ?_
      · go_simp
      simp only [Act.put, List.setIfInBounds_toArray, List.set_cons_zero, List.set_cons_succ]
      refine Mx.q_pure (.bool true) (by decide) (Mx.wanted_met 7 94 true rfl HD7.out rfl) (fun w' hw' _ => ?_) ?_
      · go_simp
      simp only [Act.put, List.setIfInBounds_toArray, List.set_cons_zero, List.set_cons_succ]
      refine Mx.q_skip (by decide) (Mx.unwanted_met 10 97 false true rfl HD10.out rfl rfl) ?_
      simp only [Act.put, List.setIfInBounds_toArray, List.set_cons_zero, List.set_cons_succ]
      refine Mx.q_skip (by decide) (Mx.unwanted_met 10 97 false true rfl HD10.out rfl rfl) ?_
      simp only [Act.put, List.setIfInBounds_toArray, List.set_cons_zero, List.set_cons_succ]
      refine Mx.q_pure (.bool true) (by decide) (Mx.wanted_met 7 94 true rfl HD7.out rfl) (fun w' hw' _ => ?_) ?_
      · go_simp
      simp only [Act.put, List.setIfInBounds_toArray, List.set_cons_zero, List.set_cons_succ]
      refine Mx.q_pure (.bool true) (by decide) (Mx.wanted_none rfl) (fun w' hw' _ => ?_) ?_
      · go_simp
      simp only [Act.put, List.setIfInBounds_toArray, List.set_cons_zero, List.set_cons_succ]
      refine Mx.q_pure (.bool true) (by decide) (Mx.wanted_none rfl) (fun w' hw' _ => ?_) ?_
      · go_simp
      simp only [Act.put, List.setIfInBounds_toArray, List.set_cons_zero, List.set_cons_succ]
      refine Mx.q_call 11 #[] (Mx.wanted_met 15 102 true rfl HD15.out rfl) ?_ ?_
      · go_simp
      refine (wakes7_any w32).mono ?_
      rintro e w33 ⟨rfl, hb⟩
      have HC33 : Hid (Below w22.heap.size w22 w33) := HC32.out.trans (hb.mono HC32.out.size)
      refine ⟨_, rfl, HC33.out, fun _ => trivial, ?_⟩
      clear hb
      simp only [Act.put, List.setIfInBounds_toArray, List.set_cons_zero, List.set_cons_succ]
      refine Mx.q_pure (.bool true) (by decide) (Mx.wanted_none rfl) (fun w' hw' _ => ?_) ?_
      · go_simp
      simp only [Act.put, List.setIfInBounds_toArray, List.set_cons_zero, List.set_cons_succ]
      refine Mx.q_pure (.bool true) (by decide) (Mx.wanted_none rfl) (fun w' hw' _ => ?_) ?_
      · go_simp
      simp only [Act.put, List.setIfInBounds_toArray, List.set_cons_zero, List.set_cons_succ]
      refine Mx.q_nil ?_
      intro hwz _
      go_wp2_with fail
      go_ret
      exact ⟨rfl, HB7.out.trans ((HC22.out.trans (HC33.out.mono HC22.out.size)).mono HB7.out.size)⟩
    · have HSO : Hid (sameTr (plain o) (plain o) = false) := by unfold Hid; rw [ho2]; exact odd_selfO
      have hoe0 : (oe == 0) = false := by rw [beq_eq_false_iff_ne]; exact ho1
      have hoe1 : (oe != 0) = true := by rw [bne_iff_ne]; exact ho1
      have hov : o.val = .nilIface := by rw [ho2]; rfl
      have hpo := HPO.out
      rw [hov]
      unfold MakesO at hpo
      rw [hov] at hpo
      have HPO := hidX hpo
      clear ho1 ho2 HOW hov hpo
      refine Mx.wp_region_mix3 (fun w' => Below w22.heap.size w22 w') (fun _ => True) 3 [(0, false), (1, false), (2, false), (4, false), (3, true), (5, true), (6, false), (7, false), (8, false), (9, false), (10, false), (11, false), (12, false), (13, false), (14, false), (15, false), (16, true), (17, false), (18, false)] (by kernel_rfl) (by kernel_rfl) (below_drew (Below.refl _ _)) ?_ (by kernel_rfl)
      simp only [List.map_cons, List.map_nil, List.getD_cons_zero, List.getD_cons_succ]
      generalize hops : (#[_, _, _, _, _, _, _, _, _, _, _, _, _, _, _, _, _, _, _] : Array Oper) = ops
      have HD7 : Hid ((ops[7]?).bind (·.dst) = some 94) := by rw [← hops]; exact rfl
      have HD10 : Hid ((ops[10]?).bind (·.dst) = some 97) := by rw [← hops]; exact rfl
      have HD15 : Hid ((ops[15]?).bind (·.dst) = some 102) := by rw [← hops]; exact rfl
      clear hops
      refine Mx.q_pure (.int .i64 oe) (by decide) (Mx.wanted_none rfl) (fun w' hw' _ => ?_) ?_
      · go_simp
      simp only [Act.put, List.setIfInBounds_toArray, List.set_cons_zero, List.set_cons_succ]
      refine Mx.q_pure (.bool false) (by decide) (Mx.wanted_none rfl) (fun w' hw' _ => ?_) ?_
      · go_simp
      simp only [Act.put, List.setIfInBounds_toArray, List.set_cons_zero, List.set_cons_succ]
      refine Mx.q_pure (.nilIface) (by decide) (Mx.wanted_none rfl) (fun w' hw' _ => ?_) ?_
      · go_simp
      simp only [Act.put, List.setIfInBounds_toArray, List.set_cons_zero, List.set_cons_succ]
      refine Mx.q_pure (.agg #[.int .i64 (plain o).kind, .string (plain o).s, .int .i64 (plain o).n, .slice oa (plain o).k.length oc]) (by decide) (Mx.wanted_none rfl) (fun w' hw' _ => ?_) ?_
      · obtain ⟨⟨c0, c1, c2, c3⟩, _⟩ := HF2.out w' hw'
        go_simp
      simp only [Act.put, List.setIfInBounds_toArray, List.set_cons_zero, List.set_cons_succ]
      refine Mx.q_call 10 #[.nilIface] (Mx.wanted_none rfl) ?_ ?_
      · go_simp
      refine (HPO.out _).mono ?_
      rintro e w31 ⟨ka, kc, rfl, ht, hb⟩
      have HC31 : Hid (Below w22.heap.size w22 w31) := (below_drew (Below.refl _ _)).trans (hb.mono (by simp))
      have HT31 := hidX (ht.low (Nat.zero_le _))
      refine ⟨_, rfl, HC31.out, fun _ => trivial, ?_⟩
      clear ht hb
      simp only [Act.put, List.setIfInBounds_toArray, List.set_cons_zero, List.set_cons_succ]
      refine Mx.q_call 8 #[.agg #[.int .i64 (plain o).kind, .string (plain o).s, .int .i64 (plain o).n, .slice ka (plain o).k.length kc], .agg #[.int .i64 (plain o).kind, .string (plain o).s, .int .i64 (plain o).n, .slice oa (plain o).k.length oc]] (Mx.wanted_none rfl) ?_ ?_
      · go_simp
      refine (refSame_any (plain o) (plain o) w31 _ _ HT31.out (HF2.out _ HC31.out).2).mono ?_
      rintro e w32 ⟨rfl, hb⟩
      have HC32 : Hid (Below w22.heap.size w22 w32) := HC31.out.trans (hb.mono HC31.out.size)
      rw [HSO.out]
      refine ⟨_, rfl, HC32.out, fun _ => trivial, ?_⟩
      clear hb
      simp only [Act.put, List.setIfInBounds_toArray, List.set_cons_zero, List.set_cons_succ]
      refine Mx.q_pure (.bool true) (by decide) (Mx.wanted_none rfl) (fun w' hw' _ => ?_) ?_
      · go_simp
      simp only [Act.put, List.setIfInBounds_toArray, List.set_cons_zero, List.set_cons_succ]
      refine Mx.q_pure (.bool true) (by decide) (Mx.wanted_none rfl) (fun w' hw' _ => ?_) ?_
      · go_simp
      simp only [Act.put, List.setIfInBounds_toArray, List.set_cons_zero, List.set_cons_succ]
      refine Mx.q_pure (.int .i64 oe) (by decide) (Mx.wanted_met 7 94 true rfl HD7.out rfl) (fun w' hw' _ => ?_) ?_
      · go_simp
      simp only [Act.put, List.setIfInBounds_toArray, List.set_cons_zero, List.set_cons_succ]
      refine Mx.q_pure (.bool false) (by decide) (Mx.wanted_met 7 94 true rfl HD7.out rfl) (fun w' hw' _ => ?_) ?_
      · go_simp
      simp only [Act.put, List.setIfInBounds_toArray, List.set_cons_zero, List.set_cons_succ]
      refine Mx.q_pure (.bool false) (by decide) (Mx.wanted_met 7 94 true rfl HD7.out rfl) (fun w' hw' _ => ?_) ?_
      · go_simp
      simp only [Act.put, List.setIfInBounds_toArray, List.set_cons_zero, List.set_cons_succ]
      refine Mx.q_pure (.nilIface) (by decide) (Mx.wanted_met 10 97 false rfl HD10.out rfl) (fun w' hw' _ => ?_) ?_
      · go_simp
      simp only [Act.put, List.setIfInBounds_toArray, List.set_cons_zero, List.set_cons_succ]
      refine Mx.q_pure (.bool true) (by decide) (Mx.wanted_met 10 97 false rfl HD10.out rfl) (fun w' hw' _ => ?_) ?_
      · go_simp
      simp only [Act.put, List.setIfInBounds_toArray, List.set_cons_zero, List.set_cons_succ]
      refine Mx.q_pure (.bool true) (by decide) (Mx.wanted_met 7 94 true rfl HD7.out rfl) (fun w' hw' _ => ?_) ?_
      · go_simp
      simp only [Act.put, List.setIfInBounds_toArray, List.set_cons_zero, List.set_cons_succ]
      refine Mx.q_pure (.bool true) (by decide) (Mx.wanted_none rfl) (fun w' hw' _ => ?_) ?_
      · go_simp
      simp only [Act.put, List.setIfInBounds_toArray, List.set_cons_zero, List.set_cons_succ]
      refine Mx.q_pure (.bool true) (by decide) (Mx.wanted_none rfl) (fun w' hw' _ => ?_) ?_
      · go_simp
      simp only [Act.put, List.setIfInBounds_toArray, List.set_cons_zero, List.set_cons_succ]
      refine Mx.q_call 11 #[] (Mx.wanted_met 15 102 true rfl HD15.out rfl) ?_ ?_
      · go_simp
      refine (wakes7_any w32).mono ?_
      rintro e w33 ⟨rfl, hb⟩
      have HC33 : Hid (Below w22.heap.size w22 w33) := HC32.out.trans (hb.mono HC32.out.size)
      refine ⟨_, rfl, HC33.out, fun _ => trivial, ?_⟩
      clear hb
      simp only [Act.put, List.setIfInBounds_toArray, List.set_cons_zero, List.set_cons_succ]
      refine Mx.q_pure (.bool true) (by decide) (Mx.wanted_none rfl) (fun w' hw' _ => ?_) ?_
      · go_simp
      simp only [Act.put, List.setIfInBounds_toArray, List.set_cons_zero, List.set_cons_succ]
      refine Mx.q_pure (.bool true) (by decide) (Mx.wanted_none rfl) (fun w' hw' _ => ?_) ?_
      · go_simp
      simp only [Act.put, List.setIfInBounds_toArray, List.set_cons_zero, List.set_cons_succ]
      refine Mx.q_nil ?_
      intro hwz _
      go_wp2_with fail
      go_ret
      exact ⟨rfl, HB7.out.trans ((HC22.out.trans (HC33.out.mono HC22.out.size)).mono HB7.out.size)⟩

end Go.Proofs.Ythhjcpmnekibnaa
