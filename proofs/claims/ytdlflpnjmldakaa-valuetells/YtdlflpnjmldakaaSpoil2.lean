/- A tree that is spoilt below its own place. -/
import Derived.Test.YtdlflpnjmldakaaSpoil
namespace Go.Proofs.Ytdlflpnjmldakaa
open Go.RowKit
set_option linter.unusedVariables false

theorem len_cnt (l : List T) : l.length ≤ cntL l := by
  induction l with
  | nil => simp
  | cons t l ih => have h1 : 1 ≤ t.cnt := by cases t; unfold T.cnt; omega
                   simp only [cntL, List.length_cons]; omega
theorem cell_set4 {W : World} {R i : Nat} {a b c d : Value} {k o : Nat} (h : k ≠ R) : ((((W.setCell ⟨R, i, none⟩ a).setCell ⟨R, i + 1, none⟩ b).setCell ⟨R, i + 2, none⟩ c).setCell ⟨R, i + 3, none⟩ d).cell? ⟨k, o, none⟩ = W.cell? ⟨k, o, none⟩ := by
  rw [World.cell?_setCell_other _ _ _ _ (by intro e; injection e with e; exact h e.symm), World.cell?_setCell_other _ _ _ _ (by intro e; injection e with e; exact h e.symm), World.cell?_setCell_other _ _ _ _ (by intro e; injection e with e; exact h e.symm), World.cell?_setCell_other _ _ _ _ (by intro e; injection e with e; exact h e.symm)]
theorem blk_put4 {W : World} {R ty : Nat} {cur : Array Value} (h : Blk W R ty cur) (i : Nat) (a b c d : Value) : Blk ((((W.setCell ⟨R, i * 4, none⟩ a).setCell ⟨R, i * 4 + 1, none⟩ b).setCell ⟨R, i * 4 + 2, none⟩ c).setCell ⟨R, i * 4 + 3, none⟩ d) R ty (put4 cur i a b c d) :=
  (((h.set _ a).set _ b).set _ c).set _ d
theorem put4_size (cur : Array Value) (i : Nat) (a b c d : Value) : (put4 cur i a b c d).size = cur.size := by simp [put4]
/-- What stands in the row behind so many rounds. -/
def rowAt (q : Nat) (v : Int) (s : ByteArray) (k : List T) (a : Int) (i : Nat) : List T := (spoilL q v s (k.take i) a).1 ++ k.drop i
theorem rowAt_get (q : Nat) (v : Int) (s : ByteArray) (k : List T) (a : Int) (i : Nat) (hi : i < k.length) : (rowAt q v s k a i)[i]? = k[i]? := by
  have hl := spoilL_len q v s (k.take i) a
  rw [List.length_take, Nat.min_eq_left (by omega)] at hl
  unfold rowAt
  rw [List.getElem?_append_right (by omega), hl, Nat.sub_self, List.getElem?_drop, Nat.add_zero]
theorem rowAt_len (q : Nat) (v : Int) (s : ByteArray) (k : List T) (a : Int) (i : Nat) : (rowAt q v s k a i).length = k.length := by
  have hl := spoilL_len q v s (k.take i) a
  unfold rowAt
  rw [List.length_append, hl, ← List.length_append, List.take_append_drop]
theorem rowAt_next (q : Nat) (v : Int) (s : ByteArray) (k : List T) (a : Int) (i : Nat) (t : T) (ht : k[i]? = some t) : rowAt q v s k a (i + 1) = (if 0 ≤ (spoilL q v s (k.take i) a).2 then (rowAt q v s k a i).set i (spoilT q v s t (spoilL q v s (k.take i) a).2).1 else rowAt q v s k a i) ∧ (spoilL q v s (k.take (i + 1)) a).2 = if 0 ≤ (spoilL q v s (k.take i) a).2 then (spoilT q v s t (spoilL q v s (k.take i) a).2).2 else (spoilL q v s (k.take i) a).2 := by
  have hi := (List.getElem?_eq_some_iff.1 ht).1
  have hl := spoilL_len q v s (k.take i) a
  rw [List.length_take, Nat.min_eq_left (by omega)] at hl
  have hd : k.drop i = t :: k.drop (i + 1) := by
    rw [List.drop_eq_getElem_cons hi]
    congr 1
    exact (List.getElem?_eq_some_iff.1 ht).2
  unfold rowAt
  rw [take_more _ _ _ ht, spoilL_snoc, hd]
  split
  · simp only [List.append_assoc, List.singleton_append]
    rw [List.set_append_right _ _ (by omega), hl, Nat.sub_self, List.set_cons_zero]
    simp
  · simp

/-- Parts that are as they were from a place on. -/
def OldIn (W0 : World) (cur : Array Value) (k : List T) (i : Nat) : Prop := ∀ j t, i ≤ j → k[j]? = some t → ∃ ka kc, CellsAt cur j t ka kc ∧ TIn W0 0 t (.agg (four t ka kc))
theorem OldIn.put {W0 : World} {cur : Array Value} {k : List T} {i : Nat} (h : OldIn W0 cur k i) (a b c d : Value) : OldIn W0 (put4 cur i a b c d) k (i + 1) := by
  intro j t hj ht
  obtain ⟨ka, kc, ⟨c0, c1, c2, c3⟩, h2⟩ := h j t (by omega) ht
  exact ⟨ka, kc, ⟨(put4_other cur i j _ _ _ _ (by omega) 0 (by omega)).trans c0, (put4_other cur i j _ _ _ _ (by omega) 1 (by omega)).trans c1, (put4_other cur i j _ _ _ _ (by omega) 2 (by omega)).trans c2, (put4_other cur i j _ _ _ _ (by omega) 3 (by omega)).trans c3⟩, h2⟩
/-- A copy of a tree's parts. -/
structure KidsRow (W0 w w' : World) (ro : Option Addr) (c2 R : Nat) (cur : Array Value) (k : List T) : Prop where
  cap : k.length ≤ c2 ∧ c2 ≤ 9223372036854775807
  at_ : k ≠ [] → ro = some ⟨R, 0, none⟩ ∧ Blk w' R 52 cur ∧ k.length * 4 ≤ cur.size
  base : w.heap.size ≤ R
  row : RowIn W0 R w' cur k
  old : OldIn W0 cur k 0
  below : Below w.heap.size w w'
theorem run_append_nil (w : World) (ty cap : Nat) : (Builtin.append_ #[50, 50] ty #[.slice none 0 0, .slice none 0 cap]).run Try.prog w = .ok (.slice none 0 0) w := by
  obtain ⟨i0, hi, hz0, hz1, hz2⟩ := info_parts infoTT
  simp [Builtin.append_, run_underlying Try.underlying50, sizeOf, typeInfo, hi, Builtin.lenOf, Builtin.firstCells]
theorem wpList_append_kids {ops : Array Oper} {rest : List Oper} {o : Oper} {a : Act} {Q : Exit → Act → World → Prop} (w : World) (hgd : o.guard = none) (s x : Operand)
    (ho : o.op = .call { callee := .builtin .append, args := #[s, x], argTypes := #[50, 50] })
    (hs : a.eval s = .slice none 0 0) (k : List T) (ao : Option Addr) (cap : Nat) (hx : a.eval x = .slice ao k.length cap) (W0 : World) (hK : KAt W0 0 k ao 0) (hb : Below W0.heap.size W0 w) (hkl : k.length ≤ 1000000)
    (h : ∀ ro c2 R cur w', KidsRow W0 w w' ro c2 R cur k → wpList Try.prog ops Q rest (a.put o.dst (.slice ro k.length c2)) w') : wpList Try.prog ops Q (o :: rest) a w := by
  obtain ⟨i0, hi, hz0, hz1, hz2⟩ := info_parts infoTT
  cases ao with
  | none =>
    have hk : k = [] := by
      cases k with
      | nil => rfl
      | cons t l => exfalso; unfold KAt at hK; obtain ⟨⟨b, o, e, _⟩, _⟩ := hK; cases e
    subst hk
    refine wpList_plain hgd fun K hKK => ?_
    have hrun := run_append_nil w o.type cap
    have hk2 := h none 0 w.heap.size #[] w ⟨⟨Nat.le_refl _, by simp⟩, fun hn => absurd rfl hn, Nat.le_refl _, fun j t hj => by simp at hj, fun j t _ hj => by simp at hj, Below.refl _ _⟩
    unfold Oper.wp
    simp at hx
    simp [execOp, ho, resolve, invoke, builtin, hs, hx, hrun, Result.andThen]
    exact hKK _ _ hk2
  | some ad =>
    obtain ⟨f, hT, hC⟩ : ∃ f : Nat → Option Addr × Nat, (∀ j t, k[j]? = some t → TIn W0 0 t (.agg (four t (f j).1 (f j).2))) ∧ ∀ (j : Nat) (u : Value), (rowCells k f 0)[j]? = some u → W0.cell? (ad.add j) = some u := by
      cases k with
      | nil => exact ⟨fun _ => (none, 0), fun j t hj => by simp at hj, fun j u hj => by simp [rowCells] at hj⟩
      | cons t l =>
        have hK2 := hK
        unfold KAt at hK2
        obtain ⟨⟨b, o, e, _⟩, _⟩ := hK2
        injection e with e
        subst e
        exact kat_row hK
    refine wpList_append_own_at w hgd s x 50 ho w.heap.size 52 i0 (.agg zeroT) 4 56 Try.underlying50 hi hz0 hz1 hz2 rfl (by decide) _ _ _ hs (World.ownsRow_nil _ _ _ _) ad k.length cap (rowCells k f 0) hx (rowCells_len f k 0) ?_ (rowCells_one f k 0) (by unfold maxLen; omega) (by omega) (Nat.le_refl _) ?_
    · intro j u hj
      have hc := hC j u hj
      exact (hb.cell (World.block_lt_of_cell? W0 _ hc)).trans hc
    · intro v' w' hown hgrow _ _
      have hbl : Below w.heap.size w w' := (Below.refl _ _).grown hgrow (Nat.le_refl _) (fun k hk => by simp [Value.ownBlock] at hk)
      simp only [Nat.zero_add, List.nil_append] at hown
      rcases hown.2 with ⟨rfl, h0⟩ | ⟨g, c2, cur, rfl, hg, hG, hn, hm, hz, ht⟩
      · have hk : k = [] := List.length_eq_zero_iff.1 h0
        subst hk
        exact h none 0 w.heap.size #[] w' ⟨⟨Nat.le_refl _, by simp⟩, fun hn => absurd rfl hn, Nat.le_refl _, fun j t hj => by simp at hj, fun j t _ hj => by simp at hj, hbl⟩
      · have hcells : ∀ j t, k[j]? = some t → CellsAt cur j t (f j).1 (f j).2 := by
          intro j t hj
          have hjl := (List.getElem?_eq_some_iff.1 hj).1
          have hgt := rowCells_get f k 0 j t hj
          have hcur : ∀ m, m < k.length * 4 → cur[m]? = (rowCells k f 0)[m]? := by
            intro m hm
            rw [← ht, List.getElem?_take, if_pos hm, Array.getElem?_toList]
          rw [Nat.zero_add] at hgt
          exact ⟨(hcur _ (by omega)).trans hgt.1, (hcur _ (by omega)).trans hgt.2.1, (hcur _ (by omega)).trans hgt.2.2.1, (hcur _ (by omega)).trans hgt.2.2.2⟩
        exact h _ c2 g cur w' ⟨⟨hn, by unfold maxLen at hm; omega⟩, fun _ => ⟨rfl, hG, by omega⟩, hg, fun j t hj => ⟨(f j).1, (f j).2, hcells j t hj, spread_old (hT j t hj) (hb.trans (hbl.mono hb.size))⟩, fun j t _ hj => ⟨(f j).1, (f j).2, hcells j t hj, hT j t hj⟩, hbl⟩

set_option maxHeartbeats 4000000 in
set_option maxRecDepth 100000 in
theorem spoil_any (what v : Int) (s : ByteArray) (hw1 : -9223372036854775808 ≤ what) (hw2 : what ≤ 9223372036854775807) (hs : s.size ≤ maxLen) (W0 : World) (t : T) : t.cnt ≤ 999990 → ∀ (a : Int), 0 ≤ a → a ≤ 4611686018427387904 → ∀ (w : World) (x : Value), TIn W0 0 t x → Below W0.heap.size W0 w →
    Calls Try.prog 55 #[x, .int .i64 a, .int .i64 what, .int .i64 v, .string s] w (SpoilPost W0 w (spoilT (what % 5).toNat v s t a)) := by
  induction t using T.ind with
  | _ kind s0 n k ih =>
  intro hcnt a ha0 ha1 w x hx hb
  by_cases h0 : a = 0
  · subst h0
    have h := spoil_head W0 (.mk kind s0 n k) what v s hw1 hw2 hs w x hx hb
    have he : spoilT (what % 5).toNat v s (.mk kind s0 n k) 0 = (spoilHead (what % 5).toNat v s (.mk kind s0 n k), -1) := by unfold spoilT; rw [if_pos rfl]
    rw [he]
    exact h
  · have HR : Hid (spoilT (what % 5).toNat v s (.mk kind s0 n k) a = (.mk kind s0 n (spoilL (what % 5).toNat v s k (a - 1)).1, (spoilL (what % 5).toNat v s k (a - 1)).2)) := by unfold Hid spoilT; rw [if_neg h0]
    have h0' : (a == 0) = false := by rw [beq_eq_false_iff_ne]; exact h0
    have hct : (T.mk kind s0 n k).cnt = cntL k + 1 := by rw [T.cnt]
    rw [hct] at hcnt
    have hkl : k.length ≤ 1000000 := by have := len_cnt k; omega
    have HIH : Hid (∀ t ∈ k, ∀ (a : Int), 0 ≤ a → a ≤ 4611686018427387904 → ∀ (w : World) (x : Value), TIn W0 0 t x → Below W0.heap.size W0 w → Calls Try.prog 55 #[x, .int .i64 a, .int .i64 what, .int .i64 v, .string s] w (SpoilPost W0 w (spoilT (what % 5).toNat v s t a))) := fun t ht => ih t ht (by have := cntL_mem k t ht; omega)
    clear ih hct hcnt
    obtain ⟨ao, cap, rfl, hc1, hc2, hK⟩ := hx
    simp only [T.kind, T.s, T.n, T.k] at hc1 hK ⊢
    have HK := hidIn hK
    have HB0 := hidIn hb
    clear hK hb
    generalize (what % 5).toNat = q at *
    go_enter Try.func55, Try.ntmps55
    go_wp2_with (first
      | (at_builtin; refine wpList_append_kids _ rfl _ _ rfl rfl k ao cap rfl W0 HK.out (HB0.out.trans (Below.mono (below_alloc (below_alloc (Below.refl _ _) _) _) HB0.out.size)) hkl ?_; intro ro c2 R cur w1 hrow)
      | go_in)
    obtain ⟨W, hW⟩ : ∃ W, W = (w.alloc (.cells #[.int .i64 kind, .string s0, .int .i64 n, .slice ao k.length cap] 52)).alloc (.cells #[.int .i64 0, .string ⟨#[]⟩, .int .i64 0, .slice none 0 0] 52) := ⟨_, rfl⟩
    rw [← hW] at hrow
    have HB : Hid (Below w.heap.size w W) := by rw [hW]; exact below_alloc (below_alloc (Below.refl _ _) _) _
    have HPW : Hid (Blk W w.heap.size 52 #[.int .i64 kind, .string s0, .int .i64 n, .slice ao k.length cap]) := by rw [hW]; exact blk_keep (blk_new rfl) _
    have HZW : Hid (Blk W (w.heap.size + 1) 52 zeroT) := by rw [hW]; exact blk_new (by simp)
    have HWS : Hid (W.heap.size = w.heap.size + 2) := by unfold Hid; rw [hW]; simp
    have HROW := hidIn hrow
    clear hW hrow
    go_loopw [45, 1] (fun s45 s1 wr => ∃ (i : Nat) (cr : Array Value), i ≤ k.length ∧ s45 = .int .i64 i ∧ s1 = .int .i64 (spoilL q v s (k.take i) (a - 1)).2 ∧ (k ≠ [] → Blk wr R 52 cr ∧ k.length * 4 ≤ cr.size) ∧ RowIn W0 R wr cr (rowAt q v s k (a - 1) i) ∧ OldIn W0 cr k i ∧ Below W.heap.size W wr) (fun s45 _ _ => k.length - (intOf s45).toNat)
    case atStart => exact ⟨0, cur, by omega, rfl, by rw [List.take_zero, spoilL], fun hn => (HROW.out.at_ hn).2, by have h := HROW.out.row; simpa [rowAt, spoilL] using h, HROW.out.old, HROW.out.below⟩
    case round =>
      obtain ⟨i, cr, hi, rfl, rfl, hblk, hrow, hold, hbr⟩ := hrel
      have HBLK := hidIn hblk
      have HRW := hidIn hrow
      have HOLD := hidIn hold
      have HBR := hidIn hbr
      clear hblk hrow hold hbr
      have hbd := spoilL_bd q v s (k.take i) (a - 1) (by omega)
      by_cases hlt : i < k.length
      · have hlt' : (i : Int) < (k.length : Int) := by omega
        obtain ⟨t, hti⟩ : ∃ t, k[i]? = some t := ⟨_, List.getElem?_eq_getElem hlt⟩
        have hne : k ≠ [] := by intro e; rw [e] at hlt; simp at hlt
        have HNX := hidIn (rowAt_next q v s k (a - 1) i t hti)
        have HGET := hidIn ((rowAt_get q v s k (a - 1) i hlt).trans hti)
        have HM : Hid (t ∈ k) := List.mem_of_getElem? hti
        obtain ⟨hro, _, _⟩ := HROW.out.at_ hne
        subst hro
        obtain ⟨hbk, hsz⟩ := HBLK.out hne
        generalize (spoilL q v s (k.take i) (a - 1)).2 = A at *
        by_cases hA : 0 ≤ A
        · obtain ⟨ka, kc, ⟨d0, d1, d2, d3⟩, htin⟩ := HOLD.out i t (Nat.le_refl _) hti
          have c0 : wr.cell? ⟨R, i * 4, none⟩ = _ := (hbk.cell _).trans d0
          have c1 : wr.cell? ⟨R, i * 4 + 1, none⟩ = _ := (hbk.cell _).trans d1
          have c2' : wr.cell? ⟨R, i * 4 + 2, none⟩ = _ := (hbk.cell _).trans d2
          have c3 : wr.cell? ⟨R, i * 4 + 3, none⟩ = _ := (hbk.cell _).trans d3
          have HTI := hidIn htin
          have HBK := hidIn hbk
          have HSZ := hidIn hsz
          clear htin hti d0 d1 d2 d3 hbk hsz
          go_wp2_with fail
          have HB0W := hidIn (HB0.out.trans ((HB.out.trans (HBR.out.mono HB.out.size)).mono HB0.out.size))
          refine (HIH.out t HM.out A hA (by omega) wr _ HTI.out HB0W.out).mono ?_
          rintro e w2 ⟨kb, kd, rfl, hsp, hb2⟩
          have hbd2 := spoilT_bd q v s t A hA
          generalize spoilT q v s t A = r at *
          obtain ⟨t', A2⟩ := r
          simp only [if_pos hA] at hsp hbd2 HNX ⊢
          have HBK2 : Hid (Blk w2 R 52 cr) := HBK.out.below hb2 HBK.out.lt
          have HOK : Hid (∀ m, m < k.length * 4 → ∃ u, w2.cell? ⟨R, m, none⟩ = some u) := by
            intro m hm
            have := HSZ.out
            exact ⟨cr[m]'(by omega), (HBK2.out.cell m).trans (Array.getElem?_eq_getElem _)⟩
          obtain ⟨u0, c0⟩ := HOK.out (i * 4) (by omega)
          obtain ⟨u1, c1⟩ := HOK.out (i * 4 + 1) (by omega)
          obtain ⟨u2, c2'⟩ := HOK.out (i * 4 + 2) (by omega)
          obtain ⟨u3, c3⟩ := HOK.out (i * 4 + 3) (by omega)
          have f0 := HBK2.out.frozen (i * 4)
          have f1 := HBK2.out.frozen (i * 4 + 1)
          have f2 := HBK2.out.frozen (i * 4 + 2)
          have f3 := HBK2.out.frozen (i * 4 + 3)
          have HB2 := hidIn hb2
          have HSP := hidIn hsp
          have HFIN : Hid ((k ≠ [] → Blk ((((w2.setCell ⟨R, i * 4, none⟩ (.int .i64 t'.kind)).setCell ⟨R, i * 4 + 1, none⟩ (.string t'.s)).setCell ⟨R, i * 4 + 2, none⟩ (.int .i64 t'.n)).setCell ⟨R, i * 4 + 3, none⟩ (.slice kb t'.k.length kd)) R 52 (put4 cr i (.int .i64 t'.kind) (.string t'.s) (.int .i64 t'.n) (.slice kb t'.k.length kd)) ∧ k.length * 4 ≤ (put4 cr i (.int .i64 t'.kind) (.string t'.s) (.int .i64 t'.n) (.slice kb t'.k.length kd)).size) ∧ RowIn W0 R ((((w2.setCell ⟨R, i * 4, none⟩ (.int .i64 t'.kind)).setCell ⟨R, i * 4 + 1, none⟩ (.string t'.s)).setCell ⟨R, i * 4 + 2, none⟩ (.int .i64 t'.n)).setCell ⟨R, i * 4 + 3, none⟩ (.slice kb t'.k.length kd)) (put4 cr i (.int .i64 t'.kind) (.string t'.s) (.int .i64 t'.n) (.slice kb t'.k.length kd)) ((rowAt q v s k (a - 1) i).set i t') ∧ Below W.heap.size W ((((w2.setCell ⟨R, i * 4, none⟩ (.int .i64 t'.kind)).setCell ⟨R, i * 4 + 1, none⟩ (.string t'.s)).setCell ⟨R, i * 4 + 2, none⟩ (.int .i64 t'.n)).setCell ⟨R, i * 4 + 3, none⟩ (.slice kb t'.k.length kd))) := by
            have hbase := HROW.out.base
            have hRW : W0.heap.size ≤ R := by have := HB0.out.size; have := HB.out.size; omega
            refine ⟨fun _ => ⟨blk_put4 HBK2.out i _ _ _ _, by rw [put4_size]; exact HSZ.out⟩, ?_, ?_⟩
            · have h2 : RowIn W0 R w2 cr (rowAt q v s k (a - 1) i) := HRW.out.next (fun b o c _ hc => (HB2.out.cell (p := ⟨b, o, none⟩) (World.block_lt_of_cell? _ _ hc)).trans hc) hRW
              have h3 := h2.put HGET.out (by have := HSZ.out; omega) (HSP.out.low (by have := HBK.out.lt; omega))
              exact h3.next (fun b o c hb hc => (cell_set4 hb).trans hc) hRW
            · have h4 : Below W.heap.size W w2 := HBR.out.trans (HB2.out.mono HBR.out.size)
              exact (((h4.setCell hbase _).setCell hbase _).setCell hbase _).setCell hbase _
          clear hb2 hsp
          unfold four
          go_wp2_with fail
          go_roundw
          case rel => exact ⟨i + 1, _, by omega, by go_num, by rw [HNX.out.2], HFIN.out.1, by rw [HNX.out.1]; exact HFIN.out.2.1, HOLD.out.put _ _ _ _, HFIN.out.2.2⟩
          case measure => simp [intOf]; omega
        · have hA' : A < 0 := by omega
          go_wp2_with fail
          go_roundw
          case rel =>
            have hn := HNX.out
            simp only [if_neg hA] at hn
            exact ⟨i + 1, cr, by omega, by go_num, by rw [hn.2], HBLK.out, by rw [hn.1]; exact HRW.out, fun j t hj ht => HOLD.out j t (by omega) ht, HBR.out⟩
          case measure => simp [intOf]; omega
      · have hle : i = k.length := by omega
        subst hle
        have hLk : rowAt q v s k (a - 1) k.length = (spoilL q v s k (a - 1)).1 := by simp [rowAt]
        rw [List.take_length] at hbd ⊢
        have hlen := spoilL_len q v s k (a - 1)
        have HRW2 : Hid (RowIn W0 R wr cr (spoilL q v s k (a - 1)).1) := by unfold Hid; rw [← hLk]; exact HRW.out
        have HLEN := hidIn hlen
        clear hLk HRW hlen
        generalize spoilL q v s k (a - 1) = r at *
        obtain ⟨L, A⟩ := r
        simp only at hbd HRW2 HLEN HR ⊢
        have hP := HPW.out.below HBR.out HPW.out.lt
        have hZ := HZW.out.below HBR.out HZW.out.lt
        have c0 := hP.cell 0
        have c1 := hP.cell 1
        have c2' := hP.cell 2
        have c3 := hP.cell 3
        have e0 := hP.frozen 0
        have e1 := hP.frozen 1
        have e2 := hP.frozen 2
        have e3 := hP.frozen 3
        obtain ⟨⟨z0, z1, z2, z3⟩, f0, f1, f2, f3⟩ := blk_zero hZ
        have hsz : w.heap.size + 1 ≠ w.heap.size := by omega
        have HZ := hidIn hZ
        clear hP hZ
        go_wp2_with fail
        refine bodyPost_ret (results_cell_slot rfl _ _ (w.heap.size + 1) 52 #[.int .i64 kind, .string s0, .int .i64 n, .slice ro k.length c2] (0, 0) _ rfl ?blk Try.underlying52 rfl infoT) rfl ?post
        case blk => change Blk _ _ _ _; (with_reducible refine blk_set4' ?_ _ _ _ _); (repeat first | with_reducible exact HZ.out | with_reducible refine blk_other ?_ hsz _ _)
        case post =>
          rw [HR.out]
          have hb3 : Below w.heap.size w wr := HB.out.trans (HBR.out.mono HB.out.size)
          refine ⟨ro, c2, ?_, ?_, ?_⟩
          · show _ = Ending.returned (.tuple #[.agg #[.int .i64 kind, .string s0, .int .i64 n, .slice ro L.length c2], .int .i64 A])
            rw [HLEN.out]
            rfl
          · intro X hX
            have hcap := HROW.out.cap
            refine ⟨ro, c2, rfl, by show L.length ≤ c2; rw [HLEN.out]; exact hcap.1, hcap.2, ?_⟩
            have hbase := HROW.out.base
            have hws := HWS.out
            have hold : ∀ b o c, (b < W0.heap.size ∨ R ≤ b) → wr.cell? ⟨b, o, none⟩ = some c → X.cell? ⟨b, o, none⟩ = some c := by
              intro b o c hb hc
              have hW0 := HB0.out.size
              refine hX b o c (by omega) ?_
              rw [World.cell?_setCell_other _ _ _ _ (by intro e; injection e with e; omega), World.cell?_setCell_other _ _ _ _ (by intro e; injection e with e; omega), World.cell?_setCell_other _ _ _ _ (by intro e; injection e with e; omega), World.cell?_setCell_other _ _ _ _ (by intro e; injection e with e; omega), World.cell?_setCell_other _ _ _ _ (by intro e; injection e with e; omega)]
              exact hc
            refine KAt_mk (fun j t hj => ?_)
            have hj' : L[j]? = some t := hj
            have hne : k ≠ [] := by
              intro e
              have h1 := (List.getElem?_eq_some_iff.1 hj').1
              rw [HLEN.out, e] at h1
              simp at h1
            obtain ⟨hro, _, _⟩ := HROW.out.at_ hne
            obtain ⟨hbk, _⟩ := HBLK.out hne
            obtain ⟨ka, kc, ⟨d0, d1, d2, d3⟩, hsp⟩ := HRW2.out j t hj'
            refine ⟨R, 0, hro, ?_⟩
            rw [Nat.zero_add, Nat.zero_add]
            exact TAt_mk (hsp X (fun b o c hb hc => hold b o c (by omega) hc)) (Nat.zero_le _) (hold _ _ _ (.inr (Nat.le_refl _)) ((hbk.cell _).trans d0)) (hold _ _ _ (.inr (Nat.le_refl _)) ((hbk.cell _).trans d1)) (hold _ _ _ (.inr (Nat.le_refl _)) ((hbk.cell _).trans d2)) (hold _ _ _ (.inr (Nat.le_refl _)) ((hbk.cell _).trans d3))
          · (repeat first | with_reducible exact hb3 | with_reducible refine below_set ?_ (by omega) _ _)

end Go.Proofs.Ytdlflpnjmldakaa
