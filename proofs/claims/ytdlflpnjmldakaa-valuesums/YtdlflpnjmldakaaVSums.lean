/- The walk of ValueSums. -/
import Derived.Test.YtdlflpnjmldakaaV3
namespace Go.Proofs.Ytdlflpnjmldakaa.Vl
open Go.RowKit Wd Cn
set_option linter.unusedVariables false

def sX : ByteArray := ⟨#[120]⟩
def sY : ByteArray := ⟨#[121]⟩
theorem nmy : nameGo 0 (runesOf ⟨#[121]⟩) = true := by kernel_rfl
def kSums (a b d : Int) : KW := ⟨[((sX, d), a), ((sY, d), b)], []⟩
def items (a b c : Int) : List (O × Int) :=
  [(.fix sX, a), (.const c, c), (.add (.fix sX) (.fix sY), a + b), (.mul (.fix sX) (.const c), a * c), (.neg (.fix sY), -b), (.max (.fix sX) (.fix sY), Max.max a b),
   (.add (.mul (.fix sX) (.fix sY)) (.neg (.max (.const c) (.fix sX))), a * b - Max.max c a)]
def itemCells (l : List (O × Int)) : List Value := l.flatMap fun p => [p.1.val, .int .i64 p.2]
theorem itemCells_at : ∀ (F : List (O × Int)) (i : Nat) (h : i < F.length), (itemCells F)[i * 2]? = some F[i].1.val ∧ (itemCells F)[i * 2 + 1]? = some (.int .i64 F[i].2)
  | [], i, h => by simp at h
  | q :: F, 0, _ => by simp [itemCells]
  | q :: F, i + 1, h => by
    have ih := itemCells_at F i (by simpa using h)
    have e : itemCells (q :: F) = [q.1.val, .int .i64 q.2] ++ itemCells F := by simp [itemCells]
    rw [e, show (i + 1) * 2 = 2 + i * 2 by omega, show 2 + i * 2 + 1 = 2 + (i * 2 + 1) by omega]
    rw [List.getElem?_append_right (by simp), List.getElem?_append_right (by simp)]
    simpa using ih
theorem mul_small {a b : Int} (h1 : -1000 ≤ a) (h2 : a ≤ 1000) (h3 : -1000 ≤ b) (h4 : b ≤ 1000) : -1000000 ≤ a * b ∧ a * b ≤ 1000000 := by
  have h : (a * b).natAbs ≤ 1000 * 1000 := by
    rw [Int.natAbs_mul]
    exact Nat.mul_le_mul (by omega) (by omega)
  omega
theorem fix_x (a b d : Int) : (kSums a b d).fixed (sX, d) = some a := by simp [kSums, KW.fixed]
theorem fix_y (a b d : Int) : (kSums a b d).fixed (sY, d) = some b := by simp [kSums, KW.fixed, sX, sY]
theorem fix_x1 (a b d : Int) : (kSums a b d).fixed (sX, d + 1) = none := by
  have : d ≠ d + 1 := by omega
  simp [kSums, KW.fixed, this]
theorem fix_y1 (a b d : Int) : (kSums a b d).fixed (sY, d + 1) = none := by
  have : d ≠ d + 1 := by omega
  simp [kSums, KW.fixed, this]
structure ItemOk (a b d : Int) (p : O × Int) : Prop where
  ok : p.1.Ok
  nodes : p.1.nodes ≤ 60
  form : chk p.1 = 0
  now : rk (kSums a b d) d p.1 = ⟨p.2, true, 0⟩
  next : (rk (kSums a b d) (d + 1) p.1).e = 0
theorem items_ok (a b c d : Int) (ha1 : -1000 ≤ a) (ha2 : a ≤ 1000) (hb1 : -1000 ≤ b) (hb2 : b ≤ 1000) (hc1 : -1000 ≤ c) (hc2 : c ≤ 1000) : ∀ p ∈ items a b c, ItemOk a b d p := by
  obtain ⟨m1, m2⟩ := mul_small ha1 ha2 hc1 hc2
  obtain ⟨m3, m4⟩ := mul_small ha1 ha2 hb1 hb2
  have n1 : nameGo 0 (runesOf sX) = true := nmx
  have n2 : nameGo 0 (runesOf sY) = true := nmy
  have z1 : sX.size ≤ 2147483648 := by decide
  have z2 : sY.size ≤ 2147483648 := by decide
  have v (k : Int) (h1 : -100000000 ≤ k) (h2 : k ≤ 100000000) : vB k = true := by rw [vB_iff]; omega
  have va := v a (by omega) (by omega)
  have vb := v b (by omega) (by omega)
  have vc := v c (by omega) (by omega)
  have v1 := v (a + b) (by omega) (by omega)
  have v2 := v (a * c) (by omega) (by omega)
  have v3 := v (a * b) (by omega) (by omega)
  have v4 := v (Max.max c a) (by omega) (by omega)
  have v5 := v (-Max.max c a) (by omega) (by omega)
  have v6 := v (a * b + -Max.max c a) (by omega) (by omega)
  have x0 := fix_x a b d
  have y0 := fix_y a b d
  have x1 := fix_x1 a b d
  have y1 := fix_y1 a b d
  generalize hK : kSums a b d = K at *
  have hf : ∀ p ∈ items a b c, formB p.1 = true ∧ p.1.nodes ≤ 60 ∧ p.1.depth ≤ 12 ∧ p.1.Ok ∧ rk K d p.1 = ⟨p.2, true, 0⟩ ∧ (rk K (d + 1) p.1).e = 0 := by
    intro p hp
    simp only [items, List.mem_cons, List.not_mem_nil, or_false] at hp
    rcases hp with rfl | rfl | rfl | rfl | rfl | rfl | rfl
    all_goals
      refine ⟨by simp [formB, n1, n2, vc], by simp [O.nodes], by simp [O.depth], ?_, ?_, ?_⟩
    · exact z1
    · simp [rk, x0]
    · simp [rk]
    · exact ⟨by omega, by omega⟩
    · simp [rk]
    · simp [rk]
    · exact ⟨z1, z2⟩
    · simp [rk, x0, y0, bothR, addR, va, vb, v1, inR]
    · simp [rk, x1, y1, bothR]
    · exact ⟨z1, by omega, by omega⟩
    · simp [rk, x0, bothR, mulR, va, vc, v2, inR]
    · simp [rk, x1, bothR]
    · exact z2
    · simp [rk, y0, otherR, negR, vb, inR]
    · simp [rk, y1, otherR]
    · exact ⟨z1, z2⟩
    · simp [rk, x0, y0, bothR, gtR, inR]
    · simp [rk, x1, y1, bothR]
    · exact ⟨⟨z1, z2⟩, ⟨by omega, by omega⟩, z1⟩
    · simp [rk, x0, y0, bothR, gtR, inR, mulR, addR, otherR, negR, va, vb, v3, v4, v5, v6]; omega
    · simp [rk, x1, y1, bothR, otherR]
  intro p hp
  obtain ⟨h1, h2, h3, h4, h5, h6⟩ := hf p hp
  subst hK
  exact ⟨h4, h2, by unfold chk; rw [if_pos h1, if_neg (by omega)], h5, h6⟩

theorem day_ok (d : Nat) (h : d < 1000) : dayOk (d : Int) ∧ dayOk ((d : Int) + 1) := ⟨⟨by omega, by omega⟩, ⟨by omega, by omega⟩⟩
theorem fixE_ok (K : KW) (s : ByteArray) (d v : Int) (hn : nameGo 0 (runesOf s) = true) (hd : dayB d = true) (hv : vB v = true) (hf : K.fixed (s, d) = none) (hl : K.F.length < 30) : fixE K s d v = 0 := by
  unfold fixE
  rw [hn, hd, hv, hf]
  simp
  omega
theorem of_in2 {w0 W : World} {p f c : Nat} {K : KW} (h : In w0 W p f c K) (o : O) (hok : o.Ok) (hsz : o.nodes ≤ 1000000) (d : Int) (hd : dayOk d) (r : Rk) (hr : ofR K d o = r) :
    Calls Try.prog 11 #[o.val, .int .i64 d, .pointer (some ⟨p, 0, none⟩)] W fun e w' => e = ofE r ∧ In w0 w' p f c K ∧ Below W.heap.size W w' := by
  refine (of_any o hok hsz W p f c K d h.kin hd).mono ?_
  rintro e w' ⟨rfl, hB⟩
  exact ⟨by rw [hr], h.step hB, hB⟩
theorem needs_in {w0 W : World} {p f c : Nat} {K : KW} (h : In w0 W p f c K) (o : O) (hok : o.Ok) (hsz : o.nodes ≤ 1000000) (d : Int) (hd : dayOk d) :
    Calls Try.prog 12 #[o.val, .int .i64 d, .pointer (some ⟨p, 0, none⟩)] W fun e w' => ∃ v, e = .returned v ∧ w'.ownsRow W.heap.size 9 1 v (needR K d o).length (strCells (needR K d o)) ∧ In w0 w' p f c K ∧ Below W.heap.size W w' := by
  refine (needs_any o hok hsz W p f c K d h.kin hd).mono ?_
  rintro e w' ⟨v, rfl, ho, hB⟩
  exact ⟨v, rfl, ho, h.step hB, hB⟩

theorem alloc_3 (w : World) (a b c d : Obj) : ((((w.alloc a).alloc b).alloc c).alloc d).heap[w.heap.size + 1 + 1 + 1]? = some d := by
  have h := heap_alloc_new (((w.alloc a).alloc b).alloc c) d
  rwa [show (((w.alloc a).alloc b).alloc c).heap.size = w.heap.size + 1 + 1 + 1 by simp] at h
theorem item_at {W : World} {B : Nat} {l : List (O × Int)} {T : TypeId} (h : W.heap[B]? = some (.cells (itemCells l).toArray T)) (i : Nat) (p : O × Int) (hp : l[i]? = some p) : W.cell? ⟨B, i * 2, none⟩ = some p.1.val ∧ W.cell? ⟨B, i * 2 + 1, none⟩ = some (.int .i64 p.2) := by
  obtain ⟨hi, rfl⟩ := List.getElem?_eq_some_iff.1 hp
  obtain ⟨h1, h2⟩ := itemCells_at l i hi
  refine ⟨(cell_of_row _ _ _ _ _ _ h).trans ?_, (cell_of_row _ _ _ _ _ _ h).trans ?_⟩
  · simpa using h1
  · simpa using h2

set_option maxHeartbeats 8000000 in
set_option maxRecDepth 100000 in
theorem sums_walk (a0 b0 c0 d0 : Int) (w : World) (ha1 : -9223372036854775808 ≤ a0) (ha2 : a0 ≤ 9223372036854775807) (hb1 : -9223372036854775808 ≤ b0) (hb2 : b0 ≤ 9223372036854775807)
    (hc1 : -9223372036854775808 ≤ c0) (hc2 : c0 ≤ 9223372036854775807) (hd1 : -9223372036854775808 ≤ d0) (hd2 : d0 ≤ 9223372036854775807) :
    Calls Try.prog 3 #[.int .i64 a0, .int .i64 b0, .int .i64 c0, .int .i64 d0] w fun e w' => e = .returned (.bool true) ∧ Below w.heap.size w w' := by
  obtain ⟨a, ha⟩ : ∃ a, a0 % 2001 - 1000 = a := ⟨_, rfl⟩
  obtain ⟨b, hb⟩ : ∃ b, b0 % 2001 - 1000 = b := ⟨_, rfl⟩
  obtain ⟨c, hc⟩ : ∃ c, c0 % 2001 - 1000 = c := ⟨_, rfl⟩
  obtain ⟨d, hd⟩ : ∃ d : Nat, d0 % 100 = d := ⟨(d0 % 100).toNat, by omega⟩
  have da : a0 % 2001 = a + 1000 := by omega
  have db : b0 % 2001 = b + 1000 := by omega
  have dc : c0 % 2001 = c + 1000 := by omega
  have a1 : -1000 ≤ a := by omega
  have a2 : a ≤ 1000 := by omega
  have b1 : -1000 ≤ b := by omega
  have b2 : b ≤ 1000 := by omega
  have c1 : -1000 ≤ c := by omega
  have c2 : c ≤ 1000 := by omega
  have d1 : d < 100 := by omega
  have HW1 := hidV (fun w : World => within_any a0 2001 w (by omega) (by omega) ha1 ha2)
  have HW2 := hidV (fun w : World => within_any b0 2001 w (by omega) (by omega) hb1 hb2)
  have HW3 := hidV (fun w : World => within_any c0 2001 w (by omega) (by omega) hc1 hc2)
  have HW4 := hidV (fun w : World => within_any d0 100 w (by omega) (by omega) hd1 hd2)
  rw [da] at HW1
  rw [db] at HW2
  rw [dc] at HW3
  rw [hd] at HW4
  clear ha hb hc hd da db dc ha1 ha2 hb1 hb2 hc1 hc2 hd1 hd2
  have HI0 := hidV (items_ok a b c d a1 a2 b1 b2 c1 c2)
  obtain ⟨m1, m2⟩ := mul_small a1 a2 c1 c2
  obtain ⟨m3, m4⟩ := mul_small a1 a2 b1 b2
  have v (k : Int) (h1 : -100000000 ≤ k) (h2 : k ≤ 100000000) : vB k = true := by rw [vB_iff]; omega
  have HVA := hidV (v a (by omega) (by omega))
  have HVB := hidV (v b (by omega) (by omega))
  clear v
  have hdy : dayB (d : Int) = true := by unfold dayB; simp; omega
  have HF1 := hidV (fixE_ok ⟨[], []⟩ sX d a nmx hdy HVA.out rfl (by simp))
  have HF2 := hidV (fixE_ok ⟨[((sX, (d : Int)), a)], []⟩ sY d b nmy hdy HVB.out (by simp [KW.fixed, sX, sY]) (by simp))
  clear hdy
  go_enter Try.func3, Try.ntmps3
  go_wp2_with fail
  refine calls_same (HW1.out _) ?_
  go_wp2_with fail
  refine calls_same (HW2.out _) ?_
  go_wp2_with fail
  refine calls_same (HW3.out _) ?_
  go_wp2_with fail
  refine calls_same (HW4.out _) ?_
  go_wp2_with fail
  refine (new_in' w).mono ?_
  rintro e w1 ⟨p, f, q, rfl, hi⟩
  have HI : Hid (In w w1 p f q ⟨[], []⟩) := hi
  clear hi
  go_wp2_with fail
  refine (fix_in HI.out sX d a ⟨show sX.size ≤ maxLen by decide, by omega, by omega⟩ 0 ⟨[((sX, (d : Int)), a)], []⟩ HF1.out (by rw [fixN, if_pos HF1.out]; rfl)).mono ?_
  rintro e w2 ⟨rfl, hi⟩
  have HI2 := hidV hi
  clear hi HI
  go_wp2_with fail
  refine (fix_in HI2.out sY d b ⟨show sY.size ≤ maxLen by decide, by omega, by omega⟩ 0 (kSums a b d) HF2.out (by rw [fixN, if_pos HF2.out]; rfl)).mono ?_
  rintro e w3 ⟨rfl, hi⟩
  have HI3 := hidV hi
  clear hi HI2
  have HL := hidV (show (items a b c).length = 7 from rfl)
  rcases Int.lt_or_le a b with hab | hab <;> rcases Int.lt_or_le c a with hca | hca
  all_goals
    have HCE : Hid (#[Value.iface 28 (.agg #[.string ⟨#[120]⟩]), .int .i64 a, .iface 30 (.agg #[.int .i64 c]), .int .i64 c] = (#[] : Array Value) ∨ True) := .inr trivial
    have HM1 : Hid (Max.max a b = a ∨ Max.max a b = b) := by unfold Hid; omega
    go_wp2_with fail
    go_loopw [124] (fun s124 wr => ∃ i : Nat, i ≤ 7 ∧ s124 = .int .i64 i ∧ In w wr p f q (kSums a b d) ∧ wr.heap[w3.heap.size + 1 + 1 + 1]? = some (.cells (itemCells (items a b c)).toArray 32)) (fun s124 _ => 7 - (intOf s124).toNat)
    case atStart =>
      refine ⟨0, by omega, rfl, ?_, ?_⟩
      · exact HI3.out.step (below_alloc (below_alloc (below_alloc (below_alloc (Below.refl _ _) _) _) _) _)
      · refine (alloc_3 _ _ _ _ _).trans ?_
        have e1 : Max.max a b = (if a < b then b else a) := by split <;> omega
        have e2 : Max.max c a = (if c < a then a else c) := by split <;> omega
        first
          | (rw [if_pos hab] at e1; rw [if_pos hca] at e2; simp [itemCells, items, O.val, sX, sY, e1, e2]; done)
          | (rw [if_pos hab] at e1; rw [if_neg (by omega)] at e2; simp [itemCells, items, O.val, sX, sY, e1, e2]; done)
          | (rw [if_neg (by omega)] at e1; rw [if_pos hca] at e2; simp [itemCells, items, O.val, sX, sY, e1, e2]; done)
          | (rw [if_neg (by omega)] at e1; rw [if_neg (by omega)] at e2; simp [itemCells, items, O.val, sX, sY, e1, e2]; done)
    case round =>
      obtain ⟨i, hi, rfl, hin, hblk⟩ := hrel
      have HIN := hidV hin
      have HBLK := hidV hblk
      clear hin hblk
      by_cases hlt : i < 7
      · have hlt' : (i : Int) < 7 := by omega
        obtain ⟨pr, hpr⟩ : ∃ pr, (items a b c)[i]? = some pr := ⟨_, List.getElem?_eq_getElem (by rw [HL.out]; exact hlt)⟩
        have HOKI := hidV (HI0.out pr (List.mem_of_getElem? hpr))
        obtain ⟨k0, k1⟩ := item_at HBLK.out i pr hpr
        clear hpr
        obtain ⟨o, n⟩ := pr
        simp only at k0 k1
        obtain ⟨t, x, hov⟩ := form_iface o (chk_form HOKI.out.form)
        have HOV := hidV hov
        rw [hov] at k0
        clear hov
        go_wp2_with fail
        have HNB : Hid (o.nodes ≤ 1000000) := by have : o.nodes ≤ 60 := HOKI.out.nodes; show _ ≤ _; omega
        have HBA : Hid (Below wr.heap.size wr (wr.alloc (.cells #[.iface t x, .int .i64 n] 32))) := below_alloc (Below.refl _ _) _
        have HRW : Hid (ofR (kSums a b d) d o = ⟨n, true, 0⟩) := by unfold Hid ofR; rw [if_pos HOKI.out.form]; exact HOKI.out.now
        have hs := of_in2 (HIN.out.step HBA.out) o HOKI.out.ok HNB.out d (day_ok d (by omega)).1 _ HRW.out
        rw [HOV.out] at hs
        refine hs.mono ?_
        clear hs
        rintro e w4 ⟨rfl, hi4, hb4⟩
        have HI4 := hidV hi4
        have HB4 : Hid (w4.heap[w3.heap.size + 1 + 1 + 1]? = some (.cells (itemCells (items a b c)).toArray 32)) := (hb4.block _ (Nat.lt_of_lt_of_le (Array.getElem?_eq_some_iff.1 HBLK.out).1 HBA.out.size)).trans ((HBA.out.block _ (Array.getElem?_eq_some_iff.1 HBLK.out).1).trans HBLK.out)
        have HS4 : Hid (w4.heap[wr.heap.size]? = some (.cells #[.iface t x, .int .i64 n] 32)) := (hb4.block _ (by simp)).trans (heap_alloc_new _ _)
        clear hi4 hb4
        have q0 : w4.cell? ⟨wr.heap.size, 0, none⟩ = some (.iface t x) := cell_of_row _ _ _ _ _ _ HS4.out
        have q1 : w4.cell? ⟨wr.heap.size, 1, none⟩ = some (.int .i64 n) := cell_of_row _ _ _ _ _ _ HS4.out
        unfold ofE
        go_wp2_with fail
        clear q0 q1
        obtain ⟨r2, hr2⟩ : ∃ r2, ofR (kSums a b d) (d + 1) o = r2 := ⟨_, rfl⟩
        have HE2 : Hid (r2.e = 0) := by rw [← hr2]; unfold ofR; rw [if_pos HOKI.out.form]; exact HOKI.out.next
        have HN2 := hidV (of_needs (kSums a b d) (d + 1) o (by rw [hr2]; exact HE2.out))
        rw [hr2] at HN2
        have hs := of_in2 HI4.out o HOKI.out.ok HNB.out ((d : Int) + 1) (day_ok d (by omega)).2 r2 hr2
        rw [HOV.out] at hs
        refine hs.mono ?_
        clear hs hr2
        rintro e w5 ⟨rfl, hi5, hb5⟩
        have HI5 := hidV hi5
        have HB5 : Hid (w5.heap[w3.heap.size + 1 + 1 + 1]? = some (.cells (itemCells (items a b c)).toArray 32)) := (hb5.block _ (Array.getElem?_eq_some_iff.1 HB4.out).1).trans HB4.out
        have HS5 : Hid (w5.heap[wr.heap.size]? = some (.cells #[.iface t x, .int .i64 n] 32)) := (hb5.block _ (Array.getElem?_eq_some_iff.1 HS4.out).1).trans HS4.out
        clear hi5 hb5
        have q0 : w5.cell? ⟨wr.heap.size, 0, none⟩ = some (.iface t x) := cell_of_row _ _ _ _ _ _ HS5.out
        obtain ⟨n2, k2, e2⟩ := r2
        obtain rfl : e2 = 0 := HE2.out
        simp only at HN2
        unfold ofE
        go_wp2_with fail
        clear q0
        have hs := needs_in HI5.out o HOKI.out.ok HNB.out ((d : Int) + 1) (day_ok d (by omega)).2
        rw [HOV.out] at hs
        refine hs.mono ?_
        clear hs
        rintro e w6 ⟨v6, rfl, ho6, hi6, hb6⟩
        obtain ⟨ao, cap, rfl, hx1, hx2⟩ := own_str ho6
        clear hx1 hx2
        have HI6 := hidV hi6
        have HB6 : Hid (w6.heap[w3.heap.size + 1 + 1 + 1]? = some (.cells (itemCells (items a b c)).toArray 32)) := (hb6.block _ (Array.getElem?_eq_some_iff.1 HB5.out).1).trans HB5.out
        clear hi6 hb6 ho6
        generalize (needR (kSums a b d) (d + 1) o).length = ln at *
        by_cases hz : ln = 0
        · have hk : k2 = true := by rw [HN2.out]; exact decide_eq_true hz
          subst hz hk
          go_wp2_with fail
          go_roundw
          case rel => exact ⟨i + 1, by omega, by go_num, HI6.out, HB6.out⟩
          case measure => simp [intOf] <;> omega
        · have hk : k2 = false := by rw [HN2.out]; exact decide_eq_false hz
          have hz2 : ((ln : Int) == 0) = false := by simpa using hz
          subst hk
          go_wp2_with fail
          go_roundw
          case rel => exact ⟨i + 1, by omega, by go_num, HI6.out, HB6.out⟩
          case measure => simp [intOf] <;> omega
      · have hle : i = 7 := by omega
        subst hle
        go_wp2_with fail
        refine (wakes9_in HIN.out).mono ?_
        rintro e w4 ⟨rfl, hi⟩
        have HI4 := hidV hi
        clear hi
        go_wp2_with fail
        go_ret
        exact ⟨rfl, HI4.out.below⟩

end Go.Proofs.Ytdlflpnjmldakaa.Vl
