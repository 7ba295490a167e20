/- The walk of EventTells. -/
import Derived.Test.YtkioolbjmcpjpaaGreatDoorZe4
import Derived.Test.YtkioolbjmcpjpaaGreatDoorZeRfS
namespace Go.Proofs.YtkioolbjmcpjpaaGreatDoor.Ev
open Go.RowKit
set_option linter.unusedVariables false
set_option linter.unusedSimpArgs false

theorem ev_one (k d v : Int) (i n l u : ByteArray) (t : Value) (ht : t.oneCell' = true) : (#[.int .i64 k, .string i, .string n, .string l, .string u, .int .i64 d, .int .i64 v, t] : Array Value).all (·.oneCell') = true := by
  simp only [List.all_toArray, List.all_cons, List.all_nil, ht, Bool.and_true]
  rfl
theorem infoCm : (Tryz.prog.info? 27).map (·.size) = some 8 := by kernel_rfl
theorem alloc_1e (w : World) (a b : Obj) : ((w.alloc a).alloc b).heap[w.heap.size + 1]? = some b := by
  have h := heap_alloc_new (w.alloc a) b
  rwa [show (w.alloc a).heap.size = w.heap.size + 1 by simp] at h
theorem cells11e {w : World} {B t : Nat} {a b c d e f g h i j k : Value} (hh : w.heap[B]? = some (.cells #[a, b, c, d, e, f, g, h, i, j, k] t)) : w.cell? ⟨B, 0, none⟩ = some a ∧ w.cell? ⟨B, 1, none⟩ = some b ∧ w.cell? ⟨B, 2, none⟩ = some c ∧ w.cell? ⟨B, 3, none⟩ = some d ∧ w.cell? ⟨B, 4, none⟩ = some e ∧ w.cell? ⟨B, 5, none⟩ = some f ∧ w.cell? ⟨B, 6, none⟩ = some g ∧ w.cell? ⟨B, 7, none⟩ = some h ∧ w.cell? ⟨B, 8, none⟩ = some i ∧ w.cell? ⟨B, 9, none⟩ = some j ∧ w.cell? ⟨B, 10, none⟩ = some k :=
  ⟨cell_of_row _ _ 0 _ _ _ hh, cell_of_row _ _ 1 _ _ _ hh, cell_of_row _ _ 2 _ _ _ hh, cell_of_row _ _ 3 _ _ _ hh, cell_of_row _ _ 4 _ _ _ hh, cell_of_row _ _ 5 _ _ _ hh, cell_of_row _ _ 6 _ _ _ hh, cell_of_row _ _ 7 _ _ _ hh, cell_of_row _ _ 8 _ _ _ hh, cell_of_row _ _ 9 _ _ _ hh, cell_of_row _ _ 10 _ _ _ hh⟩
theorem odd_same (t u : C) (h1 : nilB t = false) (h2 : (plainC t).kind = 0) : sameTm t u = false := by
  cases t with
  | odd v => unfold sameTm; rw [h1]; cases u <;> rfl
  | _ => cases h2
theorem sameTm_comm (t u : C) : sameTm t u = sameTm u t := by
  unfold sameTm
  rw [sameC_comm, Bool.and_comm]
theorem sameE_comm (a b : Ev) : sameE a b = sameE b a := by
  unfold sameE
  rw [sameTm_comm]
  rw [show (a.k == b.k) = (b.k == a.k) from BEq.comm, show (a.i.toList == b.i.toList) = (b.i.toList == a.i.toList) from BEq.comm, show (a.n.toList == b.n.toList) = (b.n.toList == a.n.toList) from BEq.comm, show (a.l.toList == b.l.toList) = (b.l.toList == a.l.toList) from BEq.comm, show (a.u.toList == b.u.toList) = (b.u.toList == a.u.toList) from BEq.comm, show (a.d == b.d) = (b.d == a.d) from BEq.comm, show (a.v == b.v) = (b.v == a.v) from BEq.comm]
theorem Ev.Turned.small {e : Ev} (h : e.Turned) : e.Small := ⟨Nat.le_trans h.i (by decide), Nat.le_trans h.n (by decide), Nat.le_trans h.l (by decide), Nat.le_trans h.u (by decide), Nat.le_trans h.w (by decide)⟩
/-- What stands behind the two makers, whatever 'same' says. -/
structure EtIn (w : World) (b1 b2 : Nat) (x : Ev) (ka : Option Addr) (kc : Nat) (y : Ev) (ke : Option Addr) (kf : Nat) (W : World) : Prop where
  ok : y.Ok
  t : y.t = none' ∨ y.t.whole
  xe : W.heap[b1]? = some (.cells #[.int .i64 x.k, .string x.i, .string x.n, .string x.l, .string x.u, .int .i64 x.d, .int .i64 x.v, x.t.val] 30)
  xr : W.heap[b1 + 1]? = some (.cells #[.int .i64 x.k, .string x.i, .string x.n, .string x.l, .string x.u, .int .i64 x.d, .int .i64 x.v, .int .i64 (plainC x.t).kind, .string (plainC x.t).s, .int .i64 (plainC x.t).n, .slice ka (plainC x.t).k.length kc] 35)
  ye : W.heap[b2]? = some (.cells #[.int .i64 y.k, .string y.i, .string y.n, .string y.l, .string y.u, .int .i64 y.d, .int .i64 y.v, y.t.val] 30)
  yr : W.heap[b2 + 1]? = some (.cells #[.int .i64 y.k, .string y.i, .string y.n, .string y.l, .string y.u, .int .i64 y.d, .int .i64 y.v, .int .i64 (plainC y.t).kind, .string (plainC y.t).s, .int .i64 (plainC y.t).n, .slice ke (plainC y.t).k.length kf] 35)
  tx : TIn W 0 (plainC x.t) (.agg #[.int .i64 (plainC x.t).kind, .string (plainC x.t).s, .int .i64 (plainC x.t).n, .slice ka (plainC x.t).k.length kc])
  ty : TIn W 0 (plainC y.t) (.agg #[.int .i64 (plainC y.t).kind, .string (plainC y.t).s, .int .i64 (plainC y.t).n, .slice ke (plainC y.t).k.length kf])
  b : Below w.heap.size w W

set_option maxHeartbeats 16000000 in
set_option maxRecDepth 100000 in
theorem evTells_walk (c d : Cm) (field v : Int) (s : ByteArray) (odd : Int) (same : Bool) (w : World) (hc : c.In w) (hd : d.In w) (hf1 : -9223372036854775808 ≤ field) (hf2 : field ≤ 9223372036854775807) (hv1 : -9223372036854775808 ≤ v) (hv2 : v ≤ 9223372036854775807) (hs : s.size ≤ 140737488351232) (ho1 : -9223372036854775808 ≤ odd) (ho2 : odd ≤ 9223372036854775807) (htab : TabW w) :
    Calls Tryz.prog 4 #[.agg c.cs, .agg d.cs, .int .i64 field, .int .i64 v, .string s, .int .i64 odd, .bool same] w fun e w' => e = .returned (.bool true) ∧ Below w.heap.size w w' := by
  have HS1 := hidIn (fun (W : World) (hW : Below w.heap.size w W) => some11_any c field v s odd W (hc.below hW) hf1 hf2 hv1 hv2 (Nat.le_trans hs (by decide)) ho1 ho2)
  have HS2 := hidIn (fun (W : World) (hW : Below w.heap.size w W) => some11_any d 99 0 ⟨#[]⟩ 0 W (hd.below hW) (by omega) (by omega) (by omega) (by omega) (by decide) (by omega) (by omega))
  have HT := hidIn htab
  clear hc hd htab hf1 hf2 hv1 hv2 hs ho1 ho2
  unfold Cm.cs at HS1 HS2 ⊢
  go_enter Tryz.func4, Tryz.ntmps4
  go_wp2_with fail
  have HBV : Hid (Below w.heap.size w ((w.alloc (.cells #[.int .i64 c.k, .int .i64 c.a, .int .i64 c.b, .int .i64 c.d, .int .i64 c.v, .string c.s, .slice c.p.na c.p.nl c.p.nc, .slice c.p.wa c.p.wl c.p.wc] 27)).alloc (.cells #[.int .i64 d.k, .int .i64 d.a, .int .i64 d.b, .int .i64 d.d, .int .i64 d.v, .string d.s, .slice d.p.na d.p.nl d.p.nc, .slice d.p.wa d.p.wl d.p.wc] 27))) := below_alloc (below_alloc (Below.refl _ _) _) _
  have HDV : Hid (((w.alloc (.cells #[.int .i64 c.k, .int .i64 c.a, .int .i64 c.b, .int .i64 c.d, .int .i64 c.v, .string c.s, .slice c.p.na c.p.nl c.p.nc, .slice c.p.wa c.p.wl c.p.wc] 27)).alloc (.cells #[.int .i64 d.k, .int .i64 d.a, .int .i64 d.b, .int .i64 d.d, .int .i64 d.v, .string d.s, .slice d.p.na d.p.nl d.p.nc, .slice d.p.wa d.p.wl d.p.wc] 27)).heap[w.heap.size + 1]? = some (.cells #[.int .i64 d.k, .int .i64 d.a, .int .i64 d.b, .int .i64 d.d, .int .i64 d.v, .string d.s, .slice d.p.na d.p.nl d.p.nc, .slice d.p.wa d.p.wl d.p.wc] 27)) := alloc_1e _ _ _
  generalize (w.alloc (.cells #[.int .i64 c.k, .int .i64 c.a, .int .i64 c.b, .int .i64 c.d, .int .i64 c.v, .string c.s, .slice c.p.na c.p.nl c.p.nc, .slice c.p.wa c.p.wl c.p.wc] 27)).alloc (.cells #[.int .i64 d.k, .int .i64 d.a, .int .i64 d.b, .int .i64 d.d, .int .i64 d.v, .string d.s, .slice d.p.na d.p.nl d.p.nc, .slice d.p.wa d.p.wl d.p.wc] 27) = V at *
  refine (HS1.out V HBV.out).mono ?_
  rintro e w1 ⟨x, r, is, rfl, hturn, hrin, h0, h1, -, hb⟩
  have HB1 := hidIn (HBV.out.trans (hb.mono HBV.out.size))
  have HD1 := hidIn ((hb.block _ (Array.getElem?_eq_some_iff.1 HDV.out).1).trans HDV.out)
  have HTU := hidIn hturn
  have H0 := hidIn h0
  have H1 := hidIn h1
  obtain ⟨ka, kc, rfl, htin⟩ := hrin
  have HTX := hidIn htin
  clear h0 h1 hb hturn htin HS1 HBV HDV
  have one := x.t.one' HTU.out.ok.t
  have o1 := one.cells
  have o2 := one.one
  have o3 := one.store
  unfold Ev.val Ev.cs
  go_upto_region 2 with fail
  have HXE : Hid (((w1.alloc (.cells #[.int .i64 x.k, .string x.i, .string x.n, .string x.l, .string x.u, .int .i64 x.d, .int .i64 x.v, x.t.val] 30)).alloc (.cells #[.int .i64 x.k, .string x.i, .string x.n, .string x.l, .string x.u, .int .i64 x.d, .int .i64 x.v, .int .i64 (plainC x.t).kind, .string (plainC x.t).s, .int .i64 (plainC x.t).n, .slice ka (plainC x.t).k.length kc] 35)).heap[w1.heap.size]? = some (.cells #[.int .i64 x.k, .string x.i, .string x.n, .string x.l, .string x.u, .int .i64 x.d, .int .i64 x.v, x.t.val] 30)) := heap_keeps (heap_alloc_new _ _) _
  have HXR : Hid (((w1.alloc (.cells #[.int .i64 x.k, .string x.i, .string x.n, .string x.l, .string x.u, .int .i64 x.d, .int .i64 x.v, x.t.val] 30)).alloc (.cells #[.int .i64 x.k, .string x.i, .string x.n, .string x.l, .string x.u, .int .i64 x.d, .int .i64 x.v, .int .i64 (plainC x.t).kind, .string (plainC x.t).s, .int .i64 (plainC x.t).n, .slice ka (plainC x.t).k.length kc] 35)).heap[w1.heap.size + 1]? = some (.cells #[.int .i64 x.k, .string x.i, .string x.n, .string x.l, .string x.u, .int .i64 x.d, .int .i64 x.v, .int .i64 (plainC x.t).kind, .string (plainC x.t).s, .int .i64 (plainC x.t).n, .slice ka (plainC x.t).k.length kc] 35)) := alloc_1e _ _ _
  have HD2 : Hid (((w1.alloc (.cells #[.int .i64 x.k, .string x.i, .string x.n, .string x.l, .string x.u, .int .i64 x.d, .int .i64 x.v, x.t.val] 30)).alloc (.cells #[.int .i64 x.k, .string x.i, .string x.n, .string x.l, .string x.u, .int .i64 x.d, .int .i64 x.v, .int .i64 (plainC x.t).kind, .string (plainC x.t).s, .int .i64 (plainC x.t).n, .slice ka (plainC x.t).k.length kc] 35)).heap[w.heap.size + 1]? = some (.cells #[.int .i64 d.k, .int .i64 d.a, .int .i64 d.b, .int .i64 d.d, .int .i64 d.v, .string d.s, .slice d.p.na d.p.nl d.p.nc, .slice d.p.wa d.p.wl d.p.wc] 27)) := heap_keeps (heap_keeps HD1.out _) _
  have HB2 : Hid (Below w.heap.size w ((w1.alloc (.cells #[.int .i64 x.k, .string x.i, .string x.n, .string x.l, .string x.u, .int .i64 x.d, .int .i64 x.v, x.t.val] 30)).alloc (.cells #[.int .i64 x.k, .string x.i, .string x.n, .string x.l, .string x.u, .int .i64 x.d, .int .i64 x.v, .int .i64 (plainC x.t).kind, .string (plainC x.t).s, .int .i64 (plainC x.t).n, .slice ka (plainC x.t).k.length kc] 35))) := below_alloc (below_alloc HB1.out _) _
  have HU2 : Hid (Below w1.heap.size w1 ((w1.alloc (.cells #[.int .i64 x.k, .string x.i, .string x.n, .string x.l, .string x.u, .int .i64 x.d, .int .i64 x.v, x.t.val] 30)).alloc (.cells #[.int .i64 x.k, .string x.i, .string x.n, .string x.l, .string x.u, .int .i64 x.d, .int .i64 x.v, .int .i64 (plainC x.t).kind, .string (plainC x.t).s, .int .i64 (plainC x.t).n, .slice ka (plainC x.t).k.length kc] 35))) := below_alloc (below_alloc (Below.refl _ _) _) _
  generalize (w1.alloc (.cells #[.int .i64 x.k, .string x.i, .string x.n, .string x.l, .string x.u, .int .i64 x.d, .int .i64 x.v, x.t.val] 30)).alloc (.cells #[.int .i64 x.k, .string x.i, .string x.n, .string x.l, .string x.u, .int .i64 x.d, .int .i64 x.v, .int .i64 (plainC x.t).kind, .string (plainC x.t).s, .int .i64 (plainC x.t).n, .slice ka (plainC x.t).k.length kc] 35) = W2 at *
  have HTX2 := hidIn (HTX.out.below HU2.out)
  clear HTX HD1
  go_wp2_with (refine wpList_load_row rfl 27 (.tmp 8) rfl (w.heap.size + 1) rfl _ _ _ _ HD2.out Tryz.underlying27 rfl infoCm ?_)
  refine (HS2.out W2 HB2.out).mono ?_
  rintro e w3 ⟨z, r2, is2, rfl, hturn2, hrin2, h02, -, hodd2, hb3⟩
  obtain rfl : is2 = false := by
    cases is2
    · rfl
    · exact absurd (hodd2 rfl) (by decide)
  have HZT := hidIn (h02 rfl)
  have HTU2 := hidIn hturn2
  obtain ⟨kb, kd, rfl, htin2⟩ := hrin2
  have HTZ3 := hidIn htin2
  have HTX3 := hidIn (HTX2.out.below hb3)
  have HS23 := hidIn hb3.size
  have HB23 := hidIn hb3
  have HB3 := hidIn (HB2.out.trans (hb3.mono HB2.out.size))
  have HXE3 := hidIn ((hb3.block _ (Array.getElem?_eq_some_iff.1 HXE.out).1).trans HXE.out)
  have HXR3 := hidIn ((hb3.block _ (Array.getElem?_eq_some_iff.1 HXR.out).1).trans HXR.out)
  have HNE : Hid (w1.heap.size + 1 < w3.heap.size) := (Array.getElem?_eq_some_iff.1 HXR3.out).1
  have HNW : Hid (w.heap.size ≤ w1.heap.size) := HB1.out.size
  clear h02 hodd2 hb3 hturn2 htin2 HS2 HXE HXR HD2 HU2
  have one2 := z.t.one' HTU2.out.ok.t
  have p1 := one2.cells
  have p2 := one2.one
  have p3 := one2.store
  unfold Ev.val Ev.cs
  go_upto_region 3 with fail
  have HIN : Hid (EtIn w w1.heap.size w3.heap.size x ka kc z kb kd ((w3.alloc (.cells #[.int .i64 z.k, .string z.i, .string z.n, .string z.l, .string z.u, .int .i64 z.d, .int .i64 z.v, z.t.val] 30)).alloc (.cells #[.int .i64 z.k, .string z.i, .string z.n, .string z.l, .string z.u, .int .i64 z.d, .int .i64 z.v, .int .i64 (plainC z.t).kind, .string (plainC z.t).s, .int .i64 (plainC z.t).n, .slice kb (plainC z.t).k.length kd] 35))) := ⟨HTU2.out.ok, HZT.out, heap_keeps (heap_keeps HXE3.out _) _, heap_keeps (heap_keeps HXR3.out _) _, heap_keeps (heap_alloc_new _ _) _, alloc_1e _ _ _, HTX3.out.below (below_alloc (below_alloc (Below.refl _ _) _) _), HTZ3.out.below (below_alloc (below_alloc (Below.refl _ _) _) _), below_alloc (below_alloc HB3.out _) _⟩
  have HB24 : Hid (Below W2.heap.size W2 ((w3.alloc (.cells #[.int .i64 z.k, .string z.i, .string z.n, .string z.l, .string z.u, .int .i64 z.d, .int .i64 z.v, z.t.val] 30)).alloc (.cells #[.int .i64 z.k, .string z.i, .string z.n, .string z.l, .string z.u, .int .i64 z.d, .int .i64 z.v, .int .i64 (plainC z.t).kind, .string (plainC z.t).s, .int .i64 (plainC z.t).n, .slice kb (plainC z.t).k.length kd] 35))) := below_alloc (below_alloc HB23.out _) _
  generalize (w3.alloc (.cells #[.int .i64 z.k, .string z.i, .string z.n, .string z.l, .string z.u, .int .i64 z.d, .int .i64 z.v, z.t.val] 30)).alloc (.cells #[.int .i64 z.k, .string z.i, .string z.n, .string z.l, .string z.u, .int .i64 z.d, .int .i64 z.v, .int .i64 (plainC z.t).kind, .string (plainC z.t).s, .int .i64 (plainC z.t).n, .slice kb (plainC z.t).k.length kd] 35) = W4 at *
  clear HTX3 HTZ3 HXE3 HXR3 HB3 HB2 HB1
  go_upto_if 37 with fail
  go_cut [38] (fun s38 wx => ∃ (y : Ev) (ke : Option Addr) (kf : Nat), EtIn w w1.heap.size w3.heap.size x ka kc y ke kf wx)
  case first =>
    cases same
    · go_wp2_with fail
      go_meet
      case rel => exact ⟨z, kb, kd, HIN.out⟩
    · obtain ⟨tb, htb⟩ : ∃ tb, (tb = none' ∨ tb.whole) ∧ tb.Ok ∧ tb.weight ≤ 1000000 ∧ plainC tb = plainC x.t := by
        cases is
        · exact ⟨x.t, H0.out rfl, HTU.out.ok.t, HTU.out.ok.w, rfl⟩
        · exact ⟨none', .inl rfl, none_ok, by decide, (H1.out rfl).2.symm⟩
      obtain ⟨tb1, tb2, tb4, tb3⟩ := htb
      have HTB1 := hidIn tb1
      have HTB2 := hidIn tb2
      have HTB3 := hidIn tb3
      have HTB4 := hidIn tb4
      clear tb1 tb2 tb3 tb4
      have HBK : Hid (∀ W, TIn W 0 (plainC x.t) (.agg #[.int .i64 (plainC x.t).kind, .string (plainC x.t).s, .int .i64 (plainC x.t).n, .slice ka (plainC x.t).k.length kc]) → Calls Tryz.prog 12 #[.agg #[.int .i64 x.k, .string x.i, .string x.n, .string x.l, .string x.u, .int .i64 x.d, .int .i64 x.v, .int .i64 (plainC x.t).kind, .string (plainC x.t).s, .int .i64 (plainC x.t).n, .slice ka (plainC x.t).k.length kc]] W fun r w' => r = .returned (.agg #[.int .i64 x.k, .string x.i, .string x.n, .string x.l, .string x.u, .int .i64 x.d, .int .i64 x.v, tb.val]) ∧ Below W.heap.size W w') := fun W hW => by
        have h := back_any (⟨x.k, x.i, x.n, x.l, x.u, x.d, x.v, tb⟩ : Ev) HTB1.out W (.agg #[.int .i64 x.k, .string x.i, .string x.n, .string x.l, .string x.u, .int .i64 x.d, .int .i64 x.v, .int .i64 (plainC x.t).kind, .string (plainC x.t).s, .int .i64 (plainC x.t).n, .slice ka (plainC x.t).k.length kc]) ⟨ka, kc, by rw [HTB3.out], by rw [HTB3.out]; exact hW⟩
        exact h
      have oneb := tb.one' HTB2.out
      have q1 := oneb.cells
      have q2 := oneb.one
      have HQ2 := hidIn q2
      go_upto_region 4 with fail
      refine Mx.wp_region_mix (fun W => W.heap[w1.heap.size + 1]? = some (.cells #[.int .i64 x.k, .string x.i, .string x.n, .string x.l, .string x.u, .int .i64 x.d, .int .i64 x.v, .int .i64 (plainC x.t).kind, .string (plainC x.t).s, .int .i64 (plainC x.t).n, .slice ka (plainC x.t).k.length kc] 35)) [(0, false), (2, false), (1, true), (3, true), (4, true)] (by kernel_rfl) (by kernel_rfl) HIN.out.xr ?_ (by kernel_rfl)
      simp only [List.map_cons, List.map_nil, List.getD_cons_zero, List.getD_cons_succ]
      generalize hops : (#[_, _, _, _, _] : Array Oper) = ops
      clear hops
      refine Mx.m_pure (.agg #[.int .i64 x.k, .string x.i, .string x.n, .string x.l, .string x.u, .int .i64 x.d, .int .i64 x.v, .int .i64 (plainC x.t).kind, .string (plainC x.t).s, .int .i64 (plainC x.t).n, .slice ka (plainC x.t).k.length kc]) (Mx.wanted_none rfl) (fun W hW => ?_) ?_
      · obtain ⟨z0, z1, z2, z3, z4, z5, z6, z7, z8, z9, z10⟩ := cells11e hW
        go_simp
      simp only [Act.put, List.setIfInBounds_toArray, List.set_cons_zero, List.set_cons_succ]
      refine Mx.m_pure (.agg #[.int .i64 x.k, .string x.i, .string x.n, .string x.l, .string x.u, .int .i64 x.d, .int .i64 x.v, .int .i64 (plainC x.t).kind, .string (plainC x.t).s, .int .i64 (plainC x.t).n, .slice ka (plainC x.t).k.length kc]) (Mx.wanted_none rfl) (fun W hW => ?_) ?_
      · obtain ⟨z0, z1, z2, z3, z4, z5, z6, z7, z8, z9, z10⟩ := cells11e hW
        go_simp
      simp only [Act.put, List.setIfInBounds_toArray, List.set_cons_zero, List.set_cons_succ]
      refine Mx.m_call 12 #[.agg #[.int .i64 x.k, .string x.i, .string x.n, .string x.l, .string x.u, .int .i64 x.d, .int .i64 x.v, .int .i64 (plainC x.t).kind, .string (plainC x.t).s, .int .i64 (plainC x.t).n, .slice ka (plainC x.t).k.length kc]] (Mx.wanted_none rfl) ?_ ?_
      · go_simp
      refine (HBK.out W4.drew (HIN.out.tx.below (below_drew (Below.refl _ _)))).mono ?_
      rintro e w5 ⟨rfl, hb5⟩
      have HB5 := hidIn (show Below W4.heap.size W4 w5 from ⟨hb5.os, hb5.tape, hb5.output, hb5.size, hb5.block⟩)
      clear hb5
      have HXE5 := hidIn ((HB5.out.block _ (Array.getElem?_eq_some_iff.1 HIN.out.xe).1).trans HIN.out.xe)
      have HXR5 := hidIn ((HB5.out.block _ (Array.getElem?_eq_some_iff.1 HIN.out.xr).1).trans HIN.out.xr)
      have HYE5 := hidIn ((HB5.out.block _ (Array.getElem?_eq_some_iff.1 HIN.out.ye).1).trans HIN.out.ye)
      have HYR5 := hidIn ((HB5.out.block _ (Array.getElem?_eq_some_iff.1 HIN.out.yr).1).trans HIN.out.yr)
      refine ⟨_, rfl, HXR5.out, ?_⟩
      simp only [Act.put, List.setIfInBounds_toArray, List.set_cons_zero, List.set_cons_succ]
      refine m_skip11 (Mx.wanted_none rfl) (store_row_run 30 (.tmp 18) (.tmp 39) rfl (w3.heap.size) #[.int .i64 x.k, .string x.i, .string x.n, .string x.l, .string x.u, .int .i64 x.d, .int .i64 x.v, tb.val] rfl rfl _ _ HYE5.out infoA rfl (ev_one _ _ _ _ _ _ _ _ HQ2.out)) ((setRow_other _ _ _ _ (by have := HNE.out; omega)).trans HXR5.out) ?_
      simp only [Act.put]
      refine m_skip11 (Mx.wanted_none rfl) (store_row_run 35 (.tmp 19) (.tmp 40) rfl (w3.heap.size + 1) #[.int .i64 x.k, .string x.i, .string x.n, .string x.l, .string x.u, .int .i64 x.d, .int .i64 x.v, .int .i64 (plainC x.t).kind, .string (plainC x.t).s, .int .i64 (plainC x.t).n, .slice ka (plainC x.t).k.length kc] rfl rfl _ _ ((setRow_other _ _ _ _ (by omega)).trans HYR5.out) infoE rfl (by first | rfl | simp [Value.oneCell'])) ((setRow_other _ _ _ _ (by have := HNE.out; omega)).trans ((setRow_other _ _ _ _ (by have := HNE.out; omega)).trans HXR5.out)) ?_
      simp only [Act.put]
      refine Mx.m_nil (fun _ => ?_)
      go_wp2_with fail
      go_meet
      case rel =>
        have hN := HNE.out
        have hN2 := HNW.out
        have hz : w1.heap.size + 1 < W4.heap.size := (Array.getElem?_eq_some_iff.1 HIN.out.xr).1
        have hy1 : w3.heap.size < w5.heap.size := (Array.getElem?_eq_some_iff.1 HYE5.out).1
        have hy2 : w3.heap.size + 1 < w5.heap.size := (Array.getElem?_eq_some_iff.1 HYR5.out).1
        refine ⟨(⟨x.k, x.i, x.n, x.l, x.u, x.d, x.v, tb⟩ : Ev), ka, kc, ⟨HTU.out.ok.k1, HTU.out.ok.k2, HTU.out.ok.d1, HTU.out.ok.d2, HTU.out.ok.v1, HTU.out.ok.v2, HTU.out.ok.i, HTU.out.ok.n, HTU.out.ok.l, HTU.out.ok.u, HTB2.out, HTB4.out⟩, HTB1.out, (setRow_other _ _ _ _ (by omega)).trans ((setRow_other _ _ _ _ (by omega)).trans HXE5.out), (setRow_other _ _ _ _ (by omega)).trans ((setRow_other _ _ _ _ (by omega)).trans HXR5.out), (setRow_other _ _ _ _ (by omega)).trans (setRow_heap _ _ _ _ _ _ HYE5.out), ?_, ?_, ?_, ?_⟩
        · show _ = some (Obj.cells #[.int .i64 x.k, .string x.i, .string x.n, .string x.l, .string x.u, .int .i64 x.d, .int .i64 x.v, .int .i64 (plainC tb).kind, .string (plainC tb).s, .int .i64 (plainC tb).n, .slice ka (plainC tb).k.length kc] 35)
          rw [HTB3.out]
          exact setRow_heap _ _ _ _ _ _ ((setRow_other _ _ _ _ (by omega)).trans HYR5.out)
        · exact HTX2.out.below (row_below (row_below (HB24.out.trans (HB5.out.mono HB24.out.size)) HS23.out _) (Nat.le_succ_of_le HS23.out) _)
        · show TIn _ 0 (plainC tb) (.agg #[.int .i64 (plainC tb).kind, .string (plainC tb).s, .int .i64 (plainC tb).n, .slice ka (plainC tb).k.length kc])
          rw [HTB3.out]
          exact HTX2.out.below (row_below (row_below (HB24.out.trans (HB5.out.mono HB24.out.size)) HS23.out _) (Nat.le_succ_of_le HS23.out) _)
        · exact row_below (row_below (HIN.out.b.trans (HB5.out.mono HIN.out.b.size)) (by omega) _) (by omega) _
  case rest =>
    obtain ⟨y, ke, kf, hin⟩ := hcut
    generalize wc = W5 at *
    clear HIN HB24 HTX2 HS23 HB23 HNE one2 p1 p2 p3
    have HI := hidIn hin
    clear hin
    have HSM : Hid (x.t = none' ∨ x.t.whole ∨ is = true) := by
      cases is
      · rcases H0.out rfl with h | h
        · exact .inl h
        · exact .inr (.inl h)
      · exact .inr (.inr rfl)
    have HCK := hidIn (fun W hW => check_any x HTU.out.ok W hW)
    have his : (!((plainC x.t).kind == 0) || is) = !nilB x.t := by
      cases is
      · rw [kind_nil _ (H0.out rfl)]; simp
      · rw [(H1.out rfl).1]; simp
    have HRK := hidIn (fun W hW => refCheck11_any x HTU.out.ok HTU.out.small is his W (.agg #[.int .i64 x.k, .string x.i, .string x.n, .string x.l, .string x.u, .int .i64 x.d, .int .i64 x.v, .int .i64 (plainC x.t).kind, .string (plainC x.t).s, .int .i64 (plainC x.t).n, .slice ka (plainC x.t).k.length kc]) ⟨ka, kc, rfl, HI.out.tx.below hW⟩)
    have HSX := hidIn (fun W => same_any x y HTU.out.ok HI.out.ok W)
    have HSY := hidIn (fun W => same_any y x HI.out.ok HTU.out.ok W)
    have HXX := hidIn (fun W => same_any x x HTU.out.ok HTU.out.ok W)
    have HRS := hidIn (fun W hW => refSame11_any x y W (.agg #[.int .i64 x.k, .string x.i, .string x.n, .string x.l, .string x.u, .int .i64 x.d, .int .i64 x.v, .int .i64 (plainC x.t).kind, .string (plainC x.t).s, .int .i64 (plainC x.t).n, .slice ka (plainC x.t).k.length kc]) (.agg #[.int .i64 y.k, .string y.i, .string y.n, .string y.l, .string y.u, .int .i64 y.d, .int .i64 y.v, .int .i64 (plainC y.t).kind, .string (plainC y.t).s, .int .i64 (plainC y.t).n, .slice ke (plainC y.t).k.length kf]) ⟨ka, kc, rfl, HI.out.tx.below hW⟩ ⟨ke, kf, rfl, HI.out.ty.below hW⟩)
    have HFL : Hid (is = false → sameR x y = sameE x y) := fun h => sameR_eq x y (H0.out h) HI.out.t
    have HFO : Hid (is = true → sameE x x = false ∧ sameE x y = false) := fun h => by
      have h1 := (H1.out h).1
      have h2 : (plainC x.t).kind = 0 := by rw [(H1.out h).2]; rfl
      unfold sameE
      rw [odd_same _ _ h1 h2, odd_same _ _ h1 h2]
      simp
    rw [sameE_comm y x] at HSY
    have HF1 := hidIn (fun W => fields_any x.k W)
    have HF2 := hidIn (fun W => refFields_any x.k W)
    generalize flds x.k = fk at *
    generalize chkE x = ce at *
    generalize sameE x y = sxy at *
    generalize sameE x x = sxx at *
    generalize sameR x y = rxy at *
    have HW : Hid (∀ w', Below W5.heap.size W5 w' → w'.heap[w1.heap.size]? = some (.cells #[.int .i64 x.k, .string x.i, .string x.n, .string x.l, .string x.u, .int .i64 x.d, .int .i64 x.v, x.t.val] 30) ∧ w'.heap[w1.heap.size + 1]? = some (.cells #[.int .i64 x.k, .string x.i, .string x.n, .string x.l, .string x.u, .int .i64 x.d, .int .i64 x.v, .int .i64 (plainC x.t).kind, .string (plainC x.t).s, .int .i64 (plainC x.t).n, .slice ka (plainC x.t).k.length kc] 35) ∧ w'.heap[w3.heap.size]? = some (.cells #[.int .i64 y.k, .string y.i, .string y.n, .string y.l, .string y.u, .int .i64 y.d, .int .i64 y.v, y.t.val] 30) ∧ w'.heap[w3.heap.size + 1]? = some (.cells #[.int .i64 y.k, .string y.i, .string y.n, .string y.l, .string y.u, .int .i64 y.d, .int .i64 y.v, .int .i64 (plainC y.t).kind, .string (plainC y.t).s, .int .i64 (plainC y.t).n, .slice ke (plainC y.t).k.length kf] 35)) := fun w' hw' => ⟨(hw'.block _ (Array.getElem?_eq_some_iff.1 HI.out.xe).1).trans HI.out.xe, (hw'.block _ (Array.getElem?_eq_some_iff.1 HI.out.xr).1).trans HI.out.xr, (hw'.block _ (Array.getElem?_eq_some_iff.1 HI.out.ye).1).trans HI.out.ye, (hw'.block _ (Array.getElem?_eq_some_iff.1 HI.out.yr).1).trans HI.out.yr⟩
    have HTB5 : Hid (∀ w', Below W5.heap.size W5 w' → TabW w') := fun w' hw' => tabW_below HT.out (HI.out.b.trans (hw'.mono HI.out.b.size))
    have HBE : Hid (∀ w', Below W5.heap.size W5 w' → Below w.heap.size w w') := fun w' hw' => HI.out.b.trans (hw'.mono HI.out.b.size)
    have HC0 := hidIn (below_drew (Below.refl W5.heap.size W5))
    unfold Ev.val Ev.cs at HCK HSX HSY HXX
    go_upto_region 5 with fail
    obtain ⟨x46, hx46⟩ : ∃ x, (!(ce == ce)) = x := ⟨_, rfl⟩
    have Hx46 := hidIn hx46
    clear hx46
    obtain ⟨x54, hx54⟩ : ∃ x, (!(fk.toList == fk.toList)) = x := ⟨_, rfl⟩
    have Hx54 := hidIn hx54
    clear hx54
    obtain ⟨x55, hx55⟩ : ∃ x, (x46 || x54) = x := ⟨_, rfl⟩
    have Hx55 := hidIn hx55
    clear hx55
    refine wp_region_class (fun w' => Below W5.heap.size W5 w') (by kernel_rfl) (by kernel_rfl) HC0.out ?_
    generalize hops : (#[_, _, _, _, _, _, _, _, _, _, _, _, _, _, _] : Array Oper) = ops
    have HD6 : Hid ((ops[6]?).bind (·.dst) = some 47) := by rw [← hops]; exact rfl
    clear hops
    refine quiet_runs (.agg #[.int .i64 x.k, .string x.i, .string x.n, .string x.l, .string x.u, .int .i64 x.d, .int .i64 x.v, x.t.val]) (wanted_none rfl) (fun w' hw' => ?_) ?_
    · obtain ⟨g0, g1, g2, g3, g4, g5, g6, g7⟩ := cells8e ((HW.out w' hw').1)
      go_simp
    simp only [Act.put, List.setIfInBounds_toArray, List.set_cons_zero, List.set_cons_succ]
    refine quiet_calls 13 #[.agg #[.int .i64 x.k, .string x.i, .string x.n, .string x.l, .string x.u, .int .i64 x.d, .int .i64 x.v, x.t.val]] (.int .i64 ce) (wanted_none rfl) (fun w' hw' => ?_) (fun w' hw' => ?_) ?_
    · go_simp
    · refine (HCK.out w' (HTB5.out w' hw')).mono ?_
      rintro e w2 ⟨rfl, hb⟩
      exact ⟨rfl, hw'.trans (hb.mono hw'.size)⟩
    simp only [Act.put, List.setIfInBounds_toArray, List.set_cons_zero, List.set_cons_succ]
    refine quiet_runs (.agg #[.int .i64 x.k, .string x.i, .string x.n, .string x.l, .string x.u, .int .i64 x.d, .int .i64 x.v, .int .i64 (plainC x.t).kind, .string (plainC x.t).s, .int .i64 (plainC x.t).n, .slice ka (plainC x.t).k.length kc]) (wanted_none rfl) (fun w' hw' => ?_) ?_
    · obtain ⟨g0, g1, g2, g3, g4, g5, g6, g7, g8, g9, g10⟩ := cells11e ((HW.out w' hw').2.1)
      go_simp
    simp only [Act.put, List.setIfInBounds_toArray, List.set_cons_zero, List.set_cons_succ]
    refine quiet_runs (.bool is) (wanted_none rfl) (fun w' hw' => ?_) ?_
    · go_simp
    simp only [Act.put, List.setIfInBounds_toArray, List.set_cons_zero, List.set_cons_succ]
    refine quiet_calls 14 #[.agg #[.int .i64 x.k, .string x.i, .string x.n, .string x.l, .string x.u, .int .i64 x.d, .int .i64 x.v, .int .i64 (plainC x.t).kind, .string (plainC x.t).s, .int .i64 (plainC x.t).n, .slice ka (plainC x.t).k.length kc], .bool is] (.int .i64 ce) (wanted_none rfl) (fun w' hw' => ?_) (fun w' hw' => ?_) ?_
    · go_simp
    · refine (HRK.out w' hw').mono ?_
      rintro e w2 ⟨rfl, hb⟩
      exact ⟨rfl, hw'.trans (hb.mono hw'.size)⟩
    simp only [Act.put, List.setIfInBounds_toArray, List.set_cons_zero, List.set_cons_succ]
    refine quiet_runs (.bool x46) (wanted_none rfl) (fun w' hw' => ?_) ?_
    · rw [← Hx46.out]
      go_simp
      try rfl
    simp only [Act.put, List.setIfInBounds_toArray, List.set_cons_zero, List.set_cons_succ]
    refine quiet_runs (.bool x46) (wanted_none rfl) (fun w' hw' => ?_) ?_
    · go_simp
    simp only [Act.put, List.setIfInBounds_toArray, List.set_cons_zero, List.set_cons_succ]
    refine mb_runs (!x46) (.pointer (some ⟨w1.heap.size, 0, none⟩)) (want_no 6 47 x46 rfl HD6.out rfl) (fun hb w' hw' => ?_) ?_
    · simp only [Bool.not_eq_true'] at hb
      subst hb
      try simp only [mb_true, Bool.not_false, Bool.not_true]
      go_simp
    simp only [Act.put, List.setIfInBounds_toArray, List.set_cons_zero, List.set_cons_succ]
    refine mb_runs (!x46) (.int .i64 x.k) (want_no 6 47 x46 rfl HD6.out rfl) (fun hb w' hw' => ?_) ?_
    · simp only [Bool.not_eq_true'] at hb
      subst hb
      try simp only [mb_true, Bool.not_false, Bool.not_true]
      obtain ⟨g0, g1, g2, g3, g4, g5, g6, g7⟩ := cells8e ((HW.out w' hw').1)
      go_simp
    simp only [Act.put, List.setIfInBounds_toArray, List.set_cons_zero, List.set_cons_succ]
    refine mb_calls (!x46) 15 #[.int .i64 x.k] (.string fk) (want_no 6 47 x46 rfl HD6.out rfl) (fun hb w' hw' => ?_) (fun hb w' hw' => ?_) ?_
    · simp only [Bool.not_eq_true'] at hb
      subst hb
      try simp only [mb_true, Bool.not_false, Bool.not_true]
      go_simp
    · refine (HF1.out w').mono ?_
      rintro e w2 ⟨rfl, rfl⟩
      exact ⟨rfl, hw'⟩
    simp only [Act.put, List.setIfInBounds_toArray, List.set_cons_zero, List.set_cons_succ]
    refine mb_runs (!x46) (.pointer (some ⟨w1.heap.size, 0, none⟩)) (want_no 6 47 x46 rfl HD6.out rfl) (fun hb w' hw' => ?_) ?_
    · simp only [Bool.not_eq_true'] at hb
      subst hb
      try simp only [mb_true, Bool.not_false, Bool.not_true]
      go_simp
    simp only [Act.put, List.setIfInBounds_toArray, List.set_cons_zero, List.set_cons_succ]
    refine mb_runs (!x46) (.int .i64 x.k) (want_no 6 47 x46 rfl HD6.out rfl) (fun hb w' hw' => ?_) ?_
    · simp only [Bool.not_eq_true'] at hb
      subst hb
      try simp only [mb_true, Bool.not_false, Bool.not_true]
      obtain ⟨g0, g1, g2, g3, g4, g5, g6, g7⟩ := cells8e ((HW.out w' hw').1)
      go_simp
    simp only [Act.put, List.setIfInBounds_toArray, List.set_cons_zero, List.set_cons_succ]
    refine mb_calls (!x46) 16 #[.int .i64 x.k] (.string fk) (want_no 6 47 x46 rfl HD6.out rfl) (fun hb w' hw' => ?_) (fun hb w' hw' => ?_) ?_
    · simp only [Bool.not_eq_true'] at hb
      subst hb
      try simp only [mb_true, Bool.not_false, Bool.not_true]
      go_simp
    · refine (HF2.out w').mono ?_
      rintro e w2 ⟨rfl, rfl⟩
      exact ⟨rfl, hw'⟩
    simp only [Act.put, List.setIfInBounds_toArray, List.set_cons_zero, List.set_cons_succ]
    refine mb_runs (!x46) (.bool x54) (want_no 6 47 x46 rfl HD6.out rfl) (fun hb w' hw' => ?_) ?_
    · simp only [Bool.not_eq_true'] at hb
      subst hb
      try simp only [mb_true, Bool.not_false, Bool.not_true]
      rw [← Hx54.out]
      go_simp
      try rfl
    simp only [Act.put, List.setIfInBounds_toArray, List.set_cons_zero, List.set_cons_succ]
    refine quiet_runs (.bool x55) (wanted_none rfl) (fun w' hw' => ?_) ?_
    · rw [← Hx55.out]
      cases x46 <;> (simp only [mb_true, mb_false, Bool.true_and, Bool.not_true, Bool.not_false]; go_simp)
    simp only [Act.put, List.setIfInBounds_toArray, List.set_cons_zero, List.set_cons_succ]
    refine wpQuiet_nil ?_
    intro w9 hw9
    have hf5 : x55 = false := by
      rw [← Hx55.out, ← Hx54.out, ← Hx46.out]
      simp
    subst hf5
    clear Hx55
    clear Hx54
    clear Hx46
    have HW9 := hidIn hw9
    clear hw9
    cases is
    · have hfl := HFL.out rfl
      clear HCK HRK HXX HFO HFL HSM H0 H1 his
      rw [hfl] at HRS
      clear hfl
      go_upto_region 9 with fail
      have HC9 := hidIn HW9.out.drew
      obtain ⟨y72, hy72⟩ : ∃ x, (sxy) = x := ⟨_, rfl⟩
      have Hy72 := hidIn hy72
      clear hy72
      obtain ⟨y75, hy75⟩ : ∃ x, (sxy) = x := ⟨_, rfl⟩
      have Hy75 := hidIn hy75
      clear hy75
      obtain ⟨y76, hy76⟩ : ∃ x, (y72 == y75) = x := ⟨_, rfl⟩
      have Hy76 := hidIn hy76
      clear hy76
      obtain ⟨y80, hy80⟩ : ∃ x, (sxy) = x := ⟨_, rfl⟩
      have Hy80 := hidIn hy80
      clear hy80
      obtain ⟨y83, hy83⟩ : ∃ x, (sxy) = x := ⟨_, rfl⟩
      have Hy83 := hidIn hy83
      clear hy83
      obtain ⟨y84, hy84⟩ : ∃ x, (y80 == y83) = x := ⟨_, rfl⟩
      have Hy84 := hidIn hy84
      clear hy84
      obtain ⟨y85, hy85⟩ : ∃ x, (y76 && y84) = x := ⟨_, rfl⟩
      have Hy85 := hidIn hy85
      clear hy85
      obtain ⟨y87, hy87⟩ : ∃ x, (true) = x := ⟨_, rfl⟩
      have Hy87 := hidIn hy87
      clear hy87
      obtain ⟨y88, hy88⟩ : ∃ x, (y85 && y87) = x := ⟨_, rfl⟩
      have Hy88 := hidIn hy88
      clear hy88
      refine wp_region_class (fun w' => Below W5.heap.size W5 w') (by kernel_rfl) (by kernel_rfl) HC9.out ?_
      generalize hops : (#[_, _, _, _, _, _, _, _, _, _, _, _, _, _, _, _, _, _, _, _] : Array Oper) = ops
      have HD7 : Hid ((ops[7]?).bind (·.dst) = some 77) := by rw [← hops]; exact rfl
      have HD16 : Hid ((ops[16]?).bind (·.dst) = some 86) := by rw [← hops]; exact rfl
      clear hops
      refine quiet_runs (.agg #[.int .i64 x.k, .string x.i, .string x.n, .string x.l, .string x.u, .int .i64 x.d, .int .i64 x.v, x.t.val]) (wanted_none rfl) (fun w' hw' => ?_) ?_
      · obtain ⟨g0, g1, g2, g3, g4, g5, g6, g7⟩ := cells8e ((HW.out w' hw').1)
        go_simp
      simp only [Act.put, List.setIfInBounds_toArray, List.set_cons_zero, List.set_cons_succ]
      refine quiet_runs (.agg #[.int .i64 y.k, .string y.i, .string y.n, .string y.l, .string y.u, .int .i64 y.d, .int .i64 y.v, y.t.val]) (wanted_none rfl) (fun w' hw' => ?_) ?_
      · obtain ⟨g0, g1, g2, g3, g4, g5, g6, g7⟩ := cells8e ((HW.out w' hw').2.2.1)
        go_simp
      simp only [Act.put, List.setIfInBounds_toArray, List.set_cons_zero, List.set_cons_succ]
      refine quiet_calls 10 #[.agg #[.int .i64 x.k, .string x.i, .string x.n, .string x.l, .string x.u, .int .i64 x.d, .int .i64 x.v, x.t.val], .agg #[.int .i64 y.k, .string y.i, .string y.n, .string y.l, .string y.u, .int .i64 y.d, .int .i64 y.v, y.t.val]] (.bool y72) (wanted_none rfl) (fun w' hw' => ?_) (fun w' hw' => ?_) ?_
      · go_simp
      · rw [← Hy72.out]
        refine (HSX.out w').mono ?_
        rintro e w2 ⟨rfl, hb⟩
        exact ⟨rfl, hw'.trans (hb.mono hw'.size)⟩
      simp only [Act.put, List.setIfInBounds_toArray, List.set_cons_zero, List.set_cons_succ]
      refine quiet_runs (.agg #[.int .i64 x.k, .string x.i, .string x.n, .string x.l, .string x.u, .int .i64 x.d, .int .i64 x.v, .int .i64 (plainC x.t).kind, .string (plainC x.t).s, .int .i64 (plainC x.t).n, .slice ka (plainC x.t).k.length kc]) (wanted_none rfl) (fun w' hw' => ?_) ?_
      · obtain ⟨g0, g1, g2, g3, g4, g5, g6, g7, g8, g9, g10⟩ := cells11e ((HW.out w' hw').2.1)
        go_simp
      simp only [Act.put, List.setIfInBounds_toArray, List.set_cons_zero, List.set_cons_succ]
      refine quiet_runs (.agg #[.int .i64 y.k, .string y.i, .string y.n, .string y.l, .string y.u, .int .i64 y.d, .int .i64 y.v, .int .i64 (plainC y.t).kind, .string (plainC y.t).s, .int .i64 (plainC y.t).n, .slice ke (plainC y.t).k.length kf]) (wanted_none rfl) (fun w' hw' => ?_) ?_
      · obtain ⟨g0, g1, g2, g3, g4, g5, g6, g7, g8, g9, g10⟩ := cells11e ((HW.out w' hw').2.2.2)
        go_simp
      simp only [Act.put, List.setIfInBounds_toArray, List.set_cons_zero, List.set_cons_succ]
      refine quiet_calls 17 #[.agg #[.int .i64 x.k, .string x.i, .string x.n, .string x.l, .string x.u, .int .i64 x.d, .int .i64 x.v, .int .i64 (plainC x.t).kind, .string (plainC x.t).s, .int .i64 (plainC x.t).n, .slice ka (plainC x.t).k.length kc], .agg #[.int .i64 y.k, .string y.i, .string y.n, .string y.l, .string y.u, .int .i64 y.d, .int .i64 y.v, .int .i64 (plainC y.t).kind, .string (plainC y.t).s, .int .i64 (plainC y.t).n, .slice ke (plainC y.t).k.length kf]] (.bool y75) (wanted_none rfl) (fun w' hw' => ?_) (fun w' hw' => ?_) ?_
      · go_simp
      · rw [← Hy75.out]
        refine (HRS.out w' hw').mono ?_
        rintro e w2 ⟨rfl, hb⟩
        exact ⟨rfl, hw'.trans (hb.mono hw'.size)⟩
      simp only [Act.put, List.setIfInBounds_toArray, List.set_cons_zero, List.set_cons_succ]
      refine quiet_runs (.bool y76) (wanted_none rfl) (fun w' hw' => ?_) ?_
      · rw [← Hy76.out]
        go_simp
      simp only [Act.put, List.setIfInBounds_toArray, List.set_cons_zero, List.set_cons_succ]
      refine quiet_runs (.bool y76) (wanted_none rfl) (fun w' hw' => ?_) ?_
      · go_simp
      simp only [Act.put, List.setIfInBounds_toArray, List.set_cons_zero, List.set_cons_succ]
      refine mb_runs y76 (.agg #[.int .i64 y.k, .string y.i, .string y.n, .string y.l, .string y.u, .int .i64 y.d, .int .i64 y.v, y.t.val]) (want_yes 7 77 y76 rfl HD7.out rfl) (fun hb w' hw' => ?_) ?_
      · subst hb
        try simp only [mb_true]
        obtain ⟨g0, g1, g2, g3, g4, g5, g6, g7⟩ := cells8e ((HW.out w' hw').2.2.1)
        go_simp
      simp only [Act.put, List.setIfInBounds_toArray, List.set_cons_zero, List.set_cons_succ]
      refine mb_runs y76 (.agg #[.int .i64 x.k, .string x.i, .string x.n, .string x.l, .string x.u, .int .i64 x.d, .int .i64 x.v, x.t.val]) (want_yes 7 77 y76 rfl HD7.out rfl) (fun hb w' hw' => ?_) ?_
      · subst hb
        try simp only [mb_true]
        obtain ⟨g0, g1, g2, g3, g4, g5, g6, g7⟩ := cells8e ((HW.out w' hw').1)
        go_simp
      simp only [Act.put, List.setIfInBounds_toArray, List.set_cons_zero, List.set_cons_succ]
      refine mb_calls y76 10 #[.agg #[.int .i64 y.k, .string y.i, .string y.n, .string y.l, .string y.u, .int .i64 y.d, .int .i64 y.v, y.t.val], .agg #[.int .i64 x.k, .string x.i, .string x.n, .string x.l, .string x.u, .int .i64 x.d, .int .i64 x.v, x.t.val]] (.bool y80) (want_yes 7 77 y76 rfl HD7.out rfl) (fun hb w' hw' => ?_) (fun hb w' hw' => ?_) ?_
      · subst hb
        try simp only [mb_true]
        go_simp
      · rw [← Hy80.out]
        refine (HSY.out w').mono ?_
        rintro e w2 ⟨rfl, hb⟩
        exact ⟨rfl, hw'.trans (hb.mono hw'.size)⟩
      simp only [Act.put, List.setIfInBounds_toArray, List.set_cons_zero, List.set_cons_succ]
      refine mb_runs y76 (.agg #[.int .i64 x.k, .string x.i, .string x.n, .string x.l, .string x.u, .int .i64 x.d, .int .i64 x.v, x.t.val]) (want_yes 7 77 y76 rfl HD7.out rfl) (fun hb w' hw' => ?_) ?_
      · subst hb
        try simp only [mb_true]
        obtain ⟨g0, g1, g2, g3, g4, g5, g6, g7⟩ := cells8e ((HW.out w' hw').1)
        go_simp
      simp only [Act.put, List.setIfInBounds_toArray, List.set_cons_zero, List.set_cons_succ]
      refine mb_runs y76 (.agg #[.int .i64 y.k, .string y.i, .string y.n, .string y.l, .string y.u, .int .i64 y.d, .int .i64 y.v, y.t.val]) (want_yes 7 77 y76 rfl HD7.out rfl) (fun hb w' hw' => ?_) ?_
      · subst hb
        try simp only [mb_true]
        obtain ⟨g0, g1, g2, g3, g4, g5, g6, g7⟩ := cells8e ((HW.out w' hw').2.2.1)
        go_simp
      simp only [Act.put, List.setIfInBounds_toArray, List.set_cons_zero, List.set_cons_succ]
      refine mb_calls y76 10 #[.agg #[.int .i64 x.k, .string x.i, .string x.n, .string x.l, .string x.u, .int .i64 x.d, .int .i64 x.v, x.t.val], .agg #[.int .i64 y.k, .string y.i, .string y.n, .string y.l, .string y.u, .int .i64 y.d, .int .i64 y.v, y.t.val]] (.bool y83) (want_yes 7 77 y76 rfl HD7.out rfl) (fun hb w' hw' => ?_) (fun hb w' hw' => ?_) ?_
      · subst hb
        try simp only [mb_true]
        go_simp
      · rw [← Hy83.out]
        refine (HSX.out w').mono ?_
        rintro e w2 ⟨rfl, hb⟩
        exact ⟨rfl, hw'.trans (hb.mono hw'.size)⟩
      simp only [Act.put, List.setIfInBounds_toArray, List.set_cons_zero, List.set_cons_succ]
      refine mb_runs y76 (.bool y84) (want_yes 7 77 y76 rfl HD7.out rfl) (fun hb w' hw' => ?_) ?_
      · subst hb
        try simp only [mb_true]
        rw [← Hy84.out]
        go_simp
      simp only [Act.put, List.setIfInBounds_toArray, List.set_cons_zero, List.set_cons_succ]
      refine quiet_runs (.bool y85) (wanted_none rfl) (fun w' hw' => ?_) ?_
      · rw [← Hy85.out]
        cases y76 <;> (simp only [mb_true, mb_false, Bool.true_and, Bool.not_true, Bool.not_false]; go_simp)
      simp only [Act.put, List.setIfInBounds_toArray, List.set_cons_zero, List.set_cons_succ]
      refine quiet_runs (.bool y85) (wanted_none rfl) (fun w' hw' => ?_) ?_
      · go_simp
      simp only [Act.put, List.setIfInBounds_toArray, List.set_cons_zero, List.set_cons_succ]
      refine mb_calls y85 11 #[] (.bool y87) (want_yes 16 86 y85 rfl HD16.out rfl) (fun hb w' hw' => ?_) (fun hb w' hw' => ?_) ?_
      · subst hb
        try simp only [mb_true]
        go_simp
      · rw [← Hy87.out]
        refine (wakes11_any w' (HTB5.out w' hw')).mono ?_
        rintro e w2 ⟨rfl, hb⟩
        exact ⟨rfl, hw'.trans (hb.mono hw'.size)⟩
      simp only [Act.put, List.setIfInBounds_toArray, List.set_cons_zero, List.set_cons_succ]
      refine quiet_runs (.bool y88) (wanted_none rfl) (fun w' hw' => ?_) ?_
      · rw [← Hy88.out]
        cases y85 <;> (simp only [mb_true, mb_false, Bool.true_and, Bool.not_true, Bool.not_false]; go_simp)
      simp only [Act.put, List.setIfInBounds_toArray, List.set_cons_zero, List.set_cons_succ]
      refine quiet_runs (.bool y88) (wanted_none rfl) (fun w' hw' => ?_) ?_
      · go_simp
      simp only [Act.put, List.setIfInBounds_toArray, List.set_cons_zero, List.set_cons_succ]
      refine wpQuiet_nil ?_
      intro w10 hw10
      have hf9 : y88 = true := by
        rw [← Hy88.out, ← Hy87.out, ← Hy85.out, ← Hy84.out, ← Hy83.out, ← Hy80.out, ← Hy76.out, ← Hy75.out, ← Hy72.out]
        simp
      subst hf9
      go_wp2_with fail
      go_ret
      exact ⟨rfl, HBE.out _ hw10⟩
    · obtain ⟨ho1, ho2⟩ := HFO.out rfl
      subst ho1 ho2
      clear HCK HRK HFO HFL HSM H0 H1 his HRS
      obtain ⟨g0, g1, g2, g3, g4, g5, g6, g7⟩ := cells8e ((HW.out w9 HW9.out).1)
      go_wp2_with fail
      refine (HXX.out w9).mono ?_
      rintro e w10 ⟨rfl, hb10⟩
      have HB10 := hidIn (HW9.out.trans (hb10.mono HW9.out.size))
      clear hb10 g0 g1 g2 g3 g4 g5 g6 g7
      obtain ⟨g0, g1, g2, g3, g4, g5, g6, g7⟩ := cells8e ((HW.out w10 HB10.out).1)
      obtain ⟨f0, f1, f2, f3, f4, f5, f6, f7⟩ := cells8e ((HW.out w10 HB10.out).2.2.1)
      go_wp2_with fail
      refine (HSX.out w10).mono ?_
      rintro e w11 ⟨rfl, hb11⟩
      have HB11 := hidIn (HB10.out.trans (hb11.mono HB10.out.size))
      clear hb11 g0 g1 g2 g3 g4 g5 g6 g7 f0 f1 f2 f3 f4 f5 f6 f7
      go_wp2_with fail
      refine (wakes11_any w11 (HTB5.out w11 HB11.out)).mono ?_
      rintro e w12 ⟨rfl, hb12⟩
      have HB12 := hidIn (HB11.out.trans (hb12.mono HB11.out.size))
      clear hb12
      go_wp2_with fail
      go_ret
      exact ⟨rfl, HBE.out _ HB12.out⟩

end Go.Proofs.YtkioolbjmcpjpaaGreatDoor.Ev
