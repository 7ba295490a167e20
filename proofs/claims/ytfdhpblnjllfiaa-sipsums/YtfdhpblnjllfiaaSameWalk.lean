/- The walk of the statement SipSame. -/
import Derived.Test.YtfdhpblnjllfiaaKeep2
namespace Go.Proofs.Ytfdhpblnjllfiaa
open Go.RowKit
set_option linter.unusedVariables false

/-- An append behind a guard that was met. -/
theorem wpList_append_met {P : Program} (w : World) {ops : Array Oper} {rest : List Oper} {o : Oper} {a : Act} {Q : Exit → Act → World → Prop} (hw : Region.wanted o (yielded ops a.tmps) = true) (s x : Operand) (t : TypeId)
    (ho : o.op = .call { callee := .builtin .append, args := #[s, x], argTypes := #[t, t] })
    (base : Nat) (e : TypeId) (i : TypeInfo) (z : Value) (size bytes : Nat) (ht : P.underlying t = some (.slice e)) (hi : P.info? e = some i) (hz : i.zero = some z)
    (hsize : i.size = size) (hby : i.bytes = bytes) (hzs : z.cells.size = size) (hsz : 0 < size)
    (v : Value) (n : Nat) (xs : List Value) (hs : a.eval s = v) (hown : w.ownsRow base e size v n xs)
    (ad : Addr) (m c : Nat) (news : List Value) (hx : a.eval x = .slice (some ad) m c) (hl : news.length = m * size) (hnews : ∀ j u, news[j]? = some u → w.cell? (ad.add j) = some u) (h1 : ∀ u ∈ news, u.oneCell' = true)
    (h63 : n + m ≤ maxLen) (hbytes : (n + m) * bytes ≤ 140737488355328) (hbase : base ≤ w.heap.size)
    (h : ∀ v' w', w'.ownsRow base e size v' (n + m) (xs ++ news) → w.grownBy w' v.ownBlock → (v' = .slice none 0 0 ↔ v = .slice none 0 0 ∧ m = 0) → wpList P ops Q rest (a.put o.dst v') w') : wpList P ops Q (o :: rest) a w := by
  simp only [wpList, hw, if_true]
  exact .inl (wp_append_own w s x t ho base e i z size bytes ht hi hz hsize hby hzs hsz v n xs hs hown ad m c news hx hl hnews h1 h63 hbytes hbase h)

theorem txt_more (f g : Nat → BitVec 8) (l : Nat) : decide (txt f l = txt g (l + 1)) = false := decide_eq_false (fun h => by have := ((txt_eq _ _ _ _).1 h).1; omega)
theorem txt_less (f g : Nat → BitVec 8) (l : Nat) (hl : 0 < l) : decide (txt f l = txt g (l - 1)) = false := decide_eq_false (fun h => by have := ((txt_eq _ _ _ _).1 h).1; omega)
theorem txt_self (f : Nat → BitVec 8) (l : Nat) : decide (txt f l = txt f l) = true := decide_eq_true rfl
theorem turned (x : BitVec 8) : x ^^^ 1#8 ≠ x := by
  intro h
  have := congrArg (fun y => y ^^^ x) h
  simp [BitVec.xor_comm, ← BitVec.xor_assoc] at this
theorem ub_xor (x : BitVec 8) : bits .xor .u8 (ub x) 1 = ub (x ^^^ 1#8) := by
  have hb : BitVec.ofInt 8 (ub x) = x := by apply BitVec.eq_of_toNat_eq; unfold ub; rw [BitVec.toNat_ofInt]; have := x.isLt; omega
  show IntKind.u8.wrap ((BitVec.ofInt 8 (ub x) ^^^ BitVec.ofInt 8 1).toNat : Int) = _
  rw [hb, byte_wrap]
  unfold byteOf
  congr 1
  apply BitVec.eq_of_toNat_eq
  rw [BitVec.toNat_ofInt]
  have := (x ^^^ BitVec.ofInt 8 1).isLt
  show _ = (x ^^^ BitVec.ofInt 8 1).toNat
  omega

set_option maxHeartbeats 2000000 in
set_option maxRecDepth 100000 in
theorem same_walk (ba : Option Addr) (bl bc : Nat) (f : Nat → BitVec 8) (at_ : Int) (w : World) (hb : HasBytes w ba bl f) (hk : SliceOk ba bl bc) (hl : bl ≤ 140737488351232) (h1 : -9223372036854775808 ≤ at_) (h2 : at_ ≤ 9223372036854775807) :
    Calls Try.prog 7 #[.slice ba bl bc, .int .i64 at_] w fun e w' => e = .returned (.bool true) ∧ Below w.heap.size w w' := by
  obtain ⟨i1, gi, gz0, gz1, gz2⟩ := info_parts infoByte
  have HB : Hid (HasBytes w ba bl f) := hb
  have HK : Hid (SliceOk ba bl bc) := hk
  clear hb hk
  go_enter Try.func7, Try.ntmps7
  go_wp2_with fail
  refine (copy_any ba bl bc f w HB.out HK.out (by omega)).mono ?_
  rintro e w1 ⟨v, rfl, hown, hb1⟩
  obtain ⟨co, cc, rfl, hok, hby, hbl⟩ := own_any hown
  have HOK : Hid (SliceOk co bl cc) := hok
  have HBY : Hid (HasBytes w1 co bl f) := hby
  have HOWN : Hid (w1.ownsRow w.heap.size 5 1 (.slice co bl cc) bl (cellsB f bl)) := hown
  have HB1 : Hid (Below w.heap.size w w1) := hb1
  have HBL : Hid (∀ b o s, co = some ⟨b, o, s⟩ → w.heap.size ≤ b) := hbl
  clear hok hby hown hb1 hbl
  go_wp2_with fail
  refine calls_same (sipSame_any ba co bl bl bc cc f f w1 (HB.out.below HB1.out) HBY.out HK.out HOK.out) ?_
  rw [txt_self]
  go_wp2_with fail
  refine (copy_any co bl cc f w1 HBY.out HOK.out (by omega)).mono ?_
  rintro e w2 ⟨v2, rfl, hown2, hb2⟩
  have HB2 : Hid (Below w1.heap.size w1 w2) := hb2
  have hsz2 := hb2.size
  have HS2 : Hid (w1.heap.size ≤ w2.heap.size) := hsz2
  clear hb2 hsz2
  go_wp2_with (at_builtin; refine wpList_append_met _ rfl (.tmp 15) (.tmp 16) 22 rfl w1.heap.size 5 i1 (.int .u8 0) 1 1 Try.underlying22 gi gz0 gz1 gz2 rfl (by decide) _ _ _ rfl (hown2.alloc _) ⟨w2.heap.size, 0, none⟩ 1 1 [.int .u8 0] rfl rfl (cell_one_at w2 _ _) (by intro u hu; simp at hu; subst hu; rfl) (by unfold maxLen; omega) (by omega) (by have := HS2.out; simp; omega) ?_; intro v3 w3 hown3 hgrow3 _)
  have hown4 : w3.ownsRow w1.heap.size 5 1 v3 (bl + 1) (cellsB (putB f bl 0) (bl + 1)) := by
    rw [cellsB_snoc, cellsB_ext (putB f bl 0) f bl (fun i hi => by unfold putB; rw [if_neg (by omega)])]
    rw [show putB f bl 0 bl = 0 from by unfold putB; rw [if_pos rfl]]
    exact hown3
  have HW3 : Hid (Below w1.heap.size w1 w3) := (HB2.out.alloc HS2.out _).grown hgrow3 (by have := HS2.out; simp; omega) (fun k hk => (hown2.lt k hk).1)
  obtain ⟨so, sc, rfl, hok4, hby4, _⟩ := own_any hown4
  have HOK4 : Hid (SliceOk so (bl + 1) sc) := hok4
  have HBY4 : Hid (HasBytes w3 so (bl + 1) (putB f bl 0)) := hby4
  have HBW : Hid (Below w.heap.size w w3) := HB1.out.trans (HW3.out.mono HB1.out.size)
  clear hok4 hby4 hown4 hown3 hown2 hgrow3 HB2 HS2
  refine calls_same (sipSame_any ba so bl (bl + 1) bc sc f (putB f bl 0) w3 (HB.out.below HBW.out) HBY4.out HK.out HOK4.out) ?_
  rw [txt_more]
  clear HBY4 HOK4
  by_cases h0 : bl = 0
  · subst h0
    go_wp2_with fail
    refine (wakes_any _).mono ?_
    rintro e w5 ⟨rfl, hb5⟩
    go_wp2_with fail
    go_ret
    exact ⟨rfl, HBW.out.trans (hb5.mono HBW.out.size)⟩
  · obtain ⟨n, rfl⟩ : ∃ n, bl = n + 1 := ⟨bl - 1, by omega⟩
    rcases HOWN.out.2 with ⟨_, hz⟩ | ⟨g, cap, cur, hv, hg, hheap, hnc, hcm, _⟩
    · exact absurd hz (by omega)
    · injection hv with hv1 hv2 hv3
      subst hv1
      subst hv3
      clear hheap HBL
      unfold maxLen at hcm
      have hg1 : g < w1.heap.size := by
        obtain ⟨b, o, e, hc⟩ := HBY.out 0 (by omega)
        injection e with e
        injection e with e1 e2 e3
        subst e1
        exact World.block_lt_of_cell? w1 _ hc
      obtain ⟨p, hp⟩ : ∃ p : Nat, at_ % ((n : Int) + 1) = p := ⟨(at_ % ((n : Int) + 1)).toNat, by
        have := Int.emod_nonneg at_ (show (n : Int) + 1 ≠ 0 by omega); omega⟩
      have hpn : p < n + 1 := by
        have := Int.emod_lt_of_pos at_ (show 0 < (n : Int) + 1 by omega); omega
      have HP : Hid (at_ % ((n : Int) + 1) = p) := hp
      have hpn' : (p : Int) < (n : Int) + 1 := by omega
      have hc1 : w1.cell? ⟨g, p, none⟩ = some (.int .u8 (ub (f p))) := (HOWN.out.cellAt p (by omega)).trans (cellsB_get _ _ _ hpn)
      have hc3 : w3.cell? ⟨g, p, none⟩ = some (.int .u8 (ub (f p))) := (HW3.out.cell (p := ⟨g, p, none⟩) hg1).trans hc1
      have hf3 : w3.frozen? ⟨g, p, none⟩ = false := (HW3.out.frozen (p := ⟨g, p, none⟩) hg1).trans (HOWN.out.frozenAt p)
      have hux := ub_xor (f p)
      have HBY3 : Hid (HasBytes w3 (some ⟨g, 0, none⟩) (n + 1) f) := HBY.out.below HW3.out
      have HX : Hid (HasBytes (w3.setCell ⟨g, p, none⟩ (.int .u8 (ub (f p ^^^ 1#8)))) (some ⟨g, 0, none⟩) (n + 1) (putB f p (f p ^^^ 1#8))) := by
        intro i hi
        obtain ⟨b, o, e, hc⟩ := HBY3.out i hi
        injection e with e
        injection e with e1 e2 e3
        subst e1 e2
        refine ⟨g, 0, rfl, ?_⟩
        rw [Nat.zero_add] at hc ⊢
        unfold putB
        by_cases hip : i = p
        · subst hip
          rw [if_pos rfl]
          exact World.cell?_setCell_same _ _ _ hc
        · rw [if_neg hip]
          exact (World.cell?_setCell_other _ _ _ _ (by intro e; injection e with _ e2; exact hip e2.symm)).trans hc
      have HW4 : Hid (Below w.heap.size w (w3.setCell ⟨g, p, none⟩ (.int .u8 (ub (f p ^^^ 1#8))))) := HBW.out.setCell hg _
      have HT1 : Hid (decide (txt f (n + 1) = txt (putB f p (f p ^^^ 1#8)) (n + 1)) = false) := decide_eq_false (fun h => by
        have := ((txt_eq _ _ _ _).1 h).2 p hpn
        unfold putB at this
        rw [if_pos rfl] at this
        exact turned _ this.symm)
      have HT2 : Hid (decide (txt (putB f p (f p ^^^ 1#8)) (n + 1) = txt f (n + 1)) = false) := decide_eq_false (fun h => by
        have := ((txt_eq _ _ _ _).1 h).2 p hpn
        unfold putB at this
        rw [if_pos rfl] at this
        exact turned _ this)
      have HNC : Hid (n ≤ cc) := by show n ≤ cc; omega
      clear hp hc1
      go_wp2_with fail
      refine calls_same (sipSame_any ba (some ⟨g, 0, none⟩) (n + 1) n bc cc f f w3 (HB.out.below HBW.out) (HBY3.out.cut (by omega)) HK.out ⟨(fun h => by cases h), HNC.out, by omega⟩) ?_
      rw [show decide (txt f (n + 1) = txt f n) = false from decide_eq_false (fun h => by have := ((txt_eq _ _ _ _).1 h).1; omega)]
      go_wp2_with fail
      refine calls_same (within_any at_ ((n : Int) + 1) _ (by omega) (by omega) h1 h2) ?_
      rw [HP.out]
      go_wp2_with fail
      refine calls_same (sipSame_any ba (some ⟨g, 0, none⟩) (n + 1) (n + 1) bc cc f _ _ (HB.out.below HW4.out) HX.out HK.out HOK.out) ?_
      rw [HT1.out]
      go_wp2_with fail
      refine calls_same (sipSame_any (some ⟨g, 0, none⟩) ba (n + 1) (n + 1) cc bc _ f _ HX.out (HB.out.below HW4.out) HOK.out HK.out) ?_
      rw [HT2.out]
      go_wp2_with fail
      refine (wakes_any _).mono ?_
      rintro e w5 ⟨rfl, hb5⟩
      go_wp2_with fail
      go_ret
      exact ⟨rfl, HW4.out.trans (hb5.mono HW4.out.size)⟩

end Go.Proofs.Ytfdhpblnjllfiaa
