/- Bytes as texts, bytes held against bytes; the document's example of chapter 12. -/
import Derived.Test.YtkioolbjmcpjpaaDoorPkC
import Derived.Laws.IdiomStrings
namespace Go.Proofs.YtkioolbjmcpjpaaDoor.Ev
open Go.RowKit
set_option linter.unusedVariables false

/-- Bytes in memory, whose-ever. -/
def BIn (w : World) (v : Value) (l : List UInt8) : Prop := ∃ ao c, v = .slice ao l.length c ∧ ∀ i x, l[i]? = some x → ∃ b off, ao = some ⟨b, off, none⟩ ∧ w.cell? ⟨b, off + i, none⟩ = some (.int .u8 x.toNat)
theorem own_bin {w : World} {B : Nat} {v : Value} {l : List UInt8} (h : OwnB w B v l) : BIn w v l := by
  have h2 := h
  rcases h.2 with ⟨rfl, h0⟩ | ⟨g, cap, cur, rfl, hb, hg, hnc, hcm, hcs, hcur⟩
  · have : l = [] := List.length_eq_zero_iff.1 h0
    subst this
    exact ⟨none, 0, rfl, fun i x hx => by simp at hx⟩
  · refine ⟨some ⟨g, 0, none⟩, cap, rfl, fun i x hx => ⟨g, 0, rfl, ?_⟩⟩
    have hi : i < l.length := (List.getElem?_eq_some_iff.1 hx).1
    unfold OwnB at h2
    rw [Nat.zero_add, h2.cellAt i (by omega)]
    exact rowB_get l i x hx
theorem BIn.below {w w' : World} {v : Value} {l : List UInt8} (h : BIn w v l) (hb : Below w.heap.size w w') : BIn w' v l := by
  obtain ⟨ao, c, rfl, h⟩ := h
  refine ⟨ao, c, rfl, fun i x hx => ?_⟩
  obtain ⟨b, off, rfl, hc⟩ := h i x hx
  exact ⟨b, off, rfl, (hb.cell (p := ⟨b, off + i, none⟩) (World.block_lt_of_cell? w _ hc)).trans hc⟩
theorem conv_bin {w : World} {v : Value} {l : List UInt8} (h : BIn w v l) : (convert 22 9 v).run Tryd.prog w = .ok (.string ⟨l.toArray⟩) w := by
  obtain ⟨ao, c, rfl, h⟩ := h
  cases ao with
  | none =>
    have hl : l = [] := by
      cases l with
      | nil => rfl
      | cons x l =>
        obtain ⟨b, off, e, _⟩ := h 0 x rfl
        cases e
    subst hl
    exact run_convert_bytes_nil w 22 5 Tryd.underlying22 Tryd.underlying5 0 c 9 Tryd.underlying9
  | some ad =>
    refine run_convert_bytes_back w 22 9 5 ad c l Tryd.underlying22 Tryd.underlying5 Tryd.underlying9 (fun j hj => ?_)
    obtain ⟨b, off, e, hc⟩ := h j l[j] (List.getElem?_eq_getElem hj)
    injection e with e
    subst e
    rw [Go.WideShapes.add_plain]
    exact hc
theorem lt_of_get {l : List UInt8} {i : Nat} (h : i < l.length) : ∃ x, l[i]? = some x := ⟨_, List.getElem?_eq_getElem h⟩

set_option maxHeartbeats 4000000 in
set_option maxRecDepth 100000 in
theorem sameB_any (va vb : Value) (l m : List UInt8) (w : World) (ha : BIn w va l) (hb : BIn w vb m) (hl : l.length ≤ 9223372036854775807) (hm : m.length ≤ 9223372036854775807) :
    Calls Tryd.prog 6 #[va, vb] w fun e w' => e = .returned (.bool (decide (l = m))) ∧ Below w.heap.size w w' := by
  obtain ⟨ao, ca, rfl, ha⟩ := ha
  obtain ⟨bo, cb, rfl, hb⟩ := hb
  have HA := hidIn ha
  have HB := hidIn hb
  clear ha hb
  by_cases hlen : l.length = m.length
  rotate_left
  · have e1 : decide (l = m) = false := decide_eq_false (fun h => hlen (by rw [h]))
    have e2 : ((l.length : Int) != (m.length : Int)) = true := by rw [bne_iff_ne]; omega
    rw [e1]
    clear hlen e1
    go_enter Tryd.func6, Tryd.ntmps6
    go_wp2_with fail
    go_ret
    exact ⟨rfl, Below.refl _ _⟩
  · have HLM := hidIn hlen
    have e2 : ((l.length : Int) != (m.length : Int)) = false := by simp [hlen]
    obtain ⟨res, hres⟩ : ∃ res, decide (l = m) = res := ⟨_, rfl⟩
    rw [hres]
    have HR : Hid ((∀ i, i < l.length → l[i]? = m[i]?) → res = true) := fun h => by
      rw [← hres, decide_eq_true_eq]
      apply List.ext_getElem?
      intro i
      by_cases hi : i < l.length
      · exact h i hi
      · rw [List.getElem?_eq_none (by omega), List.getElem?_eq_none (by omega)]
    have HF : Hid (∀ (i : Nat) (x y : UInt8), l[i]? = some x → m[i]? = some y → x ≠ y → res = false) := fun i x y hx hy hn => by
      rw [← hres, decide_eq_false_iff_not]
      rintro rfl
      rw [hx] at hy
      exact hn (Option.some.inj hy)
    clear hres
    rw [← hlen] at e2 hm ⊢
    clear hlen
    go_enter Tryd.func6, Tryd.ntmps6
    go_wp2_with fail
    go_loopw [5] (fun s5 wr => ∃ k n : Nat, k ≤ l.length ∧ s5 = .int .i64 k ∧ wr = w.drewN n ∧ (∀ i, i < k → l[i]? = m[i]?)) (fun s5 _ => l.length - (intOf s5).toNat)
    case atStart => exact ⟨0, 0, by omega, rfl, rfl, fun i hi => absurd hi (by omega)⟩
    case round =>
      obtain ⟨k, n, hk, rfl, rfl, heq⟩ := hrel
      have HE := hidIn heq
      clear heq
      by_cases hlt : k < l.length
      · have hlt' : (k : Int) < (l.length : Int) := by omega
        obtain ⟨x, hx⟩ := lt_of_get hlt
        obtain ⟨y, hy⟩ := lt_of_get (show k < m.length by rw [← HLM.out]; exact hlt)
        obtain ⟨b1, o1, rfl, hc1⟩ := HA.out k x hx
        obtain ⟨b2, o2, rfl, hc2⟩ := HB.out k y hy
        have HX := hidIn hx
        have HY := hidIn hy
        clear hx hy
        by_cases hxy : x = y
        · subst hxy
          have ex : ((x.toNat : Int) != (x.toNat : Int)) = false := by simp
          go_wp2_with fail
          go_quiet (fail)
          go_wp2_with fail
          go_roundw
          case rel => exact ⟨k + 1, _, by omega, by go_num, rfl, fun i hi => by
            by_cases h : i < k
            · exact HE.out i h
            · rw [show i = k by omega, HX.out, HY.out]⟩
          case measure => simp [intOf]; omega
        · have ex : ((x.toNat : Int) != (y.toNat : Int)) = true := by
            have : x.toNat ≠ y.toNat := fun h => hxy (UInt8.toNat_inj.1 h)
            rw [bne_iff_ne]
            omega
          have hrf := HF.out k x y HX.out HY.out hxy
          subst hrf
          clear hxy
          go_wp2_with fail
          go_quiet (fail)
          go_wp2_with fail
          go_ret
          exact ⟨rfl, below_drewN (below_drewN (Below.refl _ _) _) _⟩
      · have hlt' : ¬ (k : Int) < (l.length : Int) := by omega
        have hrt := HR.out (fun i hi => HE.out i (by omega))
        subst hrt
        go_wp2_with fail
        go_ret
        exact ⟨rfl, below_drewN (Below.refl _ _) _⟩

theorem pass0_sz : pass0.Sz := by constructor <;> decide
set_option maxHeartbeats 1000000 in
set_option maxRecDepth 100000 in
theorem wakes12_any (w : World) (htab : TabW w) : Calls Tryd.prog 7 #[] w fun e w' => e = .returned (.bool true) ∧ Below w.heap.size w w' := by
  have H1 : Hid (∀ W, TabW W → Calls Tryd.prog 10 #[.agg #[.int .i64 1, .string ⟨#[]⟩, .string ⟨#[]⟩, .string ⟨#[]⟩, .string ⟨#[]⟩, .int .i64 0, .int .i64 0, .nilIface]] W (PkPost W [1] 0)) := fun W hW => by
    have := pevent_any pass0 pass0_ok pass0_sz W hW
    rw [show pkR pass0 = [1] by decide +kernel, pass0_chk] at this
    exact this
  have HT := hidIn htab
  clear htab
  unfold PkPost at H1
  go_enter Tryd.func7, Tryd.ntmps7
  go_wp2_with fail
  refine (H1.out w HT.out).mono ?_
  rintro e w1 ⟨v, rfl, hv, hb1⟩
  have HV := hidIn (own_bin hv)
  have HB1 := hidIn hb1
  clear hb1 hv
  go_wp2_with fail
  have hb2 : BIn (w1.alloc (.cells #[.int .u8 1] 5)) (.slice (some ⟨w1.heap.size, 0, none⟩) 1 1) [1] := own_bin (own_one (x := 1) rfl)
  refine (sameB_any v _ [1] [1] _ (HV.out.below (below_alloc (Below.refl _ _) _)) hb2 (by decide) (by decide)).mono ?_
  rintro e w2 ⟨rfl, hb2⟩
  go_wp2_with fail
  go_ret
  exact ⟨rfl, (below_alloc HB1.out _).trans (hb2.mono (below_alloc HB1.out _).size)⟩

end Go.Proofs.YtkioolbjmcpjpaaDoor.Ev
