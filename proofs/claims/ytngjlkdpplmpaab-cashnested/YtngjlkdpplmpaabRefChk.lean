/- The document's own answer: whether a tree may be. -/
import Derived.Test.YtngjlkdpplmpaabFormT
import Derived.Test.YtngjlkdpplmpaabRefLab
namespace Go.Proofs.Ytngjlkdpplmpaab
open Go.RowKit
set_option linter.unusedVariables false

theorem addAll_len : ∀ (l acc : List ByteArray), (addAll acc l).length < acc.length + l.length ↔ ¬ (l.Nodup ∧ ∀ s ∈ l, s ∉ acc) := by
  intro l
  induction l with
  | nil => intro acc; simp [addAll]
  | cons s l ih =>
    intro acc
    show (addAll (addN acc s) l).length < _ ↔ _
    by_cases hs : s ∈ acc
    · rw [addN_twice acc s hs]
      have h := addAll_length l acc
      constructor
      · intro _ hn
        exact hn.2 s (by simp) hs
      · intro _
        simp only [List.length_cons]
        omega
    · have e : addN acc s = acc ++ [s] := by
        unfold addN
        rw [if_neg (fun e => hs ((inN_iff acc s).1 e))]
      have h := ih (acc ++ [s])
      rw [e]
      have hl : (acc ++ [s]).length + l.length = acc.length + (s :: l).length := by simp; omega
      rw [hl] at h
      rw [h]
      constructor
      · intro hn hc
        apply hn
        refine ⟨(List.nodup_cons.1 hc.1).2, fun x hx => ?_⟩
        simp only [List.mem_append, List.mem_singleton, not_or]
        exact ⟨hc.2 x (by simp [hx]), fun ex => (List.nodup_cons.1 hc.1).1 (ex ▸ hx)⟩
      · intro hn hc
        apply hn
        refine ⟨List.nodup_cons.2 ⟨fun hx => ?_, hc.1⟩, fun x hx => ?_⟩
        · have := hc.2 s hx
          simp at this
        · simp only [List.mem_cons] at hx
          rcases hx with rfl | hx
          · exact hs
          · have := hc.2 x hx
            simp only [List.mem_append, List.mem_singleton, not_or] at this
            exact this.1
theorem twice_iff (l : List ByteArray) : twice l = true ↔ ¬ l.Nodup := by
  have h := addAll_len l []
  simp only [List.length_nil, Nat.zero_add, List.not_mem_nil, not_false_eq_true, implies_true, and_true] at h
  unfold twice
  rw [decide_eq_true_iff]
  exact h
/-- What the document's Check answers. -/
def chkT (t : T) (nb : Bool) : Int := if formT t nb = true then (if 60 < t.nodes ∨ 12 < t.depth then 5 else if twice t.labs = true then 4 else 0) else 2
theorem nodup_take {l : List ByteArray} {i : Nat} {s : ByteArray} (h : (l.take i).Nodup) (hs : l[i]? = some s) (hn : ∀ b, b < i → l[b]? ≠ some s) : (l.take (i + 1)).Nodup := by
  rw [take_more _ _ _ hs, List.nodup_append]
  refine ⟨h, by simp, fun x hx y hy => ?_⟩
  simp at hy
  subst hy
  intro e
  subst e
  obtain ⟨b, hb, he⟩ := List.mem_iff_getElem.1 hx
  rw [List.length_take] at hb
  refine hn b (by omega) ?_
  rw [← he, List.getElem_take]
  exact List.getElem?_eq_getElem (by omega)
theorem nodup_get {l : List ByteArray} (h : l.Nodup) {i j : Nat} {s : ByteArray} (hi : l[i]? = some s) (hj : l[j]? = some s) : i = j := by
  obtain ⟨h1, e1⟩ := List.getElem?_eq_some_iff.1 hi
  obtain ⟨h2, e2⟩ := List.getElem?_eq_some_iff.1 hj
  exact (List.getElem_inj h).1 (e1.trans e2.symm)

set_option maxHeartbeats 4000000 in
set_option maxRecDepth 100000 in
theorem refCheck_any (t : T) (hsz : t.Sized) (hcnt : t.cnt ≤ 999990) (hnd : t.nodes ≤ 1000000) (nb : Bool) (w : World) (v : Value) (hv : TIn w 0 t v) : Calls Try.prog 18 #[v, .bool nb] w fun e w' => e = .returned (.int .i64 (chkT t nb)) ∧ Below w.heap.size w w' := by
  have HV := hidIn hv
  have hdn := T_depth_nodes t
  obtain ⟨a, cap, rfl, hc1, hc2, hK⟩ := hv
  have HSZ := hidIn hsz
  have HLN := hidIn (labs_cnt t)
  have HCN := hidIn hcnt
  obtain ⟨W, hW⟩ : ∃ W, W = w.alloc (.cells #[.int .i64 t.kind, .string t.s, .int .i64 t.n, .slice a t.k.length cap] 51) := ⟨_, rfl⟩
  have HB : Hid (Below w.heap.size w W) := by rw [hW]; exact below_alloc (Below.refl _ _) _
  have HBK : Hid (W.heap[w.heap.size]? = some (.cells #[.int .i64 t.kind, .string t.s, .int .i64 t.n, .slice a t.k.length cap] 51 (0, 0))) := by rw [hW]; exact heap_alloc_new _ _
  have HF : Hid (∀ X, Below W.heap.size W X → (X.cell? ⟨w.heap.size, 0, none⟩ = some (.int .i64 t.kind) ∧ X.cell? ⟨w.heap.size, 1, none⟩ = some (.string t.s) ∧ X.cell? ⟨w.heap.size, 2, none⟩ = some (.int .i64 t.n) ∧ X.cell? ⟨w.heap.size, 3, none⟩ = some (.slice a t.k.length cap)) ∧ TIn X 0 t (.agg #[.int .i64 t.kind, .string t.s, .int .i64 t.n, .slice a t.k.length cap])) := fun X hX => by
    have h := (hX.block _ (Array.getElem?_eq_some_iff.1 HBK.out).1).trans HBK.out
    exact ⟨⟨(cell_of_row _ _ _ _ _ _ h).trans rfl, (cell_of_row _ _ _ _ _ _ h).trans rfl, (cell_of_row _ _ _ _ _ _ h).trans rfl, (cell_of_row _ _ _ _ _ _ h).trans rfl⟩, (HV.out.below HB.out).below hX⟩
  clear hK hsz hcnt
  go_enter Try.func18, Try.ntmps18
  go_wp2_with fail
  rw [← hW]
  clear hW HBK HV
  refine (form_any t HSZ.out nb W _ (HF.out W (Below.refl _ _)).2).mono ?_
  rintro e w1 ⟨rfl, hb1⟩
  obtain ⟨⟨c0, c1, c2, c3⟩, t1⟩ := HF.out w1 hb1
  have HT1 := hidIn t1
  have HB1 := hidIn hb1
  clear t1 hb1
  cases hf : formT t nb
  · go_wp2_with fail
    go_ret
    exact ⟨by unfold chkT; rw [if_neg (by rw [hf]; simp)]; rfl, HB.out.trans (HB1.out.mono HB.out.size)⟩
  · have HC : Hid (chkT t nb = if 60 < t.nodes ∨ 12 < t.depth then 5 else if twice t.labs = true then 4 else 0) := by unfold Hid chkT; rw [if_pos hf]
    go_wp2_with fail
    refine (refSize_any t w1 _ HT1.out hnd).mono ?_
    rintro e w2 ⟨rfl, hb2⟩
    have hx2 := HB1.out.trans (hb2.mono HB1.out.size)
    have HX2 := hidIn hx2
    obtain ⟨⟨d0, d1, d2, d3⟩, t2⟩ := HF.out w2 hx2
    have HT2 := hidIn t2
    have HB2 := hidIn (HB.out.trans (hx2.mono HB.out.size))
    clear t2 hb2 hx2 c0 c1 c2 c3
    by_cases h1 : 60 < t.nodes
    · have h1' : (60 : Int) < (t.nodes : Int) := by omega
      go_wp2_with fail
      go_ret
      exact ⟨by rw [HC.out, if_pos (.inl h1)]; rfl, HB2.out⟩
    · have h1' : ¬ (60 : Int) < (t.nodes : Int) := by omega
      have h1d : decide ((60 : Int) < (t.nodes : Int)) = false := by simpa using h1'
      by_cases h2 : 12 < t.depth
      · have h2' : (12 : Int) < (t.depth : Int) := by omega
        go_wp2_with fail
        go_ret
        exact ⟨by rw [HC.out, if_pos (.inr h2)]; rfl, HB2.out⟩
      · have h2' : ¬ (12 : Int) < (t.depth : Int) := by omega
        have HC2 : Hid (chkT t nb = if twice t.labs = true then 4 else 0) := by unfold Hid; rw [HC.out, if_neg (by omega)]
        go_wp2_with fail
        refine (refLabels_any t HCN.out w2 _ HT2.out).mono ?_
        rintro e w3 ⟨v3, rfl, hrow3, hb3⟩
        have HB3 := hidIn (HB2.out.trans (hb3.mono HB2.out.size))
        obtain ⟨ao, lc, rfl, htx, hll, _⟩ := own_txt hrow3
        have HTX := hidIn htx
        have hlen : t.labs.length ≤ 1000000 := by have := HLN.out; have := HCN.out; omega
        clear hrow3 hb3 htx d0 d1 d2 d3 HC HT1 HT2 HX2 HB2
        generalize t.labs = l at *
        go_wp2_with fail
        go_loopw [29] (fun s29 wr => ∃ i : Nat, i ≤ l.length ∧ s29 = .int .i64 i ∧ Hid ((l.take i).Nodup) ∧ Below w3.heap.size w3 wr) (fun s29 _ => l.length - (intOf s29).toNat)
        case atStart => exact ⟨0, by omega, rfl, by unfold Hid; simp, Below.refl _ _⟩
        case round =>
          obtain ⟨i, hi, rfl, HN, hbr⟩ := hrel
          obtain ⟨wA, hwA⟩ : ∃ y, y = wr := ⟨_, rfl⟩
          subst hwA
          have HBA := hidIn hbr
          clear hbr
          by_cases hlt : i < l.length
          · have hlt' : (i : Int) < (l.length : Int) := by omega
            obtain ⟨s, hs⟩ : ∃ s, l[i]? = some s := ⟨_, List.getElem?_eq_getElem hlt⟩
            have HS := hidIn hs
            clear hs
            go_wp2_with fail
            go_loopw [9] (fun s9 wr => ∃ j : Nat, j ≤ i ∧ s9 = .int .i64 j ∧ Hid (∀ b, b < j → l[b]? ≠ some s) ∧ Below w3.heap.size w3 wr) (fun s9 _ => i - (intOf s9).toNat)
            case atStart => exact ⟨0, by omega, rfl, by intro b hb; omega, HBA.out⟩
            case round =>
              obtain ⟨j, hj, rfl, HJ, hbr⟩ := hrel
              by_cases hjl : j < i
              · have hjl' : (j : Int) < (i : Int) := by omega
                have hjl2 : (j : Int) < (l.length : Int) := by omega
                obtain ⟨y, hy⟩ : ∃ y, l[j]? = some y := ⟨_, List.getElem?_eq_getElem (by omega)⟩
                obtain ⟨g, rfl, k0⟩ := (HTX.out.below hbr) i s HS.out
                obtain ⟨g', eg, k1⟩ := (HTX.out.below hbr) j y hy
                have hgg : g' = g := by injection eg with eg; injection eg with eg; exact eg.symm
                subst hgg
                have HY := hidIn hy
                clear hy eg
                by_cases he : s = y
                · subst he
                  have HTW : Hid (twice l = true) := (twice_iff l).2 (fun hn => by have := nodup_get hn HS.out HY.out; omega)
                  go_wp2_with fail
                  go_quiet (fail)
                  go_wp2_with fail
                  go_ret
                  exact ⟨by rw [HC2.out, HTW.out]; rfl, HB3.out.trans ((below_drewN hbr _).mono HB3.out.size)⟩
                · have he' : ¬ s.toList = y.toList := fun e => he (toList_inj e)
                  have heb : (s.toList == y.toList) = false := by rw [beq_eq_false_iff_ne]; exact he'
                  go_wp2_with fail
                  go_quiet (fail)
                  go_wp2_with fail
                  go_roundw
                  case rel =>
                    refine ⟨j + 1, by omega, by go_num, fun b hb => ?_, below_drewN hbr _⟩
                    by_cases hbj : b = j
                    · subst hbj
                      rw [HY.out]
                      intro e
                      injection e with e
                      exact he e.symm
                    · exact HJ.out b (by omega)
                  case measure => simp [intOf]; omega
              · have hji : j = i := by omega
                subst hji
                have HN2 : Hid ((l.take (j + 1)).Nodup) := nodup_take HN.out HS.out HJ.out
                clear HJ HN hjl
                go_wp2_with fail
                go_roundw
                case rel => exact ⟨j + 1, by omega, by go_num, HN2, hbr⟩
                case measure => simp [intOf]; omega
          · have hle : i = l.length := by omega
            subst hle
            have HTW : Hid (twice l = false) := by
              have h := HN.out
              rw [List.take_length] at h
              show twice l = false
              cases ht : twice l
              · rfl
              · exact absurd h ((twice_iff l).1 ht)
            clear HN hlt
            go_wp2_with fail
            go_ret
            exact ⟨by rw [HC2.out, HTW.out]; rfl, HB3.out.trans (HBA.out.mono HB3.out.size)⟩

end Go.Proofs.Ytngjlkdpplmpaab
